/- Package hangul's Parts, over this seat's translation. Conditions: the words' bounds. -/
import Derived.Test.YtnablmiocbijgaaHgD
namespace Go.Proofs.Ytnablmiocbijgaa
open Go.RowKit
set_option linter.unusedVariables false

def pa0 (p : Nat) : Nat := if syl p = true then hl0 p else 0
def pa1 (p : Nat) : Nat := if syl p = true then hl1 p else 0
def pa2 (p : Nat) : Nat := if syl p = true then hl2 p else 0
theorem addW_small {a b : Nat} (h : a + b < 4294967296) : addW a b = a + b := Nat.mod_eq_of_lt h
theorem spl_parts {p a b c : Nat} (s : Spl p a b c) : andW (mk (syl p)) (addW a 4352) = pa0 p ∧ andW (mk (syl p)) (addW b 4449) = pa1 p ∧ andW (mk (syl p && !(c == 0))) (addW c 4519) = pa2 p := by
  rw [andW_mk _ _ (addW_lt _ _), andW_mk _ _ (addW_lt _ _), andW_mk _ _ (addW_lt _ _)]
  unfold pa0 pa1 pa2
  cases h : syl p with
  | false => simp
  | true =>
    obtain ⟨h1, h2, h3⟩ := s.yes h
    simp only [syl, Bool.and_eq_true, decide_eq_true_eq] at h
    simp only [Bool.true_and, if_true]
    refine ⟨?_, ?_, ?_⟩
    · rw [h1, addW_small (by omega)]; unfold hl0; omega
    · rw [h2, addW_small (by omega)]; unfold hl1; omega
    · unfold hl2
      rw [← h3]
      cases hc : c == 0 with
      | true =>
        have : c = 0 := by simpa using hc
        simp [this]
      | false =>
        have : c ≠ 0 := by simpa using hc
        have h28 : c < 28 := by rw [h3]; exact Nat.mod_lt _ (by decide)
        rw [if_pos (show (!false) = true from rfl), if_pos (show 0 < c by omega), addW_small (by omega)]
        exact Nat.add_comm _ _
theorem pa_lt (p : Nat) : pa0 p < 4371 ∧ pa1 p < 4470 ∧ pa2 p ≤ 4546 := by
  unfold pa0 pa1 pa2
  cases h : syl p with
  | false => simp
  | true => have := hl_lt p h; simpa using this
theorem put_offj {w : World} {a b j : Nat} {u : Value} {o : Obj} (h : w.heap[b]? = some o) (hne : b ≠ a) : (w.setCell ⟨a, j, none⟩ u).heap[b]? = some o := (Below.heap_setCell _ _ _ _ hne).trans h
theorem off3 {w : World} {g z j : Nat} {a b c u : Value} (h : w.cell? ⟨z, j, none⟩ = some u) (hne : z ≠ g) : (((w.setCell ⟨g, 0, none⟩ a).setCell ⟨g, 1, none⟩ b).setCell ⟨g, 2, none⟩ c).cell? ⟨z, j, none⟩ = some u := cell_off (cell_off (cell_off h hne) hne) hne
theorem put3 {w : World} {g : Nat} {u0 u1 u2 a b c : Value} {t : TypeId} (h : w.heap[g]? = some (.cells #[u0, u1, u2] t (0, 0))) : (((w.setCell ⟨g, 0, none⟩ a).setCell ⟨g, 1, none⟩ b).setCell ⟨g, 2, none⟩ c).heap[g]? = some (.cells #[a, b, c] t (0, 0)) :=
  heap_setCell_at _ _ 2 _ _ _ c (heap_setCell_at _ _ 1 _ _ _ b (heap_setCell_at _ _ 0 _ _ _ a h))
set_option maxRecDepth 4000 in
set_option maxHeartbeats 6400000 in
theorem parts_any (p : Nat) (w : World) (hp : p < 4294967296) :
    Calls Try.prog 6 #[sec p] w fun e w' => e = .returned (.tuple #[.agg #[.int .u32 (pa0 p : Nat), .int .u32 (pa1 p : Nat), .int .u32 (pa2 p : Nat)], sec (mk (syl p) : Nat)]) ∧ Below w.heap.size w w' := by
  go_enter Try.func6, Try.ntmps6
  go_wp2_with fail
  refine (split_any p _ hp).mono ?_
  rintro e w3 ⟨a, b, c, rfl, hs, hB3⟩
  have B3 := hid (belowCat (show Below w.heap.size w _ from (by repeat (first | exact Below.refl _ _ | refine blw_alloc ?_ | refine blw_drew ?_ | assumption))) hB3)
  have G1 := hid (hpB hB3 (show (((w.alloc (sb p)).alloc (.cells #[.int .u32 0, .int .u32 0, .int .u32 0] 29)).alloc (sb 0)).heap[w.heap.size + 1]? = some (.cells #[.int .u32 0, .int .u32 0, .int .u32 0] 29) from (by simp only [hp_get, World.size_alloc]; repeat (first | rw [if_pos trivial] | rw [if_pos rfl] | rw [if_neg (by omega)]))))
  have G2 := hid (hpB hB3 (show (((w.alloc (sb p)).alloc (.cells #[.int .u32 0, .int .u32 0, .int .u32 0] 29)).alloc (sb 0)).heap[w.heap.size + 1 + 1]? = some (sb 0) from (by simp only [hp_get, World.size_alloc]; repeat (first | rw [if_pos trivial] | rw [if_pos rfl] | rw [if_neg (by omega)]))))
  obtain ⟨N, hN⟩ : ∃ N, w.heap.size = N := ⟨_, rfl⟩
  have HN := hid hN
  rw [hN] at G1 G2 ⊢
  have HSP := hid (spl_parts hs)
  have HL := hid (And.intro hs.la (And.intro hs.lb hs.lc))
  clear hB3 hN hs
  go_upto_region 2 with fail
  have Q0 := hid (show ((((w3.alloc (sb (a : Nat))).alloc (sb (b : Nat))).alloc (sb (c : Nat))).alloc (sb (mk (syl p) : Nat))).heap[w3.heap.size]? = some (sb (a : Nat)) from (by simp only [hp_get, World.size_alloc]; repeat (first | rw [if_pos trivial] | rw [if_pos rfl] | rw [if_neg (by omega)])))
  have Q1 := hid (show ((((w3.alloc (sb (a : Nat))).alloc (sb (b : Nat))).alloc (sb (c : Nat))).alloc (sb (mk (syl p) : Nat))).heap[w3.heap.size + 1]? = some (sb (b : Nat)) from (by simp only [hp_get, World.size_alloc]; repeat (first | rw [if_pos trivial] | rw [if_pos rfl] | rw [if_neg (by omega)])))
  have Q2 := hid (show ((((w3.alloc (sb (a : Nat))).alloc (sb (b : Nat))).alloc (sb (c : Nat))).alloc (sb (mk (syl p) : Nat))).heap[w3.heap.size + 1 + 1]? = some (sb (c : Nat)) from (by simp only [hp_get, World.size_alloc]; repeat (first | rw [if_pos trivial] | rw [if_pos rfl] | rw [if_neg (by omega)])))
  have Q3 := hid (show ((((w3.alloc (sb (a : Nat))).alloc (sb (b : Nat))).alloc (sb (c : Nat))).alloc (sb (mk (syl p) : Nat))).heap[w3.heap.size + 1 + 1 + 1]? = some (sb (mk (syl p) : Nat)) from (by simp only [hp_get, World.size_alloc]; repeat (first | rw [if_pos trivial] | rw [if_pos rfl] | rw [if_neg (by omega)])))
  have hBA := show Below w3.heap.size w3 ((((w3.alloc (sb (a : Nat))).alloc (sb (b : Nat))).alloc (sb (c : Nat))).alloc (sb (mk (syl p) : Nat))) from (by repeat (first | exact Below.refl _ _ | refine blw_alloc ?_ | refine blw_drew ?_ | assumption))
  have B4 := hid (belowCat B3.out hBA)
  have P1 := hid (hpB hBA G1.out)
  have P2 := hid (hpB hBA G2.out)
  have HMN := hid (show N + 1 + 1 < w3.heap.size from lt_of_heap G2.out)
  clear hBA B3 G1 G2
  generalize ((((w3.alloc (sb (a : Nat))).alloc (sb (b : Nat))).alloc (sb (c : Nat))).alloc (sb (mk (syl p) : Nat))) = w4 at *
  obtain ⟨M, hM⟩ : ∃ M, w3.heap.size = M := ⟨_, rfl⟩
  rw [hM] at Q0 Q1 Q2 Q3 HMN ⊢
  clear hM
  have HE := hid (show andW (mk (syl p)) (notW (mk (c == 0))) = mk (syl p && !(c == 0)) by rw [notW_mk, andW_mks])
  obtain ⟨m, hm⟩ : ∃ m, mk (syl p) = m := ⟨_, rfl⟩
  obtain ⟨f, hf⟩ : ∃ f, mk (syl p && !(c == 0)) = f := ⟨_, rfl⟩
  have HM := hid (show m < 4294967296 ∧ f < 4294967296 from ⟨by rw [← hm]; exact mk_lt _, by rw [← hf]; exact mk_lt _⟩)
  rw [hm] at Q3 HSP HE ⊢
  rw [hf] at HSP HE
  have HMM := hid hm
  clear hm hf
  have KB := hid (show ∀ w' : World, Below w4.heap.size w4 w' → w'.cell? ⟨M + 1 + 1, 0, none⟩ = some (.int .u32 (c : Nat)) ∧ w'.cell? ⟨M + 1 + 1 + 1, 0, none⟩ = some (.int .u32 (m : Nat)) from fun w' hb => ⟨cell_sb (hpB hb Q2.out), cell_sb (hpB hb Q3.out)⟩)
  go_cut [8] from 9 to 37 (fun q wx => ∃ z, w4.heap.size ≤ z ∧ q = .pointer (some ⟨z, 0, none⟩) ∧ wx.heap[z]? = some (sb (f : Nat)) ∧ Below w4.heap.size w4 wx)
  case first =>
    refine wp_region_held_drew (S := (fun w' => w'.cell? ⟨M + 1 + 1, 0, none⟩ = some (.int .u32 (c : Nat)) ∧ w'.cell? ⟨M + 1 + 1 + 1, 0, none⟩ = some (.int .u32 (m : Nat)))) (by kernel_rfl) (KB.out _ (blw_drew (Below.refl _ _))) (fun hHeld => ?_)
    refine tk_at (i := 0) (d := some 16) (v := ?_) rfl rfl (by kernel_rfl) (by kernel_rfl) (by kernel_rfl) (fun _ _ _ h => h) (Or.inl ⟨by rfl, ?_⟩) (by assumption) ?_
    rotate_left
    · (intro w hSw; (try dsimp only at hSw); go_simp; try (with_reducible rfl))
    simp only [Act.put, List.setIfInBounds_toArray, List.set_cons_zero, List.set_cons_succ]
    refine tk_at (i := 1) (d := some 17) (v := ?_) rfl rfl (by kernel_rfl) (by kernel_rfl) (by kernel_rfl) (fun _ _ _ h => h) (Or.inl ⟨by rfl, ?_⟩) (by assumption) ?_
    rotate_left
    · (intro w hSw; (try dsimp only at hSw); go_simp; try (with_reducible rfl))
    simp only [Act.put, List.setIfInBounds_toArray, List.set_cons_zero, List.set_cons_succ]
    clear hHeld
    refine wpAnyH_inv0 (fun aC0 lsC aC wC => ∃ (b2 b3 b4 b5 b6 : Bool) (pp x18 x19 x20   : Value), lsC = #[true, true, b2, b3, b4, b5, b6] ∧ aC = { aC0 with tmps := ((((aC0.tmps.setIfInBounds 18 x18).setIfInBounds 19 x19).setIfInBounds 20 x20).setIfInBounds 8 pp) } ∧ (b2 = true → x18 = sec (mk (c == 0) : Nat)) ∧ (b3 = true → x19 = sec (notW (mk (c == 0)) : Nat)) ∧ (b4 = true → x20 = sec (f : Nat)) ∧ Below w4.heap.size w4 wC ∧ Own1 w4 wC b5 b6 pp (f) ∧ (b5 || !b6) = true) ?_ _ _ _ (by decide +kernel) (fun aS => ⟨false, false, false, false, false, aS.tmps.getD 8 undef, aS.tmps.getD 18 undef, aS.tmps.getD 19 undef, aS.tmps.getD 20 undef, by kernel_rfl, by simp only [set_self], fun h => (by cases h), fun h => (by cases h), fun h => (by cases h), blw_drew (Below.refl _ _), Own1.none, rfl⟩)
    intro lsC aC wC ⟨b2, b3, b4, b5, b6, pp, x18, x19, x20, hl, ha, hx18, hx19, hx20, hBw, hpp, hcc⟩
    subst hl ha
    have Hx18 := hid hx18
    have Hx19 := hid hx19
    have Hx20 := hid hx20
    have HBW := hid hBw
    have HPP := hid hpp
    have HCC := hid hcc
    clear hx18 hx19 hx20 hBw hpp hcc
    simp only [List.setIfInBounds_toArray, List.set_cons_zero, List.set_cons_succ]
    refine ⟨fun hr => ?_, fun i hi => ?_⟩
    · have hall : (b2 && b3 && b4 && b5 && b6) = true := by
        clear Hx18 Hx19 Hx20 HBW HPP HCC
        revert b2 b3 b4 b5 b6
        decide +kernel
      simp only [Bool.and_eq_true] at hall
      obtain ⟨⟨⟨⟨rfl, rfl⟩, rfl⟩, rfl⟩, rfl⟩ := hall
      obtain ⟨z, rfl, hz1, hz2⟩ := HPP.out rfl
      obtain rfl := Hx18.out rfl
      obtain rfl := Hx19.out rfl
      obtain rfl := Hx20.out rfl
      have HR := hid (And.intro hz1 (And.intro hz2 HBW.out))
      clear hz1 hz2 Hx18 Hx19 Hx20 HBW HPP HCC hr
      (try dsimp only)
      go_wp2_with fail
      go_meet
      case rel => exact ⟨z, HR.out.1, rfl, HR.out.2.1, HR.out.2.2⟩
    · have hcase : (i = 2 ∧ b2 = false) ∨ (i = 3 ∧ b3 = false ∧ b2 = true) ∨ (i = 4 ∧ b4 = false ∧ b3 = true) ∨ (i = 5 ∧ b5 = false) ∨ (i = 6 ∧ b6 = false ∧ b5 = true ∧ b4 = true) := by
        refine of_decide_eq_true ((List.all_eq_true (p := fun i => decide ((i = 2 ∧ b2 = false) ∨ (i = 3 ∧ b3 = false ∧ b2 = true) ∨ (i = 4 ∧ b4 = false ∧ b3 = true) ∨ (i = 5 ∧ b5 = false) ∨ (i = 6 ∧ b6 = false ∧ b5 = true ∧ b4 = true)))).1 ?_ i hi)
        clear Hx18 Hx19 Hx20 HBW HPP HCC hi
        revert b2 b3 b4 b5 b6
        decide +kernel
      clear hi
      rcases hcase with ⟨rfl, rfl⟩ | ⟨rfl, rfl, rfl⟩ | ⟨rfl, rfl, rfl⟩ | ⟨rfl, rfl⟩ | ⟨rfl, rfl, rfl, rfl⟩
      · refine wpOp_shut rfl (fun K hK => ?_)
        go_simp
        refine (zero_b c _ HL.out.2.2).mono ?_
        rintro e wa ⟨rfl, hBa⟩
        have HBa := hid hBa
        clear hBa
        go_wp2_with fail
        have hB3 := belowCat HBW.out HBa.out
        exact hK.out _ _ ⟨KB.out _ hB3, true, b3, b4, b5, b6, _, _, _, _, by kernel_rfl, rfl, fun _ => rfl, Hx19.out, Hx20.out, hB3, HPP.out.below HBa.out, HCC.out⟩
      · obtain rfl := Hx18.out rfl
        refine wpOp_shut rfl (fun K hK => ?_)
        go_simp
        refine (not_b (mk (c == 0)) _ (mk_lt _)).mono ?_
        rintro e wa ⟨rfl, hBa⟩
        have HBa := hid hBa
        clear hBa
        go_wp2_with fail
        have hB3 := belowCat HBW.out HBa.out
        exact hK.out _ _ ⟨KB.out _ hB3, true, true, b4, b5, b6, _, _, _, _, by kernel_rfl, rfl, fun _ => rfl, fun _ => rfl, Hx20.out, hB3, HPP.out.below HBa.out, HCC.out⟩
      · obtain rfl := Hx19.out rfl
        refine wpOp_shut rfl (fun K hK => ?_)
        go_simp
        refine (and_b m (notW (mk (c == 0))) _ HM.out.1 (notW_lt (mk_lt _))).mono ?_
        rintro e wa ⟨rfl, hBa⟩
        rw [HE.out]
        have HBa := hid hBa
        clear hBa
        go_wp2_with fail
        have hB3 := belowCat HBW.out HBa.out
        exact hK.out _ _ ⟨KB.out _ hB3, b2, true, true, b5, b6, _, _, _, _, by kernel_rfl, rfl, Hx18.out, fun _ => rfl, fun _ => rfl, hB3, HPP.out.below HBa.out, HCC.out⟩
      · obtain rfl : b6 = false := by have := HCC.out; revert this; cases b6 <;> simp
        refine wpOp_shut rfl (fun K hK => ?_)
        go_simp
        go_wp2_with fail
        have hBa := (Below.refl wC.heap.size wC).alloc (Nat.le_refl _) (.cells #[.int .u32 0] 28 (0, 0))
        have hB3 := belowCat HBW.out hBa
        exact hK.out _ _ ⟨KB.out _ hB3, b2, b3, b4, true, false, _, _, _, _, by kernel_rfl, rfl, Hx18.out, Hx19.out, Hx20.out, hB3, Own1.new HBW.out, rfl⟩
      · obtain ⟨z, rfl, hz1, hz2⟩ := HPP.out rfl
        obtain rfl := Hx20.out rfl
        have c0 := cell_of_heap (i := 0) hz2 rfl
        have g0 := frozen_of_heap (i := 0) hz2
        have HZ := hid (And.intro hz1 hz2)
        clear hz1 hz2
        refine wpOp_shut rfl (fun K hK => ?_)
        go_simp
        go_wp2_with fail
        have hB3 := HBW.out.setCell (p := ⟨z, 0, none⟩) HZ.out.1 (.int .u32 ((f : Nat) : Int))
        exact hK.out _ _ ⟨KB.out _ hB3, b2, b3, true, true, true, _, _, _, _, by kernel_rfl, rfl, Hx18.out, Hx19.out, fun _ => rfl, hB3, fun _ => ⟨z, rfl, HZ.out.1, own_put HZ.out.2⟩, rfl⟩
  case rest =>
    obtain ⟨z, hz, rfl, hbz, hBc⟩ := hcut
    have HZ := hid hbz
    have X1 := hid (hpB hBc P1.out)
    have X2 := hid (hpB hBc P2.out)
    have GB := hid (belowCat B4.out hBc)
    have KC := hid (show ∀ w' : World, Below wc.heap.size wc w' → w'.cell? ⟨M, 0, none⟩ = some (.int .u32 (a : Nat)) ∧ w'.cell? ⟨M + 1, 0, none⟩ = some (.int .u32 (b : Nat)) ∧ w'.cell? ⟨M + 1 + 1, 0, none⟩ = some (.int .u32 (c : Nat)) ∧ w'.cell? ⟨M + 1 + 1 + 1, 0, none⟩ = some (.int .u32 (m : Nat)) ∧ w'.cell? ⟨z, 0, none⟩ = some (.int .u32 (f : Nat)) from
      fun w' hb => ⟨cell_sb (hpB hb (hpB hBc Q0.out)), cell_sb (hpB hb (hpB hBc Q1.out)), cell_sb (hpB hb (hpB hBc Q2.out)), cell_sb (hpB hb (hpB hBc Q3.out)), cell_sb (hpB hb HZ.out)⟩)
    have HZN := hid (show N + 1 + 1 < z from Nat.lt_of_lt_of_le (lt_of_heap P2.out) hz)
    clear hbz hBc hz KB P1 P2 B4 Q0 Q1 Q2 Q3
    go_upto_region 3 with fail
    refine wp_region_held_drew (S := (fun w' => w'.cell? ⟨M, 0, none⟩ = some (.int .u32 (a : Nat)) ∧ w'.cell? ⟨M + 1, 0, none⟩ = some (.int .u32 (b : Nat)) ∧ w'.cell? ⟨M + 1 + 1, 0, none⟩ = some (.int .u32 (c : Nat)) ∧ w'.cell? ⟨M + 1 + 1 + 1, 0, none⟩ = some (.int .u32 (m : Nat)) ∧ w'.cell? ⟨z, 0, none⟩ = some (.int .u32 (f : Nat)))) (by kernel_rfl) (KC.out _ (blw_drew (Below.refl _ _))) (fun hHeld => ?_)
    refine tk_at (i := 0) (d := some 21) (v := ?_) rfl rfl (by kernel_rfl) (by kernel_rfl) (by kernel_rfl) (fun _ _ _ h => h) (Or.inl ⟨by rfl, ?_⟩) (by assumption) ?_
    rotate_left
    · (intro w hSw; (try dsimp only at hSw); go_simp; try (with_reducible rfl))
    simp only [Act.put, List.setIfInBounds_toArray, List.set_cons_zero, List.set_cons_succ]
    refine tk_at (i := 1) (d := some 22) (v := ?_) rfl rfl (by kernel_rfl) (by kernel_rfl) (by kernel_rfl) (fun _ _ _ h => h) (Or.inl ⟨by rfl, ?_⟩) (by assumption) ?_
    rotate_left
    · (intro w hSw; (try dsimp only at hSw); go_simp; try (with_reducible rfl))
    simp only [Act.put, List.setIfInBounds_toArray, List.set_cons_zero, List.set_cons_succ]
    refine tk_at (i := 5) (d := some 26) (v := ?_) rfl rfl (by kernel_rfl) (by kernel_rfl) (by kernel_rfl) (fun _ _ _ h => h) (Or.inl ⟨by rfl, ?_⟩) (by assumption) ?_
    rotate_left
    · (intro w hSw; (try dsimp only at hSw); go_simp; try (with_reducible rfl))
    simp only [Act.put, List.setIfInBounds_toArray, List.set_cons_zero, List.set_cons_succ]
    refine tk_at (i := 6) (d := some 27) (v := ?_) rfl rfl (by kernel_rfl) (by kernel_rfl) (by kernel_rfl) (fun _ _ _ h => h) (Or.inl ⟨by rfl, ?_⟩) (by assumption) ?_
    rotate_left
    · (intro w hSw; (try dsimp only at hSw); go_simp; try (with_reducible rfl))
    simp only [Act.put, List.setIfInBounds_toArray, List.set_cons_zero, List.set_cons_succ]
    refine tk_at (i := 10) (d := some 31) (v := ?_) rfl rfl (by kernel_rfl) (by kernel_rfl) (by kernel_rfl) (fun _ _ _ h => h) (Or.inl ⟨by rfl, ?_⟩) (by assumption) ?_
    rotate_left
    · (intro w hSw; (try dsimp only at hSw); go_simp; try (with_reducible rfl))
    simp only [Act.put, List.setIfInBounds_toArray, List.set_cons_zero, List.set_cons_succ]
    refine tk_at (i := 11) (d := some 32) (v := ?_) rfl rfl (by kernel_rfl) (by kernel_rfl) (by kernel_rfl) (fun _ _ _ h => h) (Or.inl ⟨by rfl, ?_⟩) (by assumption) ?_
    rotate_left
    · (intro w hSw; (try dsimp only at hSw); go_simp; try (with_reducible rfl))
    simp only [Act.put, List.setIfInBounds_toArray, List.set_cons_zero, List.set_cons_succ]
    refine tk_at (i := 16) (d := some 37) (v := ?_) rfl rfl (by kernel_rfl) (by kernel_rfl) (by kernel_rfl) (fun _ _ _ h => h) (Or.inl ⟨by rfl, ?_⟩) (by assumption) ?_
    rotate_left
    · (intro w hSw; (try dsimp only at hSw); go_simp; try (with_reducible rfl))
    simp only [Act.put, List.setIfInBounds_toArray, List.set_cons_zero, List.set_cons_succ]
    refine wpAnyH_ready (rs := [2]) (by kernel_rfl) (by simp) ?_
    refine AllReadyH.cons rfl (fun K hK => ?_) AllReadyH.nil
    go_simp
    refine (of_b _ _).mono ?_
    rintro e w5 ⟨rfl, hB5⟩
    have C5 := hid (belowCat (blw_drew (Below.refl _ _)) hB5)
    clear hB5
    go_wp2_with fail
    refine hK.out _ _ (KC.out _ C5.out) (fun hHeld => ?_)
    clear hK K
    try simp only [Act.put, List.setIfInBounds_toArray, List.set_cons_zero, List.set_cons_succ]
    refine wpAnyH_ready (rs := [3]) (by kernel_rfl) (by simp) ?_
    refine AllReadyH.cons rfl (fun K hK => ?_) AllReadyH.nil
    go_simp
    refine (add_b a 4352 _ HL.out.1 (by decide)).mono ?_
    rintro e w6 ⟨rfl, hB6⟩
    have C6 := hid (belowCat C5.out hB6)
    clear hB6
    go_wp2_with fail
    refine hK.out _ _ (KC.out _ C6.out) (fun hHeld => ?_)
    clear hK K
    try simp only [Act.put, List.setIfInBounds_toArray, List.set_cons_zero, List.set_cons_succ]
    refine wpAnyH_ready (rs := [4]) (by kernel_rfl) (by simp) ?_
    refine AllReadyH.cons rfl (fun K hK => ?_) AllReadyH.nil
    go_simp
    refine (and_b m (addW a 4352) _ HM.out.1 (addW_lt _ _)).mono ?_
    rintro e w7 ⟨rfl, hB7⟩
    rw [HSP.out.1]
    have C7 := hid (belowCat C6.out hB7)
    clear hB7
    go_wp2_with fail
    refine hK.out _ _ (KC.out _ C7.out) (fun hHeld => ?_)
    clear hK K
    try simp only [Act.put, List.setIfInBounds_toArray, List.set_cons_zero, List.set_cons_succ]
    refine wpAnyH_ready (rs := [7]) (by kernel_rfl) (by simp) ?_
    refine AllReadyH.cons rfl (fun K hK => ?_) AllReadyH.nil
    go_simp
    refine (of_b _ _).mono ?_
    rintro e w8 ⟨rfl, hB8⟩
    have C8 := hid (belowCat C7.out hB8)
    clear hB8
    go_wp2_with fail
    refine hK.out _ _ (KC.out _ C8.out) (fun hHeld => ?_)
    clear hK K
    try simp only [Act.put, List.setIfInBounds_toArray, List.set_cons_zero, List.set_cons_succ]
    refine wpAnyH_ready (rs := [8]) (by kernel_rfl) (by simp) ?_
    refine AllReadyH.cons rfl (fun K hK => ?_) AllReadyH.nil
    go_simp
    refine (add_b b 4449 _ HL.out.2.1 (by decide)).mono ?_
    rintro e w9 ⟨rfl, hB9⟩
    have C9 := hid (belowCat C8.out hB9)
    clear hB9
    go_wp2_with fail
    refine hK.out _ _ (KC.out _ C9.out) (fun hHeld => ?_)
    clear hK K
    try simp only [Act.put, List.setIfInBounds_toArray, List.set_cons_zero, List.set_cons_succ]
    refine wpAnyH_ready (rs := [9]) (by kernel_rfl) (by simp) ?_
    refine AllReadyH.cons rfl (fun K hK => ?_) AllReadyH.nil
    go_simp
    refine (and_b m (addW b 4449) _ HM.out.1 (addW_lt _ _)).mono ?_
    rintro e w10 ⟨rfl, hB10⟩
    rw [HSP.out.2.1]
    have C10 := hid (belowCat C9.out hB10)
    clear hB10
    go_wp2_with fail
    refine hK.out _ _ (KC.out _ C10.out) (fun hHeld => ?_)
    clear hK K
    try simp only [Act.put, List.setIfInBounds_toArray, List.set_cons_zero, List.set_cons_succ]
    refine wpAnyH_ready (rs := [12]) (by kernel_rfl) (by simp) ?_
    refine AllReadyH.cons rfl (fun K hK => ?_) AllReadyH.nil
    go_simp
    refine (of_b _ _).mono ?_
    rintro e w11 ⟨rfl, hB11⟩
    have C11 := hid (belowCat C10.out hB11)
    clear hB11
    go_wp2_with fail
    refine hK.out _ _ (KC.out _ C11.out) (fun hHeld => ?_)
    clear hK K
    try simp only [Act.put, List.setIfInBounds_toArray, List.set_cons_zero, List.set_cons_succ]
    refine wpAnyH_ready (rs := [13]) (by kernel_rfl) (by simp) ?_
    refine AllReadyH.cons rfl (fun K hK => ?_) AllReadyH.nil
    go_simp
    refine (add_b c 4519 _ HL.out.2.2 (by decide)).mono ?_
    rintro e w12 ⟨rfl, hB12⟩
    have C12 := hid (belowCat C11.out hB12)
    clear hB12
    go_wp2_with fail
    refine hK.out _ _ (KC.out _ C12.out) (fun hHeld => ?_)
    clear hK K
    try simp only [Act.put, List.setIfInBounds_toArray, List.set_cons_zero, List.set_cons_succ]
    refine wpAnyH_ready (rs := [14]) (by kernel_rfl) (by simp) ?_
    refine AllReadyH.cons rfl (fun K hK => ?_) AllReadyH.nil
    go_simp
    refine (and_b f (addW c 4519) _ HM.out.2 (addW_lt _ _)).mono ?_
    rintro e w13 ⟨rfl, hB13⟩
    rw [HSP.out.2.2]
    have C13 := hid (belowCat C12.out hB13)
    clear hB13
    go_wp2_with fail
    refine hK.out _ _ (KC.out _ C13.out) (fun hHeld => ?_)
    clear hK K
    try simp only [Act.put, List.setIfInBounds_toArray, List.set_cons_zero, List.set_cons_succ]
    have J1 := hid (hpB C13.out X1.out)
    have J2 := hid (hpB C13.out X2.out)
    have j0 : w13.cell? ⟨N + 1, 0, none⟩ = some (.int .u32 0) := cell_of_heap J1.out rfl
    have j1 : w13.cell? ⟨N + 1, 1, none⟩ = some (.int .u32 0) := cell_of_heap J1.out rfl
    have j2 : w13.cell? ⟨N + 1, 2, none⟩ = some (.int .u32 0) := cell_of_heap J1.out rfl
    have f0 : w13.frozen? ⟨N + 1, 0, none⟩ = false := frozen_of_heap J1.out
    have f1 : w13.frozen? ⟨N + 1, 1, none⟩ = false := frozen_of_heap J1.out
    have f2 : w13.frozen? ⟨N + 1, 2, none⟩ = false := frozen_of_heap J1.out
    have c2 := cell_sb J2.out
    have f3 := fz_sb J2.out
    refine wpAnyH_ready (rs := [15]) (by kernel_rfl) (by simp) ?_
    refine AllReadyH.cons rfl (fun K hK => ?_) AllReadyH.nil
    go_simp
    go_wp2_with fail
    refine hK.out _ _ (KC.out _ C13.out) (fun hHeld => ?_)
    clear hK K
    try simp only [Act.put, List.setIfInBounds_toArray, List.set_cons_zero, List.set_cons_succ]
    refine wpAnyH_ready (rs := [17]) (by kernel_rfl) (by simp) ?_
    refine AllReadyH.cons rfl (fun K hK => ?_) AllReadyH.nil
    go_simp
    go_wp2_with fail
    refine hK.out _ _ (⟨off3 (KC.out _ C13.out).1 (by have := HMN.out; omega), off3 (KC.out _ C13.out).2.1 (by have := HMN.out; omega), off3 (KC.out _ C13.out).2.2.1 (by have := HMN.out; omega), off3 (KC.out _ C13.out).2.2.2.1 (by have := HMN.out; omega), off3 (KC.out _ C13.out).2.2.2.2 (by have := HZN.out; omega)⟩) (fun hHeld => ?_)
    clear hK K
    try simp only [Act.put, List.setIfInBounds_toArray, List.set_cons_zero, List.set_cons_succ]
    have Y1 := hid (put3 (a := .int .u32 (pa0 p : Nat)) (b := .int .u32 (pa1 p : Nat)) (c := .int .u32 (pa2 p : Nat)) J1.out)
    have Y2 := hid (show (((w13.setCell ⟨N + 1, 0, none⟩ (.int .u32 (pa0 p : Nat))).setCell ⟨N + 1, 1, none⟩ (.int .u32 (pa1 p : Nat))).setCell ⟨N + 1, 2, none⟩ (.int .u32 (pa2 p : Nat))).heap[N + 1 + 1]? = some (sb 0) from put_offj (put_offj (put_offj J2.out (by omega)) (by omega)) (by omega))
    have BY := hid (show Below w.heap.size w (((w13.setCell ⟨N + 1, 0, none⟩ (.int .u32 (pa0 p : Nat))).setCell ⟨N + 1, 1, none⟩ (.int .u32 (pa1 p : Nat))).setCell ⟨N + 1, 2, none⟩ (.int .u32 (pa2 p : Nat))) from (((belowCat GB.out C13.out).setCell (p := ⟨N + 1, 0, none⟩) (by have := HN.out; show w.heap.size ≤ N + 1; omega) _).setCell (p := ⟨N + 1, 1, none⟩) (by have := HN.out; show w.heap.size ≤ N + 1; omega) _).setCell (p := ⟨N + 1, 2, none⟩) (by have := HN.out; show w.heap.size ≤ N + 1; omega) _)
    clear j0 j1 j2 f0 f1 f2 c2 f3 J1 J2
    generalize ((w13.setCell ⟨N + 1, 0, none⟩ (.int .u32 (pa0 p : Nat))).setCell ⟨N + 1, 1, none⟩ (.int .u32 (pa1 p : Nat))).setCell ⟨N + 1, 2, none⟩ (.int .u32 (pa2 p : Nat)) = w14 at *
    have c2 := cell_sb Y2.out
    have f3 := fz_sb Y2.out
    refine wpAnyH_ready (rs := [18]) (by kernel_rfl) (by simp) ?_
    refine AllReadyH.cons rfl (fun K hK => ?_) AllReadyH.nil
    go_simp
    go_wp2_with fail
    refine hK.out _ _ (⟨cell_off hHeld.1 (by have := HMN.out; omega), cell_off hHeld.2.1 (by have := HMN.out; omega), cell_off hHeld.2.2.1 (by have := HMN.out; omega), cell_off hHeld.2.2.2.1 (by have := HMN.out; omega), cell_off hHeld.2.2.2.2 (by have := HZN.out; omega)⟩) (fun hHeld => ?_)
    clear hK K
    try simp only [Act.put, List.setIfInBounds_toArray, List.set_cons_zero, List.set_cons_succ]
    refine wpAnyH_done (by kernel_rfl) ?_ _
    clear hHeld
    have y1 := put_offj (j := 0) (a := N + 1 + 1) (u := .int .u32 (m : Nat)) Y1.out (show N + 1 ≠ N + 1 + 1 by omega)
    have d0 := cell_of_heap (i := 0) y1 rfl
    have d1 := cell_of_heap (i := 1) y1 rfl
    have d2 := cell_of_heap (i := 2) y1 rfl
    have d3 := cell_sb (put_at (u := (m : Nat)) Y2.out)
    clear y1 c2 f3
    go_wp2
    exact bodyPost_ret (v := .tuple #[.agg #[.int .u32 (pa0 p : Nat), .int .u32 (pa1 p : Nat), .int .u32 (pa2 p : Nat)], sec (m : Nat)]) (by simp only [results, Try.results6]; simp [go_sem, d0, d1, d2, d3]) rfl
      ⟨by rw [HMM.out], blw_set _ BY.out (by have := HN.out; show w.heap.size ≤ N + 1 + 1; omega)⟩
end Go.Proofs.Ytnablmiocbijgaa
