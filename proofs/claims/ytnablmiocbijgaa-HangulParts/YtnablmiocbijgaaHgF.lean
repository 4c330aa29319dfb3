/- Package hangul's joinVowel, over this seat's translation. Conditions: the words' bounds. -/
import Derived.Test.YtnablmiocbijgaaHgD
namespace Go.Proofs.Ytnablmiocbijgaa
open Go.RowKit
set_option linter.unusedVariables false

/-- a word's bound, closed to the walk -/
structure W32 (x : Nat) : Prop where
  out : x < 4294967296
/-- two words of results, two blocks behind the arguments' -/
structure R2 (w : World) (N : Nat) (a b : Int) : Prop where
  h1 : w.heap[N + 1 + 1]? = some (sb a)
  h2 : w.heap[N + 1 + 1 + 1]? = some (sb b)
theorem R2.below {w w' : World} {N : Nat} {a b : Int} (r : R2 w N a b) (hb : Below w.heap.size w w') : R2 w' N a b := ⟨hpB hb r.h1, hpB hb r.h2⟩
theorem R2.put1 {w : World} {N : Nat} {a b : Int} (u : Int) (r : R2 w N a b) : R2 (w.setCell ⟨N + 1 + 1, 0, none⟩ (.int .u32 u)) N u b := ⟨put_at r.h1, put_off r.h2 (by omega)⟩
theorem R2.put2 {w : World} {N : Nat} {a b : Int} (u : Int) (r : R2 w N a b) : R2 (w.setCell ⟨N + 1 + 1 + 1, 0, none⟩ (.int .u32 u)) N a u := ⟨put_off r.h1 (by omega), put_at r.h2⟩
theorem R2.cells {w : World} {N : Nat} {a b : Int} (r : R2 w N a b) : w.cell? ⟨N + 1 + 1, 0, none⟩ = some (.int .u32 a) ∧ w.cell? ⟨N + 1 + 1 + 1, 0, none⟩ = some (.int .u32 b) := ⟨cell_sb r.h1, cell_sb r.h2⟩

def jvB (a b : Nat) : Bool := (decide (4352 ≤ a) && decide (a < 4371)) && (decide (4449 ≤ b) && decide (b < 4470))
def jv (a b : Nat) : Nat := if jvB a b = true then 44032 + (a - 4352) * 588 + (b - 4449) * 28 else 0
theorem jv_said (a b : Nat) (ha : a < 4294967296) (hb : b < 4294967296) :
    andW (mk (decide (subW a 4352 < 19))) (mk (decide (subW b 4449 < 21))) = mk (jvB a b) ∧
    andW (mk (jvB a b)) (addW 44032 (addW (subW a 4352 * 588 % 4294967296) (subW b 4449 * 28 % 4294967296))) = jv a b := by
  rw [andW_mks, num_is a 4352 19 ha (by omega), num_is b 4449 21 hb (by omega)]
  refine ⟨rfl, ?_⟩
  rw [andW_mk _ _ (addW_lt _ _)]
  unfold jv
  cases h : jvB a b with
  | false => rw [if_neg (by decide), if_neg (by decide)]
  | true =>
    rw [if_pos rfl, if_pos rfl]
    simp only [jvB, Bool.and_eq_true, decide_eq_true_eq] at h
    rw [num_at a 4352 ha h.1.1, num_at b 4449 hb h.2.1]
    unfold addW
    omega
set_option maxRecDepth 4000 in
set_option maxHeartbeats 6400000 in
theorem joinVowel_any (a b : Nat) (w : World) (ha : a < 4294967296) (hb : b < 4294967296) :
    Calls Try.prog 23 #[sec a, sec b] w fun e w' => e = .returned (.tuple #[sec (jv a b : Nat), sec (mk (jvB a b) : Nat)]) ∧ Below w.heap.size w w' := by
  have HJ := hid (jv_said a b ha hb)
  go_enter Try.func23, Try.ntmps23
  go_wp2_with fail
  have HR := hid (show R2 ((((w.alloc (sb a)).alloc (sb b)).alloc (sb 0)).alloc (sb 0)) w.heap.size 0 0 from ⟨(by simp only [hp_get, World.size_alloc]; repeat (first | rw [if_pos trivial] | rw [if_pos rfl] | rw [if_neg (by omega)])), (by simp only [hp_get, World.size_alloc]; repeat (first | rw [if_pos trivial] | rw [if_pos rfl] | rw [if_neg (by omega)]))⟩)
  have Hb := hid (show ((((w.alloc (sb a)).alloc (sb b)).alloc (sb 0)).alloc (sb 0)).heap[w.heap.size + 1]? = some (sb b) from (by simp only [hp_get, World.size_alloc]; repeat (first | rw [if_pos trivial] | rw [if_pos rfl] | rw [if_neg (by omega)])))
  have HB := hid (show Below w.heap.size w ((((w.alloc (sb a)).alloc (sb b)).alloc (sb 0)).alloc (sb 0)) from (by repeat (first | exact Below.refl _ _ | refine blw_alloc ?_ | refine blw_drew ?_ | assumption)))
  generalize (((w.alloc (sb a)).alloc (sb b)).alloc (sb 0)).alloc (sb 0) = w2 at *
  obtain ⟨N, hN⟩ : ∃ N, w.heap.size = N := ⟨_, rfl⟩
  have HN := hid hN
  rw [hN] at Hb HR ⊢
  clear hN
  refine (number_any a 4352 19 _ ha (by decide) (by decide)).mono ?_
  rintro e w3 ⟨rfl, hB3⟩
  have R3 := hid (HR.out.below hB3)
  have B3 := hid (belowCat HB.out hB3)
  have b3 := hid (hpB hB3 Hb.out)
  have h1 : W32 _ := ⟨subW_lt a 4352⟩
  have h2 : W32 _ := ⟨subW_lt b 4449⟩
  obtain ⟨m1, hm1⟩ : ∃ x, mk (decide (subW a 4352 < 19)) = x := ⟨_, rfl⟩
  have M1 : W32 m1 := ⟨by rw [← hm1]; exact mk_lt _⟩
  rw [hm1] at HJ ⊢
  obtain ⟨s, hse⟩ : ∃ x, subW a 4352 = x := ⟨_, rfl⟩
  rw [hse] at HJ h1 ⊢
  clear hB3 HR HB Hb hm1 hse
  go_upto_region 2 with fail
  have Q0 := hid (show ((w3.alloc (sb (s : Nat))).alloc (sb (m1 : Nat))).heap[w3.heap.size]? = some (sb (s : Nat)) from (by simp only [hp_get, World.size_alloc]; repeat (first | rw [if_pos trivial] | rw [if_pos rfl] | rw [if_neg (by omega)])))
  have Q1 := hid (show ((w3.alloc (sb (s : Nat))).alloc (sb (m1 : Nat))).heap[w3.heap.size + 1]? = some (sb (m1 : Nat)) from (by simp only [hp_get, World.size_alloc]; repeat (first | rw [if_pos trivial] | rw [if_pos rfl] | rw [if_neg (by omega)])))
  have hBA := show Below w3.heap.size w3 ((w3.alloc (sb (s : Nat))).alloc (sb (m1 : Nat))) from (by repeat (first | exact Below.refl _ _ | refine blw_alloc ?_ | refine blw_drew ?_ | assumption))
  have R4 := hid (R3.out.below hBA)
  have B4 := hid (belowCat B3.out hBA)
  have HMN := hid (show N + 1 + 1 + 1 < w3.heap.size from lt_of_heap R3.out.h2)
  have b4 := hid (hpB hBA b3.out)
  clear hBA R3 B3 b3
  generalize (w3.alloc (sb (s : Nat))).alloc (sb (m1 : Nat)) = w4 at *
  obtain ⟨M, hM⟩ : ∃ M, w3.heap.size = M := ⟨_, rfl⟩
  rw [hM] at Q0 Q1 HMN ⊢
  clear hM
  have k1 := cell_sb b4.out
  go_wp2_with fail
  refine (number_any b 4449 21 _ hb (by decide) (by decide)).mono ?_
  rintro e w5 ⟨rfl, hB5⟩
  have R5 := hid (R4.out.below hB5)
  have B5 := hid (belowCat B4.out hB5)
  have q0 := hid (hpB hB5 Q0.out)
  have q1 := hid (hpB hB5 Q1.out)
  obtain ⟨m2, hm2⟩ : ∃ x, mk (decide (subW b 4449 < 21)) = x := ⟨_, rfl⟩
  have M2 : W32 m2 := ⟨by rw [← hm2]; exact mk_lt _⟩
  rw [hm2] at HJ ⊢
  obtain ⟨t, hte⟩ : ∃ x, subW b 4449 = x := ⟨_, rfl⟩
  rw [hte] at HJ h2 ⊢
  clear hB5 R4 B4 Q0 Q1 hm2 hte b4 k1
  go_upto_region 3 with fail
  have P0 := hid (show ((w5.alloc (sb (t : Nat))).alloc (sb (m2 : Nat))).heap[w5.heap.size]? = some (sb (t : Nat)) from (by simp only [hp_get, World.size_alloc]; repeat (first | rw [if_pos trivial] | rw [if_pos rfl] | rw [if_neg (by omega)])))
  have P1 := hid (show ((w5.alloc (sb (t : Nat))).alloc (sb (m2 : Nat))).heap[w5.heap.size + 1]? = some (sb (m2 : Nat)) from (by simp only [hp_get, World.size_alloc]; repeat (first | rw [if_pos trivial] | rw [if_pos rfl] | rw [if_neg (by omega)])))
  have hBA := show Below w5.heap.size w5 ((w5.alloc (sb (t : Nat))).alloc (sb (m2 : Nat))) from (by repeat (first | exact Below.refl _ _ | refine blw_alloc ?_ | refine blw_drew ?_ | assumption))
  have R6 := hid (R5.out.below hBA)
  have B6 := hid (belowCat B5.out hBA)
  have q0' := hid (hpB hBA q0.out)
  have q1' := hid (hpB hBA q1.out)
  have HPN := hid (show M + 1 < w5.heap.size from lt_of_heap q1.out)
  clear hBA R5 B5 q0 q1
  generalize (w5.alloc (sb (t : Nat))).alloc (sb (m2 : Nat)) = w6 at *
  obtain ⟨P, hP⟩ : ∃ P, w5.heap.size = P := ⟨_, rfl⟩
  rw [hP] at P0 P1 HPN ⊢
  clear hP
  have k1 := cell_sb q1'.out
  have k2 := cell_sb P1.out
  go_wp2_with fail
  refine (and_b m1 m2 _ M1.out M2.out).mono ?_
  rintro e w7 ⟨rfl, hB7⟩
  rw [HJ.out.1]
  obtain ⟨f, hf⟩ : ∃ f, mk (jvB a b) = f := ⟨_, rfl⟩
  have HF := hid hf
  have MF : W32 f := ⟨by rw [← hf]; exact mk_lt _⟩
  rw [hf] at HJ ⊢
  have HJ2 := hid HJ.out.2
  clear k1 k2 hf HJ
  have R7 := hid (R6.out.below hB7)
  have B7 := hid (belowCat B6.out hB7)
  have q0 := hid (hpB hB7 q0'.out)
  have p0 := hid (hpB hB7 P0.out)
  clear hB7 R6 B6 q0' q1' P0 P1
  go_upto_region 4 with fail
  have F0 := hid (heap_alloc_at w7 (sb (f : Nat)))
  have hBA := (Below.refl w7.heap.size w7).alloc (Nat.le_refl _) (sb (f : Nat))
  have R8 := hid (R7.out.below hBA)
  have B8 := hid (belowCat B7.out hBA)
  have q8 := hid (hpB hBA q0.out)
  have p8 := hid (hpB hBA p0.out)
  have HFN := hid (show P < w7.heap.size from lt_of_heap p0.out)
  clear hBA R7 B7 q0 p0
  generalize w7.alloc (sb (f : Nat)) = w8 at *
  obtain ⟨y, hy⟩ : ∃ y, w7.heap.size = y := ⟨_, rfl⟩
  rw [hy] at F0 HFN ⊢
  clear hy
  have KB := hid (show ∀ w' : World, Below w8.heap.size w8 w' → w'.cell? ⟨M, 0, none⟩ = some (.int .u32 (s : Nat)) ∧ w'.cell? ⟨P, 0, none⟩ = some (.int .u32 (t : Nat)) from fun w' hb => ⟨cell_sb (hpB hb q8.out), cell_sb (hpB hb p8.out)⟩)
  have T1 := hid (fun w => times_any s 588 10 w h1.out (by decide) (by kernel_rfl) (by decide) (by decide))
  have T2 := hid (fun w => times_any t 28 5 w h2.out (by decide) (by kernel_rfl) (by decide) (by decide))
  have L1 : W32 (s * 588 % 4294967296) := ⟨Nat.mod_lt _ (by decide)⟩
  have L2 : W32 (t * 28 % 4294967296) := ⟨Nat.mod_lt _ (by decide)⟩
  obtain ⟨u, hu⟩ : ∃ u, s * 588 % 4294967296 = u := ⟨_, rfl⟩
  obtain ⟨v, hv⟩ : ∃ v, t * 28 % 4294967296 = v := ⟨_, rfl⟩
  rw [hu] at HJ2 L1 T1
  rw [hv] at HJ2 L2 T2
  clear hu hv
  go_cut [11] from 12 to 35 (fun q wx => ∃ z, w8.heap.size ≤ z ∧ q = .pointer (some ⟨z, 0, none⟩) ∧ wx.heap[z]? = some (sb (addW u v : Nat)) ∧ Below w8.heap.size w8 wx)
  case first =>
    refine wp_region_held_drew (S := (fun w' => w'.cell? ⟨M, 0, none⟩ = some (.int .u32 (s : Nat)) ∧ w'.cell? ⟨P, 0, none⟩ = some (.int .u32 (t : Nat)))) (by kernel_rfl) (KB.out _ (blw_drew (Below.refl _ _))) (fun hHeld => ?_)
    refine tk_at (i := 0) (d := some 25) (v := ?_) rfl rfl (by kernel_rfl) (by kernel_rfl) (by kernel_rfl) (fun _ _ _ h => h) (Or.inl ⟨by rfl, ?_⟩) (by assumption) ?_
    rotate_left
    · (intro w hSw; (try dsimp only at hSw); go_simp; try (with_reducible rfl))
    simp only [Act.put, List.setIfInBounds_toArray, List.set_cons_zero, List.set_cons_succ]
    refine tk_at (i := 2) (d := some 27) (v := ?_) rfl rfl (by kernel_rfl) (by kernel_rfl) (by kernel_rfl) (fun _ _ _ h => h) (Or.inl ⟨by rfl, ?_⟩) (by assumption) ?_
    rotate_left
    · (intro w hSw; (try dsimp only at hSw); go_simp; try (with_reducible rfl))
    simp only [Act.put, List.setIfInBounds_toArray, List.set_cons_zero, List.set_cons_succ]
    clear hHeld
    refine wpAnyH_inv0 (fun aC0 lsC aC wC => ∃ (b1 b3 b4 b5 b6 : Bool) (pp x26 x28 x29   : Value), lsC = #[true, b1, true, b3, b4, b5, b6] ∧ aC = { aC0 with tmps := ((((aC0.tmps.setIfInBounds 26 x26).setIfInBounds 28 x28).setIfInBounds 29 x29).setIfInBounds 11 pp) } ∧ (b1 = true → x26 = sec (u : Nat)) ∧ (b3 = true → x28 = sec (v : Nat)) ∧ (b4 = true → x29 = sec (addW u v : Nat)) ∧ Below w8.heap.size w8 wC ∧ Own1 w8 wC b5 b6 pp (addW u v) ∧ (b5 || !b6) = true) ?_ _ _ _ (by decide +kernel) (fun aS => ⟨false, false, false, false, false, aS.tmps.getD 11 undef, aS.tmps.getD 26 undef, aS.tmps.getD 28 undef, aS.tmps.getD 29 undef, by kernel_rfl, by simp only [set_self], fun h => (by cases h), fun h => (by cases h), fun h => (by cases h), blw_drew (Below.refl _ _), Own1.none, rfl⟩)
    intro lsC aC wC ⟨b1, b3, b4, b5, b6, pp, x26, x28, x29, hl, ha, hx26, hx28, hx29, hBw, hpp, hcc⟩
    subst hl ha
    have Hx26 := hid hx26
    have Hx28 := hid hx28
    have Hx29 := hid hx29
    have HBW := hid hBw
    have HPP := hid hpp
    have HCC := hid hcc
    clear hx26 hx28 hx29 hBw hpp hcc
    simp only [List.setIfInBounds_toArray, List.set_cons_zero, List.set_cons_succ]
    refine ⟨fun hr => ?_, fun i hi => ?_⟩
    · have hall : (b1 && b3 && b4 && b5 && b6) = true := by
        clear Hx26 Hx28 Hx29 HBW HPP HCC
        revert b1 b3 b4 b5 b6
        decide +kernel
      simp only [Bool.and_eq_true] at hall
      obtain ⟨⟨⟨⟨rfl, rfl⟩, rfl⟩, rfl⟩, rfl⟩ := hall
      obtain ⟨z, rfl, hz1, hz2⟩ := HPP.out rfl
      obtain rfl := Hx26.out rfl
      obtain rfl := Hx28.out rfl
      obtain rfl := Hx29.out rfl
      have HR := hid (And.intro hz1 (And.intro hz2 HBW.out))
      clear hz1 hz2 Hx26 Hx28 Hx29 HBW HPP HCC hr
      (try dsimp only)
      go_wp2_with fail
      go_meet
      case rel => exact ⟨z, HR.out.1, rfl, HR.out.2.1, HR.out.2.2⟩
    · have hcase : (i = 1 ∧ b1 = false) ∨ (i = 3 ∧ b3 = false ∧ b1 = true) ∨ (i = 4 ∧ b4 = false ∧ b1 = true ∧ b3 = true) ∨ (i = 5 ∧ b5 = false) ∨ (i = 6 ∧ b6 = false ∧ b5 = true ∧ b4 = true) := by
        refine of_decide_eq_true ((List.all_eq_true (p := fun i => decide ((i = 1 ∧ b1 = false) ∨ (i = 3 ∧ b3 = false ∧ b1 = true) ∨ (i = 4 ∧ b4 = false ∧ b1 = true ∧ b3 = true) ∨ (i = 5 ∧ b5 = false) ∨ (i = 6 ∧ b6 = false ∧ b5 = true ∧ b4 = true)))).1 ?_ i hi)
        clear Hx26 Hx28 Hx29 HBW HPP HCC hi
        revert b1 b3 b4 b5 b6
        decide +kernel
      clear hi
      rcases hcase with ⟨rfl, rfl⟩ | ⟨rfl, rfl, rfl⟩ | ⟨rfl, rfl, rfl, rfl⟩ | ⟨rfl, rfl⟩ | ⟨rfl, rfl, rfl, rfl⟩
      · refine wpOp_shut rfl (fun K hK => ?_)
        go_simp
        refine (T1.out _).mono ?_
        rintro e wa ⟨rfl, hBa⟩
        have HBa := hid hBa
        clear hBa
        go_wp2_with fail
        have hB3 := belowCat HBW.out HBa.out
        exact hK.out _ _ ⟨KB.out _ hB3, true, b3, b4, b5, b6, _, _, _, _, by kernel_rfl, rfl, fun _ => rfl, Hx28.out, Hx29.out, hB3, HPP.out.below HBa.out, HCC.out⟩
      · obtain rfl := Hx26.out rfl
        refine wpOp_shut rfl (fun K hK => ?_)
        go_simp
        refine (T2.out _).mono ?_
        rintro e wa ⟨rfl, hBa⟩
        have HBa := hid hBa
        clear hBa
        go_wp2_with fail
        have hB3 := belowCat HBW.out HBa.out
        exact hK.out _ _ ⟨KB.out _ hB3, true, true, b4, b5, b6, _, _, _, _, by kernel_rfl, rfl, fun _ => rfl, fun _ => rfl, Hx29.out, hB3, HPP.out.below HBa.out, HCC.out⟩
      · obtain rfl := Hx26.out rfl
        obtain rfl := Hx28.out rfl
        refine wpOp_shut rfl (fun K hK => ?_)
        go_simp
        refine (add_b u v _ L1.out L2.out).mono ?_
        rintro e wa ⟨rfl, hBa⟩
        have HBa := hid hBa
        clear hBa
        go_wp2_with fail
        have hB3 := belowCat HBW.out HBa.out
        exact hK.out _ _ ⟨KB.out _ hB3, true, true, true, b5, b6, _, _, _, _, by kernel_rfl, rfl, fun _ => rfl, fun _ => rfl, fun _ => rfl, hB3, HPP.out.below HBa.out, HCC.out⟩
      · obtain rfl : b6 = false := by have := HCC.out; revert this; cases b6 <;> simp
        refine wpOp_shut rfl (fun K hK => ?_)
        go_simp
        go_wp2_with fail
        have hBa := (Below.refl wC.heap.size wC).alloc (Nat.le_refl _) (.cells #[.int .u32 0] 28 (0, 0))
        have hB3 := belowCat HBW.out hBa
        exact hK.out _ _ ⟨KB.out _ hB3, b1, b3, b4, true, false, _, _, _, _, by kernel_rfl, rfl, Hx26.out, Hx28.out, Hx29.out, hB3, Own1.new HBW.out, rfl⟩
      · obtain ⟨z, rfl, hz1, hz2⟩ := HPP.out rfl
        obtain rfl := Hx29.out rfl
        have c0 := cell_of_heap (i := 0) hz2 rfl
        have g0 := frozen_of_heap (i := 0) hz2
        have HZ := hid (And.intro hz1 hz2)
        clear hz1 hz2
        refine wpOp_shut rfl (fun K hK => ?_)
        go_simp
        go_wp2_with fail
        have hB3 := HBW.out.setCell (p := ⟨z, 0, none⟩) HZ.out.1 (.int .u32 ((addW u v : Nat) : Int))
        exact hK.out _ _ ⟨KB.out _ hB3, b1, b3, true, true, true, _, _, _, _, by kernel_rfl, rfl, Hx26.out, Hx28.out, fun _ => rfl, hB3, fun _ => ⟨z, rfl, HZ.out.1, own_put HZ.out.2⟩, rfl⟩
  case rest =>
    obtain ⟨z, hz, rfl, hbz, hBc⟩ := hcut
    have HZ := hid hbz
    have RX := hid (R8.out.below hBc)
    have GB := hid (belowCat B8.out hBc)
    have fy := hid (hpB hBc F0.out)
    have HZN := hid (show y < z from Nat.lt_of_lt_of_le (lt_of_heap F0.out) hz)
    have HS : W32 (addW u v) := ⟨addW_lt u v⟩
    obtain ⟨S, hS⟩ : ∃ S, addW u v = S := ⟨_, rfl⟩
    rw [hS] at HJ2 HZ HS
    clear hbz hBc hz KB R8 B8 F0 q8 p8 hS T1 T2
    have KC := hid (show ∀ w' : World, Below wc.heap.size wc w' → w'.cell? ⟨y, 0, none⟩ = some (.int .u32 (f : Nat)) ∧ w'.cell? ⟨z, 0, none⟩ = some (.int .u32 (S : Nat)) from fun w' hb => ⟨cell_sb (hpB hb fy.out), cell_sb (hpB hb HZ.out)⟩)
    go_upto_region 5 with fail
    refine wp_region_held_drew (S := (fun w' => w'.cell? ⟨y, 0, none⟩ = some (.int .u32 (f : Nat)) ∧ w'.cell? ⟨z, 0, none⟩ = some (.int .u32 (S : Nat)))) (by kernel_rfl) (KC.out _ (blw_drew (Below.refl _ _))) (fun hHeld => ?_)
    refine tk_at (i := 0) (d := some 30) (v := ?_) rfl rfl (by kernel_rfl) (by kernel_rfl) (by kernel_rfl) (fun _ _ _ h => h) (Or.inl ⟨by rfl, ?_⟩) (by assumption) ?_
    rotate_left
    · (intro w hSw; (try dsimp only at hSw); go_simp; try (with_reducible rfl))
    simp only [Act.put, List.setIfInBounds_toArray, List.set_cons_zero, List.set_cons_succ]
    refine tk_at (i := 2) (d := some 32) (v := ?_) rfl rfl (by kernel_rfl) (by kernel_rfl) (by kernel_rfl) (fun _ _ _ h => h) (Or.inl ⟨by rfl, ?_⟩) (by assumption) ?_
    rotate_left
    · (intro w hSw; (try dsimp only at hSw); go_simp; try (with_reducible rfl))
    simp only [Act.put, List.setIfInBounds_toArray, List.set_cons_zero, List.set_cons_succ]
    refine tk_at (i := 5) (d := some 35) (v := ?_) rfl rfl (by kernel_rfl) (by kernel_rfl) (by kernel_rfl) (fun _ _ _ h => h) (Or.inl ⟨by rfl, ?_⟩) (by assumption) ?_
    rotate_left
    · (intro w hSw; (try dsimp only at hSw); go_simp; try (with_reducible rfl))
    simp only [Act.put, List.setIfInBounds_toArray, List.set_cons_zero, List.set_cons_succ]
    refine wpAnyH_ready (rs := [1]) (by kernel_rfl) (by simp) ?_
    refine AllReadyH.cons rfl (fun K hK => ?_) AllReadyH.nil
    go_simp
    refine (of_b _ _).mono ?_
    rintro e x5 ⟨rfl, hB5⟩
    have C5 := hid (belowCat (blw_drew (Below.refl _ _)) hB5)
    clear hB5
    go_wp2_with fail
    refine hK.out _ _ (KC.out _ C5.out) (fun hHeld => ?_)
    clear hK K
    try simp only [Act.put, List.setIfInBounds_toArray, List.set_cons_zero, List.set_cons_succ]
    refine wpAnyH_ready (rs := [3]) (by kernel_rfl) (by simp) ?_
    refine AllReadyH.cons rfl (fun K hK => ?_) AllReadyH.nil
    go_simp
    refine (add_b 44032 S _ (by decide) HS.out).mono ?_
    rintro e x6 ⟨rfl, hB6⟩
    have C6 := hid (belowCat C5.out hB6)
    clear hB6
    go_wp2_with fail
    refine hK.out _ _ (KC.out _ C6.out) (fun hHeld => ?_)
    clear hK K
    try simp only [Act.put, List.setIfInBounds_toArray, List.set_cons_zero, List.set_cons_succ]
    refine wpAnyH_ready (rs := [4]) (by kernel_rfl) (by simp) ?_
    refine AllReadyH.cons rfl (fun K hK => ?_) AllReadyH.nil
    go_simp
    refine (and_b f (addW 44032 S) _ MF.out (addW_lt _ _)).mono ?_
    rintro e x7 ⟨rfl, hB7⟩
    rw [HJ2.out]
    have C7 := hid (belowCat C6.out hB7)
    clear hB7
    go_wp2_with fail
    refine hK.out _ _ (KC.out _ C7.out) (fun hHeld => ?_)
    clear hK K
    try simp only [Act.put, List.setIfInBounds_toArray, List.set_cons_zero, List.set_cons_succ]
    have RY := hid (RX.out.below C7.out)
    have BY := hid (belowCat GB.out C7.out)
    have c1 := cell_sb RY.out.h1
    have f1 := fz_sb RY.out.h1
    have c2 := cell_sb (RY.out.put1 (jv a b : Nat)).h2
    have f2 := fz_sb (RY.out.put1 (jv a b : Nat)).h2
    have KD := hid (KC.out _ C7.out)
    have HN2 := hid (show N + 1 + 1 + 1 < y ∧ N + 1 + 1 + 1 < z by have := HMN.out; have := HPN.out; have := HFN.out; have := HZN.out; omega)
    clear hHeld RX GB fy HZ KC C5 C6 C7
    refine wpAnyH_ready (rs := [6]) (by kernel_rfl) (by simp) ?_
    refine AllReadyH.cons rfl (fun K hK => ?_) AllReadyH.nil
    go_simp
    go_wp2_with fail
    refine hK.out _ _ (⟨cell_off (KD.out).1 (by have := HN2.out; omega), cell_off (KD.out).2 (by have := HN2.out; omega)⟩) (fun hHeld => ?_)
    clear hK K
    try simp only [Act.put, List.setIfInBounds_toArray, List.set_cons_zero, List.set_cons_succ]
    refine wpAnyH_ready (rs := [7]) (by kernel_rfl) (by simp) ?_
    refine AllReadyH.cons rfl (fun K hK => ?_) AllReadyH.nil
    go_simp
    go_wp2_with fail
    refine hK.out _ _ (⟨cell_off hHeld.1 (by have := HN2.out; omega), cell_off hHeld.2 (by have := HN2.out; omega)⟩) (fun hHeld => ?_)
    clear hK K
    try simp only [Act.put, List.setIfInBounds_toArray, List.set_cons_zero, List.set_cons_succ]
    refine wpAnyH_done (by kernel_rfl) ?_ _
    clear hHeld
    obtain ⟨d1, d2⟩ := ((RY.out.put1 (jv a b : Nat)).put2 (f : Nat)).cells
    clear c1 f1 c2 f2
    go_wp2
    exact bodyPost_ret (v := .tuple #[sec (jv a b : Nat), sec (f : Nat)]) (by simp only [results, Try.results23]; simp [go_sem, d1, d2]) rfl
      ⟨by rw [HF.out], blw_set _ (blw_set _ BY.out (by have := HN.out; show w.heap.size ≤ N + 1 + 1; omega)) (by have := HN.out; show w.heap.size ≤ N + 1 + 1 + 1; omega)⟩
end Go.Proofs.Ytnablmiocbijgaa
