/- Package hangul's joinTrail and Join, over this seat's translation. Conditions: the words' bounds. -/
import Derived.Test.YtnablmiocbijgaaHgF
namespace Go.Proofs.Ytnablmiocbijgaa
open Go.RowKit
set_option linter.unusedVariables false

def jtB (a b : Nat) : Bool := (syl a && ((a - 44032) % 28 == 0)) && (decide (4520 ≤ b) && decide (b < 4547))
def jt (a b : Nat) : Nat := if jtB a b = true then a + b - 4519 else 0
theorem jt_said {a b x y c : Nat} (s : Spl a x y c) (ha : a < 4294967296) (hb : b < 4294967296) :
    andW (andW (mk (syl a)) (mk (c == 0))) (mk (decide (subW b 4520 < 27))) = mk (jtB a b) ∧
    andW (mk (jtB a b)) (addW a (addW (subW b 4520) 1)) = jt a b := by
  have e : (syl a && (c == 0)) = (syl a && ((a - 44032) % 28 == 0)) := by
    cases h : syl a with
    | false => simp
    | true =>
      have := (s.yes h).2.2
      obtain ⟨r, hr⟩ : ∃ r, (a - 44032) % 28 = r := ⟨_, rfl⟩
      rw [hr] at this ⊢
      rw [this]
  rw [andW_mks, andW_mks, num_is b 4520 27 hb (by omega), e]
  refine ⟨rfl, ?_⟩
  rw [andW_mk _ _ (addW_lt _ _)]
  unfold jt
  cases h : jtB a b with
  | false => rw [if_neg (by decide), if_neg (by decide)]
  | true =>
    rw [if_pos rfl, if_pos rfl]
    simp only [jtB, syl, Bool.and_eq_true, decide_eq_true_eq] at h
    rw [num_at b 4520 hb h.2.1]
    unfold addW
    omega
theorem join_said (a b : Nat) : orW (jv a b) (jt a b) = hjn a b ∧ orW (mk (jvB a b)) (mk (jtB a b)) = mk (jvB a b || jtB a b) ∧ (jvB a b || jtB a b) = (hjn a b != 0) ∧ hjn a b < 4294967296 := by
  rw [orW_mks]
  unfold jv jt hjn
  by_cases h1 : 4352 ≤ a ∧ a < 4371 ∧ 4449 ≤ b ∧ b < 4470
  · have e1 : jvB a b = true := by simp only [jvB, Bool.and_eq_true, decide_eq_true_eq]; omega
    have e2 : jtB a b = false := by
      have : syl a = false := by simp only [syl, Bool.and_eq_false_iff, decide_eq_false_iff_not]; omega
      simp [jtB, this]
    rw [e1, e2, if_pos rfl, if_neg (by decide), if_pos h1]
    have hX : 0 < 44032 + (a - 4352) * 588 + (b - 4449) * 28 ∧ 44032 + (a - 4352) * 588 + (b - 4449) * 28 < 4294967296 := by omega
    obtain ⟨X, hXe⟩ : ∃ X, 44032 + (a - 4352) * 588 + (b - 4449) * 28 = X := ⟨_, rfl⟩
    rw [hXe] at hX ⊢
    clear hXe h1 e1 e2
    refine ⟨?_, rfl, ?_, hX.2⟩
    · unfold orW; simp
    · have : (X != 0) = true := by simp; omega
      rw [this]; rfl
  · have e1 : jvB a b = false := by
      rw [Bool.eq_false_iff]; intro h
      simp only [jvB, Bool.and_eq_true, decide_eq_true_eq] at h
      omega
    rw [e1, if_neg (by decide), if_neg h1]
    by_cases h2 : syl a = true ∧ (a - 44032) % 28 = 0 ∧ 4520 ≤ b ∧ b ≤ 4546
    · have e2 : jtB a b = true := by simp only [jtB, Bool.and_eq_true, decide_eq_true_eq, beq_iff_eq]; exact ⟨⟨h2.1, h2.2.1⟩, h2.2.2.1, by omega⟩
      have hs := h2.1
      simp only [syl, Bool.and_eq_true, decide_eq_true_eq] at hs
      rw [e2, if_pos rfl, if_pos h2]
      have hX : 0 < a + b - 4519 ∧ a + b - 4519 < 4294967296 := by omega
      obtain ⟨X, hXe⟩ : ∃ X, a + b - 4519 = X := ⟨_, rfl⟩
      rw [hXe] at hX ⊢
      clear hXe hs h1 h2 e1 e2
      refine ⟨?_, rfl, ?_, hX.2⟩
      · unfold orW; simp
      · have : (X != 0) = true := by simp; omega
        rw [this]; rfl
    · have e2 : jtB a b = false := by
        rw [Bool.eq_false_iff]; intro h
        simp only [jtB, Bool.and_eq_true, decide_eq_true_eq, beq_iff_eq] at h
        exact h2 ⟨h.1.1, h.1.2, h.2.1, by omega⟩
      rw [e2, if_neg (by decide), if_neg h2]
      refine ⟨?_, ?_, ?_, ?_⟩
      · unfold orW; simp
      · simp
      · simp
      · omega
theorem jv_lt (a b : Nat) : jv a b < 4294967296 := by
  unfold jv
  split
  · rename_i h
    simp only [jvB, Bool.and_eq_true, decide_eq_true_eq] at h
    omega
  · decide
theorem jt_lt (a b : Nat) : jt a b < 4294967296 := by
  unfold jt
  split
  · rename_i h
    simp only [jtB, syl, Bool.and_eq_true, decide_eq_true_eq] at h
    omega
  · decide
set_option maxRecDepth 4000 in
set_option maxHeartbeats 6400000 in
theorem joinTrail_any (a b : Nat) (w : World) (ha : a < 4294967296) (hb : b < 4294967296) :
    Calls Try.prog 24 #[sec a, sec b] w fun e w' => e = .returned (.tuple #[sec (jt a b : Nat), sec (mk (jtB a b) : Nat)]) ∧ Below w.heap.size w w' := by
  go_enter Try.func24, Try.ntmps24
  go_wp2_with fail
  have HR := hid (show R2 ((((w.alloc (sb a)).alloc (sb b)).alloc (sb 0)).alloc (sb 0)) w.heap.size 0 0 from ⟨(by simp only [hp_get, World.size_alloc]; repeat (first | rw [if_pos trivial] | rw [if_pos rfl] | rw [if_neg (by omega)])), (by simp only [hp_get, World.size_alloc]; repeat (first | rw [if_pos trivial] | rw [if_pos rfl] | rw [if_neg (by omega)]))⟩)
  have Ha := hid (show ((((w.alloc (sb a)).alloc (sb b)).alloc (sb 0)).alloc (sb 0)).heap[w.heap.size]? = some (sb a) from (by simp only [hp_get, World.size_alloc]; repeat (first | rw [if_pos trivial] | rw [if_pos rfl] | rw [if_neg (by omega)])))
  have Hb := hid (show ((((w.alloc (sb a)).alloc (sb b)).alloc (sb 0)).alloc (sb 0)).heap[w.heap.size + 1]? = some (sb b) from (by simp only [hp_get, World.size_alloc]; repeat (first | rw [if_pos trivial] | rw [if_pos rfl] | rw [if_neg (by omega)])))
  have HB := hid (show Below w.heap.size w ((((w.alloc (sb a)).alloc (sb b)).alloc (sb 0)).alloc (sb 0)) from (by repeat (first | exact Below.refl _ _ | refine blw_alloc ?_ | refine blw_drew ?_ | assumption)))
  generalize (((w.alloc (sb a)).alloc (sb b)).alloc (sb 0)).alloc (sb 0) = w2 at *
  obtain ⟨N, hN⟩ : ∃ N, w.heap.size = N := ⟨_, rfl⟩
  have HN := hid hN
  rw [hN] at Ha Hb HR ⊢
  clear hN
  refine (split_any a _ ha).mono ?_
  rintro e w3 ⟨x, y0, c, rfl, hs, hB3⟩
  have HJ := hid (jt_said hs ha hb)
  have LC : W32 c := ⟨hs.lc⟩
  have R3 := hid (HR.out.below hB3)
  have B3 := hid (belowCat HB.out hB3)
  have a3 := hid (hpB hB3 Ha.out)
  have b3 := hid (hpB hB3 Hb.out)
  obtain ⟨m1, hm1⟩ : ∃ x, mk (syl a) = x := ⟨_, rfl⟩
  have M1 : W32 m1 := ⟨by rw [← hm1]; exact mk_lt _⟩
  rw [hm1] at HJ ⊢
  clear hB3 HR HB Ha Hb hm1 hs
  go_upto_region 2 with fail
  have Q0 := hid (show ((((w3.alloc (sb (x : Nat))).alloc (sb (y0 : Nat))).alloc (sb (c : Nat))).alloc (sb (m1 : Nat))).heap[w3.heap.size + 1 + 1]? = some (sb (c : Nat)) from (by simp only [hp_get, World.size_alloc]; repeat (first | rw [if_pos trivial] | rw [if_pos rfl] | rw [if_neg (by omega)])))
  have Q1 := hid (show ((((w3.alloc (sb (x : Nat))).alloc (sb (y0 : Nat))).alloc (sb (c : Nat))).alloc (sb (m1 : Nat))).heap[w3.heap.size + 1 + 1 + 1]? = some (sb (m1 : Nat)) from (by simp only [hp_get, World.size_alloc]; repeat (first | rw [if_pos trivial] | rw [if_pos rfl] | rw [if_neg (by omega)])))
  have hBA := show Below w3.heap.size w3 ((((w3.alloc (sb (x : Nat))).alloc (sb (y0 : Nat))).alloc (sb (c : Nat))).alloc (sb (m1 : Nat))) from (by repeat (first | exact Below.refl _ _ | refine blw_alloc ?_ | refine blw_drew ?_ | assumption))
  have R4 := hid (R3.out.below hBA)
  have B4 := hid (belowCat B3.out hBA)
  have HMN := hid (show N + 1 + 1 + 1 < w3.heap.size from lt_of_heap R3.out.h2)
  have a4 := hid (hpB hBA a3.out)
  have b4 := hid (hpB hBA b3.out)
  clear hBA R3 B3 b3 a3
  generalize (((w3.alloc (sb (x : Nat))).alloc (sb (y0 : Nat))).alloc (sb (c : Nat))).alloc (sb (m1 : Nat)) = w4 at *
  obtain ⟨M, hM⟩ : ∃ M, w3.heap.size = M := ⟨_, rfl⟩
  rw [hM] at Q0 Q1 HMN ⊢
  clear hM
  have k1 := cell_sb b4.out
  go_wp2_with fail
  refine (number_any b 4520 27 _ hb (by decide) (by decide)).mono ?_
  rintro e w5 ⟨rfl, hB5⟩
  have R5 := hid (R4.out.below hB5)
  have B5 := hid (belowCat B4.out hB5)
  have a5 := hid (hpB hB5 a4.out)
  have q0 := hid (hpB hB5 Q0.out)
  have q1 := hid (hpB hB5 Q1.out)
  have h2 : W32 _ := ⟨subW_lt b 4520⟩
  obtain ⟨m2, hm2⟩ : ∃ x, mk (decide (subW b 4520 < 27)) = x := ⟨_, rfl⟩
  have M2 : W32 m2 := ⟨by rw [← hm2]; exact mk_lt _⟩
  rw [hm2] at HJ ⊢
  obtain ⟨t, hte⟩ : ∃ x, subW b 4520 = x := ⟨_, rfl⟩
  rw [hte] at HJ h2 ⊢
  clear hB5 R4 B4 Q0 Q1 hm2 hte b4 k1 a4
  go_upto_region 3 with fail
  have P0 := hid (show ((w5.alloc (sb (t : Nat))).alloc (sb (m2 : Nat))).heap[w5.heap.size]? = some (sb (t : Nat)) from (by simp only [hp_get, World.size_alloc]; repeat (first | rw [if_pos trivial] | rw [if_pos rfl] | rw [if_neg (by omega)])))
  have P1 := hid (show ((w5.alloc (sb (t : Nat))).alloc (sb (m2 : Nat))).heap[w5.heap.size + 1]? = some (sb (m2 : Nat)) from (by simp only [hp_get, World.size_alloc]; repeat (first | rw [if_pos trivial] | rw [if_pos rfl] | rw [if_neg (by omega)])))
  have hBA := show Below w5.heap.size w5 ((w5.alloc (sb (t : Nat))).alloc (sb (m2 : Nat))) from (by repeat (first | exact Below.refl _ _ | refine blw_alloc ?_ | refine blw_drew ?_ | assumption))
  have R6 := hid (R5.out.below hBA)
  have B6 := hid (belowCat B5.out hBA)
  have a6 := hid (hpB hBA a5.out)
  have q0' := hid (hpB hBA q0.out)
  have q1' := hid (hpB hBA q1.out)
  have HPN := hid (show M + 1 + 1 + 1 < w5.heap.size from lt_of_heap q1.out)
  clear hBA R5 B5 q0 q1 a5
  generalize (w5.alloc (sb (t : Nat))).alloc (sb (m2 : Nat)) = w6 at *
  obtain ⟨P, hP⟩ : ∃ P, w5.heap.size = P := ⟨_, rfl⟩
  rw [hP] at P0 P1 HPN ⊢
  clear hP
  obtain ⟨f, hf⟩ : ∃ f, mk (jtB a b) = f := ⟨_, rfl⟩
  have HF := hid hf
  have MF : W32 f := ⟨by rw [← hf]; exact mk_lt _⟩
  rw [hf] at HJ
  obtain ⟨g, hg⟩ : ∃ g, andW m1 (mk (c == 0)) = g := ⟨_, rfl⟩
  have HG := hid hg
  have MG : W32 g := ⟨by rw [← hg]; exact andW_lt M1.out⟩
  rw [hg] at HJ
  clear hf hg
  have KB := hid (show ∀ w' : World, Below w6.heap.size w6 w' → w'.cell? ⟨M + 1 + 1 + 1, 0, none⟩ = some (.int .u32 (m1 : Nat)) ∧ w'.cell? ⟨M + 1 + 1, 0, none⟩ = some (.int .u32 (c : Nat)) ∧ w'.cell? ⟨P + 1, 0, none⟩ = some (.int .u32 (m2 : Nat)) from fun w' hb => ⟨cell_sb (hpB hb q1'.out), cell_sb (hpB hb q0'.out), cell_sb (hpB hb P1.out)⟩)
  go_cut [12] from 13 to 38 (fun q wx => ∃ z, w6.heap.size ≤ z ∧ q = .pointer (some ⟨z, 0, none⟩) ∧ wx.heap[z]? = some (sb (f : Nat)) ∧ Below w6.heap.size w6 wx)
  case first =>
    refine wp_region_held_drew (S := (fun w' => w'.cell? ⟨M + 1 + 1 + 1, 0, none⟩ = some (.int .u32 (m1 : Nat)) ∧ w'.cell? ⟨M + 1 + 1, 0, none⟩ = some (.int .u32 (c : Nat)) ∧ w'.cell? ⟨P + 1, 0, none⟩ = some (.int .u32 (m2 : Nat)))) (by kernel_rfl) (KB.out _ (blw_drew (Below.refl _ _))) (fun hHeld => ?_)
    refine tk_at (i := 0) (d := some 25) (v := ?_) rfl rfl (by kernel_rfl) (by kernel_rfl) (by kernel_rfl) (fun _ _ _ h => h) (Or.inl ⟨by rfl, ?_⟩) (by assumption) ?_
    rotate_left
    · (intro w hSw; (try dsimp only at hSw); go_simp; try (with_reducible rfl))
    simp only [Act.put, List.setIfInBounds_toArray, List.set_cons_zero, List.set_cons_succ]
    refine tk_at (i := 1) (d := some 26) (v := ?_) rfl rfl (by kernel_rfl) (by kernel_rfl) (by kernel_rfl) (fun _ _ _ h => h) (Or.inl ⟨by rfl, ?_⟩) (by assumption) ?_
    rotate_left
    · (intro w hSw; (try dsimp only at hSw); go_simp; try (with_reducible rfl))
    simp only [Act.put, List.setIfInBounds_toArray, List.set_cons_zero, List.set_cons_succ]
    refine tk_at (i := 4) (d := some 29) (v := ?_) rfl rfl (by kernel_rfl) (by kernel_rfl) (by kernel_rfl) (fun _ _ _ h => h) (Or.inl ⟨by rfl, ?_⟩) (by assumption) ?_
    rotate_left
    · (intro w hSw; (try dsimp only at hSw); go_simp; try (with_reducible rfl))
    simp only [Act.put, List.setIfInBounds_toArray, List.set_cons_zero, List.set_cons_succ]
    clear hHeld
    refine wpAnyH_inv0 (fun aC0 lsC aC wC => ∃ (b2 b3 b5 b6 b7 : Bool) (pp x27 x28 x30   : Value), lsC = #[true, true, b2, b3, true, b5, b6, b7] ∧ aC = { aC0 with tmps := ((((aC0.tmps.setIfInBounds 27 x27).setIfInBounds 28 x28).setIfInBounds 30 x30).setIfInBounds 12 pp) } ∧ (b2 = true → x27 = sec (mk (c == 0) : Nat)) ∧ (b3 = true → x28 = sec (g : Nat)) ∧ (b5 = true → x30 = sec (f : Nat)) ∧ Below w6.heap.size w6 wC ∧ Own1 w6 wC b6 b7 pp (f) ∧ (b6 || !b7) = true) ?_ _ _ _ (by decide +kernel) (fun aS => ⟨false, false, false, false, false, aS.tmps.getD 12 undef, aS.tmps.getD 27 undef, aS.tmps.getD 28 undef, aS.tmps.getD 30 undef, by kernel_rfl, by simp only [set_self], fun h => (by cases h), fun h => (by cases h), fun h => (by cases h), blw_drew (Below.refl _ _), Own1.none, rfl⟩)
    intro lsC aC wC ⟨b2, b3, b5, b6, b7, pp, x27, x28, x30, hl, ha, hx27, hx28, hx30, hBw, hpp, hcc⟩
    subst hl ha
    have Hx27 := hid hx27
    have Hx28 := hid hx28
    have Hx30 := hid hx30
    have HBW := hid hBw
    have HPP := hid hpp
    have HCC := hid hcc
    clear hx27 hx28 hx30 hBw hpp hcc
    simp only [List.setIfInBounds_toArray, List.set_cons_zero, List.set_cons_succ]
    refine ⟨fun hr => ?_, fun i hi => ?_⟩
    · have hall : (b2 && b3 && b5 && b6 && b7) = true := by
        clear Hx27 Hx28 Hx30 HBW HPP HCC
        revert b2 b3 b5 b6 b7
        decide +kernel
      simp only [Bool.and_eq_true] at hall
      obtain ⟨⟨⟨⟨rfl, rfl⟩, rfl⟩, rfl⟩, rfl⟩ := hall
      obtain ⟨z, rfl, hz1, hz2⟩ := HPP.out rfl
      obtain rfl := Hx27.out rfl
      obtain rfl := Hx28.out rfl
      obtain rfl := Hx30.out rfl
      have HR := hid (And.intro hz1 (And.intro hz2 HBW.out))
      clear hz1 hz2 Hx27 Hx28 Hx30 HBW HPP HCC hr
      (try dsimp only)
      go_wp2_with fail
      go_meet
      case rel => exact ⟨z, HR.out.1, rfl, HR.out.2.1, HR.out.2.2⟩
    · have hcase : (i = 2 ∧ b2 = false) ∨ (i = 3 ∧ b3 = false ∧ b2 = true) ∨ (i = 5 ∧ b5 = false ∧ b3 = true) ∨ (i = 6 ∧ b6 = false) ∨ (i = 7 ∧ b7 = false ∧ b6 = true ∧ b5 = true) := by
        refine of_decide_eq_true ((List.all_eq_true (p := fun i => decide ((i = 2 ∧ b2 = false) ∨ (i = 3 ∧ b3 = false ∧ b2 = true) ∨ (i = 5 ∧ b5 = false ∧ b3 = true) ∨ (i = 6 ∧ b6 = false) ∨ (i = 7 ∧ b7 = false ∧ b6 = true ∧ b5 = true)))).1 ?_ i hi)
        clear Hx27 Hx28 Hx30 HBW HPP HCC hi
        revert b2 b3 b5 b6 b7
        decide +kernel
      clear hi
      rcases hcase with ⟨rfl, rfl⟩ | ⟨rfl, rfl, rfl⟩ | ⟨rfl, rfl, rfl⟩ | ⟨rfl, rfl⟩ | ⟨rfl, rfl, rfl, rfl⟩
      · refine wpOp_shut rfl (fun K hK => ?_)
        go_simp
        refine (zero_b c _ LC.out).mono ?_
        rintro e wa ⟨rfl, hBa⟩
        have HBa := hid hBa
        clear hBa
        go_wp2_with fail
        have hB3 := belowCat HBW.out HBa.out
        exact hK.out _ _ ⟨KB.out _ hB3, true, b3, b5, b6, b7, _, _, _, _, by kernel_rfl, rfl, fun _ => rfl, Hx28.out, Hx30.out, hB3, HPP.out.below HBa.out, HCC.out⟩
      · obtain rfl := Hx27.out rfl
        refine wpOp_shut rfl (fun K hK => ?_)
        go_simp
        refine (and_b m1 (mk (c == 0)) _ M1.out (mk_lt _)).mono ?_
        rintro e wa ⟨rfl, hBa⟩
        rw [HG.out]
        have HBa := hid hBa
        clear hBa
        go_wp2_with fail
        have hB3 := belowCat HBW.out HBa.out
        exact hK.out _ _ ⟨KB.out _ hB3, true, true, b5, b6, b7, _, _, _, _, by kernel_rfl, rfl, fun _ => rfl, fun _ => rfl, Hx30.out, hB3, HPP.out.below HBa.out, HCC.out⟩
      · obtain rfl := Hx28.out rfl
        refine wpOp_shut rfl (fun K hK => ?_)
        go_simp
        refine (and_b g m2 _ MG.out M2.out).mono ?_
        rintro e wa ⟨rfl, hBa⟩
        rw [HJ.out.1]
        have HBa := hid hBa
        clear hBa
        go_wp2_with fail
        have hB3 := belowCat HBW.out HBa.out
        exact hK.out _ _ ⟨KB.out _ hB3, b2, true, true, b6, b7, _, _, _, _, by kernel_rfl, rfl, Hx27.out, fun _ => rfl, fun _ => rfl, hB3, HPP.out.below HBa.out, HCC.out⟩
      · obtain rfl : b7 = false := by have := HCC.out; revert this; cases b7 <;> simp
        refine wpOp_shut rfl (fun K hK => ?_)
        go_simp
        go_wp2_with fail
        have hBa := (Below.refl wC.heap.size wC).alloc (Nat.le_refl _) (.cells #[.int .u32 0] 28 (0, 0))
        have hB3 := belowCat HBW.out hBa
        exact hK.out _ _ ⟨KB.out _ hB3, b2, b3, b5, true, false, _, _, _, _, by kernel_rfl, rfl, Hx27.out, Hx28.out, Hx30.out, hB3, Own1.new HBW.out, rfl⟩
      · obtain ⟨z, rfl, hz1, hz2⟩ := HPP.out rfl
        obtain rfl := Hx30.out rfl
        have c0 := cell_of_heap (i := 0) hz2 rfl
        have g0 := frozen_of_heap (i := 0) hz2
        have HZ := hid (And.intro hz1 hz2)
        clear hz1 hz2
        refine wpOp_shut rfl (fun K hK => ?_)
        go_simp
        go_wp2_with fail
        have hB3 := HBW.out.setCell (p := ⟨z, 0, none⟩) HZ.out.1 (.int .u32 ((f : Nat) : Int))
        exact hK.out _ _ ⟨KB.out _ hB3, b2, b3, true, true, true, _, _, _, _, by kernel_rfl, rfl, Hx27.out, Hx28.out, fun _ => rfl, hB3, fun _ => ⟨z, rfl, HZ.out.1, own_put HZ.out.2⟩, rfl⟩
  case rest =>
    obtain ⟨z, hz, rfl, hbz, hBc⟩ := hcut
    have HZ := hid hbz
    have RX := hid (R6.out.below hBc)
    have GB := hid (belowCat B6.out hBc)
    have fa := hid (hpB hBc a6.out)
    have fp := hid (hpB hBc P0.out)
    have HZN := hid (show P < z from Nat.lt_of_lt_of_le (lt_of_heap P0.out) hz)
    have HJ2 := hid HJ.out.2
    clear hbz hBc hz KB R6 B6 q0' q1' P0 P1 a6 HJ HG
    have KC := hid (show ∀ w' : World, Below wc.heap.size wc w' → w'.cell? ⟨z, 0, none⟩ = some (.int .u32 (f : Nat)) ∧ w'.cell? ⟨N, 0, none⟩ = some (.int .u32 (a : Nat)) ∧ w'.cell? ⟨P, 0, none⟩ = some (.int .u32 (t : Nat)) from fun w' hb => ⟨cell_sb (hpB hb HZ.out), cell_sb (hpB hb fa.out), cell_sb (hpB hb fp.out)⟩)
    go_upto_region 4 with fail
    refine wp_region_held_drew (S := (fun w' => w'.cell? ⟨z, 0, none⟩ = some (.int .u32 (f : Nat)) ∧ w'.cell? ⟨N, 0, none⟩ = some (.int .u32 (a : Nat)) ∧ w'.cell? ⟨P, 0, none⟩ = some (.int .u32 (t : Nat)))) (by kernel_rfl) (KC.out _ (blw_drew (Below.refl _ _))) (fun hHeld => ?_)
    refine tk_at (i := 0) (d := some 31) (v := ?_) rfl rfl (by kernel_rfl) (by kernel_rfl) (by kernel_rfl) (fun _ _ _ h => h) (Or.inl ⟨by rfl, ?_⟩) (by assumption) ?_
    rotate_left
    · (intro w hSw; (try dsimp only at hSw); go_simp; try (with_reducible rfl))
    simp only [Act.put, List.setIfInBounds_toArray, List.set_cons_zero, List.set_cons_succ]
    refine tk_at (i := 1) (d := some 32) (v := ?_) rfl rfl (by kernel_rfl) (by kernel_rfl) (by kernel_rfl) (fun _ _ _ h => h) (Or.inl ⟨by rfl, ?_⟩) (by assumption) ?_
    rotate_left
    · (intro w hSw; (try dsimp only at hSw); go_simp; try (with_reducible rfl))
    simp only [Act.put, List.setIfInBounds_toArray, List.set_cons_zero, List.set_cons_succ]
    refine tk_at (i := 2) (d := some 33) (v := ?_) rfl rfl (by kernel_rfl) (by kernel_rfl) (by kernel_rfl) (fun _ _ _ h => h) (Or.inl ⟨by rfl, ?_⟩) (by assumption) ?_
    rotate_left
    · (intro w hSw; (try dsimp only at hSw); go_simp; try (with_reducible rfl))
    simp only [Act.put, List.setIfInBounds_toArray, List.set_cons_zero, List.set_cons_succ]
    refine tk_at (i := 7) (d := some 38) (v := ?_) rfl rfl (by kernel_rfl) (by kernel_rfl) (by kernel_rfl) (fun _ _ _ h => h) (Or.inl ⟨by rfl, ?_⟩) (by assumption) ?_
    rotate_left
    · (intro w hSw; (try dsimp only at hSw); go_simp; try (with_reducible rfl))
    simp only [Act.put, List.setIfInBounds_toArray, List.set_cons_zero, List.set_cons_succ]
    refine wpAnyH_ready (rs := [3]) (by kernel_rfl) (by simp) ?_
    refine AllReadyH.cons rfl (fun K hK => ?_) AllReadyH.nil
    go_simp
    refine (of_b _ _).mono ?_
    rintro e x5 ⟨rfl, hB5⟩
    have C5 := hid (belowCat (blw_drew (Below.refl _ _)) hB5)
    clear hB5
    go_wp2_with fail
    refine hK.out _ _ (KC.out _ C5.out) (fun hHeld => ?_)
    clear hK K
    try simp only [Act.put, List.setIfInBounds_toArray, List.set_cons_zero, List.set_cons_succ]
    refine wpAnyH_ready (rs := [4]) (by kernel_rfl) (by simp) ?_
    refine AllReadyH.cons rfl (fun K hK => ?_) AllReadyH.nil
    go_simp
    refine (add_b t 1 _ h2.out (by decide)).mono ?_
    rintro e x6 ⟨rfl, hB6⟩
    have C6 := hid (belowCat C5.out hB6)
    clear hB6
    go_wp2_with fail
    refine hK.out _ _ (KC.out _ C6.out) (fun hHeld => ?_)
    clear hK K
    try simp only [Act.put, List.setIfInBounds_toArray, List.set_cons_zero, List.set_cons_succ]
    refine wpAnyH_ready (rs := [5]) (by kernel_rfl) (by simp) ?_
    refine AllReadyH.cons rfl (fun K hK => ?_) AllReadyH.nil
    go_simp
    refine (add_b a (addW t 1) _ ha (addW_lt _ _)).mono ?_
    rintro e x7 ⟨rfl, hB7⟩
    have C7 := hid (belowCat C6.out hB7)
    clear hB7
    go_wp2_with fail
    refine hK.out _ _ (KC.out _ C7.out) (fun hHeld => ?_)
    clear hK K
    try simp only [Act.put, List.setIfInBounds_toArray, List.set_cons_zero, List.set_cons_succ]
    refine wpAnyH_ready (rs := [6]) (by kernel_rfl) (by simp) ?_
    refine AllReadyH.cons rfl (fun K hK => ?_) AllReadyH.nil
    go_simp
    refine (and_b f (addW a (addW t 1)) _ MF.out (addW_lt _ _)).mono ?_
    rintro e x8 ⟨rfl, hB8⟩
    rw [HJ2.out]
    have C8 := hid (belowCat C7.out hB8)
    clear hB8
    go_wp2_with fail
    refine hK.out _ _ (KC.out _ C8.out) (fun hHeld => ?_)
    clear hK K
    try simp only [Act.put, List.setIfInBounds_toArray, List.set_cons_zero, List.set_cons_succ]
    have RY := hid (RX.out.below C8.out)
    have BY := hid (belowCat GB.out C8.out)
    have c1 := cell_sb RY.out.h1
    have f1 := fz_sb RY.out.h1
    have c2 := cell_sb (RY.out.put1 (jt a b : Nat)).h2
    have f2 := fz_sb (RY.out.put1 (jt a b : Nat)).h2
    have KD := hid (KC.out _ C8.out)
    have HN2 := hid (show N + 1 + 1 + 1 < P ∧ N + 1 + 1 + 1 < z by have := HMN.out; have := HPN.out; have := HZN.out; omega)
    clear hHeld RX GB fa fp HZ KC C5 C6 C7 C8
    refine wpAnyH_ready (rs := [8]) (by kernel_rfl) (by simp) ?_
    refine AllReadyH.cons rfl (fun K hK => ?_) AllReadyH.nil
    go_simp
    go_wp2_with fail
    refine hK.out _ _ (⟨cell_off (KD.out).1 (by have := HN2.out; omega), cell_off (KD.out).2.1 (by omega), cell_off (KD.out).2.2 (by have := HN2.out; omega)⟩) (fun hHeld => ?_)
    clear hK K
    try simp only [Act.put, List.setIfInBounds_toArray, List.set_cons_zero, List.set_cons_succ]
    refine wpAnyH_ready (rs := [9]) (by kernel_rfl) (by simp) ?_
    refine AllReadyH.cons rfl (fun K hK => ?_) AllReadyH.nil
    go_simp
    go_wp2_with fail
    refine hK.out _ _ (⟨cell_off hHeld.1 (by have := HN2.out; omega), cell_off hHeld.2.1 (by omega), cell_off hHeld.2.2 (by have := HN2.out; omega)⟩) (fun hHeld => ?_)
    clear hK K
    try simp only [Act.put, List.setIfInBounds_toArray, List.set_cons_zero, List.set_cons_succ]
    refine wpAnyH_done (by kernel_rfl) ?_ _
    clear hHeld
    obtain ⟨d1, d2⟩ := ((RY.out.put1 (jt a b : Nat)).put2 (f : Nat)).cells
    clear c1 f1 c2 f2
    go_wp2
    exact bodyPost_ret (v := .tuple #[sec (jt a b : Nat), sec (f : Nat)]) (by simp only [results, Try.results24]; simp [go_sem, d1, d2]) rfl
      ⟨by rw [HF.out], blw_set _ (blw_set _ BY.out (by have := HN.out; show w.heap.size ≤ N + 1 + 1; omega)) (by have := HN.out; show w.heap.size ≤ N + 1 + 1 + 1; omega)⟩
set_option maxRecDepth 4000 in
set_option maxHeartbeats 6400000 in
theorem join_any (a b : Nat) (w : World) (ha : a < 4294967296) (hb : b < 4294967296) :
    Calls Try.prog 11 #[sec a, sec b] w fun e w' => e = .returned (.tuple #[sec (hjn a b : Nat), sec (mk (hjn a b != 0) : Nat)]) ∧ Below w.heap.size w w' := by
  have HJ := hid (join_said a b)
  have L1 : W32 _ := ⟨jv_lt a b⟩
  have L2 : W32 _ := ⟨jt_lt a b⟩
  go_enter Try.func11, Try.ntmps11
  go_wp2_with fail
  have HR := hid (show R2 ((((w.alloc (sb a)).alloc (sb b)).alloc (sb 0)).alloc (sb 0)) w.heap.size 0 0 from ⟨(by simp only [hp_get, World.size_alloc]; repeat (first | rw [if_pos trivial] | rw [if_pos rfl] | rw [if_neg (by omega)])), (by simp only [hp_get, World.size_alloc]; repeat (first | rw [if_pos trivial] | rw [if_pos rfl] | rw [if_neg (by omega)]))⟩)
  have Ha := hid (show ((((w.alloc (sb a)).alloc (sb b)).alloc (sb 0)).alloc (sb 0)).heap[w.heap.size]? = some (sb a) from (by simp only [hp_get, World.size_alloc]; repeat (first | rw [if_pos trivial] | rw [if_pos rfl] | rw [if_neg (by omega)])))
  have Hb := hid (show ((((w.alloc (sb a)).alloc (sb b)).alloc (sb 0)).alloc (sb 0)).heap[w.heap.size + 1]? = some (sb b) from (by simp only [hp_get, World.size_alloc]; repeat (first | rw [if_pos trivial] | rw [if_pos rfl] | rw [if_neg (by omega)])))
  have HB := hid (show Below w.heap.size w ((((w.alloc (sb a)).alloc (sb b)).alloc (sb 0)).alloc (sb 0)) from (by repeat (first | exact Below.refl _ _ | refine blw_alloc ?_ | refine blw_drew ?_ | assumption)))
  generalize (((w.alloc (sb a)).alloc (sb b)).alloc (sb 0)).alloc (sb 0) = w2 at *
  obtain ⟨N, hN⟩ : ∃ N, w.heap.size = N := ⟨_, rfl⟩
  have HN := hid hN
  rw [hN] at Ha Hb HR ⊢
  clear hN
  refine (joinVowel_any a b _ ha hb).mono ?_
  rintro e w3 ⟨rfl, hB3⟩
  have R3 := hid (HR.out.below hB3)
  have B3 := hid (belowCat HB.out hB3)
  have a3 := hid (hpB hB3 Ha.out)
  have b3 := hid (hpB hB3 Hb.out)
  obtain ⟨m1, hm1⟩ : ∃ x, mk (jvB a b) = x := ⟨_, rfl⟩
  have M1 : W32 m1 := ⟨by rw [← hm1]; exact mk_lt _⟩
  rw [hm1] at HJ ⊢
  obtain ⟨s, hse⟩ : ∃ x, jv a b = x := ⟨_, rfl⟩
  rw [hse] at HJ L1 ⊢
  clear hB3 HR HB Ha Hb hm1 hse
  go_upto_region 2 with fail
  have Q0 := hid (show ((w3.alloc (sb (s : Nat))).alloc (sb (m1 : Nat))).heap[w3.heap.size]? = some (sb (s : Nat)) from (by simp only [hp_get, World.size_alloc]; repeat (first | rw [if_pos trivial] | rw [if_pos rfl] | rw [if_neg (by omega)])))
  have Q1 := hid (show ((w3.alloc (sb (s : Nat))).alloc (sb (m1 : Nat))).heap[w3.heap.size + 1]? = some (sb (m1 : Nat)) from (by simp only [hp_get, World.size_alloc]; repeat (first | rw [if_pos trivial] | rw [if_pos rfl] | rw [if_neg (by omega)])))
  have hBA := show Below w3.heap.size w3 ((w3.alloc (sb (s : Nat))).alloc (sb (m1 : Nat))) from (by repeat (first | exact Below.refl _ _ | refine blw_alloc ?_ | refine blw_drew ?_ | assumption))
  have R4 := hid (R3.out.below hBA)
  have B4 := hid (belowCat B3.out hBA)
  have HMN := hid (show N + 1 + 1 + 1 < w3.heap.size from lt_of_heap R3.out.h2)
  have a4 := hid (hpB hBA a3.out)
  have b4 := hid (hpB hBA b3.out)
  clear hBA R3 B3 b3 a3
  generalize (w3.alloc (sb (s : Nat))).alloc (sb (m1 : Nat)) = w4 at *
  obtain ⟨M, hM⟩ : ∃ M, w3.heap.size = M := ⟨_, rfl⟩
  rw [hM] at Q0 Q1 HMN ⊢
  clear hM
  have k0 := cell_sb a4.out
  have k1 := cell_sb b4.out
  go_wp2_with fail
  refine (joinTrail_any a b _ ha hb).mono ?_
  rintro e w5 ⟨rfl, hB5⟩
  have R5 := hid (R4.out.below hB5)
  have B5 := hid (belowCat B4.out hB5)
  have q0 := hid (hpB hB5 Q0.out)
  have q1 := hid (hpB hB5 Q1.out)
  obtain ⟨m2, hm2⟩ : ∃ x, mk (jtB a b) = x := ⟨_, rfl⟩
  have M2 : W32 m2 := ⟨by rw [← hm2]; exact mk_lt _⟩
  rw [hm2] at HJ ⊢
  obtain ⟨t, hte⟩ : ∃ x, jt a b = x := ⟨_, rfl⟩
  rw [hte] at HJ L2 ⊢
  clear hB5 R4 B4 Q0 Q1 hm2 hte b4 a4 k1 k0
  go_upto_region 3 with fail
  have P0 := hid (show ((w5.alloc (sb (t : Nat))).alloc (sb (m2 : Nat))).heap[w5.heap.size]? = some (sb (t : Nat)) from (by simp only [hp_get, World.size_alloc]; repeat (first | rw [if_pos trivial] | rw [if_pos rfl] | rw [if_neg (by omega)])))
  have P1 := hid (show ((w5.alloc (sb (t : Nat))).alloc (sb (m2 : Nat))).heap[w5.heap.size + 1]? = some (sb (m2 : Nat)) from (by simp only [hp_get, World.size_alloc]; repeat (first | rw [if_pos trivial] | rw [if_pos rfl] | rw [if_neg (by omega)])))
  have hBA := show Below w5.heap.size w5 ((w5.alloc (sb (t : Nat))).alloc (sb (m2 : Nat))) from (by repeat (first | exact Below.refl _ _ | refine blw_alloc ?_ | refine blw_drew ?_ | assumption))
  have R6 := hid (R5.out.below hBA)
  have B6 := hid (belowCat B5.out hBA)
  have q0' := hid (hpB hBA q0.out)
  have q1' := hid (hpB hBA q1.out)
  have HPN := hid (show M + 1 < w5.heap.size from lt_of_heap q1.out)
  clear hBA R5 B5 q0 q1
  generalize (w5.alloc (sb (t : Nat))).alloc (sb (m2 : Nat)) = w6 at *
  obtain ⟨P, hP⟩ : ∃ P, w5.heap.size = P := ⟨_, rfl⟩
  rw [hP] at P0 P1 HPN ⊢
  clear hP
  have KC := hid (show ∀ w' : World, Below w6.heap.size w6 w' → w'.cell? ⟨M, 0, none⟩ = some (.int .u32 (s : Nat)) ∧ w'.cell? ⟨P, 0, none⟩ = some (.int .u32 (t : Nat)) ∧ w'.cell? ⟨M + 1, 0, none⟩ = some (.int .u32 (m1 : Nat)) ∧ w'.cell? ⟨P + 1, 0, none⟩ = some (.int .u32 (m2 : Nat)) from fun w' hb => ⟨cell_sb (hpB hb q0'.out), cell_sb (hpB hb P0.out), cell_sb (hpB hb q1'.out), cell_sb (hpB hb P1.out)⟩)
  refine wp_region_held_drew (S := (fun w' => w'.cell? ⟨M, 0, none⟩ = some (.int .u32 (s : Nat)) ∧ w'.cell? ⟨P, 0, none⟩ = some (.int .u32 (t : Nat)) ∧ w'.cell? ⟨M + 1, 0, none⟩ = some (.int .u32 (m1 : Nat)) ∧ w'.cell? ⟨P + 1, 0, none⟩ = some (.int .u32 (m2 : Nat)))) (by kernel_rfl) (KC.out _ (blw_drew (Below.refl _ _))) (fun hHeld => ?_)
  refine tk_at (i := 0) (d := some 22) (v := ?_) rfl rfl (by kernel_rfl) (by kernel_rfl) (by kernel_rfl) (fun _ _ _ h => h) (Or.inl ⟨by rfl, ?_⟩) (by assumption) ?_
  rotate_left
  · (intro w hSw; (try dsimp only at hSw); go_simp; try (with_reducible rfl))
  simp only [Act.put, List.setIfInBounds_toArray, List.set_cons_zero, List.set_cons_succ]
  refine tk_at (i := 1) (d := some 23) (v := ?_) rfl rfl (by kernel_rfl) (by kernel_rfl) (by kernel_rfl) (fun _ _ _ h => h) (Or.inl ⟨by rfl, ?_⟩) (by assumption) ?_
  rotate_left
  · (intro w hSw; (try dsimp only at hSw); go_simp; try (with_reducible rfl))
  simp only [Act.put, List.setIfInBounds_toArray, List.set_cons_zero, List.set_cons_succ]
  refine tk_at (i := 3) (d := some 25) (v := ?_) rfl rfl (by kernel_rfl) (by kernel_rfl) (by kernel_rfl) (fun _ _ _ h => h) (Or.inl ⟨by rfl, ?_⟩) (by assumption) ?_
  rotate_left
  · (intro w hSw; (try dsimp only at hSw); go_simp; try (with_reducible rfl))
  simp only [Act.put, List.setIfInBounds_toArray, List.set_cons_zero, List.set_cons_succ]
  refine tk_at (i := 4) (d := some 26) (v := ?_) rfl rfl (by kernel_rfl) (by kernel_rfl) (by kernel_rfl) (fun _ _ _ h => h) (Or.inl ⟨by rfl, ?_⟩) (by assumption) ?_
  rotate_left
  · (intro w hSw; (try dsimp only at hSw); go_simp; try (with_reducible rfl))
  simp only [Act.put, List.setIfInBounds_toArray, List.set_cons_zero, List.set_cons_succ]
  refine wpAnyH_ready (rs := [2]) (by kernel_rfl) (by simp) ?_
  refine AllReadyH.cons rfl (fun K hK => ?_) AllReadyH.nil
  go_simp
  refine (or_b s t _ L1.out L2.out).mono ?_
  rintro e x5 ⟨rfl, hB5⟩
  rw [HJ.out.1]
  have C5 := hid (belowCat (blw_drew (Below.refl _ _)) hB5)
  clear hB5
  go_wp2_with fail
  refine hK.out _ _ (KC.out _ C5.out) (fun hHeld => ?_)
  clear hK K
  try simp only [Act.put, List.setIfInBounds_toArray, List.set_cons_zero, List.set_cons_succ]
  refine wpAnyH_ready (rs := [5]) (by kernel_rfl) (by simp) ?_
  refine AllReadyH.cons rfl (fun K hK => ?_) AllReadyH.nil
  go_simp
  refine (or_b m1 m2 _ M1.out M2.out).mono ?_
  rintro e x6 ⟨rfl, hB6⟩
  rw [HJ.out.2.1, HJ.out.2.2.1]
  have C6 := hid (belowCat C5.out hB6)
  clear hB6
  go_wp2_with fail
  refine hK.out _ _ (KC.out _ C6.out) (fun hHeld => ?_)
  clear hK K
  try simp only [Act.put, List.setIfInBounds_toArray, List.set_cons_zero, List.set_cons_succ]
  have RY := hid (R6.out.below C6.out)
  have BY := hid (belowCat B6.out C6.out)
  have c1 := cell_sb RY.out.h1
  have f1 := fz_sb RY.out.h1
  have c2 := cell_sb (RY.out.put1 (hjn a b : Nat)).h2
  have f2 := fz_sb (RY.out.put1 (hjn a b : Nat)).h2
  have KD := hid (KC.out _ C6.out)
  have HN2 := hid (show N + 1 + 1 + 1 < M ∧ N + 1 + 1 + 1 < P by have := HMN.out; have := HPN.out; omega)
  clear hHeld q0' q1' P0 P1 KC C5 C6 R6 B6
  refine wpAnyH_ready (rs := [6]) (by kernel_rfl) (by simp) ?_
  refine AllReadyH.cons rfl (fun K hK => ?_) AllReadyH.nil
  go_simp
  go_wp2_with fail
  refine hK.out _ _ (⟨cell_off (KD.out).1 (by have := HN2.out; omega), cell_off (KD.out).2.1 (by have := HN2.out; omega), cell_off (KD.out).2.2.1 (by have := HN2.out; omega), cell_off (KD.out).2.2.2 (by have := HN2.out; omega)⟩) (fun hHeld => ?_)
  clear hK K
  try simp only [Act.put, List.setIfInBounds_toArray, List.set_cons_zero, List.set_cons_succ]
  refine wpAnyH_ready (rs := [7]) (by kernel_rfl) (by simp) ?_
  refine AllReadyH.cons rfl (fun K hK => ?_) AllReadyH.nil
  go_simp
  go_wp2_with fail
  refine hK.out _ _ (⟨cell_off hHeld.1 (by have := HN2.out; omega), cell_off hHeld.2.1 (by have := HN2.out; omega), cell_off hHeld.2.2.1 (by have := HN2.out; omega), cell_off hHeld.2.2.2 (by have := HN2.out; omega)⟩) (fun hHeld => ?_)
  clear hK K
  try simp only [Act.put, List.setIfInBounds_toArray, List.set_cons_zero, List.set_cons_succ]
  refine wpAnyH_done (by kernel_rfl) ?_ _
  clear hHeld
  obtain ⟨d1, d2⟩ := ((RY.out.put1 (hjn a b : Nat)).put2 (mk (hjn a b != 0) : Nat)).cells
  clear c1 f1 c2 f2
  go_wp2
  exact bodyPost_ret (v := .tuple #[sec (hjn a b : Nat), sec (mk (hjn a b != 0) : Nat)]) (by simp only [results, Try.results11]; simp [go_sem, d1, d2]) rfl
    ⟨rfl, blw_set _ (blw_set _ BY.out (by have := HN.out; show w.heap.size ≤ N + 1 + 1; omega)) (by have := HN.out; show w.heap.size ≤ N + 1 + 1 + 1; omega)⟩
end Go.Proofs.Ytnablmiocbijgaa
