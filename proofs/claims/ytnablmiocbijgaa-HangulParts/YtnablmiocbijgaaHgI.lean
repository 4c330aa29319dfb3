/- The laws' awake of layer 11, and the law HangulJoins, over this seat's translation. Conditions: the words' bounds. -/
import Derived.Test.YtnablmiocbijgaaHgH
namespace Go.Proofs.Ytnablmiocbijgaa
open Go.RowKit
set_option linter.unusedVariables false

set_option maxRecDepth 4000 in
set_option maxHeartbeats 3200000 in
theorem awake11_any (w : World) : Calls Try.prog 5 #[] w fun e w' => e = .returned (.bool true) ∧ Below w.heap.size w w' := by
  have E0 := hid (show pa0 44033 = 4352 by decide +kernel)
  have E1 := hid (show pa1 44033 = 4449 by decide +kernel)
  have E2 := hid (show pa2 44033 = 4520 by decide +kernel)
  have E3 := hid (show mk (syl 44033) = 4294967295 by decide +kernel)
  go_enter Try.func5, Try.ntmps5
  go_wp2_with fail
  refine (of_b _ _).mono ?_
  rintro e w1 ⟨rfl, hB1⟩
  have B1 := hid hB1
  clear hB1
  go_wp2_with fail
  refine (parts_any 44033 _ (by decide)).mono ?_
  rintro e w2 ⟨rfl, hB2⟩
  have B2 := hid (belowCat B1.out hB2)
  rw [E0.out, E1.out, E2.out, E3.out]
  clear hB2 B1 E0 E1 E2 E3
  go_wp2_with fail
  refine (spans_any _).mono ?_
  rintro e w9 ⟨rfl, rfl⟩
  have Q0 := hid (show (((w2.alloc (.cells #[.int .u32 4352, .int .u32 4449, .int .u32 4520] 29)).alloc (sb 4294967295)).alloc (.cells #[.int .u32 44032, .int .u32 55203] 46)).heap[w2.heap.size]? = some (.cells #[.int .u32 4352, .int .u32 4449, .int .u32 4520] 29) from (by simp only [hp_get, World.size_alloc]; repeat (first | rw [if_pos trivial] | rw [if_pos rfl] | rw [if_neg (by omega)])))
  have Q1 := hid (show (((w2.alloc (.cells #[.int .u32 4352, .int .u32 4449, .int .u32 4520] 29)).alloc (sb 4294967295)).alloc (.cells #[.int .u32 44032, .int .u32 55203] 46)).heap[w2.heap.size + 1]? = some (sb 4294967295) from (by simp only [hp_get, World.size_alloc]; repeat (first | rw [if_pos trivial] | rw [if_pos rfl] | rw [if_neg (by omega)])))
  have Q2 := hid (show (((w2.alloc (.cells #[.int .u32 4352, .int .u32 4449, .int .u32 4520] 29)).alloc (sb 4294967295)).alloc (.cells #[.int .u32 44032, .int .u32 55203] 46)).heap[w2.heap.size + 1 + 1]? = some (.cells #[.int .u32 44032, .int .u32 55203] 46) from (by simp only [hp_get, World.size_alloc]; repeat (first | rw [if_pos trivial] | rw [if_pos rfl] | rw [if_neg (by omega)])))
  have B3 := hid (belowCat B2.out (show Below w2.heap.size w2 (((w2.alloc (.cells #[.int .u32 4352, .int .u32 4449, .int .u32 4520] 29)).alloc (sb 4294967295)).alloc (.cells #[.int .u32 44032, .int .u32 55203] 46)) from (by repeat (first | exact Below.refl _ _ | refine blw_alloc ?_ | refine blw_drew ?_ | assumption))))
  go_upto_region 3 with fail
  generalize (((w2.alloc (.cells #[.int .u32 4352, .int .u32 4449, .int .u32 4520] 29)).alloc (sb 4294967295)).alloc (.cells #[.int .u32 44032, .int .u32 55203] 46)) = w3 at *
  obtain ⟨M, hM⟩ : ∃ M, w2.heap.size = M := ⟨_, rfl⟩
  rw [hM] at Q0 Q1 Q2 ⊢
  clear hM B2
  have KC := hid (show ∀ w' : World, Below w3.heap.size w3 w' → w'.cell? ⟨M, 0, none⟩ = some (.int .u32 4352) ∧ w'.cell? ⟨M, 1, none⟩ = some (.int .u32 4449) ∧ w'.cell? ⟨M, 2, none⟩ = some (.int .u32 4520) ∧ w'.cell? ⟨M + 1, 0, none⟩ = some (.int .u32 4294967295) ∧ w'.cell? ⟨M + 1 + 1, 0, none⟩ = some (.int .u32 44032) ∧ w'.cell? ⟨M + 1 + 1, 1, none⟩ = some (.int .u32 55203) from
    fun w' hb => ⟨cell_of_heap (hpB hb Q0.out) rfl, cell_of_heap (hpB hb Q0.out) rfl, cell_of_heap (hpB hb Q0.out) rfl, cell_sb (hpB hb Q1.out), cell_of_heap (hpB hb Q2.out) rfl, cell_of_heap (hpB hb Q2.out) rfl⟩)
  clear Q0 Q1 Q2
  have k0 := (KC.out w3 (Below.refl _ _)).1
  go_wp2_with fail
  refine (is_same 4352 _).mono ?_
  rintro e w4 ⟨rfl, hB4⟩
  have C4 := hid hB4
  have k1 := (KC.out w4 C4.out).2.1
  clear hB4 k0
  go_wp2_with fail
  refine (is_same 4449 _).mono ?_
  rintro e w5 ⟨rfl, hB5⟩
  have C5 := hid (belowCat C4.out hB5)
  have k2 := (KC.out w5 C5.out).2.2.1
  clear hB5 k1 C4
  go_wp2_with fail
  refine (is_same 4520 _).mono ?_
  rintro e w6 ⟨rfl, hB6⟩
  have C6 := hid (belowCat C5.out hB6)
  have k3 := (KC.out w6 C6.out).2.2.2.1
  clear hB6 k2 C5
  go_wp2_with fail
  refine (is_same 4294967295 _).mono ?_
  rintro e w7 ⟨rfl, hB7⟩
  have C7 := hid (belowCat C6.out hB7)
  have k4 := (KC.out w7 C7.out).2.2.2.2.1
  have k5 := (KC.out w7 C7.out).2.2.2.2.2
  clear hB7 k3 C6
  go_wp2
  go_ret
  exact ⟨rfl, belowCat B3.out C7.out⟩
set_option maxRecDepth 4000 in
set_option maxHeartbeats 3200000 in
theorem joins_law (a b : Nat) (w : World) (ha : a < 4294967296) (hb : b < 4294967296) :
    Calls Try.prog 4 #[u32 a, u32 b] w fun e w' => e = .returned (.bool true) ∧ Below w.heap.size w w' := by
  go_enter Try.func4, Try.ntmps4
  go_wp2_with fail
  refine (awake11_any _).mono ?_
  rintro e w1 ⟨rfl, hB1⟩
  have B1 := hid hB1
  clear hB1
  go_wp2_with fail
  refine (of_b _ _).mono ?_
  rintro e w2 ⟨rfl, hB2⟩
  have B2 := hid (belowCat B1.out hB2)
  clear hB2 B1
  go_wp2_with fail
  refine (of_b _ _).mono ?_
  rintro e w3 ⟨rfl, hB3⟩
  have B3 := hid (belowCat B2.out hB3)
  clear hB3 B2
  go_wp2_with fail
  refine (join_any a b _ ha hb).mono ?_
  rintro e w4 ⟨rfl, hB4⟩
  have B4 := hid (belowCat B3.out hB4)
  have RJ := hid (fun w => rjoin_any a b w ha hb)
  clear hB4 B3
  have HM := hid (mk_lt (hjn a b != 0))
  obtain ⟨T, hT⟩ : ∃ T, hjn a b = T := ⟨_, rfl⟩
  rw [hT] at RJ HM ⊢
  clear hT
  go_wp2_with fail
  have Q0 := hid (show ((w4.alloc (sb (T : Nat))).alloc (sb (mk (T != 0) : Nat))).heap[w4.heap.size]? = some (sb (T : Nat)) from (by simp only [hp_get, World.size_alloc]; repeat (first | rw [if_pos trivial] | rw [if_pos rfl] | rw [if_neg (by omega)])))
  have Q1 := hid (show ((w4.alloc (sb (T : Nat))).alloc (sb (mk (T != 0) : Nat))).heap[w4.heap.size + 1]? = some (sb (mk (T != 0) : Nat)) from (by simp only [hp_get, World.size_alloc]; repeat (first | rw [if_pos trivial] | rw [if_pos rfl] | rw [if_neg (by omega)])))
  have B5 := hid (belowCat B4.out (show Below w4.heap.size w4 ((w4.alloc (sb (T : Nat))).alloc (sb (mk (T != 0) : Nat))) from (by repeat (first | exact Below.refl _ _ | refine blw_alloc ?_ | refine blw_drew ?_ | assumption))))
  refine (RJ.out _).mono ?_
  rintro e w5 ⟨rfl, hw⟩
  rw [hw]
  clear hw RJ B4
  generalize (w4.alloc (sb (T : Nat))).alloc (sb (mk (T != 0) : Nat)) = w5 at *
  obtain ⟨M, hM⟩ : ∃ M, w4.heap.size = M := ⟨_, rfl⟩
  rw [hM] at Q0 Q1 ⊢
  clear hM
  have KC := hid (show ∀ w' : World, Below w5.heap.size w5 w' → w'.cell? ⟨M, 0, none⟩ = some (.int .u32 (T : Nat)) ∧ w'.cell? ⟨M + 1, 0, none⟩ = some (.int .u32 (mk (T != 0) : Nat)) from fun w' hb => ⟨cell_sb (hpB hb Q0.out), cell_sb (hpB hb Q1.out)⟩)
  clear Q0 Q1
  go_upto_region 5 with fail
  have HNE := hid (show ((T : Int) != 0) = (T != 0) by rw [Bool.eq_iff_iff]; simp)
  refine wp_region_held_drew (S := (fun w' => w'.cell? ⟨M, 0, none⟩ = some (.int .u32 (T : Nat)) ∧ w'.cell? ⟨M + 1, 0, none⟩ = some (.int .u32 (mk (T != 0) : Nat)))) (by kernel_rfl) (KC.out _ (blw_drew (Below.refl _ _))) (fun hHeld => ?_)
  refine tk_at (i := 0) (d := some 21) (v := ?_) rfl rfl (by kernel_rfl) (by kernel_rfl) (by kernel_rfl) (fun _ _ _ h => h) (Or.inl ⟨by rfl, ?_⟩) (by assumption) ?_
  rotate_left
  · (intro w hSw; (try dsimp only at hSw); go_simp; try (with_reducible rfl))
  simp only [Act.put, List.setIfInBounds_toArray, List.set_cons_zero, List.set_cons_succ]
  refine tk_at (i := 1) (d := some 22) (v := ?_) rfl rfl (by kernel_rfl) (by kernel_rfl) (by kernel_rfl) (fun _ _ _ h => h) (Or.inl ⟨by rfl, ?_⟩) (by assumption) ?_
  rotate_left
  · (intro w hSw; (try dsimp only at hSw); go_simp; try (with_reducible rfl))
  simp only [Act.put, List.setIfInBounds_toArray, List.set_cons_zero, List.set_cons_succ]
  refine wpAnyH_ready (rs := [2]) (by kernel_rfl) (by simp) ?_
  refine AllReadyH.cons rfl (fun K hK => ?_) AllReadyH.nil
  go_simp
  refine (is_same T _).mono ?_
  rintro e x5 ⟨rfl, hB5⟩
  have C5 := hid (belowCat (blw_drew (Below.refl _ _)) hB5)
  clear hB5
  go_wp2_with fail
  refine hK.out _ _ (KC.out _ C5.out) (fun hHeld => ?_)
  clear hK K
  try simp only [Act.put, List.setIfInBounds_toArray, List.set_cons_zero, List.set_cons_succ]
  refine tk_at (i := 3) (d := some 24) (v := ?_) rfl rfl (by kernel_rfl) (by kernel_rfl) (by kernel_rfl) (fun _ _ _ h => h) (Or.inl ⟨by rfl, ?_⟩) (by assumption) ?_
  rotate_left
  · (intro w hSw; (try dsimp only at hSw); go_simp; try (with_reducible rfl))
  simp only [Act.put, List.setIfInBounds_toArray, List.set_cons_zero, List.set_cons_succ]
  refine tk_at (i := 4) (d := some 25) (v := ?_) rfl rfl (by kernel_rfl) (by kernel_rfl) (by kernel_rfl) (fun _ _ _ h => h) (Or.inl ⟨by rfl, ?_⟩) (by assumption) ?_
  rotate_left
  · (intro w hSw; (try dsimp only at hSw); go_simp; try (with_reducible rfl))
  simp only [Act.put, List.setIfInBounds_toArray, List.set_cons_zero, List.set_cons_succ]
  refine tk_at (i := 5) (d := some 26) (v := ?_) rfl rfl (by kernel_rfl) (by kernel_rfl) (by kernel_rfl) (fun _ _ _ h => h) (Or.inl ⟨by rfl, ?_⟩) (by assumption) ?_
  rotate_left
  · (intro w hSw; (try dsimp only at hSw); go_simp; try (with_reducible rfl))
  simp only [Act.put, List.setIfInBounds_toArray, List.set_cons_zero, List.set_cons_succ]
  refine tk_at (i := 6) (d := some 27) (v := ?_) rfl rfl (by kernel_rfl) (by kernel_rfl) (by kernel_rfl) (fun _ _ _ h => h) (Or.inl ⟨by rfl, ?_⟩) (by assumption) ?_
  rotate_left
  · (intro w hSw; (try dsimp only at hSw); go_simp; try (with_reducible rfl))
  simp only [Act.put, List.setIfInBounds_toArray, List.set_cons_zero, List.set_cons_succ]
  rw [HNE.out]
  refine wpAnyH_ready (rs := [7]) (by kernel_rfl) (by simp) ?_
  refine AllReadyH.cons rfl (fun K hK => ?_) AllReadyH.nil
  go_simp
  refine (all_any (T != 0) _).mono ?_
  rintro e x6 ⟨rfl, hw⟩
  subst hw
  go_wp2_with fail
  refine hK.out _ _ (KC.out _ C5.out) (fun hHeld => ?_)
  clear hK K
  try simp only [Act.put, List.setIfInBounds_toArray, List.set_cons_zero, List.set_cons_succ]
  refine wpAnyH_ready (rs := [8]) (by kernel_rfl) (by simp) ?_
  refine AllReadyH.cons rfl (fun K hK => ?_) AllReadyH.nil
  go_simp
  refine (is_same (mk (T != 0)) _).mono ?_
  rintro e x7 ⟨rfl, hB7⟩
  have C7 := hid (belowCat C5.out hB7)
  clear hB7
  go_wp2_with fail
  refine hK.out _ _ (KC.out _ C7.out) (fun hHeld => ?_)
  clear hK K
  try simp only [Act.put, List.setIfInBounds_toArray, List.set_cons_zero, List.set_cons_succ]
  refine tk_at (i := 9) (d := some 30) (v := ?_) rfl rfl (by kernel_rfl) (by kernel_rfl) (by kernel_rfl) (fun _ _ _ h => h) (Or.inl ⟨by rfl, ?_⟩) (by assumption) ?_
  rotate_left
  · (intro w hSw; (try dsimp only at hSw); go_simp; try (with_reducible rfl))
  simp only [Act.put, List.setIfInBounds_toArray, List.set_cons_zero, List.set_cons_succ]
  refine wpAnyH_ready (rs := [10]) (by kernel_rfl) (by simp) ?_
  refine AllReadyH.cons rfl (fun K hK => ?_) AllReadyH.nil
  go_simp
  go_wp2_with fail
  refine hK.out _ _ (KC.out _ C7.out) (fun hHeld => ?_)
  clear hK K
  try simp only [Act.put, List.setIfInBounds_toArray, List.set_cons_zero, List.set_cons_succ]
  refine wpAnyH_done (by kernel_rfl) ?_ _
  clear hHeld
  go_wp2
  go_ret
  exact ⟨rfl, belowCat B5.out C7.out⟩
end Go.Proofs.Ytnablmiocbijgaa
