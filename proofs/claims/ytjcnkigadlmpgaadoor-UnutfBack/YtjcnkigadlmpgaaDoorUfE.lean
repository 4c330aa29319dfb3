/- Contracts of package utf's failed, may and Cost, and of Decode where it refuses, over this seat's translation. Conditions: the words' bounds; numbers are those of int. -/
import Derived.Test.YtjcnkigadlmpgaaDoorUfD
import Derived.Test.YtjcnkigadlmpgaaDoorRwC
import Derived.Test.YtjcnkigadlmpgaaDoorArE
namespace Go.Proofs.YtjcnkigadlmpgaaDoor
open Go.RowKit
set_option linter.unusedVariables false

set_option maxHeartbeats 1600000 in
theorem failed_any (g : Nat) (s : Us) (q : Bool) (w : World) (hr : w.heap[g]? = some (rdO s q)) (hs : s.ok) :
    Calls Tryd.prog 46 #[.pointer (some ⟨g, 0, none⟩)] w fun e w' => e = .returned (sec (mk (!good (s, q)) : Nat)) ∧ Below w.heap.size w w' := by
  have HZM := hid (fun w' => zero_b s.mo w' hs.m)
  have HN := hid (fun w' => not_c (s.mo == 0) w')
  have HO := hid (fun w' => or_c q (!(s.mo == 0)) w')
  have HGD := hid (show (!good (s, q)) = (q || !(s.mo == 0)) by unfold good; cases q <;> simp)
  rw [HGD.out]
  clear HGD
  have X0 := hid (show (w.alloc (sb 0)).heap[w.heap.size]? = some (sb 0) from heap_alloc_at _ _)
  have HB := hid (show Below w.heap.size w (w.alloc (sb 0)) from (by repeat (first | exact Below.refl _ _ | refine blw_alloc ?_ | refine blw_drew ?_ | assumption)))
  have G0 := hid (bk HB.out hr)
  have HGL := hid (lt_of_heap hr)
  clear hr hs
  go_enter Tryd.func46, Tryd.ntmps46
  go_wp2_with fail
  generalize w.alloc (sb 0) = v0 at *
  have HW := hid (show w.heap.size < v0.heap.size from lt_of_heap X0.out)
  have KB := hid (show ∀ w' : World, Below w.heap.size v0 w' → (w'.cell? ⟨g, 0, none⟩ = some (.int .u32 s.pt) ∧ w'.cell? ⟨g, 1, none⟩ = some (.int .u32 s.mo) ∧ w'.cell? ⟨g, 2, none⟩ = some (.int .u32 s.lo) ∧ w'.cell? ⟨g, 3, none⟩ = some (.int .u32 s.hi) ∧ w'.cell? ⟨g, 4, none⟩ = some (.int .u32 (mk q : Nat))) from fun w' hb => cell_rd ((hb.block _ HGL.out).trans G0.out))
  refine wp_region_held_drew (S := (fun w' => (w'.cell? ⟨g, 0, none⟩ = some (.int .u32 s.pt) ∧ w'.cell? ⟨g, 1, none⟩ = some (.int .u32 s.mo) ∧ w'.cell? ⟨g, 2, none⟩ = some (.int .u32 s.lo) ∧ w'.cell? ⟨g, 3, none⟩ = some (.int .u32 s.hi) ∧ w'.cell? ⟨g, 4, none⟩ = some (.int .u32 (mk q : Nat))))) (by kernel_rfl) (KB.out _ ((blw_drew (Below.refl _ _)).mono (Nat.le_of_lt HW.out))) (fun hHeld => ?_)
  refine tk_at (i := 0) (d := some 3) (v := ?_) rfl rfl (by kernel_rfl) (by kernel_rfl) (by kernel_rfl) (fun _ _ _ h => h) (Or.inl ⟨by rfl, ?_⟩) (by assumption) ?_
  rotate_left
  · (intro w hSw; (try dsimp only at hSw); go_simp; try (with_reducible rfl))
  simp only [Act.put, List.setIfInBounds_toArray, List.set_cons_zero, List.set_cons_succ]
  refine tk_at (i := 1) (d := some 4) (v := ?_) rfl rfl (by kernel_rfl) (by kernel_rfl) (by kernel_rfl) (fun _ _ _ h => h) (Or.inl ⟨by rfl, ?_⟩) (by assumption) ?_
  rotate_left
  · (intro w hSw; (try dsimp only at hSw); go_simp; try (with_reducible rfl))
  simp only [Act.put, List.setIfInBounds_toArray, List.set_cons_zero, List.set_cons_succ]
  refine tk_at (i := 2) (d := some 5) (v := ?_) rfl rfl (by kernel_rfl) (by kernel_rfl) (by kernel_rfl) (fun _ _ _ h => h) (Or.inl ⟨by rfl, ?_⟩) (by assumption) ?_
  rotate_left
  · (intro w hSw; (try dsimp only at hSw); go_simp; try (with_reducible rfl))
  simp only [Act.put, List.setIfInBounds_toArray, List.set_cons_zero, List.set_cons_succ]
  refine tk_at (i := 3) (d := some 6) (v := ?_) rfl rfl (by kernel_rfl) (by kernel_rfl) (by kernel_rfl) (fun _ _ _ h => h) (Or.inl ⟨by rfl, ?_⟩) (by assumption) ?_
  rotate_left
  · (intro w hSw; (try dsimp only at hSw); go_simp; try (with_reducible rfl))
  simp only [Act.put, List.setIfInBounds_toArray, List.set_cons_zero, List.set_cons_succ]
  refine tk_at (i := 4) (d := some 7) (v := ?_) rfl rfl (by kernel_rfl) (by kernel_rfl) (by kernel_rfl) (fun _ _ _ h => h) (Or.inl ⟨by rfl, ?_⟩) (by assumption) ?_
  rotate_left
  · (intro w hSw; (try dsimp only at hSw); go_simp; try (with_reducible rfl))
  simp only [Act.put, List.setIfInBounds_toArray, List.set_cons_zero, List.set_cons_succ]
  refine tk_at (i := 5) (d := some 8) (v := ?_) rfl rfl (by kernel_rfl) (by kernel_rfl) (by kernel_rfl) (fun _ _ _ h => h) (Or.inl ⟨by rfl, ?_⟩) (by assumption) ?_
  rotate_left
  · (intro w hSw; (try dsimp only at hSw); go_simp; try (with_reducible rfl))
  simp only [Act.put, List.setIfInBounds_toArray, List.set_cons_zero, List.set_cons_succ]
  refine tk_at (i := 6) (d := some 9) (v := ?_) rfl rfl (by kernel_rfl) (by kernel_rfl) (by kernel_rfl) (fun _ _ _ h => h) (Or.inl ⟨by rfl, ?_⟩) (by assumption) ?_
  rotate_left
  · (intro w hSw; (try dsimp only at hSw); go_simp; try (with_reducible rfl))
  simp only [Act.put, List.setIfInBounds_toArray, List.set_cons_zero, List.set_cons_succ]
  refine tk_at (i := 7) (d := some 10) (v := ?_) rfl rfl (by kernel_rfl) (by kernel_rfl) (by kernel_rfl) (fun _ _ _ h => h) (Or.inl ⟨by rfl, ?_⟩) (by assumption) ?_
  rotate_left
  · (intro w hSw; (try dsimp only at hSw); go_simp; try (with_reducible rfl))
  simp only [Act.put, List.setIfInBounds_toArray, List.set_cons_zero, List.set_cons_succ]
  refine tk_at (i := 8) (d := some 11) (v := ?_) rfl rfl (by kernel_rfl) (by kernel_rfl) (by kernel_rfl) (fun _ _ _ h => h) (Or.inl ⟨by rfl, ?_⟩) (by assumption) ?_
  rotate_left
  · (intro w hSw; (try dsimp only at hSw); go_simp; try (with_reducible rfl))
  simp only [Act.put, List.setIfInBounds_toArray, List.set_cons_zero, List.set_cons_succ]
  refine wpAnyH_ready (rs := [9]) (by kernel_rfl) (by simp) ?_
  refine AllReadyH.cons rfl (fun K hK => ?_) AllReadyH.nil
  go_simp
  refine (HZM.out _).mono ?_
  rintro e w2 ⟨rfl, hBd⟩
  have B2 := hid (belowCat (blw_drew (Below.refl v0.heap.size v0)) hBd)
  clear hBd
  go_wp2_with fail
  refine hK.out _ _ (KB.out _ (B2.out.mono (Nat.le_of_lt HW.out))) (fun hHeld => ?_)
  clear hK K
  try simp only [Act.put, List.setIfInBounds_toArray, List.set_cons_zero, List.set_cons_succ]
  refine wpAnyH_ready (rs := [10]) (by kernel_rfl) (by simp) ?_
  refine AllReadyH.cons rfl (fun K hK => ?_) AllReadyH.nil
  go_simp
  refine (HN.out _).mono ?_
  rintro e w3 ⟨rfl, hBd⟩
  have B3 := hid (belowCat B2.out hBd)
  clear hBd
  go_wp2_with fail
  refine hK.out _ _ (KB.out _ (B3.out.mono (Nat.le_of_lt HW.out))) (fun hHeld => ?_)
  clear hK K
  try simp only [Act.put, List.setIfInBounds_toArray, List.set_cons_zero, List.set_cons_succ]
  refine wpAnyH_ready (rs := [11]) (by kernel_rfl) (by simp) ?_
  refine AllReadyH.cons rfl (fun K hK => ?_) AllReadyH.nil
  go_simp
  refine (HO.out _).mono ?_
  rintro e w4 ⟨rfl, hBd⟩
  have B4 := hid (belowCat B3.out hBd)
  clear hBd
  have HQ := hid (bk B4.out X0.out)
  have hq1 := cell_s1 HQ.out
  have hq2 := frozen_of_heap (i := 0) HQ.out
  go_wp2_with fail
  refine hK.out _ _ (KB.out _ (B4.out.mono (Nat.le_of_lt HW.out))) (fun hHeld => ?_)
  clear hK K
  try simp only [Act.put, List.setIfInBounds_toArray, List.set_cons_zero, List.set_cons_succ]
  refine wpAnyH_ready (rs := [12]) (by kernel_rfl) (by simp) ?_
  refine AllReadyH.cons rfl (fun K hK => ?_) AllReadyH.nil
  go_simp
  go_wp2_with fail
  refine hK.out _ _ (KB.out _ ((B4.out.mono (Nat.le_of_lt HW.out)).setCell (Nat.le_refl _) _)) (fun hHeld => ?_)
  clear hK K
  try simp only [Act.put, List.setIfInBounds_toArray, List.set_cons_zero, List.set_cons_succ]
  refine wpAnyH_done (by kernel_rfl) ?_ _
  clear hHeld
  clear hq1 hq2
  have hb9 := heap_setCell_at _ _ 0 _ _ _ (.int .u32 (mk (q || !(s.mo == 0)) : Nat)) HQ.out
  have d0 := cell_of_heap (i := 0) hb9 rfl
  go_wp2
  exact bodyPost_ret (v := sec (mk (q || !(s.mo == 0)) : Nat)) (by simp only [results, Tryd.results46]; simp [go_sem, d0]) rfl ⟨rfl, (belowCat HB.out B4.out).setCell (Nat.le_refl _) _⟩

set_option maxHeartbeats 400000 in
theorem umay_any (n : Int) (w : World) : Calls Tryd.prog 43 #[.int .i64 n] w fun e w' => e = .returned (.bool (decide (0 ≤ n ∧ n ≤ 4096))) ∧ w' = w := by
  by_cases h0 : 0 ≤ n
  · by_cases h1 : n ≤ 4096
    · rw [show decide (0 ≤ n ∧ n ≤ 4096) = true from decide_eq_true ⟨h0, h1⟩]
      go_enter Tryd.func43, Tryd.ntmps43
      go_wp2
      go_ret
      exact ⟨ret_bool (by first | rfl | simpa using h1), rfl⟩
    · rw [show decide (0 ≤ n ∧ n ≤ 4096) = false from decide_eq_false (fun h => h1 h.2)]
      go_enter Tryd.func43, Tryd.ntmps43
      go_wp2
      go_ret
      exact ⟨ret_bool (by first | rfl | simpa using h1), rfl⟩
  · rw [show decide (0 ≤ n ∧ n ≤ 4096) = false from decide_eq_false (fun h => h0 h.1)]
    go_enter Tryd.func43, Tryd.ntmps43
    go_wp2
    go_ret
    exact ⟨ret_bool (by first | rfl | simpa using h0), rfl⟩
abbrev rw3 (a b c : Int) : Obj := .cells #[.int .i64 a, .int .i64 b, .int .i64 c] 3 (0, 0)
theorem cells_three {w : World} {g : Nat} {a b c : Int} (h : w.heap[g]? = some (rw3 a b c)) : ∀ j, j < [a, b, c].length → w.cell? ⟨g, j, none⟩ = some (.int .i64 ([a, b, c][j]?.getD 0)) := fun j hj => by
  have : j = 0 ∨ j = 1 ∨ j = 2 := by simp at hj; omega
  rcases this with rfl | rfl | rfl
  · exact cell_of_heap h rfl
  · exact cell_of_heap h rfl
  · exact cell_of_heap h rfl
theorem of3_any (n a b c : Int) (g : Nat) (w : World) (hg : w.heap[g]? = some (rw3 a b c)) :
    Calls Tryd.prog 44 #[.int .i64 n, .slice (some ⟨g, 0, none⟩) 3 3] w fun e w' => e = .returned (.slice (some ⟨w.heap.size, 0, none⟩) 3 3) ∧
      (∀ j (h : j < [(a, n), (b, n), (c, n)].length), w'.cell? ⟨w.heap.size, j * 2, none⟩ = some (.int .i64 [(a, n), (b, n), (c, n)][j].1) ∧ w'.cell? ⟨w.heap.size, j * 2 + 1, none⟩ = some (.int .i64 [(a, n), (b, n), (c, n)][j].2)) ∧ Below w.heap.size w w' ∧ w.heap.size < w'.heap.size :=
  (ofRows_any n g 3 [a, b, c] w (by simp) (lt_of_heap hg) (cells_three hg)).mono fun _ _ ⟨h1, h2, h3, h4⟩ => ⟨h1, h2, h3, h4⟩
theorem apart3_any (h : Hn) (F : Nat → Prop) (A : Ars) (g : Nat) (a b c n : Int) (w : World) (ar : Ar w h F A) (h1 : a < 9223372036854775808) (h2 : b < 9223372036854775808) (h3 : c < 9223372036854775808) (hg : g < w.heap.size)
    (hc : ∀ j (h : j < [(a, n), (b, n), (c, n)].length), w.cell? ⟨g, j * 2, none⟩ = some (.int .i64 [(a, n), (b, n), (c, n)][j].1) ∧ w.cell? ⟨g, j * 2 + 1, none⟩ = some (.int .i64 [(a, n), (b, n), (c, n)][j].2)) :
    Calls Tryd.prog 25 #[arPtr h, .slice (some ⟨g, 0, none⟩) 3 3] w fun e w' => ∃ r : Bool, e = .returned (.bool r) ∧ (r = true ↔ Rfine A [(a, n), (b, n), (c, n)]) ∧ Below w.heap.size w w' :=
  apart_any h F A g 3 [(a, n), (b, n), (c, n)] w ar (by simp) (by intro x hx; simp at hx; rcases hx with rfl | rfl | rfl; exact h1; exact h2; exact h3) hg hc

set_option maxHeartbeats 1600000 in
theorem decode_no (h : Hn) (F : Nat → Prop) (A : Ars) (i n o k : Int) (len : Nat) (w : World) (a : Ar w h F A) (h1 : i < 9223372036854775808) (h2 : o < 9223372036854775808) (h3 : k < 9223372036854775808) (hr : ¬ (0 ≤ n ∧ n ≤ 4096 ∧ Rfine A [(i, n), (o, n), (k, n)])) :
    Calls Tryd.prog 21 #[arPtr h, .int .i64 i, .int .i64 n, sec len, .int .i64 o, .int .i64 k] w fun e w' => e = .returned (.tuple #[sec 0, .bool false]) ∧ Below w.heap.size w w' := by
  have HA := hid a
  have HR := hid hr
  clear a hr
  by_cases hm : 0 ≤ n ∧ n ≤ 4096
  · have hmay : decide (0 ≤ n ∧ n ≤ 4096) = true := decide_eq_true hm
    have H0 := hid (show (((w.alloc (sb len)).alloc (sb 0)).alloc (rw3 i o k)).heap[w.heap.size + 1 + 1]? = some (rw3 i o k) from (by simp only [hp_get, World.size_alloc]; repeat (first | rw [if_pos trivial] | rw [if_pos rfl] | rw [if_neg (by omega)])))
    have X1 := hid (show (((w.alloc (sb len)).alloc (sb 0)).alloc (rw3 i o k)).heap[w.heap.size + 1]? = some (sb 0) from (by simp only [hp_get, World.size_alloc]; repeat (first | rw [if_pos trivial] | rw [if_pos rfl] | rw [if_neg (by omega)])))
    have BB := hid (show Below w.heap.size w (((w.alloc (sb len)).alloc (sb 0)).alloc (rw3 i o k)) from (by repeat (first | exact Below.refl _ _ | refine blw_alloc ?_ | refine blw_drew ?_ | assumption)))
    go_enter Tryd.func21, Tryd.ntmps21
    go_wp2_with (go_at_call 43; refine (umay_any _ _).mono ?_; rintro e w' ⟨rfl, hw⟩; subst w'; rw [hmay])
    refine (of3_any n i o k (w.heap.size + 1 + 1) _ H0.out).mono ?_
    rintro e w1 ⟨rfl, hcs, hB1, hl1⟩
    simp only [World.size_alloc] at hcs hl1
    have HC := hid hcs
    have B1 := hid (belowCat BB.out hB1)
    have X11 := hid (bk hB1 X1.out)
    clear hcs hB1
    go_wp2_with fail
    refine (apart3_any h F A (w.heap.size + 1 + 1 + 1) i o k n _ (HA.out.below B1.out) h1 h2 h3 hl1 HC.out).mono ?_
    rintro e w2 ⟨r, rfl, hr, hB2⟩
    have B2 := hid (belowCat B1.out hB2)
    have X12 := hid (bk hB2 X11.out)
    obtain rfl : r = false := by cases r; rfl; exact absurd ⟨hm.1, hm.2, hr.1 rfl⟩ HR.out
    clear hr hB2
    go_wp2_with fail
    refine (of_b _ _).mono ?_
    rintro e w3 ⟨rfl, hB3⟩
    have B3 := hid (belowCat B2.out hB3)
    have X13 := hid (bk hB3 X12.out)
    have hq1 := cell_s1 X13.out
    have hq2 := frozen_of_heap (i := 0) X13.out
    clear hB3
    go_wp2
    have hb9 := heap_setCell_at _ _ 0 _ _ _ (.int .u32 0) X13.out
    have d0 := cell_of_heap (i := 0) hb9 rfl
    exact bodyPost_ret (v := .tuple #[sec 0, .bool false]) (by simp only [results, Tryd.results21]; simp [go_sem, d0]) rfl ⟨rfl, B3.out.setCell (by show w.heap.size ≤ w.heap.size + 1; omega) _⟩
  · have hmay : decide (0 ≤ n ∧ n ≤ 4096) = false := decide_eq_false hm
    have X1 := hid (show ((w.alloc (sb len)).alloc (sb 0)).heap[w.heap.size + 1]? = some (sb 0) from (by simp only [hp_get, World.size_alloc]; repeat (first | rw [if_pos trivial] | rw [if_pos rfl] | rw [if_neg (by omega)])))
    have BB := hid (show Below w.heap.size w ((w.alloc (sb len)).alloc (sb 0)) from (by repeat (first | exact Below.refl _ _ | refine blw_alloc ?_ | refine blw_drew ?_ | assumption)))
    go_enter Tryd.func21, Tryd.ntmps21
    go_wp2_with (go_at_call 43; refine (umay_any _ _).mono ?_; rintro e w' ⟨rfl, hw⟩; subst w'; rw [hmay])
    refine (of_b _ _).mono ?_
    rintro e w3 ⟨rfl, hB3⟩
    have B3 := hid (belowCat BB.out hB3)
    have X13 := hid (bk hB3 X1.out)
    have hq1 := cell_s1 X13.out
    have hq2 := frozen_of_heap (i := 0) X13.out
    clear hB3
    go_wp2
    have hb9 := heap_setCell_at _ _ 0 _ _ _ (.int .u32 0) X13.out
    have d0 := cell_of_heap (i := 0) hb9 rfl
    exact bodyPost_ret (v := .tuple #[sec 0, .bool false]) (by simp only [results, Tryd.results21]; simp [go_sem, d0]) rfl ⟨rfl, B3.out.setCell (by show w.heap.size ≤ w.heap.size + 1; omega) _⟩
end Go.Proofs.YtjcnkigadlmpgaaDoor
