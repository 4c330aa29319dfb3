/- The contracts of package scan's gather and find, and of Ors, Behind, Carry, Back, First and Last, where they refuse, over this seat's translation. No conditions but the numbers' bounds. -/
import Derived.Test.YtnnmaegpiddnbaaScN
namespace Go.Proofs.Ytnnmaegpiddnbaa
open Go.RowKit

set_option maxHeartbeats 800000 in
theorem sgather_no (h : Hn) (F : Nat → Prop) (A : Ars) (at_ n f b : Int) (w : World) (a : Ar w h F A) (hat : at_ < 9223372036854775808) (hf : A.fits at_ n = false) :
    Calls Try.prog 35 #[arPtr h, .int .i64 at_, .int .i64 n, wyV f b] w fun e w' => e = .returned (.tuple #[sec 0, .bool false]) ∧ Below w.heap.size w w' := by
  have HA := hid a
  have HF := hid hf
  clear a hf
  go_enter Try.func35, Try.ntmps35
  go_wp2_with fail
  refine (ar_fits h F A at_ n _ ((HA.out.alloc _).alloc _) hat).mono ?_
  rintro e w1 ⟨rfl, hw1⟩
  subst hw1
  rw [HF.out]
  go_wp2_with (go_at_call 31; refine (of_any _ _).mono ?_; rintro e w' ⟨rfl, rfl⟩)
  exact bodyPost_ret (v := .tuple #[sec 0, .bool false]) (by simp [results, Try.results35, go_sem]) rfl ⟨rfl, (by repeat (first | exact Below.refl _ _ | refine blw_alloc ?_ | refine blw_drew ?_ | assumption))⟩
set_option maxHeartbeats 800000 in
theorem find_no (h : Hn) (F : Nat → Prop) (A : Ars) (at_ has n f b : Int) (w : World) (a : Ar w h F A) (h1 : at_ < 9223372036854775808) (h2 : has < 9223372036854775808) (hr : ¬ Rfine A [(at_, n), (has, n)]) :
    Calls Try.prog 41 #[arPtr h, .int .i64 at_, .int .i64 has, .int .i64 n, wyV f b] w fun e w' => e = .returned (.tuple #[sec 0, sec 0, .bool false]) ∧ Below w.heap.size w w' := by
  have HA := hid a
  have HR := hid hr
  clear a hr
  have H0 := hid (show ((((w.alloc (wyO f b)).alloc (sb 0)).alloc (sb 0)).alloc (.cells #[.int .i64 at_, .int .i64 has] 3)).heap[w.heap.size + 1 + 1 + 1]? = some (.cells #[.int .i64 at_, .int .i64 has] 3 (0, 0)) from (by simp only [heap_alloc_get, World.size_alloc]; repeat (first | rw [if_pos trivial] | rw [if_pos rfl] | rw [if_neg (by omega)])))
  have HG1 := hid (show ((((w.alloc (wyO f b)).alloc (sb 0)).alloc (sb 0)).alloc (.cells #[.int .i64 at_, .int .i64 has] 3)).heap[w.heap.size + 1]? = some (sb 0) from (by simp only [heap_alloc_get, World.size_alloc]; repeat (first | rw [if_pos trivial] | rw [if_pos rfl] | rw [if_neg (by omega)])))
  have HG2 := hid (show ((((w.alloc (wyO f b)).alloc (sb 0)).alloc (sb 0)).alloc (.cells #[.int .i64 at_, .int .i64 has] 3)).heap[w.heap.size + 1 + 1]? = some (sb 0) from (by simp only [heap_alloc_get, World.size_alloc]; repeat (first | rw [if_pos trivial] | rw [if_pos rfl] | rw [if_neg (by omega)])))
  have BB := hid (show Below w.heap.size w ((((w.alloc (wyO f b)).alloc (sb 0)).alloc (sb 0)).alloc (.cells #[.int .i64 at_, .int .i64 has] 3)) from (by repeat (first | exact Below.refl _ _ | refine blw_alloc ?_ | refine blw_drew ?_ | assumption)))
  go_enter Try.func41, Try.ntmps41
  go_wp2_with fail
  refine (of2_any n at_ has (w.heap.size + 1 + 1 + 1) _ H0.out).mono ?_
  rintro e w1 ⟨rfl, hcs, hB1, hl1⟩
  simp only [World.size_alloc] at hcs hl1
  have HC := hid hcs
  have B1 := hid (show Below w.heap.size w w1 from BB.out.trans (hB1.mono BB.out.size))
  have A1 := hid (((((HA.out.alloc _).alloc _).alloc _).alloc _).below hB1)
  have G1 := hid (And.intro ((hB1.block _ (lt_of_heap HG1.out)).trans HG1.out) ((hB1.block _ (lt_of_heap HG2.out)).trans HG2.out))
  clear hcs hB1
  go_wp2_with fail
  refine (apart2_any h F A (w.heap.size + 1 + 1 + 1 + 1) at_ has n _ A1.out h1 h2 hl1 HC.out).mono ?_
  rintro e w2 ⟨r, rfl, hr, hB2⟩
  have B2 := hid (B1.out.trans (hB2.mono B1.out.size))
  have G2 := hid (And.intro ((hB2.block _ (lt_of_heap G1.out.1)).trans G1.out.1) ((hB2.block _ (lt_of_heap G1.out.2)).trans G1.out.2))
  obtain rfl : r = false := by cases r; rfl; exact absurd (hr.1 rfl) HR.out
  clear hr hB2
  go_wp2_with fail
  refine (of_b _ _).mono ?_
  rintro e w3 ⟨rfl, hB3⟩
  have G3 := hid (And.intro ((hB3.block _ (lt_of_heap G2.out.1)).trans G2.out.1) ((hB3.block _ (lt_of_heap G2.out.2)).trans G2.out.2))
  have B3 := hid (B2.out.trans (hB3.mono B2.out.size))
  clear hB3
  go_wp2_with fail
  refine (of_b _ _).mono ?_
  rintro e w4 ⟨rfl, hB4⟩
  have G4 := hid (And.intro ((hB4.block _ (lt_of_heap G3.out.1)).trans G3.out.1) ((hB4.block _ (lt_of_heap G3.out.2)).trans G3.out.2))
  have B4 := hid (B3.out.trans (hB4.mono B3.out.size))
  clear hB4
  have k1 := cell_sb8 G4.out.1
  have f1 := frozen_of_heap (i := 0) G4.out.1
  have Y1 := hid (heap_setCell_at _ _ 0 _ _ _ (.int .u32 0) G4.out.1)
  have Y2 := hid ((Below.heap_setCell w4 ⟨w.heap.size + 1, 0, none⟩ (.int .u32 0) (w.heap.size + 1 + 1) (by show w.heap.size + 1 + 1 ≠ w.heap.size + 1; omega)).trans G4.out.2)
  have k2 := cell_sb8 Y2.out
  have f2 := frozen_of_heap (i := 0) Y2.out
  go_wp2
  have d1 := cell_sb8 ((Below.heap_setCell (w4.setCell ⟨w.heap.size + 1, 0, none⟩ (.int .u32 0)) ⟨w.heap.size + 1 + 1, 0, none⟩ (.int .u32 0) (w.heap.size + 1) (by show w.heap.size + 1 ≠ w.heap.size + 1 + 1; omega)).trans Y1.out)
  have d2 := cell_sb8 (heap_setCell_at _ _ 0 _ _ _ (.int .u32 0) Y2.out)
  exact bodyPost_ret (v := .tuple #[sec 0, sec 0, .bool false]) (by simp only [results, Try.results41]; simp [go_sem, d1, d2]) rfl ⟨rfl, (B4.out.setCell (p := ⟨w.heap.size + 1, 0, none⟩) (by show w.heap.size ≤ w.heap.size + 1; omega) _).setCell (p := ⟨w.heap.size + 1 + 1, 0, none⟩) (by show w.heap.size ≤ w.heap.size + 1 + 1; omega) _⟩
set_option maxHeartbeats 800000 in
theorem ors_no (h : Hn) (F : Nat → Prop) (A : Ars) (at_ n : Int) (w : World) (a : Ar w h F A) (hat : at_ < 9223372036854775808) (hf : A.fits at_ n = false) :
    Calls Try.prog 13 #[arPtr h, .int .i64 at_, .int .i64 n] w fun e w' => e = .returned (.tuple #[sec 0, .bool false]) ∧ Below w.heap.size w w' := by
  have HA := hid a
  have HF := hid hf
  clear a hf
  go_enter Try.func13, Try.ntmps13
  go_wp2_with (go_at_call 36; refine (forth_any _).mono ?_; rintro e w' ⟨rfl, rfl⟩)
  refine (sgather_no h F A at_ n _ _ _ ((HA.out.alloc _).alloc _) hat HF.out).mono ?_
  rintro e w2 ⟨rfl, hB2⟩
  have X0 := hid (show w2.heap[w.heap.size]? = some (sb 0) from (hB2.block _ (by simp; omega)).trans ((heap_alloc_old _ _ _ (by simp)).trans (heap_alloc_at _ _)))
  have B2 := hid (show Below w.heap.size w w2 from (show Below w.heap.size w ((w.alloc (sb 0)).alloc (wyO 0 1)) from (by repeat (first | exact Below.refl _ _ | refine blw_alloc ?_ | refine blw_drew ?_ | assumption))).trans (hB2.mono (by simp; omega)))
  have k0 := cell_sb8 X0.out
  have f0 := frozen_of_heap (i := 0) X0.out
  clear hB2
  go_wp2
  have d0 := cell_sb8 (heap_setCell_at _ _ 0 _ _ _ (.int .u32 0) X0.out)
  exact bodyPost_ret (v := .tuple #[sec 0, .bool false]) (by simp only [results, Try.results13]; simp [go_sem, d0]) rfl ⟨rfl, B2.out.setCell (p := ⟨w.heap.size, 0, none⟩) (Nat.le_refl _) _⟩
set_option maxHeartbeats 800000 in
theorem carry_no (h : Hn) (F : Nat → Prop) (A : Ars) (at_ has n : Int) (w : World) (a : Ar w h F A) (h1 : at_ < 9223372036854775808) (h2 : has < 9223372036854775808) (hr : ¬ Rfine A [(at_, n), (has, n)]) :
    Calls Try.prog 24 #[arPtr h, .int .i64 at_, .int .i64 has, .int .i64 n] w fun e w' => e = .returned (.bool false) ∧ Below w.heap.size w w' := by
  have HA := hid a
  have HR := hid hr
  clear a hr
  go_enter Try.func24, Try.ntmps24
  go_wp2_with (go_at_call 36; refine (forth_any _).mono ?_; rintro e w' ⟨rfl, rfl⟩)
  refine (fill_no h F A at_ has n _ _ _ (HA.out.alloc _) h1 h2 HR.out).mono ?_
  rintro e w2 ⟨rfl, hB2⟩
  have B2 := hid (show Below w.heap.size w w2 from (show Below w.heap.size w (w.alloc (wyO 0 1)) from (by repeat (first | exact Below.refl _ _ | refine blw_alloc ?_ | refine blw_drew ?_ | assumption))).trans (hB2.mono (by simp)))
  clear hB2
  go_wp2
  go_ret
  exact ⟨rfl, B2.out⟩
end Go.Proofs.Ytnnmaegpiddnbaa
