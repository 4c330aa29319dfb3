/- The contracts of scan.Behind, Back, First and Last, where they refuse, over this seat's translation. No conditions but the numbers' bounds. -/
import Derived.Test.YtnnmaegpiddnbaaScS
namespace Go.Proofs.Ytnnmaegpiddnbaa
open Go.RowKit

set_option maxHeartbeats 400000 in
theorem back_wr (n : Int) (w : World) : ∃ f, Calls Try.prog 37 #[.int .i64 n] w fun e w' => e = .returned (wyV f (-1)) ∧ w' = w.alloc (wyO f (-1)) := by
  refine ⟨wrap64 (n - 1), ?_⟩
  go_enter Try.func37, Try.ntmps37
  go_wp2
  exact bodyPost_ret (v := wyV (wrap64 (n - 1)) (-1)) (by simp [results, Try.results37, go_sem]) rfl ⟨rfl, rfl⟩
set_option maxHeartbeats 800000 in
theorem behind_no (h : Hn) (F : Nat → Prop) (A : Ars) (at_ n : Int) (w : World) (a : Ar w h F A) (hat : at_ < 9223372036854775808) (hf : A.fits at_ n = false) :
    Calls Try.prog 15 #[arPtr h, .int .i64 at_, .int .i64 n] w fun e w' => e = .returned (.tuple #[sec 0, .bool false]) ∧ Below w.heap.size w w' := by
  have HA := hid a
  have HF := hid hf
  clear a hf
  obtain ⟨f, hk⟩ := back_wr n (w.alloc (sb 0))
  have HK := hid hk
  clear hk
  go_enter Try.func15, Try.ntmps15
  go_wp2_with (go_at_call 37; refine HK.out.mono ?_; rintro e w' ⟨rfl, rfl⟩)
  refine (sgather_no h F A at_ n _ _ _ ((HA.out.alloc _).alloc _) hat HF.out).mono ?_
  rintro e w2 ⟨rfl, hB2⟩
  have X0 := hid (show w2.heap[w.heap.size]? = some (sb 0) from (hB2.block _ (by simp; omega)).trans ((heap_alloc_old _ _ _ (by simp)).trans (heap_alloc_at _ _)))
  have B2 := hid (show Below w.heap.size w w2 from (show Below w.heap.size w ((w.alloc (sb 0)).alloc (wyO f (-1))) from (by repeat (first | exact Below.refl _ _ | refine blw_alloc ?_ | refine blw_drew ?_ | assumption))).trans (hB2.mono (by simp; omega)))
  have k0 := cell_sb8 X0.out
  have f0 := frozen_of_heap (i := 0) X0.out
  clear hB2
  go_wp2
  have d0 := cell_sb8 (heap_setCell_at _ _ 0 _ _ _ (.int .u32 0) X0.out)
  exact bodyPost_ret (v := .tuple #[sec 0, .bool false]) (by simp only [results, Try.results15]; simp [go_sem, d0]) rfl ⟨rfl, B2.out.setCell (p := ⟨w.heap.size, 0, none⟩) (Nat.le_refl _) _⟩
set_option maxHeartbeats 800000 in
theorem sback_no (h : Hn) (F : Nat → Prop) (A : Ars) (at_ has n : Int) (w : World) (a : Ar w h F A) (h1 : at_ < 9223372036854775808) (h2 : has < 9223372036854775808) (hr : ¬ Rfine A [(at_, n), (has, n)]) :
    Calls Try.prog 23 #[arPtr h, .int .i64 at_, .int .i64 has, .int .i64 n] w fun e w' => e = .returned (.bool false) ∧ Below w.heap.size w w' := by
  have HA := hid a
  have HR := hid hr
  clear a hr
  obtain ⟨f, hk⟩ := back_wr n w
  have HK := hid hk
  clear hk
  go_enter Try.func23, Try.ntmps23
  go_wp2_with (go_at_call 37; refine HK.out.mono ?_; rintro e w' ⟨rfl, rfl⟩)
  refine (fill_no h F A at_ has n _ _ _ (HA.out.alloc _) h1 h2 HR.out).mono ?_
  rintro e w2 ⟨rfl, hB2⟩
  have B2 := hid (show Below w.heap.size w w2 from (show Below w.heap.size w (w.alloc (wyO f (-1))) from (by repeat (first | exact Below.refl _ _ | refine blw_alloc ?_ | refine blw_drew ?_ | assumption))).trans (hB2.mono (by simp)))
  clear hB2
  go_wp2
  go_ret
  exact ⟨rfl, B2.out⟩
set_option maxHeartbeats 800000 in
theorem first_no (h : Hn) (F : Nat → Prop) (A : Ars) (at_ has n : Int) (w : World) (a : Ar w h F A) (h1 : at_ < 9223372036854775808) (h2 : has < 9223372036854775808) (hr : ¬ Rfine A [(at_, n), (has, n)]) :
    Calls Try.prog 19 #[arPtr h, .int .i64 at_, .int .i64 has, .int .i64 n] w fun e w' => e = .returned (.tuple #[sec 0, sec 0, .bool false]) ∧ Below w.heap.size w w' := by
  have HA := hid a
  have HR := hid hr
  clear a hr
  go_enter Try.func19, Try.ntmps19
  go_wp2_with (go_at_call 36; refine (forth_any _).mono ?_; rintro e w' ⟨rfl, rfl⟩)
  have X0 := hid (show (((w.alloc (sb 0)).alloc (sb 0)).alloc (wyO 0 1)).heap[w.heap.size]? = some (sb 0) from (by simp only [heap_alloc_get, World.size_alloc]; repeat (first | rw [if_pos trivial] | rw [if_pos rfl] | rw [if_neg (by omega)])))
  have X1 := hid (show (((w.alloc (sb 0)).alloc (sb 0)).alloc (wyO 0 1)).heap[w.heap.size + 1]? = some (sb 0) from (by simp only [heap_alloc_get, World.size_alloc]; repeat (first | rw [if_pos trivial] | rw [if_pos rfl] | rw [if_neg (by omega)])))
  have BB := hid (show Below w.heap.size w (((w.alloc (sb 0)).alloc (sb 0)).alloc (wyO 0 1)) from (by repeat (first | exact Below.refl _ _ | refine blw_alloc ?_ | refine blw_drew ?_ | assumption)))
  refine (find_no h F A at_ has n _ _ _ (((HA.out.alloc _).alloc _).alloc _) h1 h2 HR.out).mono ?_
  rintro e w2 ⟨rfl, hB2⟩
  have T0 := hid ((hB2.block _ (lt_of_heap X0.out)).trans X0.out)
  have T1 := hid ((hB2.block _ (lt_of_heap X1.out)).trans X1.out)
  have B2 := hid (BB.out.trans (hB2.mono BB.out.size))
  have k0 := cell_sb8 T0.out
  have f0 := frozen_of_heap (i := 0) T0.out
  have Y1 := hid ((Below.heap_setCell w2 ⟨w.heap.size, 0, none⟩ (.int .u32 0) (w.heap.size + 1) (by show w.heap.size + 1 ≠ w.heap.size; omega)).trans T1.out)
  have k1 := cell_sb8 Y1.out
  have f1 := frozen_of_heap (i := 0) Y1.out
  clear hB2
  go_wp2
  have d1 := cell_sb8 (heap_setCell_at _ _ 0 _ _ _ (.int .u32 0) Y1.out)
  have d0 := cell_sb8 ((Below.heap_setCell (w2.setCell ⟨w.heap.size, 0, none⟩ (.int .u32 0)) ⟨w.heap.size + 1, 0, none⟩ (.int .u32 0) w.heap.size (by show w.heap.size ≠ w.heap.size + 1; omega)).trans (heap_setCell_at _ _ 0 _ _ _ (.int .u32 0) T0.out))
  exact bodyPost_ret (v := .tuple #[sec 0, sec 0, .bool false]) (by simp only [results, Try.results19]; simp [go_sem, d0, d1]) rfl ⟨rfl, (B2.out.setCell (p := ⟨w.heap.size, 0, none⟩) (Nat.le_refl _) _).setCell (p := ⟨w.heap.size + 1, 0, none⟩) (by show w.heap.size ≤ w.heap.size + 1; omega) _⟩
set_option maxHeartbeats 800000 in
theorem last_no (h : Hn) (F : Nat → Prop) (A : Ars) (at_ has n : Int) (w : World) (a : Ar w h F A) (h1 : at_ < 9223372036854775808) (h2 : has < 9223372036854775808) (hr : ¬ Rfine A [(at_, n), (has, n)]) :
    Calls Try.prog 20 #[arPtr h, .int .i64 at_, .int .i64 has, .int .i64 n] w fun e w' => e = .returned (.tuple #[sec 0, sec 0, .bool false]) ∧ Below w.heap.size w w' := by
  have HA := hid a
  have HR := hid hr
  clear a hr
  obtain ⟨f, hk⟩ := back_wr n ((w.alloc (sb 0)).alloc (sb 0))
  have HK := hid hk
  clear hk
  go_enter Try.func20, Try.ntmps20
  go_wp2_with (go_at_call 37; refine HK.out.mono ?_; rintro e w' ⟨rfl, rfl⟩)
  have X0 := hid (show (((w.alloc (sb 0)).alloc (sb 0)).alloc (wyO f (-1))).heap[w.heap.size]? = some (sb 0) from (by simp only [heap_alloc_get, World.size_alloc]; repeat (first | rw [if_pos trivial] | rw [if_pos rfl] | rw [if_neg (by omega)])))
  have X1 := hid (show (((w.alloc (sb 0)).alloc (sb 0)).alloc (wyO f (-1))).heap[w.heap.size + 1]? = some (sb 0) from (by simp only [heap_alloc_get, World.size_alloc]; repeat (first | rw [if_pos trivial] | rw [if_pos rfl] | rw [if_neg (by omega)])))
  have BB := hid (show Below w.heap.size w (((w.alloc (sb 0)).alloc (sb 0)).alloc (wyO f (-1))) from (by repeat (first | exact Below.refl _ _ | refine blw_alloc ?_ | refine blw_drew ?_ | assumption)))
  refine (find_no h F A at_ has n _ _ _ (((HA.out.alloc _).alloc _).alloc _) h1 h2 HR.out).mono ?_
  rintro e w2 ⟨rfl, hB2⟩
  have T0 := hid ((hB2.block _ (lt_of_heap X0.out)).trans X0.out)
  have T1 := hid ((hB2.block _ (lt_of_heap X1.out)).trans X1.out)
  have B2 := hid (BB.out.trans (hB2.mono BB.out.size))
  have k0 := cell_sb8 T0.out
  have f0 := frozen_of_heap (i := 0) T0.out
  have Y1 := hid ((Below.heap_setCell w2 ⟨w.heap.size, 0, none⟩ (.int .u32 0) (w.heap.size + 1) (by show w.heap.size + 1 ≠ w.heap.size; omega)).trans T1.out)
  have k1 := cell_sb8 Y1.out
  have f1 := frozen_of_heap (i := 0) Y1.out
  clear hB2
  go_wp2
  have d1 := cell_sb8 (heap_setCell_at _ _ 0 _ _ _ (.int .u32 0) Y1.out)
  have d0 := cell_sb8 ((Below.heap_setCell (w2.setCell ⟨w.heap.size, 0, none⟩ (.int .u32 0)) ⟨w.heap.size + 1, 0, none⟩ (.int .u32 0) w.heap.size (by show w.heap.size ≠ w.heap.size + 1; omega)).trans (heap_setCell_at _ _ 0 _ _ _ (.int .u32 0) T0.out))
  exact bodyPost_ret (v := .tuple #[sec 0, sec 0, .bool false]) (by simp only [results, Try.results20]; simp [go_sem, d0, d1]) rfl ⟨rfl, (B2.out.setCell (p := ⟨w.heap.size, 0, none⟩) (Nat.le_refl _) _).setCell (p := ⟨w.heap.size + 1, 0, none⟩) (by show w.heap.size ≤ w.heap.size + 1; omega) _⟩

/-- an arena behind a call that went through (b) or refused: c events a word, nothing taken -/
structure Did (A A' : Ars) (b : Bool) (c : Nat) (n : Int) : Prop where
  top : A'.top = A.top
  es : A'.es.length = A.es.length + if b then c * n.toNat else 0
theorem did_no (A : Ars) (c : Nat) (n : Int) : Did A A false c n := ⟨rfl, rfl⟩
theorem fits_nats {A : Ars} {at_ n : Int} (h : A.fits at_ n = true) : ∃ L N : Nat, at_ = L ∧ n = N ∧ L + N ≤ A.top := by
  rw [Ars.fits_iff] at h
  exact ⟨at_.toNat, n.toNat, by omega, by omega, by omega⟩
theorem rfine_nats {A : Ars} {at_ has n : Int} (h : Rfine A [(at_, n), (has, n)]) : ∃ L H N : Nat, at_ = L ∧ has = H ∧ n = N ∧ L + N ≤ A.top ∧ H + N ≤ A.top ∧ (L + N ≤ H ∨ H + N ≤ L) := by
  have h1 := h.1 (at_, n) (by simp)
  have h2 := h.1 (has, n) (by simp)
  have h0 : 0 ≤ n := (Ars.fits_iff.1 h1).2.1
  have h3 := ((rfine_of A n [at_, has] h0).1 h).2
  rw [Ars.fits_iff] at h1 h2
  refine ⟨at_.toNat, has.toNat, n.toNat, by omega, by omega, by omega, by omega, by omega, ?_⟩
  simp only [List.pairwise_cons, List.mem_cons, List.not_mem_nil, or_false, forall_eq, ApartZ] at h3
  omega
end Go.Proofs.Ytnnmaegpiddnbaa
