/- The contracts of scan.Carry, Back, First and Last, where the lanes are within and lie apart, over this seat's translation. Conditions: the log has at most some hundred million events. -/
import Derived.Test.YtnnmaegpiddnbaaScM
namespace Go.Proofs.Ytnnmaegpiddnbaa
open Go.RowKit

set_option maxHeartbeats 800000 in
theorem carry_yes (h : Hn) (F : Nat → Prop) (A : Ars) (L H n : Nat) (w : World) (a : Ar w h F A) (hin : L + n ≤ A.top) (hin2 : H + n ≤ A.top) (hap : L + n ≤ H ∨ H + n ≤ L) (hes : A.es.length ≤ 300000000) :
    Calls Try.prog 24 #[arPtr h, .int .i64 (L : Int), .int .i64 (H : Int), .int .i64 (n : Int)] w fun e w' => e = .returned (.bool true) ∧ ∃ F', Ar w' h F' (evf A L H (fun i => i) (fun i => cv A L H (fun i => i) (i + 1)) n) ∧ Step w F w' F' := by
  have hb1 := a.ok.1
  have hb2 := a.ok.2.1
  have HA := hid a
  have HG := hid (fun w' a' => fill_yes h F A L H n 0 1 (fun i => i) w' a' hin hin2 hap hes (fun k w'' hk => number_forth k w'' (by omega)) (fun k hk => hk) (fun i j _ _ e => e))
  clear a hap
  go_enter Try.func24, Try.ntmps24
  go_wp2_with (go_at_call 36; refine (forth_any _).mono ?_; rintro e w' ⟨rfl, rfl⟩)
  refine (HG.out _ (HA.out.alloc _)).mono ?_
  rintro e w2 ⟨rfl, F2, a2, s2⟩
  have A2 := hid a2
  have S2 := hid ((Step.refl w F).alloc (wyO 0 1) |>.trans s2)
  clear a2 s2
  go_wp2
  go_ret
  exact ⟨rfl, F2, A2.out, S2.out⟩
set_option maxHeartbeats 800000 in
theorem sback_yes (h : Hn) (F : Nat → Prop) (A : Ars) (L H n : Nat) (w : World) (a : Ar w h F A) (hin : L + n ≤ A.top) (hin2 : H + n ≤ A.top) (hap : L + n ≤ H ∨ H + n ≤ L) (hes : A.es.length ≤ 300000000) :
    Calls Try.prog 23 #[arPtr h, .int .i64 (L : Int), .int .i64 (H : Int), .int .i64 (n : Int)] w fun e w' => e = .returned (.bool true) ∧ ∃ F', Ar w' h F' (evf A L H (bk n) (fun i => cv A L H (bk n) (i + 1)) n) ∧ Step w F w' F' := by
  have hb1 := a.ok.1
  have hb2 := a.ok.2.1
  have HA := hid a
  have HG := hid (fun w' a' => fill_yes h F A L H n ((n : Int) - 1) (-1) (bk n) w' a' hin hin2 hap hes (fun k w'' hk => number_back n k w'' (by omega) hk) (fun k hk => by unfold bk; omega) (fun i j hi hj e => by unfold bk at e; omega))
  clear a hap
  go_enter Try.func23, Try.ntmps23
  go_wp2_with (go_at_call 37; refine (back_any _ _ (by omega) (by omega)).mono ?_; rintro e w' ⟨rfl, rfl⟩)
  refine (HG.out _ (HA.out.alloc _)).mono ?_
  rintro e w2 ⟨rfl, F2, a2, s2⟩
  have A2 := hid a2
  have S2 := hid ((Step.refl w F).alloc (wyO ((n : Int) - 1) (-1)) |>.trans s2)
  clear a2 s2
  go_wp2
  go_ret
  exact ⟨rfl, F2, A2.out, S2.out⟩
set_option maxHeartbeats 800000 in
theorem first_yes (h : Hn) (F : Nat → Prop) (A : Ars) (L H n : Nat) (w : World) (a : Ar w h F A) (hin : L + n ≤ A.top) (hin2 : H + n ≤ A.top) (hap : L + n ≤ H ∨ H + n ≤ L) (hes : A.es.length ≤ 300000000) :
    Calls Try.prog 19 #[arPtr h, .int .i64 (L : Int), .int .i64 (H : Int), .int .i64 (n : Int)] w fun e w' => e = .returned (.tuple #[sec (fw A L H (fun i => i) n : Nat), sec (mk (fm A H (fun i => i) n) : Nat), .bool true]) ∧ ∃ F', Ar w' h F' (evg A L H (fun i => i) n) ∧ Step w F w' F' := by
  have hb1 := a.ok.1
  have hb2 := a.ok.2.1
  have HA := hid a
  have HN0 := hid (show ∀ i, w.heap.size ≤ i → ¬ F i from fun i hi x => by have := a.lt _ x; omega)
  have HG := hid (fun w' a' => find_yes h F A L H n 0 1 (fun i => i) w' a' hin hin2 hap hes (fun k w'' hk => number_forth k w'' (by omega)) (fun k hk => hk))
  clear a hap
  obtain ⟨V, hV⟩ : ∃ V, fw A L H (fun i => i) n = V := ⟨_, rfl⟩
  obtain ⟨M, hM⟩ : ∃ M, mk (fm A H (fun i => i) n) = M := ⟨_, rfl⟩
  rw [hV, hM] at HG
  rw [hV, hM]
  clear hV hM
  go_enter Try.func19, Try.ntmps19
  go_wp2_with (go_at_call 36; refine (forth_any _).mono ?_; rintro e w' ⟨rfl, rfl⟩)
  have X0 := hid (show (((w.alloc (sb 0)).alloc (sb 0)).alloc (wyO 0 1)).heap[w.heap.size]? = some (sb 0) from (by simp only [heap_alloc_get, World.size_alloc]; repeat (first | rw [if_pos trivial] | rw [if_pos rfl] | rw [if_neg (by omega)])))
  have X1 := hid (show (((w.alloc (sb 0)).alloc (sb 0)).alloc (wyO 0 1)).heap[w.heap.size + 1]? = some (sb 0) from (by simp only [heap_alloc_get, World.size_alloc]; repeat (first | rw [if_pos trivial] | rw [if_pos rfl] | rw [if_neg (by omega)])))
  refine (HG.out _ (((HA.out.alloc _).alloc _).alloc _)).mono ?_
  rintro e w2 ⟨rfl, F2, a2, s2⟩
  have A2 := hid a2
  have S2 := hid ((((Step.refl w F).alloc (sb 0)).alloc (sb 0)).alloc (wyO 0 1) |>.trans s2)
  have T0 := hid (And.intro (s2.heap X0.out (HN0.out _ (Nat.le_refl _))) (s2.out (HN0.out _ (Nat.le_refl _)) (lt_of_heap X0.out)))
  have T1 := hid (And.intro (s2.heap X1.out (HN0.out _ (by omega))) (s2.out (HN0.out _ (by omega)) (lt_of_heap X1.out)))
  have k0 := cell_sb8 T0.out.1
  have f0 := frozen_of_heap (i := 0) T0.out.1
  have Y1 := hid ((Below.heap_setCell w2 ⟨w.heap.size, 0, none⟩ (.int .u32 (V : Nat)) (w.heap.size + 1) (by show w.heap.size + 1 ≠ w.heap.size; omega)).trans T1.out.1)
  have k1 := cell_sb8 Y1.out
  have f1 := frozen_of_heap (i := 0) Y1.out
  clear a2 s2
  go_wp2
  have d1 := cell_sb8 (heap_setCell_at _ _ 0 _ _ _ (.int .u32 (M : Nat)) Y1.out)
  have d0 := cell_sb8 ((Below.heap_setCell (w2.setCell ⟨w.heap.size, 0, none⟩ (.int .u32 (V : Nat))) ⟨w.heap.size + 1, 0, none⟩ (.int .u32 (M : Nat)) w.heap.size (by show w.heap.size ≠ w.heap.size + 1; omega)).trans (heap_setCell_at _ _ 0 _ _ _ (.int .u32 (V : Nat)) T0.out.1))
  exact bodyPost_ret (v := .tuple #[sec (V : Nat), sec (M : Nat), .bool true]) (by simp only [results, Try.results19]; simp [go_sem, d0, d1]) rfl ⟨rfl, F2, (A2.out.setOther _ _ T0.out.2).setOther _ _ T1.out.2, (S2.out.setNew _ _ (Nat.le_refl _)).setNew _ _ (by show w.heap.size ≤ w.heap.size + 1; omega)⟩
set_option maxHeartbeats 800000 in
theorem last_yes (h : Hn) (F : Nat → Prop) (A : Ars) (L H n : Nat) (w : World) (a : Ar w h F A) (hin : L + n ≤ A.top) (hin2 : H + n ≤ A.top) (hap : L + n ≤ H ∨ H + n ≤ L) (hes : A.es.length ≤ 300000000) :
    Calls Try.prog 20 #[arPtr h, .int .i64 (L : Int), .int .i64 (H : Int), .int .i64 (n : Int)] w fun e w' => e = .returned (.tuple #[sec (fw A L H (bk n) n : Nat), sec (mk (fm A H (bk n) n) : Nat), .bool true]) ∧ ∃ F', Ar w' h F' (evg A L H (bk n) n) ∧ Step w F w' F' := by
  have hb1 := a.ok.1
  have hb2 := a.ok.2.1
  have HA := hid a
  have HN0 := hid (show ∀ i, w.heap.size ≤ i → ¬ F i from fun i hi x => by have := a.lt _ x; omega)
  have HG := hid (fun w' a' => find_yes h F A L H n ((n : Int) - 1) (-1) (bk n) w' a' hin hin2 hap hes (fun k w'' hk => number_back n k w'' (by omega) hk) (fun k hk => by unfold bk; omega))
  clear a hap
  obtain ⟨V, hV⟩ : ∃ V, fw A L H (bk n) n = V := ⟨_, rfl⟩
  obtain ⟨M, hM⟩ : ∃ M, mk (fm A H (bk n) n) = M := ⟨_, rfl⟩
  rw [hV, hM] at HG
  rw [hV, hM]
  clear hV hM
  go_enter Try.func20, Try.ntmps20
  go_wp2_with (go_at_call 37; refine (back_any _ _ (by omega) (by omega)).mono ?_; rintro e w' ⟨rfl, rfl⟩)
  have X0 := hid (show (((w.alloc (sb 0)).alloc (sb 0)).alloc (wyO ((n : Int) - 1) (-1))).heap[w.heap.size]? = some (sb 0) from (by simp only [heap_alloc_get, World.size_alloc]; repeat (first | rw [if_pos trivial] | rw [if_pos rfl] | rw [if_neg (by omega)])))
  have X1 := hid (show (((w.alloc (sb 0)).alloc (sb 0)).alloc (wyO ((n : Int) - 1) (-1))).heap[w.heap.size + 1]? = some (sb 0) from (by simp only [heap_alloc_get, World.size_alloc]; repeat (first | rw [if_pos trivial] | rw [if_pos rfl] | rw [if_neg (by omega)])))
  refine (HG.out _ (((HA.out.alloc _).alloc _).alloc _)).mono ?_
  rintro e w2 ⟨rfl, F2, a2, s2⟩
  have A2 := hid a2
  have S2 := hid ((((Step.refl w F).alloc (sb 0)).alloc (sb 0)).alloc (wyO ((n : Int) - 1) (-1)) |>.trans s2)
  have T0 := hid (And.intro (s2.heap X0.out (HN0.out _ (Nat.le_refl _))) (s2.out (HN0.out _ (Nat.le_refl _)) (lt_of_heap X0.out)))
  have T1 := hid (And.intro (s2.heap X1.out (HN0.out _ (by omega))) (s2.out (HN0.out _ (by omega)) (lt_of_heap X1.out)))
  have k0 := cell_sb8 T0.out.1
  have f0 := frozen_of_heap (i := 0) T0.out.1
  have Y1 := hid ((Below.heap_setCell w2 ⟨w.heap.size, 0, none⟩ (.int .u32 (V : Nat)) (w.heap.size + 1) (by show w.heap.size + 1 ≠ w.heap.size; omega)).trans T1.out.1)
  have k1 := cell_sb8 Y1.out
  have f1 := frozen_of_heap (i := 0) Y1.out
  clear a2 s2
  go_wp2
  have d1 := cell_sb8 (heap_setCell_at _ _ 0 _ _ _ (.int .u32 (M : Nat)) Y1.out)
  have d0 := cell_sb8 ((Below.heap_setCell (w2.setCell ⟨w.heap.size, 0, none⟩ (.int .u32 (V : Nat))) ⟨w.heap.size + 1, 0, none⟩ (.int .u32 (M : Nat)) w.heap.size (by show w.heap.size ≠ w.heap.size + 1; omega)).trans (heap_setCell_at _ _ 0 _ _ _ (.int .u32 (V : Nat)) T0.out.1))
  exact bodyPost_ret (v := .tuple #[sec (V : Nat), sec (M : Nat), .bool true]) (by simp only [results, Try.results20]; simp [go_sem, d0, d1]) rfl ⟨rfl, F2, (A2.out.setOther _ _ T0.out.2).setOther _ _ T1.out.2, (S2.out.setNew _ _ (Nat.le_refl _)).setNew _ _ (by show w.heap.size ≤ w.heap.size + 1; omega)⟩
end Go.Proofs.Ytnnmaegpiddnbaa
