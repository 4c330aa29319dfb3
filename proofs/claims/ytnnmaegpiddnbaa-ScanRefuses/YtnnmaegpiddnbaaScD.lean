/- The contracts of scan.Ors and scan.Behind; the laws' told, same and lay (layer 5), over this seat's translation. Conditions: the log has at most some hundred million events. -/
import Derived.Test.YtnnmaegpiddnbaaScC
import Derived.Test.YtnnmaegpiddnbaaArQ
namespace Go.Proofs.Ytnnmaegpiddnbaa
open Go.RowKit

def bk (n k : Nat) : Nat := n - 1 - k
set_option maxHeartbeats 800000 in
theorem ors_yes (h : Hn) (F : Nat → Prop) (A : Ars) (L n : Nat) (w : World) (a : Ar w h F A) (hin : L + n ≤ A.top) (hes : A.es.length ≤ 300000000) :
    Calls Try.prog 13 #[arPtr h, .int .i64 (L : Int), .int .i64 (n : Int)] w fun e w' => e = .returned (.tuple #[sec (ov A L (fun i => i) n : Nat), .bool true]) ∧ ∃ F', Ar w' h F' (evo A (fun i => L + i) (fun i => ov A L (fun i => i) (i + 1)) n) ∧ Step w F w' F' := by
  have hb1 := a.ok.1
  have hb2 := a.ok.2.1
  have HA := hid a
  have HN0 := hid (show ¬ F w.heap.size from fun x => by have := a.lt _ x; omega)
  have HG := hid (fun w' F' a' => sgather_yes h F' A L n 0 1 (fun i => i) w' a' hin hes (fun k w'' hk => number_forth k w'' (by omega)) (fun k hk => hk) (fun i j _ _ e => e))
  clear a
  go_enter Try.func13, Try.ntmps13
  go_wp2_with (go_at_call 36; refine (forth_any _).mono ?_; rintro e w' ⟨rfl, rfl⟩)
  refine (HG.out _ F ((HA.out.alloc _).alloc _)).mono ?_
  rintro e w2 ⟨rfl, F2, a2, s2⟩
  have A2 := hid a2
  have S2 := hid (((Step.refl w F).alloc (sb 0)).alloc (wyO 0 1) |>.trans s2)
  have T2 := hid (And.intro (s2.heap (show ((w.alloc (sb 0)).alloc (wyO 0 1)).heap[w.heap.size]? = some (sb 0) from (heap_alloc_old _ _ _ (by simp)).trans (heap_alloc_at _ _)) HN0.out) (s2.out HN0.out (by simp; omega)))
  have k0 := cell_sb8 T2.out.1
  have f0 := frozen_of_heap (i := 0) T2.out.1
  obtain ⟨V, hV⟩ : ∃ V, ov A L (fun i => i) n = V := ⟨_, rfl⟩
  have HV := hid hV
  rw [hV]
  clear a2 s2 hV
  go_wp2
  have hs := heap_setCell_at _ _ 0 _ _ _ (.int .u32 (V : Int)) T2.out.1
  have d0 := cell_of_heap (i := 0) hs rfl
  exact bodyPost_ret (v := .tuple #[sec (V : Int), .bool true]) (by simp only [results, Try.results13]; simp [go_sem, d0]) rfl ⟨by rw [HV.out], F2, A2.out.setOther _ _ T2.out.2, S2.out.setNew _ _ (Nat.le_refl _)⟩

set_option maxHeartbeats 800000 in
theorem behind_yes (h : Hn) (F : Nat → Prop) (A : Ars) (L n : Nat) (w : World) (a : Ar w h F A) (hin : L + n ≤ A.top) (hes : A.es.length ≤ 300000000) :
    Calls Try.prog 15 #[arPtr h, .int .i64 (L : Int), .int .i64 (n : Int)] w fun e w' => e = .returned (.tuple #[sec (ov A L (bk n) n : Nat), .bool true]) ∧ ∃ F', Ar w' h F' (evo A (fun i => L + bk n i) (fun i => ov A L (bk n) (i + 1)) n) ∧ Step w F w' F' := by
  have hb1 := a.ok.1
  have hb2 := a.ok.2.1
  have HA := hid a
  have HN0 := hid (show ¬ F w.heap.size from fun x => by have := a.lt _ x; omega)
  have HG := hid (fun w' F' a' => sgather_yes h F' A L n ((n : Int) - 1) (-1) (bk n) w' a' hin hes (fun k w'' hk => number_back n k w'' (by omega) hk) (fun k hk => by unfold bk; omega) (fun i j hi hj e => by unfold bk at e; omega))
  clear a
  go_enter Try.func15, Try.ntmps15
  go_wp2_with (go_at_call 37; refine (back_any _ _ (by omega) (by omega)).mono ?_; rintro e w' ⟨rfl, rfl⟩)
  refine (HG.out _ F ((HA.out.alloc _).alloc _)).mono ?_
  rintro e w2 ⟨rfl, F2, a2, s2⟩
  have A2 := hid a2
  have S2 := hid (((Step.refl w F).alloc (sb 0)).alloc (wyO ((n : Int) - 1) (-1)) |>.trans s2)
  have T2 := hid (And.intro (s2.heap (show ((w.alloc (sb 0)).alloc (wyO ((n : Int) - 1) (-1))).heap[w.heap.size]? = some (sb 0) from (heap_alloc_old _ _ _ (by simp)).trans (heap_alloc_at _ _)) HN0.out) (s2.out HN0.out (by simp; omega)))
  have k0 := cell_sb8 T2.out.1
  have f0 := frozen_of_heap (i := 0) T2.out.1
  obtain ⟨V, hV⟩ : ∃ V, ov A L (bk n) n = V := ⟨_, rfl⟩
  have HV := hid hV
  rw [hV]
  clear a2 s2 hV
  go_wp2
  have hs := heap_setCell_at _ _ 0 _ _ _ (.int .u32 (V : Int)) T2.out.1
  have d0 := cell_of_heap (i := 0) hs rfl
  exact bodyPost_ret (v := .tuple #[sec (V : Int), .bool true]) (by simp only [results, Try.results15]; simp [go_sem, d0]) rfl ⟨by rw [HV.out], F2, A2.out.setOther _ _ T2.out.2, S2.out.setNew _ _ (Nat.le_refl _)⟩

set_option maxHeartbeats 800000 in
theorem told5_any (v : Int) (w : World) : Calls Try.prog 16 #[sec v] w fun e w' => e = .returned (u32 v) ∧ Below w.heap.size w w' := by
  have HL := hid (show LogAt ((w.alloc (sb v)).alloc (.cells #[.slice none 0 0] 60)).drew (w.heap.size + 1) none 0 [] by
    have := log_new_at (w.alloc (sb v))
    rw [World.size_alloc] at this
    exact this.kept (S := fun _ => False) (Fr.refl _ _).drew (fun x => x) (fun _ _ x => x))
  go_enter Try.func16, Try.ntmps16
  go_wp2
  go_region_with (first | (go_at_call 38; refine (newlog_any _).mono ?_; rintro e w1 ⟨rfl, rfl⟩) | (go_at_call 39; refine (release_any (w.heap.size + 1) none 0 [] v _ HL.out (by decide)).mono ?_; rintro e w1 ⟨rfl, hN⟩))
  all_goals
    go_wp2
    go_ret
    refine ⟨rfl, ?_⟩
    exact Below.trans (by repeat (first | exact Below.refl _ _ | refine blw_alloc ?_ | refine blw_drew ?_ | assumption)) (noted_below hN (by simp; omega) (by omega) (by intro k hk; cases hk))

set_option maxHeartbeats 1600000 in
theorem same5_yes (ad ae : Option Addr) (c d : Nat) (l : List Nat) (w : World) (h1 : U32s w ad l) (h2 : U32s w ae l) (hn : l.length ≤ 1000000000) :
    Calls Try.prog 17 #[.slice ad l.length c, .slice ae l.length d] w fun e w' => e = .returned (.bool true) ∧ Below w.heap.size w w' := by
  have H1 := hid h1
  have H2 := hid h2
  clear h1 h2
  go_enter Try.func17, Try.ntmps17
  go_wp2_with fail
  go_loopw [13] (fun i wr => ∃ k : Nat, k ≤ l.length ∧ i = .int .i64 (k : Int) ∧ Below w.heap.size w wr) (fun i _ => l.length - (intOf i).toNat)
  case atStart => exact ⟨0, Nat.zero_le _, rfl, Below.refl _ _⟩
  case round =>
    obtain ⟨k, hk, rfl, hB⟩ := hrel
    have HB := hid hB
    by_cases hlt : k < l.length
    · obtain ⟨x, rfl, hx⟩ := (H1.out.below hB) k hlt
      obtain ⟨y, rfl, hy⟩ := (H2.out.below hB) k hlt
      obtain ⟨v, hv⟩ : ∃ v, l[k] = v := ⟨_, rfl⟩
      rw [hv] at hx hy
      have KS := hid (show ∀ w' : World, Below wr.heap.size wr w' → w'.cell? (x.add k) = some (.int .u32 (v : Int)) ∧ w'.cell? (y.add k) = some (.int .u32 (v : Int)) from fun w' hb => ⟨cell_later hb hx, cell_later hb hy⟩)
      clear hB hv
      go_wp2_with fail
      refine wp_region_held_drew (S := (fun w' => w'.cell? (x.add k) = some (.int .u32 (v : Int)) ∧ w'.cell? (y.add k) = some (.int .u32 (v : Int)))) (by kernel_rfl) (KS.out _ (blw_drew (Below.refl _ _))) (fun hHeld => ?_)
      refine tk_at (i := 0) (d := some 16) (v := ?_) rfl rfl (by kernel_rfl) (by kernel_rfl) (by kernel_rfl) (fun _ _ _ h => h) (Or.inl ⟨by rfl, ?_⟩) (by assumption) ?_
      rotate_left
      · (intro w hSw; (try dsimp only at hSw); go_simp; try (with_reducible rfl))
      simp only [Act.put, List.setIfInBounds_toArray, List.set_cons_zero, List.set_cons_succ]
      refine tk_at (i := 1) (d := some 17) (v := ?_) rfl rfl (by kernel_rfl) (by kernel_rfl) (by kernel_rfl) (fun _ _ _ h => h) (Or.inl ⟨by rfl, ?_⟩) (by assumption) ?_
      rotate_left
      · (intro w hSw; (try dsimp only at hSw); go_simp; try (with_reducible rfl))
      simp only [Act.put, List.setIfInBounds_toArray, List.set_cons_zero, List.set_cons_succ]
      refine tk_at (i := 2) (d := some 18) (v := ?_) rfl rfl (by kernel_rfl) (by kernel_rfl) (by kernel_rfl) (fun _ _ _ h => h) (Or.inl ⟨by rfl, ?_⟩) (by assumption) ?_
      rotate_left
      · (intro w hSw; (try dsimp only at hSw); go_simp; try (with_reducible rfl))
      simp only [Act.put, List.setIfInBounds_toArray, List.set_cons_zero, List.set_cons_succ]
      refine tk_at (i := 3) (d := some 19) (v := ?_) rfl rfl (by kernel_rfl) (by kernel_rfl) (by kernel_rfl) (fun _ _ _ h => h) (Or.inl ⟨by rfl, ?_⟩) (by assumption) ?_
      rotate_left
      · (intro w hSw; (try dsimp only at hSw); go_simp; try (with_reducible rfl))
      simp only [Act.put, List.setIfInBounds_toArray, List.set_cons_zero, List.set_cons_succ]
      refine tk_at (i := 4) (d := some 20) (v := ?_) rfl rfl (by kernel_rfl) (by kernel_rfl) (by kernel_rfl) (fun _ _ _ h => h) (Or.inl ⟨by rfl, ?_⟩) (by assumption) ?_
      rotate_left
      · (intro w hSw; (try dsimp only at hSw); go_simp; try (with_reducible rfl))
      simp only [Act.put, List.setIfInBounds_toArray, List.set_cons_zero, List.set_cons_succ]
      refine tk_at (i := 5) (d := some 21) (v := ?_) rfl rfl (by kernel_rfl) (by kernel_rfl) (by kernel_rfl) (fun _ _ _ h => h) (Or.inl ⟨by rfl, ?_⟩) (by assumption) ?_
      rotate_left
      · (intro w hSw; (try dsimp only at hSw); go_simp; try (with_reducible rfl))
      simp only [Act.put, List.setIfInBounds_toArray, List.set_cons_zero, List.set_cons_succ]
      refine tk_at (i := 6) (d := some 22) (v := ?_) rfl rfl (by kernel_rfl) (by kernel_rfl) (by kernel_rfl) (fun _ _ _ h => h) (Or.inl ⟨by rfl, ?_⟩) (by assumption) ?_
      rotate_left
      · (intro w hSw; (try dsimp only at hSw); go_simp; try (with_reducible rfl))
      simp only [Act.put, List.setIfInBounds_toArray, List.set_cons_zero, List.set_cons_succ]
      refine tk_at (i := 7) (d := some 23) (v := ?_) rfl rfl (by kernel_rfl) (by kernel_rfl) (by kernel_rfl) (fun _ _ _ h => h) (Or.inl ⟨by rfl, ?_⟩) (by assumption) ?_
      rotate_left
      · (intro w hSw; (try dsimp only at hSw); go_simp; try (with_reducible rfl))
      simp only [Act.put, List.setIfInBounds_toArray, List.set_cons_zero, List.set_cons_succ]
      refine tk_at (i := 8) (d := some 24) (v := ?_) rfl rfl (by kernel_rfl) (by kernel_rfl) (by kernel_rfl) (fun _ _ _ h => h) (Or.inl ⟨by rfl, ?_⟩) (by assumption) ?_
      rotate_left
      · (intro w hSw; (try dsimp only at hSw); go_simp; try (with_reducible rfl))
      simp only [Act.put, List.setIfInBounds_toArray, List.set_cons_zero, List.set_cons_succ]
      refine wpAnyH_done (by kernel_rfl) ?_ _
      clear hHeld
      clear hx hy
      go_wp2
      go_roundw
      case rel => exact ⟨k + 1, by omega, by go_num, blw_drew HB.out⟩
      case measure => simp [intOf]; omega
    · go_wp2
      go_ret
      exact ⟨rfl, HB.out⟩
end Go.Proofs.Ytnnmaegpiddnbaa
