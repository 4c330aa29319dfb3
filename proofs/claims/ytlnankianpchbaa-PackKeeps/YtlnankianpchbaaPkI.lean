/- The laws' told (layer 4), over this seat's translation. No conditions. -/
import Derived.Test.YtlnankianpchbaaPkH
import Derived.Test.YtlnankianpchbaaArQ
import Derived.Deep.RegionWith
namespace Go.Proofs.Ytlnankianpchbaa
open Go.RowKit

theorem noted_below {g : Nat} {ob : Option Nat} {n B : Nat} {xs e : List Value} {w w' : World} (h : Noted g ob n xs e w w') (hB : B ≤ w.heap.size) (hg : B ≤ g) (hob : ∀ k, ob = some k → B ≤ k) : Below B w w' := by
  obtain ⟨k, _, _, h3⟩ := h
  exact h3.below hB (fun i hi x => x.elim (fun x => by omega) (fun x => by have := hob _ x; omega))
theorem log_new_at (W : World) : LogAt (W.alloc (.cells #[.slice none 0 0] 71)) W.heap.size none 0 [] := ⟨_, heap_alloc_at _ _, rfl, ⟨rfl, Or.inl ⟨rfl, rfl⟩⟩⟩
set_option maxHeartbeats 800000 in
theorem told_any (v : Int) (w : World) : Calls Try.prog 24 #[sec v] w fun e w' => e = .returned (u32 v) ∧ Below w.heap.size w w' := by
  have HL := hid (show LogAt ((w.alloc (sb v)).alloc (.cells #[.slice none 0 0] 71)).drew (w.heap.size + 1) none 0 [] by
    have := log_new_at (w.alloc (sb v))
    rw [World.size_alloc] at this
    exact this.kept (S := fun _ => False) (Fr.refl _ _).drew (fun x => x) (fun _ _ x => x))
  go_enter Try.func24, Try.ntmps24
  go_wp2
  go_region_with (first | (go_at_call 29; refine (newlog_any _).mono ?_; rintro e w1 ⟨rfl, rfl⟩) | (go_at_call 48; refine (release_any (w.heap.size + 1) none 0 [] v _ HL.out (by decide)).mono ?_; rintro e w1 ⟨rfl, hN⟩))
  all_goals
    go_wp2
    go_ret
    refine ⟨rfl, ?_⟩
    exact Below.trans (by repeat (first | exact Below.refl _ _ | refine blw_alloc ?_ | refine blw_drew ?_ | assumption)) (noted_below hN (by simp; omega) (by omega) (by intro k hk; cases hk))
end Go.Proofs.Ytlnankianpchbaa
