/- The law CtSums returns true at all words. -/
import Derived.Test.YteiienkneojleaaCtU
namespace Go.Proofs.Yteiienkneojleaa
open Go.RowKit

set_option maxHeartbeats 1600000 in
theorem ctSums_walk (a b : Nat) (w : World) (ha : a < 4294967296) (hb : b < 4294967296) :
    Calls Try.prog 4 #[u32 a, u32 b] w fun e w' => e = .returned (.bool true) ∧ Below w.heap.size w w' := by
  go_enter Try.func4, Try.ntmps4
  go_wp2_with fail
  refine (awake_any _).mono ?_
  rintro e w1 ⟨rfl, hb1⟩
  go_wp2_with fail
  refine (of_any _ _).mono ?_
  rintro e w2 ⟨rfl, rfl⟩
  go_wp2_with fail
  refine (of_any _ _).mono ?_
  rintro e w2 ⟨rfl, rfl⟩
  go_wp2_with fail
  go_region_held3 (fun w' => w'.cell? ⟨w1.heap.size + 1 + 1, 0, none⟩ = some (.int .u32 a) ∧ w'.cell? ⟨w1.heap.size + 1 + 1 + 1, 0, none⟩ = some (.int .u32 b) ∧ Below w.heap.size w w')
    (first | exact held2 (by assumption) (by assumption) (Nat.le_refl _) | exact ⟨by rw [cell_drew, World.cell?_alloc_past _ _ _ (by simp), World.cell?_alloc_at _ _ _ _ (by simp)]; rfl, by rw [cell_drew, World.cell?_alloc_at _ _ _ _ (by simp)]; rfl, hb1.trans (by refine Below.mono ?_ hb1.size; exact (by repeat (first | exact Below.refl _ _ | refine blw_alloc ?_ | refine blw_drew ?_ | assumption)))⟩)
    (first
      | (go_at_call 19; refine (add_b _ _ _ (by first | assumption | exact subW_lt _ _) (by assumption)).mono ?_; rintro e w' ⟨rfl, hbx⟩)
      | (go_at_call 20; refine (sub_b _ _ _ (by first | assumption | exact addW_lt _ _) (by assumption)).mono ?_; rintro e w' ⟨rfl, hbx⟩)
      | (go_at_call 11; refine (is_true _ _ (by simp only [addW, subW, IntKind.wrap_u32']; omega) _).mono ?_; rintro e w' ⟨rfl, hbx⟩))
  go_wp2
  go_ret
  exact ⟨rfl, third (by assumption)⟩
end Go.Proofs.Yteiienkneojleaa
