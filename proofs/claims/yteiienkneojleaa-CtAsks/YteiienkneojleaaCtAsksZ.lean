/- The law CtAsks returns true at all words. -/
import Derived.Test.YteiienkneojleaaCtAsksX
namespace Go.Proofs.Yteiienkneojleaa
open Go.RowKit

set_option maxHeartbeats 4000000 in
theorem ctAsks_eq (a b m : Nat) (w : World) (ha : a < 4294967296) (hb : b < 4294967296) (hm : m < 4294967296) (c1 : ¬ b < a) (c2 : ¬ a < b) (c3 : (a == b) = true) (c4 : ((a : Int) == (b : Int)) = true) :
    Calls Try.prog 6 #[u32 a, u32 b, u32 m] w fun e w' => e = .returned (.bool true) ∧ Below w.heap.size w w' := by
  have ht := mk_lt true
  have hf := mk_lt false
  have q2 := @of_beq0 a
  go_enter Try.func6, Try.ntmps6
  go_wp2_with fail
  refine (awake_any _).mono ?_
  rintro e w1 ⟨rfl, hb1⟩
  go_wp2_with fail
  refine (of_any _ _).mono ?_
  rintro e w2 ⟨rfl, rfl⟩
  go_wp2_with fail
  refine (of_any _ _).mono ?_
  rintro e w2 ⟨rfl, rfl⟩
  go_wp2_with fail
  go_region_held3 (fun w' => w'.cell? ⟨w1.heap.size + 1 + 1, 0, none⟩ = some (.int .u32 a) ∧ w'.cell? ⟨w1.heap.size + 1 + 1 + 1, 0, none⟩ = some (.int .u32 b) ∧ Below w.heap.size w w')
    (first | assumption | exact held2 (by assumption) (by assumption) (Nat.le_refl _) | exact ⟨by rw [cell_drew, World.cell?_alloc_past _ _ _ (by simp), World.cell?_alloc_at _ _ _ _ (by simp)]; rfl, by rw [cell_drew, World.cell?_alloc_at _ _ _ _ (by simp)]; rfl, hb1.trans (by refine Below.mono ?_ hb1.size; exact (by repeat (first | exact Below.refl _ _ | refine blw_alloc ?_ | refine blw_drew ?_ | assumption)))⟩)
    (first
      | (go_at_call 10; refine (of_b _ _).mono ?_; rintro e w' ⟨rfl, hbx⟩)
      | (go_at_call 26; refine (eq_any a b _ ha hb).mono ?_; rintro e w' ⟨rfl, hbx⟩)
      | (go_at_call 27; refine (lt_any a b _ ha hb).mono ?_; rintro e w' ⟨rfl, hbx⟩)
      | (go_at_call 28; refine (zero_b a _ ha).mono ?_; rintro e w' ⟨rfl, hbx⟩)
      | (go_at_call 17; refine (all_any _ _).mono ?_; rintro e w' ⟨rfl, hbx⟩; subst hbx)
      | (go_at_call 29; refine (sel_b _ _ _ _ (by assumption) (by assumption) (by assumption)).mono ?_; rintro e w' ⟨rfl, hbx⟩)
      | (go_at_call 30; refine (selref_b m a b _ hm ha hb).mono ?_; rintro e w' ⟨rfl, hbx⟩)
      | (go_at_call 11; refine (is_true _ _ (by first | rfl | (rw [selW_no _ _ (by assumption)]; done) | (rw [selW_no _ _ (by assumption)]; omega)) _).mono ?_; rintro e w' ⟨rfl, hbx⟩))
  all_goals
    go_wp2
    go_ret
    exact ⟨rfl, third (by assumption)⟩
end Go.Proofs.Yteiienkneojleaa
