/- The law CtBits returns true at all words. -/
import Derived.Test.YteiienkneojleaaCtU
import Derived.Test.YteiienkneojleaaCtT
namespace Go.Proofs.Yteiienkneojleaa
open Go.RowKit

theorem notW_xor (a : Nat) : notW a = xorW a (mk true) := Nat.xor_comm _ _

set_option maxHeartbeats 1600000 in
theorem ctBits_walk (a b : Nat) (w : World) (ha : a < 4294967296) (hb : b < 4294967296) :
    Calls Try.prog 3 #[u32 a, u32 b] w fun e w' => e = .returned (.bool true) ∧ Below w.heap.size w w' := by
  have hm := mk_lt true
  go_enter Try.func3, Try.ntmps3
  go_wp2_with fail
  refine (awake_any _).mono ?_
  rintro e w1 ⟨rfl, hb1⟩
  go_wp2_with fail
  refine (of_any _ _).mono ?_
  rintro e w2 ⟨rfl, rfl⟩
  go_wp2_with fail
  refine (of_any _ _).mono ?_
  rintro e w2 ⟨rfl, rfl⟩
  go_wp2_with fail
  refine (and_b a b _ ha hb).mono ?_
  rintro e w2 ⟨rfl, hbx⟩
  have hS := held2 (B := w.heap.size) (w0 := w) (x := ⟨w1.heap.size + 1 + 1, 0, none⟩) (y := ⟨w1.heap.size + 1 + 1 + 1, 0, none⟩) (a := .int .u32 a) (b := .int .u32 b) hbx
    ⟨by rw [World.cell?_alloc_past _ _ _ (by simp), World.cell?_alloc_at _ _ _ _ (by simp)]; rfl, by rw [World.cell?_alloc_at _ _ _ _ (by simp)]; rfl, hb1.trans (by refine Below.mono ?_ hb1.size; exact (by repeat (first | exact Below.refl _ _ | refine blw_alloc ?_ | refine blw_drew ?_ | assumption)))⟩ (Nat.le_refl _)
  clear hbx hb1
  go_wp2_with (first
    | (go_at_call 14; refine (or_b a b _ ha hb).mono ?_; rintro e w3 ⟨rfl, hbx⟩; replace hS := held2 hbx hS (Nat.le_refl _); clear hbx)
    | (go_at_call 15; refine (xor_b a b _ ha hb).mono ?_; rintro e w3 ⟨rfl, hbx⟩; replace hS := held2 hbx hS (Nat.le_refl _); clear hbx)
    | (go_at_call 16; refine (not_b a _ ha).mono ?_; rintro e w3 ⟨rfl, hbx⟩; replace hS := held2 hbx hS (Nat.le_refl _); clear hbx; rw [notW_xor])
    | (go_at_call 18; refine (mask_b _ _).mono ?_; rintro e w3 ⟨rfl, hbx⟩; replace hS := held2 hbx hS (Nat.le_refl _); clear hbx)
    | (go_at_call 17; refine (all_any _ _).mono ?_; rintro e w3 ⟨rfl, rfl⟩)
    | (go_at_call_of 13 (Value.int .i64 0); refine (both0_b a b _ ha).mono ?_; rintro e w3 ⟨rfl, hbx⟩; replace hS := held2 hbx hS (Nat.le_refl _); clear hbx)
    | (go_at_call_of 13 (Value.int .i64 1); refine (both1_b a b _ ha hb).mono ?_; rintro e w3 ⟨rfl, hbx⟩; replace hS := held2 hbx hS (Nat.le_refl _); clear hbx)
    | (go_at_call_of 13 (Value.int .i64 2); refine (both2_b a _ _ ha (by assumption)).mono ?_; rintro e w3 ⟨rfl, hbx⟩; replace hS := held2 hbx hS (Nat.le_refl _); clear hbx)
    | (go_at_call 11; refine (is_same _ _).mono ?_; rintro e w3 ⟨rfl, hbx⟩; replace hS := held2 hbx hS (Nat.le_refl _); clear hbx))
  go_ret
  exact ⟨rfl, third (by assumption)⟩
end Go.Proofs.Yteiienkneojleaa
