/- The law CtMoves returns true at all words and numbers. -/
import Derived.Test.YteiienkneojleaaCtU
import Derived.Test.YteiienkneojleaaCtT
namespace Go.Proofs.Yteiienkneojleaa
open Go.RowKit

theorem shl_min (a m : Nat) : shl a (min m 32) = shl a m := by unfold shl; rw [show min (min m 32) 32 = min m 32 by omega]
theorem shr_min (a m : Nat) : shr a (min m 32) = shr a m := by unfold shr; rw [show min (min m 32) 32 = min m 32 by omega]

theorem chain2 {B : Nat} {w0 w w' : World} (hb : Below w.heap.size w w') (h : Below B w0 w) (hB : B ≤ w0.heap.size) : Below B w0 w' := h.trans (hb.mono (Nat.le_trans hB h.size))

set_option maxHeartbeats 1600000 in
theorem ctMoves_at (a : Nat) (n : Int) (k r : Nat) (w : World) (ha : a < 4294967296) (hk : k ≤ 32) (hkn : k = min n.toNat 32) (hr : n % 32 = (r : Int))
    (kv nk : Int) (hnk : nk = -(k : Int)) (hkv : kv = (k : Int)) (hc : (n < 0 ∧ kv = 0 ∧ nk = 0) ∨ (0 ≤ n ∧ n ≤ 32 ∧ kv = n ∧ nk = -n) ∨ (32 < n ∧ kv = 32 ∧ nk = -32)) :
    Calls Try.prog 5 #[u32 a, .int .i64 n] w fun e w' => e = .returned (.bool true) ∧ Below w.heap.size w w' := by
  have HL : Hid (∀ w, Calls Try.prog 22 #[u32 a, .int .i64 nk] w fun e w' => e = .returned (u32 (shl a n.toNat : Nat)) ∧ Below w.heap.size w w') := by
    unfold Hid; intro w; have h := moveL_b a k w hk; rw [← hnk, hkn, shl_min] at h; exact h
  have HR : Hid (∀ w, Calls Try.prog 22 #[u32 a, .int .i64 kv] w fun e w' => e = .returned (u32 (shr a n.toNat : Nat)) ∧ Below w.heap.size w w') := by
    unfold Hid; intro w; have h := moveR_b a k w ha hk; rw [← hkv, hkn, shr_min] at h; exact h
  have HT : Hid (n % 32 = (r : Int)) := hr
  clear hkn hnk hkv hr
  rcases hc with ⟨c1, rfl, rfl⟩ | ⟨c1, c2, rfl, rfl⟩ | ⟨c1, rfl, rfl⟩
  all_goals
    go_enter Try.func5, Try.ntmps5
    go_wp2_with fail
    refine (awake_any _).mono ?_
    rintro e w1 ⟨rfl, hB⟩
    go_wp2_with (first
      | (go_at_call 10; refine (of_b _ _).mono ?_; rintro e w3 ⟨rfl, hbx⟩; replace hB := chain2 hbx hB (Nat.le_refl _); clear hbx)
      | (go_at_call 21; refine (shl_b a _ _ ha).mono ?_; rintro e w3 ⟨rfl, hbx⟩; replace hB := chain2 hbx hB (Nat.le_refl _); clear hbx)
      | (go_at_call 23; refine (shr_b a _ _ ha).mono ?_; rintro e w3 ⟨rfl, hbx⟩; replace hB := chain2 hbx hB (Nat.le_refl _); clear hbx)
      | (go_at_call 24; refine (rot_b a r _ _ ha HT.out).mono ?_; rintro e w3 ⟨rfl, hbx⟩; replace hB := chain2 hbx hB (Nat.le_refl _); clear hbx)
      | (go_at_call 25; refine (rotref_b a r _ _ ha HT.out).mono ?_; rintro e w3 ⟨rfl, hbx⟩; replace hB := chain2 hbx hB (Nat.le_refl _); clear hbx)
      | (go_at_call 11; refine (is_same _ _).mono ?_; rintro e w3 ⟨rfl, hbx⟩; replace hB := chain2 hbx hB (Nat.le_refl _); clear hbx))
    refine (HL.out _).mono ?_
    rintro e w2 ⟨rfl, hbx⟩
    replace hB := chain2 hbx hB (Nat.le_refl _)
    clear hbx HL
    go_wp2_with (first
      | (go_at_call 10; refine (of_b _ _).mono ?_; rintro e w3 ⟨rfl, hbx⟩; replace hB := chain2 hbx hB (Nat.le_refl _); clear hbx)
      | (go_at_call 23; refine (shr_b a _ _ ha).mono ?_; rintro e w3 ⟨rfl, hbx⟩; replace hB := chain2 hbx hB (Nat.le_refl _); clear hbx)
      | (go_at_call 11; refine (is_same _ _).mono ?_; rintro e w3 ⟨rfl, hbx⟩; replace hB := chain2 hbx hB (Nat.le_refl _); clear hbx))
    refine (HR.out _).mono ?_
    rintro e w2 ⟨rfl, hbx⟩
    replace hB := chain2 hbx hB (Nat.le_refl _)
    clear hbx HR
    go_wp2_with (first
      | (go_at_call 10; refine (of_b _ _).mono ?_; rintro e w3 ⟨rfl, hbx⟩; replace hB := chain2 hbx hB (Nat.le_refl _); clear hbx)
      | (go_at_call 24; refine (rot_b a r _ _ ha HT.out).mono ?_; rintro e w3 ⟨rfl, hbx⟩; replace hB := chain2 hbx hB (Nat.le_refl _); clear hbx)
      | (go_at_call 25; refine (rotref_b a r _ _ ha HT.out).mono ?_; rintro e w3 ⟨rfl, hbx⟩; replace hB := chain2 hbx hB (Nat.le_refl _); clear hbx)
      | (go_at_call 11; refine (is_same _ _).mono ?_; rintro e w3 ⟨rfl, hbx⟩; replace hB := chain2 hbx hB (Nat.le_refl _); clear hbx))
    go_ret
    exact ⟨rfl, hB⟩

theorem ctMoves_walk (a : Nat) (n : Int) (w : World) (ha : a < 4294967296) (_h1 : -9223372036854775808 ≤ n) (_h2 : n < 9223372036854775808) :
    Calls Try.prog 5 #[u32 a, .int .i64 n] w fun e w' => e = .returned (.bool true) ∧ Below w.heap.size w w' := by
  refine ctMoves_at a n (min n.toNat 32) (n % 32).toNat w ha (by omega) rfl (by omega) ((min n.toNat 32 : Nat) : Int) (-((min n.toNat 32 : Nat) : Int)) rfl rfl ?_
  omega
end Go.Proofs.Yteiienkneojleaa
