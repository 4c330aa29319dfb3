/- Contracts of package ct's moves, as far as this seat has them, over this seat's translation. No conditions but the words' bounds. -/
import Derived.Test.YtnablmiocbijgaaCtW
import Derived.Laws.BitsLemmas
namespace Go.Proofs.Ytnablmiocbijgaa
open Go.RowKit

theorem i64_and31 (n : Int) : bits .and .i64 n 31 = n % 32 := by
  have h31 : (BitVec.ofInt 64 31).toNat = 2 ^ 5 - 1 := by decide
  have key : (BitVec.ofInt 64 n &&& BitVec.ofInt 64 31).toNat = (n % ((2 ^ 64 : Nat) : Int)).toNat % 2 ^ 5 := by
    rw [BitVec.toNat_and, BitVec.toNat_ofInt, h31, Nat.and_two_pow_sub_one_eq_mod]
  show IntKind.i64.wrap ((BitVec.ofInt 64 n &&& BitVec.ofInt 64 31).toNat : Nat) = n % 32
  rw [key, IntKind.wrap_i64]
  omega
theorem u64_and31 (k : Int) : bits .and .u64 (IntKind.u64.wrap k) 31 = k % 32 := by
  have h31 : (BitVec.ofInt 64 31).toNat = 2 ^ 5 - 1 := by decide
  have key : (BitVec.ofInt 64 (IntKind.u64.wrap k) &&& BitVec.ofInt 64 31).toNat = (IntKind.u64.wrap k % ((2 ^ 64 : Nat) : Int)).toNat % 2 ^ 5 := by
    rw [BitVec.toNat_and, BitVec.toNat_ofInt, h31, Nat.and_two_pow_sub_one_eq_mod]
  show IntKind.u64.wrap ((BitVec.ofInt 64 (IntKind.u64.wrap k) &&& BitVec.ofInt 64 31).toNat : Nat) = k % 32
  rw [key]
  simp only [IntKind.wrap_u64]
  omega

def shl (a m : Nat) : Nat := a * 2 ^ min m 32 % 4294967296
def shr (a m : Nat) : Nat := a / 2 ^ min m 32
def rotr (a r : Nat) : Nat := shl a ((32 - r) % 32) ||| shr a (32 - (32 - r) % 32)
theorem shl_lt (a m : Nat) : shl a m < 4294967296 := Nat.mod_lt _ (by decide)
theorem shr_lt (a m : Nat) (ha : a < 4294967296) : shr a m < 4294967296 := Nat.lt_of_le_of_lt (Nat.div_le_self _ _) ha
theorem rotr_lt (a r : Nat) (ha : a < 4294967296) : rotr a r < 4294967296 := or32 (shl_lt _ _) (shr_lt _ _ ha)
theorem shl_bit (a m i : Nat) (hi : i < 32) : (shl a m).testBit i = (decide (m ≤ i) && a.testBit (i - m)) := by
  unfold shl
  rw [show (4294967296 : Nat) = 2 ^ 32 from rfl, Nat.testBit_mod_two_pow, ← Nat.shiftLeft_eq, Nat.testBit_shiftLeft]
  by_cases h : m ≤ i
  · have e : min m 32 = m := by omega
    simp [h, hi, e]
  · have : ¬ min m 32 ≤ i := by omega
    simp [h, this]
theorem shr_bit (a m i : Nat) (ha : a < 4294967296) : (shr a m).testBit i = a.testBit (m + i) := by
  unfold shr
  rw [Nat.testBit_div_two_pow]
  by_cases h : m ≤ 32
  · have e : min m 32 = m := by omega
    rw [e, Nat.add_comm]
  · have e : min m 32 = 32 := by omega
    have z : ∀ j, 32 ≤ j → a.testBit j = false := fun j hj => Nat.testBit_lt_two_pow (Nat.lt_of_lt_of_le ha (Nat.pow_le_pow_right (n := 2) (by decide) hj))
    rw [e, z _ (by omega), z _ (by omega)]

theorem shl_cast (a m : Nat) : ((a : Int) * 2 ^ min m 32) % 4294967296 = ((shl a m : Nat) : Int) := by
  unfold shl; rw [Int.natCast_emod, Int.natCast_mul, Int.natCast_pow]; rfl
theorem shr_cast (a m : Nat) : ((a : Int) / 2 ^ min m 32) = ((shr a m : Nat) : Int) := by
  unfold shr; rw [Int.natCast_ediv, Int.natCast_pow]; rfl

set_option maxHeartbeats 400000 in
theorem shl_any (a : Nat) (n : Int) (w : World) (ha : a < 4294967296) :
    Calls Try.prog 34 #[sec a, .int .i64 n] w fun e w' => e = .returned (sec (shl a n.toNat : Nat)) ∧ w' = ((w.alloc (sb (a : Int))).alloc (sb (shl a n.toNat : Nat))).alloc (sb (shl a n.toNat : Nat)) := by
  go_enter Try.func34, Try.ntmps34
  go_wp2_with (go_at_call 7; refine (of_any _ _).mono ?_; rintro e w' ⟨rfl, rfl⟩)
  · have hf : (a : Int) = ((shl a n.toNat : Nat) : Int) := by
      have : n.toNat = 0 := by omega
      rw [this]; unfold shl; simp; omega
    exact bodyPost_ret (v := sec (shl a n.toNat : Nat)) (by simp [results, Try.results34, go_sem]; exact hf) rfl ⟨rfl, by rw [← hf]⟩
  · have hf := shl_cast a n.toNat
    exact bodyPost_ret (v := sec (shl a n.toNat : Nat)) (by simp [results, Try.results34, go_sem, ← hf]) rfl ⟨rfl, by rw [← hf]⟩

theorem shl_b (a : Nat) (n : Int) (w : World) (ha : a < 4294967296) : Calls Try.prog 34 #[sec a, .int .i64 n] w fun e w' => e = .returned (sec (shl a n.toNat : Nat)) ∧ Below w.heap.size w w' :=
  (shl_any a n w ha).mono fun _ _ ⟨he, hw⟩ => ⟨he, by subst hw; exact (by repeat (first | exact Below.refl _ _ | refine blw_alloc ?_ | refine blw_drew ?_ | assumption))⟩
end Go.Proofs.Ytnablmiocbijgaa
