/- Contracts of package ct's moves (Shl, Shr, Rot), over this seat's translation. No conditions but the words' bounds. -/
import Derived.Test.YteiienkneojleaaCtA
import Derived.Laws.BitsLemmas
namespace Go.Proofs.Yteiienkneojleaa
open Go.RowKit

theorem i64_and31 (n : Int) : bits .and .i64 n 31 = n % 32 := by
  have h31 : (BitVec.ofInt 64 31).toNat = 2 ^ 5 - 1 := by decide
  have key : (BitVec.ofInt 64 n &&& BitVec.ofInt 64 31).toNat = (n % ((2 ^ 64 : Nat) : Int)).toNat % 2 ^ 5 := by
    rw [BitVec.toNat_and, BitVec.toNat_ofInt, h31, Nat.and_two_pow_sub_one_eq_mod]
  show IntKind.i64.wrap ((BitVec.ofInt 64 n &&& BitVec.ofInt 64 31).toNat : Nat) = n % 32
  rw [key, IntKind.wrap_i64]
  omega
theorem u64_and31 (k : Int) : bits .and .u64 (IntKind.u64.wrap k) 31 = k % 32 := by
  have h31 : (BitVec.ofInt 64 31).toNat = 2 ^ 5 - 1 := by decide
  have key : (BitVec.ofInt 64 (IntKind.u64.wrap k) &&& BitVec.ofInt 64 31).toNat = (IntKind.u64.wrap k % ((2 ^ 64 : Nat) : Int)).toNat % 2 ^ 5 := by
    rw [BitVec.toNat_and, BitVec.toNat_ofInt, h31, Nat.and_two_pow_sub_one_eq_mod]
  show IntKind.u64.wrap ((BitVec.ofInt 64 (IntKind.u64.wrap k) &&& BitVec.ofInt 64 31).toNat : Nat) = k % 32
  rw [key]
  simp only [IntKind.wrap_u64]
  omega

def shl (a m : Nat) : Nat := a * 2 ^ min m 32 % 4294967296
def shr (a m : Nat) : Nat := a / 2 ^ min m 32
def rotr (a r : Nat) : Nat := shl a ((32 - r) % 32) ||| shr a (32 - (32 - r) % 32)
theorem shl_lt (a m : Nat) : shl a m < 4294967296 := Nat.mod_lt _ (by decide)
theorem shr_lt (a m : Nat) (ha : a < 4294967296) : shr a m < 4294967296 := Nat.lt_of_le_of_lt (Nat.div_le_self _ _) ha
theorem rotr_lt (a r : Nat) (ha : a < 4294967296) : rotr a r < 4294967296 := or32 (shl_lt _ _) (shr_lt _ _ ha)
theorem shl_bit (a m i : Nat) (hi : i < 32) : (shl a m).testBit i = (decide (m ≤ i) && a.testBit (i - m)) := by
  unfold shl
  rw [show (4294967296 : Nat) = 2 ^ 32 from rfl, Nat.testBit_mod_two_pow, ← Nat.shiftLeft_eq, Nat.testBit_shiftLeft]
  by_cases h : m ≤ i
  · have e : min m 32 = m := by omega
    simp [h, hi, e]
  · have : ¬ min m 32 ≤ i := by omega
    simp [h, this]
theorem shr_bit (a m i : Nat) (ha : a < 4294967296) : (shr a m).testBit i = a.testBit (m + i) := by
  unfold shr
  rw [Nat.testBit_div_two_pow]
  by_cases h : m ≤ 32
  · have e : min m 32 = m := by omega
    rw [e, Nat.add_comm]
  · have e : min m 32 = 32 := by omega
    have z : ∀ j, 32 ≤ j → a.testBit j = false := fun j hj => Nat.testBit_lt_two_pow (Nat.lt_of_lt_of_le ha (Nat.pow_le_pow_right (n := 2) (by decide) hj))
    rw [e, z _ (by omega), z _ (by omega)]

theorem shl_cast (a m : Nat) : ((a : Int) * 2 ^ min m 32) % 4294967296 = ((shl a m : Nat) : Int) := by
  unfold shl; rw [Int.natCast_emod, Int.natCast_mul, Int.natCast_pow]; rfl
theorem shr_cast (a m : Nat) : ((a : Int) / 2 ^ min m 32) = ((shr a m : Nat) : Int) := by
  unfold shr; rw [Int.natCast_ediv, Int.natCast_pow]; rfl

set_option maxHeartbeats 400000 in
theorem shl_any (a : Nat) (n : Int) (w : World) (ha : a < 4294967296) :
    Calls Try.prog 21 #[sec a, .int .i64 n] w fun e w' => e = .returned (sec (shl a n.toNat : Nat)) ∧ w' = ((w.alloc (sb (a : Int))).alloc (sb (shl a n.toNat : Nat))).alloc (sb (shl a n.toNat : Nat)) := by
  go_enter Try.func21, Try.ntmps21
  go_wp2_with (go_at_call 10; refine (of_any _ _).mono ?_; rintro e w' ⟨rfl, rfl⟩)
  · have hf : (a : Int) = ((shl a n.toNat : Nat) : Int) := by
      have : n.toNat = 0 := by omega
      rw [this]; unfold shl; simp; omega
    exact bodyPost_ret (v := sec (shl a n.toNat : Nat)) (by simp [results, Try.results21, go_sem]; exact hf) rfl ⟨rfl, by rw [← hf]⟩
  · have hf := shl_cast a n.toNat
    exact bodyPost_ret (v := sec (shl a n.toNat : Nat)) (by simp [results, Try.results21, go_sem, ← hf]) rfl ⟨rfl, by rw [← hf]⟩

set_option maxHeartbeats 400000 in
theorem shr_any (a : Nat) (n : Int) (w : World) (_ha : a < 4294967296) :
    Calls Try.prog 23 #[sec a, .int .i64 n] w fun e w' => e = .returned (sec (shr a n.toNat : Nat)) ∧ w' = ((w.alloc (sb (a : Int))).alloc (sb (shr a n.toNat : Nat))).alloc (sb (shr a n.toNat : Nat)) := by
  go_enter Try.func23, Try.ntmps23
  go_wp2_with (go_at_call 10; refine (of_any _ _).mono ?_; rintro e w' ⟨rfl, rfl⟩)
  · have hf : (a : Int) = ((shr a n.toNat : Nat) : Int) := by
      have : n.toNat = 0 := by omega
      rw [this]; unfold shr; simp
    exact bodyPost_ret (v := sec (shr a n.toNat : Nat)) (by simp [results, Try.results23, go_sem]; exact hf) rfl ⟨rfl, by rw [← hf]⟩
  · have hf := shr_cast a n.toNat
    exact bodyPost_ret (v := sec (shr a n.toNat : Nat)) (by simp [results, Try.results23, go_sem, ← hf]) rfl ⟨rfl, by rw [← hf]⟩

set_option maxHeartbeats 400000 in
theorem rotl_any (a s : Nat) (k : Int) (w : World) (ha : a < 4294967296) (hs : bits .and .u64 (IntKind.u64.wrap k) 31 = (s : Int)) (hs2 : s < 32) :
    Calls Try.prog 45 #[u32 a, .int .i64 k] w fun e w' => e = .returned (u32 ((shl a s ||| shr a (32 - s) : Nat) : Int)) ∧ w' = w := by
  have b1 : (s : Int) < 32 := by omega
  go_enter Try.func45, Try.ntmps45
  go_wp2
  go_ret
  have e1 : min s 32 = s := by omega
  have e2 : min (32 - s) 32 = 32 - s := by omega
  have f1 := shl_cast a s
  have f2 := shr_cast a (32 - s)
  rw [e1] at f1
  rw [e2] at f2
  exact ⟨ret_int (by rw [f1, f2, u32_or_nat _ _ (shl_lt _ _) (shr_lt _ _ ha)]), rfl⟩

set_option maxHeartbeats 400000 in
theorem rot_any (a r : Nat) (n : Int) (w : World) (ha : a < 4294967296) (hn : n % 32 = (r : Int)) :
    Calls Try.prog 24 #[sec a, .int .i64 n] w fun e w' => e = .returned (sec (rotr a r : Nat)) ∧ w' = ((w.alloc (sb (a : Int))).alloc (sb (rotr a r : Nat))).alloc (sb (rotr a r : Nat)) := by
  have hr : (r : Int) < 32 := by omega
  have h1 : bits .and .i64 n 31 = (r : Int) := by rw [i64_and31, hn]
  have H2 : Hid (bits .and .u64 (IntKind.u64.wrap (-(r : Int))) 31 = (((32 - r) % 32 : Nat) : Int)) := by unfold Hid; rw [u64_and31]; omega
  clear hn
  go_enter Try.func24, Try.ntmps24
  go_wp2_with (first | (go_at_call 10; refine (of_any _ _).mono ?_; rintro e w' ⟨rfl, rfl⟩) | (go_at_call 45; refine (rotl_any a ((32 - r) % 32) _ _ ha H2.out (Nat.mod_lt _ (by decide))).mono ?_; rintro e w' ⟨rfl, rfl⟩))
  exact bodyPost_ret (v := sec (rotr a r : Nat)) (by simp [results, Try.results24, go_sem, rotr]) rfl ⟨rfl, rfl⟩

theorem shl_b (a : Nat) (n : Int) (w : World) (ha : a < 4294967296) : Calls Try.prog 21 #[sec a, .int .i64 n] w fun e w' => e = .returned (sec (shl a n.toNat : Nat)) ∧ Below w.heap.size w w' :=
  (shl_any a n w ha).mono fun _ _ ⟨he, hw⟩ => ⟨he, by subst hw; exact (by repeat (first | exact Below.refl _ _ | refine blw_alloc ?_ | refine blw_drew ?_ | assumption))⟩
theorem shr_b (a : Nat) (n : Int) (w : World) (ha : a < 4294967296) : Calls Try.prog 23 #[sec a, .int .i64 n] w fun e w' => e = .returned (sec (shr a n.toNat : Nat)) ∧ Below w.heap.size w w' :=
  (shr_any a n w ha).mono fun _ _ ⟨he, hw⟩ => ⟨he, by subst hw; exact (by repeat (first | exact Below.refl _ _ | refine blw_alloc ?_ | refine blw_drew ?_ | assumption))⟩
theorem rot_b (a r : Nat) (n : Int) (w : World) (ha : a < 4294967296) (hn : n % 32 = (r : Int)) : Calls Try.prog 24 #[sec a, .int .i64 n] w fun e w' => e = .returned (sec (rotr a r : Nat)) ∧ Below w.heap.size w w' :=
  (rot_any a r n w ha hn).mono fun _ _ ⟨he, hw⟩ => ⟨he, by subst hw; exact (by repeat (first | exact Below.refl _ _ | refine blw_alloc ?_ | refine blw_drew ?_ | assumption))⟩
end Go.Proofs.Yteiienkneojleaa
