/- The document's own words of bits are the plain ones: and, or, unlike, chosen, moved, turned. Contracts over this seat's translation. No conditions but the words' bounds. -/
import Derived.Test.YteiienkneojleaaCtB
import Derived.Test.YteiienkneojleaaCtS
namespace Go.Proofs.Yteiienkneojleaa
open Go.RowKit

theorem bit_high {a : Nat} (ha : a < 4294967296) {j : Nat} (hj : 32 ≤ j) : a.testBit j = false :=
  Nat.testBit_lt_two_pow (Nat.lt_of_lt_of_le ha (Nat.pow_le_pow_right (n := 2) (by decide) hj))
theorem word_and (a b : Nat) (ha : a < 4294967296) : wordOf (fun i : Nat => bitI a (i : Int) && bitI b (i : Int)) 32 = andW a b :=
  wordOf_eq _ _ (andW_lt ha) fun i hi => by rw [bitI_nat _ _ hi, bitI_nat _ _ hi, andW, Nat.testBit_and]
theorem word_or (a b : Nat) (ha : a < 4294967296) (hb : b < 4294967296) : wordOf (fun i : Nat => bitI a (i : Int) || bitI b (i : Int)) 32 = orW a b :=
  wordOf_eq _ _ (orW_lt ha hb) fun i hi => by rw [bitI_nat _ _ hi, bitI_nat _ _ hi, orW, Nat.testBit_or]
theorem word_xor (a b : Nat) (ha : a < 4294967296) (hb : b < 4294967296) : wordOf (fun i : Nat => bitI a (i : Int) != bitI b (i : Int)) 32 = xorW a b :=
  wordOf_eq _ _ (xorW_lt ha hb) fun i hi => by rw [bitI_nat _ _ hi, bitI_nat _ _ hi, xorW, Nat.testBit_xor]
theorem word_sel (m a b : Nat) (hm : m < 4294967296) (ha : a < 4294967296) (hb : b < 4294967296) : wordOf (fun i : Nat => if bitI m (i : Int) then bitI a (i : Int) else bitI b (i : Int)) 32 = selW m a b :=
  wordOf_eq _ _ (selW_lt ha hb) fun i hi => by
    have e : 4294967295 - m = 2 ^ 32 - (m + 1) := by omega
    rw [bitI_nat _ _ hi, bitI_nat _ _ hi, bitI_nat _ _ hi, selW, Nat.testBit_or, Nat.testBit_and, Nat.testBit_and, e, Nat.testBit_two_pow_sub_succ hm]
    cases m.testBit i <;> simp [hi]
theorem word_shl (a k : Nat) : wordOf (fun i : Nat => bitI a ((i : Int) + -(k : Int))) 32 = shl a k :=
  wordOf_eq _ _ (shl_lt _ _) fun i hi => by
    rw [shl_bit a k i hi]
    by_cases h : k ≤ i
    · have e : (i : Int) + -(k : Int) = ((i - k : Nat) : Int) := by omega
      rw [e, bitI_nat _ _ (by omega)]; simp [h]
    · have e : ¬ 0 ≤ (i : Int) + -(k : Int) := by omega
      simp [bitI, h, e]
theorem word_shr (a k : Nat) (ha : a < 4294967296) : wordOf (fun i : Nat => bitI a ((i : Int) + (k : Int))) 32 = shr a k :=
  wordOf_eq _ _ (shr_lt _ _ ha) fun i hi => by
    rw [shr_bit a k i ha]
    have e : (i : Int) + (k : Int) = ((k + i : Nat) : Int) := by omega
    by_cases h : k + i < 32
    · rw [e, bitI_nat _ _ h]
    · rw [bit_high ha (show 32 ≤ k + i by omega)]
      have : ¬ (i : Int) + (k : Int) < 32 := by omega
      simp [bitI, this]
theorem rotW_eq (a r : Nat) (ha : a < 4294967296) (hr : r < 32) : rotW a r = rotr a r := by
  unfold rotW
  have e32 : (fun i : Nat => bitI a ((i : Int) + ((r : Int) - 32))) = fun i : Nat => bitI a ((i : Int) + -((32 - r : Nat) : Int)) := by
    funext i; rw [show (i : Int) + ((r : Int) - 32) = (i : Int) + -((32 - r : Nat) : Int) by omega]
  rw [e32, word_shl, word_shr a r ha, word_or _ _ (shr_lt _ _ ha) (shl_lt _ _)]
  unfold orW rotr
  apply Nat.eq_of_testBit_eq
  intro i
  rw [Nat.testBit_or, Nat.testBit_or]
  by_cases hi : i < 32
  · rw [shr_bit _ _ _ ha, shr_bit _ _ _ ha, shl_bit _ _ _ hi, shl_bit _ _ _ hi]
    by_cases h0 : r = 0
    · subst h0
      have : ¬ 32 ≤ i := by omega
      simp [this, bit_high ha (show 32 ≤ 32 + i by omega)]
    · have e1 : (32 - r) % 32 = 32 - r := Nat.mod_eq_of_lt (by omega)
      have e2 : 32 - (32 - r) = r := by omega
      rw [e1, e2, Bool.or_comm]
  · have hj : 32 ≤ i := by omega
    rw [bit_high (shr_lt _ _ ha) hj, bit_high (shl_lt _ _) hj, bit_high (shl_lt _ _) hj, bit_high (shr_lt _ _ ha) hj]

theorem both0_b (a b : Nat) (w : World) (ha : a < 4294967296) : Calls Try.prog 13 #[u32 a, u32 b, .int .i64 0] w fun e w' => e = .returned (u32 (andW a b : Nat)) ∧ Below w.heap.size w w' := by
  have h := bothand_any a b w; rw [word_and a b ha] at h; exact h
theorem both1_b (a b : Nat) (w : World) (ha : a < 4294967296) (hb : b < 4294967296) : Calls Try.prog 13 #[u32 a, u32 b, .int .i64 1] w fun e w' => e = .returned (u32 (orW a b : Nat)) ∧ Below w.heap.size w w' := by
  have h := bothor_any a b w; rw [word_or a b ha hb] at h; exact h
theorem both2_b (a b : Nat) (w : World) (ha : a < 4294967296) (hb : b < 4294967296) : Calls Try.prog 13 #[u32 a, u32 b, .int .i64 2] w fun e w' => e = .returned (u32 (xorW a b : Nat)) ∧ Below w.heap.size w w' := by
  have h := bothxor_any a b w; rw [word_xor a b ha hb] at h; exact h
theorem selref_b (m a b : Nat) (w : World) (hm : m < 4294967296) (ha : a < 4294967296) (hb : b < 4294967296) : Calls Try.prog 30 #[u32 m, u32 a, u32 b] w fun e w' => e = .returned (u32 (selW m a b : Nat)) ∧ Below w.heap.size w w' := by
  have h := selref_any m a b w; rw [word_sel m a b hm ha hb] at h; exact h
theorem moveL_b (a k : Nat) (w : World) (hk : k ≤ 32) : Calls Try.prog 22 #[u32 a, .int .i64 (-(k : Int))] w fun e w' => e = .returned (u32 (shl a k : Nat)) ∧ Below w.heap.size w w' := by
  have h := move_any a (-(k : Int)) w (by omega) (by omega); rw [word_shl a k] at h; exact h
theorem moveR_b (a k : Nat) (w : World) (ha : a < 4294967296) (hk : k ≤ 32) : Calls Try.prog 22 #[u32 a, .int .i64 (k : Int)] w fun e w' => e = .returned (u32 (shr a k : Nat)) ∧ Below w.heap.size w w' := by
  have h := move_any a (k : Int) w (by omega) (by omega); rw [word_shr a k ha] at h; exact h
theorem rotref_b (a r : Nat) (n : Int) (w : World) (ha : a < 4294967296) (hn : n % 32 = (r : Int)) : Calls Try.prog 25 #[u32 a, .int .i64 n] w fun e w' => e = .returned (u32 (rotr a r : Nat)) ∧ Below w.heap.size w w' := by
  have h := rotref_any a r n w hn; rw [rotW_eq a r ha (by omega)] at h; exact h
end Go.Proofs.Yteiienkneojleaa
