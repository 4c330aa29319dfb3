/- Syllables as plain mathematics: a quotient bit by bit, a product bit by bit, what two words are joined to. Nothing of the program is named here. No conditions but the words' bounds. -/
import Derived.Test.YtnablmiocbijgaaCtH
namespace Go.Proofs.Ytnablmiocbijgaa
open Go.RowKit

theorem andW_mk (b : Bool) (v : Nat) (hv : v < 4294967296) : andW (mk b) v = if b then v else 0 := by
  cases b
  · simp [andW, mk]
  · have h : v &&& 4294967295 = v := by rw [show (4294967295 : Nat) = 2 ^ 32 - 1 from rfl, Nat.and_two_pow_sub_one_eq_mod]; exact Nat.mod_eq_of_lt hv
    simp [andW, mk, Nat.and_comm, h]
theorem notW_mk (b : Bool) : notW (mk b) = mk (!b) := by cases b <;> decide
theorem andW_mks (a b : Bool) : andW (mk a) (mk b) = mk (a && b) := by cases a <;> cases b <;> decide
theorem orW_mks (a b : Bool) : orW (mk a) (mk b) = mk (a || b) := by cases a <;> cases b <;> decide

/-- one bit of a quotient -/
def dvS (d k : Nat) (s : Nat × Nat) : Nat × Nat :=
  (orW s.1 (andW (notW (mk (decide (s.2 < d * 2 ^ k)))) (2 ^ k)), subW s.2 (andW (notW (mk (decide (s.2 < d * 2 ^ k)))) (d * 2 ^ k)))
def dvR (d : Nat) : Nat → Nat × Nat → Nat × Nat
  | 0, s => s
  | k + 1, s => dvR d k (dvS d k s)
theorem dvS_lt (d k : Nat) (s : Nat × Nat) (hk : k < 32) (h1 : s.1 < 4294967296) : (dvS d k s).1 < 4294967296 ∧ (dvS d k s).2 < 4294967296 :=
  ⟨orW_lt h1 (Nat.lt_of_le_of_lt Nat.and_le_right (Nat.lt_of_lt_of_le (Nat.pow_lt_pow_right (by decide) hk) (by decide))), subW_lt _ _⟩
theorem dvR_lt (d k : Nat) (s : Nat × Nat) (hk : k ≤ 32) (h1 : s.1 < 4294967296) (h2 : s.2 < 4294967296) : (dvR d k s).1 < 4294967296 ∧ (dvR d k s).2 < 4294967296 := by
  induction k generalizing s with
  | zero => exact ⟨h1, h2⟩
  | succ k ih => have h := dvS_lt d k s (by omega) h1; exact ih _ (by omega) h.1 h.2
theorem dvR_said (d : Nat) (hd : 0 < d) : ∀ (k : Nat) (m r : Nat), k ≤ 31 → r < d * 2 ^ k → d * 2 ^ k < 4294967296 → 2 ^ k * m < 4294967296 → dvR d k (2 ^ k * m, r) = (2 ^ k * m + r / d, r % d) := by
  intro k
  induction k with
  | zero =>
    intro m r _ hr _ _
    simp only [Nat.pow_zero, Nat.mul_one] at hr
    simp [dvR, Nat.div_eq_of_lt hr, Nat.mod_eq_of_lt hr]
  | succ k ih =>
    intro m r hk hr hD hq
    have hp : 2 ^ (k + 1) = 2 * 2 ^ k := by rw [Nat.pow_succ]; omega
    have hpos : 0 < 2 ^ k := Nat.pow_pos (by omega)
    have hpl : 2 ^ k < 4294967296 := Nat.lt_of_le_of_lt (Nat.pow_le_pow_right (by decide) (show k ≤ 31 by omega)) (by decide)
    have eD : d * 2 ^ (k + 1) = 2 * (d * 2 ^ k) := by rw [hp]; ac_rfl
    have eM : 2 ^ (k + 1) * m = 2 ^ k * (2 * m) := by rw [hp]; ac_rfl
    rw [eD] at hr hD
    show dvR d k (dvS d k (2 ^ (k + 1) * m, r)) = _
    unfold dvS
    simp only [notW_mk]
    rw [andW_mk _ _ hpl, andW_mk _ _ (by omega)]
    by_cases hlt : r < d * 2 ^ k
    · have e1 : (!decide (r < d * 2 ^ k)) = false := by simp [hlt]
      rw [e1, if_neg (by decide), if_neg (by decide)]
      have e2 : orW (2 ^ (k + 1) * m) 0 = 2 ^ k * (2 * m) := by rw [eM]; simp [orW]
      have e3 : subW r 0 = r := by unfold subW; omega
      rw [e2, e3, ih (2 * m) r (by omega) hlt (by omega) (by rw [← eM]; exact hq), eM]
    · have e1 : (!decide (r < d * 2 ^ k)) = true := by simp [hlt]
      rw [e1, if_pos rfl, if_pos rfl]
      have e2 : orW (2 ^ (k + 1) * m) (2 ^ k) = 2 ^ k * (2 * m + 1) := by
        unfold orW
        rw [← Nat.two_pow_add_eq_or_of_lt (by rw [hp]; omega), eM, Nat.mul_add, Nat.mul_one]
      have e3 : subW r (d * 2 ^ k) = r - d * 2 ^ k := by unfold subW; omega
      have e4 : 2 ^ k * (2 * m + 1) < 4294967296 := by rw [← e2]; exact orW_lt hq hpl
      rw [e2, e3, ih (2 * m + 1) (r - d * 2 ^ k) (by omega) (by omega) (by omega) e4, eM]
      have e5 : r = (r - d * 2 ^ k) + d * 2 ^ k := by omega
      have e6 : r / d = (r - d * 2 ^ k) / d + 2 ^ k := by
        conv => lhs; rw [e5]
        exact Nat.add_mul_div_left _ _ hd
      have e7 : r % d = (r - d * 2 ^ k) % d := by
        conv => lhs; rw [e5]
        exact Nat.add_mul_mod_self_left _ _ _
      rw [e6, e7, Nat.mul_add, Nat.mul_one]
      congr 1
      omega

/-- a product, as many of the factor's bits as k -/
def tmK (x d k : Nat) : Nat := x * (d % 2 ^ k) % 4294967296
theorem tmK_lt (x d k : Nat) : tmK x d k < 4294967296 := Nat.mod_lt _ (by decide)
theorem tmK_yes (x d k : Nat) (hk : k ≤ 32) (h : d / 2 ^ k % 2 = 1) : addW (tmK x d k) (shl x k) = tmK x d (k + 1) := by
  have e : d % 2 ^ (k + 1) = d % 2 ^ k + 2 ^ k := by rw [Nat.pow_succ, Nat.mod_mul, h, Nat.mul_one]
  unfold addW tmK shl
  rw [e, show min k 32 = k by omega, Nat.mul_add]
  omega
theorem tmK_no (x d k : Nat) (h : d / 2 ^ k % 2 = 0) : tmK x d k = tmK x d (k + 1) := by
  have e : d % 2 ^ (k + 1) = d % 2 ^ k := by rw [Nat.pow_succ, Nat.mod_mul, h, Nat.mul_zero, Nat.add_zero]
  unfold tmK
  rw [e]
theorem tmK_all (x d k : Nat) (h : d < 2 ^ k) : tmK x d k = x * d % 4294967296 := by unfold tmK; rw [Nat.mod_eq_of_lt h]

/-- a syllable? -/
def syl (p : Nat) : Bool := decide (44032 ≤ p) && decide (p ≤ 55203)
/-- the number in a row of n words from f on, and whether it is one -/
theorem num_is (x f n : Nat) (hx : x < 4294967296) (hf : f + n ≤ 4294967296) : decide (subW x f < n) = (decide (f ≤ x) && decide (x < f + n)) := by
  unfold subW
  rw [Bool.eq_iff_iff]; simp only [decide_eq_true_eq, Bool.and_eq_true]
  omega
theorem num_at (x f : Nat) (hx : x < 4294967296) (h1 : f ≤ x) : subW x f = x - f := by unfold subW; omega
/-- what two words are joined to; 0: they aren't -/
def hjn (a b : Nat) : Nat :=
  if 4352 ≤ a ∧ a < 4371 ∧ 4449 ≤ b ∧ b < 4470 then 44032 + (a - 4352) * 588 + (b - 4449) * 28
  else if syl a = true ∧ (a - 44032) % 28 = 0 ∧ 4520 ≤ b ∧ b ≤ 4546 then a + b - 4519 else 0
/-- a syllable's parts -/
def hl0 (p : Nat) : Nat := 4352 + (p - 44032) / 588
def hl1 (p : Nat) : Nat := 4449 + (p - 44032) % 588 / 28
def hl2 (p : Nat) : Nat := if 0 < (p - 44032) % 28 then 4519 + (p - 44032) % 28 else 0
theorem hl_lt (p : Nat) (h : syl p = true) : hl0 p < 4371 ∧ hl1 p < 4470 ∧ hl2 p ≤ 4546 := by
  simp only [syl, Bool.and_eq_true, decide_eq_true_eq] at h
  unfold hl0 hl1 hl2
  refine ⟨by omega, by omega, ?_⟩
  split <;> omega
/-- the parts of a syllable are joined to it again -/
theorem hback (p : Nat) (h : syl p = true) : hjn (hl0 p) (hl1 p) = p - (p - 44032) % 28 ∧ (hl2 p = 0 → hjn (hjn (hl0 p) (hl1 p)) (hl2 p) = 0 ∧ p - (p - 44032) % 28 = p) ∧ (hl2 p ≠ 0 → hjn (hjn (hl0 p) (hl1 p)) (hl2 p) = p) := by
  have hb := hl_lt p h
  simp only [syl, Bool.and_eq_true, decide_eq_true_eq] at h
  have e1 : hjn (hl0 p) (hl1 p) = p - (p - 44032) % 28 := by
    unfold hjn
    rw [if_pos ⟨by unfold hl0; omega, hb.1, by unfold hl1; omega, hb.2.1⟩]
    unfold hl0 hl1; omega
  refine ⟨e1, fun h0 => ?_, fun h0 => ?_⟩
  · have hz : (p - 44032) % 28 = 0 := by
      unfold hl2 at h0; split at h0 <;> omega
    rw [e1, h0]
    refine ⟨?_, by omega⟩
    unfold hjn
    rw [if_neg (by omega), if_neg (by omega)]
  · have hz : 0 < (p - 44032) % 28 := by
      unfold hl2 at h0; split at h0 <;> omega
    have e2 : hl2 p = 4519 + (p - 44032) % 28 := by unfold hl2; rw [if_pos hz]
    rw [e1, e2]
    have hs : syl (p - (p - 44032) % 28) = true := by simp only [syl, Bool.and_eq_true, decide_eq_true_eq]; omega
    unfold hjn
    rw [if_neg (by omega), if_pos ⟨hs, by omega, by omega, by omega⟩]
    omega
end Go.Proofs.Ytnablmiocbijgaa
