/- What words gone over come to, held against the document's: plain facts; and the laws' awake (layer 5), over this seat's translation. No conditions. -/
import Derived.Test.YtnnmaegpiddnbaaScG
namespace Go.Proofs.Ytnnmaegpiddnbaa
open Go.RowKit

section
variable {B : Ars} {l : List Nat}
theorem lw (h : ∀ j (hj : j < l.length), B.word j = l[j]) (j : Nat) (hj : j < l.length) : B.word (0 + j) = l.getD j 0 := by
  rw [Nat.zero_add, h j hj]; simp [List.getD, hj]
theorem sv_sl (h : ∀ j (hj : j < l.length), B.word j = l[j]) (k : Nat) (hk : k ≤ l.length) : sv B 0 k = sl l k := by
  induction k with
  | zero => rfl
  | succ k ih => show addW (sv B 0 k) (B.word (0 + k)) = addW (sl l k) (l.getD k 0); rw [ih (by omega), lw h k (by omega)]
theorem ov_oa (h : ∀ j (hj : j < l.length), B.word j = l[j]) (k : Nat) (hk : k ≤ l.length) : ov B 0 (fun i => i) k = oa l k := by
  induction k with
  | zero => rfl
  | succ k ih => show orW (ov B 0 _ k) (B.word (0 + k)) = orW (oa l k) (l.getD k 0); rw [ih (by omega), lw h k (by omega)]
theorem orW_bit (a b t : Nat) : (orW a b).testBit t = (a.testBit t || b.testBit t) := by unfold orW; exact Nat.testBit_or ..
theorem ov_bit (p : Nat → Nat) (k t : Nat) : (ov B 0 p k).testBit t = true ↔ ∃ j, j < k ∧ (B.word (0 + p j)).testBit t = true := by
  induction k with
  | zero => simp [ov]
  | succ k ih =>
    show (orW (ov B 0 p k) (B.word (0 + p k))).testBit t = true ↔ _
    rw [orW_bit, Bool.or_eq_true, ih]
    constructor
    · rintro (⟨j, h1, h2⟩ | h)
      · exact ⟨j, by omega, h2⟩
      · exact ⟨k, by omega, h⟩
    · rintro ⟨j, h1, h2⟩
      by_cases e : j = k
      · subst e; exact Or.inr h2
      · exact Or.inl ⟨j, by omega, h2⟩
theorem ol_bit (b : Bool) (i k t : Nat) : (ol l b i k).testBit t = true ↔ ∃ j, j < k ∧ cnd b i j = true ∧ (l.getD j 0).testBit t = true := by
  induction k with
  | zero => simp [ol]
  | succ k ih =>
    unfold ol
    by_cases hc : cnd b i k = true
    · rw [if_pos hc, orW_bit, Bool.or_eq_true, ih]
      constructor
      · rintro (⟨j, h1, h2⟩ | h)
        · exact ⟨j, by omega, h2⟩
        · exact ⟨k, by omega, hc, h⟩
      · rintro ⟨j, h1, h2, h3⟩
        by_cases e : j = k
        · subst e; exact Or.inr h3
        · exact Or.inl ⟨j, by omega, h2, h3⟩
    · rw [if_neg hc, ih]
      constructor
      · rintro ⟨j, h1, h2⟩; exact ⟨j, by omega, h2⟩
      · rintro ⟨j, h1, h2, h3⟩
        by_cases e : j = k
        · subst e; exact absurd h2 hc
        · exact ⟨j, by omega, h2, h3⟩
theorem oa_bit (k t : Nat) : (oa l k).testBit t = true ↔ ∃ j, j < k ∧ (l.getD j 0).testBit t = true := by
  induction k with
  | zero => simp [oa]
  | succ k ih =>
    show (orW (oa l k) (l.getD k 0)).testBit t = true ↔ _
    rw [orW_bit, Bool.or_eq_true, ih]
    constructor
    · rintro (⟨j, h1, h2⟩ | h)
      · exact ⟨j, by omega, h2⟩
      · exact ⟨k, by omega, h⟩
    · rintro ⟨j, h1, h2⟩
      by_cases e : j = k
      · subst e; exact Or.inr h2
      · exact Or.inl ⟨j, by omega, h2⟩
theorem eq_bits {a b : Nat} (h : ∀ t, a.testBit t = true ↔ b.testBit t = true) : a = b := Nat.eq_of_testBit_eq fun t => by
  rw [Bool.eq_iff_iff]; exact h t
theorem ors_word (h : ∀ j (hj : j < l.length), B.word j = l[j]) (q : Nat) (hq : q < l.length) : ov B 0 (fun i => i) (q + 1) = olF l false q := eq_bits fun t => by
  unfold olF
  rw [ov_bit, ol_bit]
  constructor
  · rintro ⟨j, h1, h2⟩
    rw [lw h j (by omega)] at h2
    exact ⟨j, by omega, by simp [cnd]; omega, h2⟩
  · rintro ⟨j, h1, h2, h3⟩
    have : j ≤ q := by simpa [cnd] using h2
    exact ⟨j, by omega, by rw [lw h j h1]; exact h3⟩
theorem behind_word (h : ∀ j (hj : j < l.length), B.word j = l[j]) (i : Nat) (hi : i < l.length) : ov B 0 (bk l.length) (i + 1) = olF l true (bk l.length i) := eq_bits fun t => by
  unfold olF
  rw [ov_bit, ol_bit]
  constructor
  · rintro ⟨j, h1, h2⟩
    rw [lw h _ (by unfold bk; omega)] at h2
    exact ⟨bk l.length j, by unfold bk; omega, by simp [cnd, bk]; omega, h2⟩
  · rintro ⟨j, h1, h2, h3⟩
    have h4 : bk l.length i ≤ j := by simpa [cnd] using h2
    refine ⟨bk l.length j, by unfold bk at h4 ⊢; omega, ?_⟩
    have e : bk l.length (bk l.length j) = j := by unfold bk; omega
    rw [e, lw h j h1]; exact h3
theorem behind_all (h : ∀ j (hj : j < l.length), B.word j = l[j]) : ov B 0 (bk l.length) l.length = oa l l.length := eq_bits fun t => by
  rw [ov_bit, oa_bit]
  constructor
  · rintro ⟨j, h1, h2⟩
    rw [lw h _ (by unfold bk; omega)] at h2
    exact ⟨bk l.length j, by unfold bk; omega, h2⟩
  · rintro ⟨j, h1, h2⟩
    have e : bk l.length (bk l.length j) = j := by unfold bk; omega
    exact ⟨bk l.length j, by unfold bk; omega, by rw [e, lw h j h1]; exact h2⟩
end
/-- what is shown of words gone over -/
theorem told_evo {B : Ars} {n : Nat} {p v f : Nat → Nat} (hw : B.ws.length = n) (hp : ∀ k, k < n → p k < n) (hi : ∀ i j, i < n → j < n → p i = p j → i = j) (hs : ∀ q, q < n → ∃ i, i < n ∧ p i = q) (hv : ∀ i, i < n → v i = f (p i)) :
    (evo B (fun i => 0 + p i) v n).told 0 n = (List.range n).map f := by
  unfold Ars.told
  apply List.map_congr_left
  intro q hq
  have hqn : q < n := List.mem_range.1 hq
  obtain ⟨i, h1, h2⟩ := hs q hqn
  have := evo_at B (fun i => 0 + p i) v n (fun j hj => by show 0 + p j < _; have := hp j hj; omega) (fun i j a b e => hi i j a b (by have : 0 + p i = 0 + p j := e; omega)) i h1
  rw [← h2, ← hv i h1]
  exact this
end Go.Proofs.Ytnnmaegpiddnbaa
