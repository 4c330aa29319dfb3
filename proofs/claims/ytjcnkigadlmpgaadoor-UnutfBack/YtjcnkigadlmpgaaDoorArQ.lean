/- What words an arena has behind its calls: plain facts on an arena's state. -/
import Derived.Test.YtjcnkigadlmpgaaDoorArP
namespace Go.Proofs.YtjcnkigadlmpgaaDoor
open Go.RowKit
namespace Ars
variable {A : Ars}
theorem storeN_word (i v j : Nat) : (A.storeN i v).word j = if j = i ∧ i < A.ws.length then v else A.word j := by
  simp only [word, storeN, List.getD_eq_getElem?_getD, List.getElem?_set]
  by_cases h : i = j
  · subst h
    by_cases h2 : i < A.ws.length
    · simp [h2]
    · simp [h2]
  · have : ¬ j = i := fun e => h e.symm
    simp [h, this]
theorem putK_word (i : Nat) (l : List Nat) (k j : Nat) (hk : k ≤ l.length) (hw : i + l.length ≤ A.ws.length) : (A.putK i l k).word j = if i ≤ j ∧ j < i + k then l.getD (j - i) 0 else A.word j := by
  induction k with
  | zero => rw [if_neg (by omega)]; rfl
  | succ k ih =>
    simp only [putK]
    rw [storeN_word, putK_wslen, ih (by omega)]
    by_cases h : j = i + k
    · subst h
      rw [if_pos (by omega), if_pos (by omega)]; congr 1; omega
    · rw [if_neg (by omega)]
      by_cases h2 : i ≤ j ∧ j < i + k
      · rw [if_pos h2, if_pos (by omega)]
      · rw [if_neg h2, if_neg (by omega)]
theorem zeroK_word (t k j : Nat) (hk : k ≤ t) : (A.zeroK t k).word j = if t - k ≤ j ∧ j < t then 0 else A.word j := by
  induction k with
  | zero => rw [if_neg (by omega)]; rfl
  | succ k ih =>
    simp only [zeroK]
    rw [storeN_word, zeroK_wslen, ih (by omega)]
    by_cases h : j = t - 1 - k
    · by_cases h2 : t - 1 - k < A.ws.length
      · rw [if_pos ⟨h, h2⟩, if_pos (by omega)]
      · rw [if_neg (by omega), if_neg (by omega), if_pos (by omega)]
        unfold word
        rw [List.getD_eq_getElem?_getD, List.getElem?_eq_none (by omega)]; rfl
    · rw [if_neg (by omega)]
      by_cases h2 : t - k ≤ j ∧ j < t
      · rw [if_pos h2, if_pos (by omega)]
      · rw [if_neg h2, if_neg (by omega)]
theorem giveN_word (i j : Nat) (hi : i ≤ A.top) : (A.giveN i).word j = if i ≤ j ∧ j < A.top then 0 else A.word j := by
  have := zeroK_word (A := A) A.top (A.top - i) j (by omega)
  have e : A.top - (A.top - i) = i := by omega
  rw [e] at this; exact this
theorem giveN_wslen (i : Nat) : (A.giveN i).ws.length = A.ws.length := by simp only [giveN, note, downTo]; exact zeroK_wslen _ _
theorem giveN_top (i : Nat) : (A.giveN i).top = i := rfl
theorem blank_of (h : ∀ j, j < A.ws.length → A.word j = 0) : A.blank = true := by
  unfold blank
  rw [List.all_eq_true]
  intro x hx
  obtain ⟨j, hj, rfl⟩ := List.mem_iff_getElem.1 hx
  have := h j hj
  rw [word, List.getD_eq_getElem?_getD, List.getElem?_eq_getElem hj] at this
  simpa using this
theorem new_word (n : Int) (j : Nat) : (new n).word j = 0 := by
  unfold word new
  rw [List.getD_eq_getElem?_getD, List.getElem?_replicate]; split <;> rfl
theorem told_at (i k j : Nat) (h : j < (A.told i k).length) : (A.told i k)[j] = A.word (i + j) := by simp [told]
theorem take_yes {n : Int} (h : A.canTake n = true) : A.take n = ⟨A.ws, A.top + n.toNat, A.es ++ [⟨4, A.top, cnt n⟩]⟩ := by unfold take; rw [if_pos h]
theorem put_yes {at_ : Int} {l : List Nat} (h : A.fits at_ l.length = true) : A.put at_ l = A.putK at_.toNat l l.length := by unfold put; rw [if_pos h]
theorem give_yes {at_ : Int} (h : A.fits at_ 0 = true) : A.give at_ = A.giveN at_.toNat := by unfold give; rw [if_pos h]
theorem shown_yes {at_ n : Int} (h : A.fits at_ n = true) : A.shown at_ n = A.relK at_.toNat n.toNat := by unfold shown; rw [if_pos h]
theorem showV_yes {at_ n : Int} (h : A.fits at_ n = true) : A.showV at_ n = A.told at_.toNat n.toNat := by unfold showV; rw [if_pos h]
theorem give_no {at_ : Int} (h : A.fits at_ 0 = false) : A.give at_ = A := by unfold give; rw [h]; rfl

/-- behind New, Take of all, and Put of all -/
theorem full (l : List Nat) : (new (l.length : Int)).canTake (l.length : Int) = true ∧ ((new (l.length : Int)).take (l.length : Int)).fits 0 (l.length : Int) = true ∧
    ∃ A, A = ((new (l.length : Int)).take (l.length : Int)).put 0 l ∧ A.top = l.length ∧ A.ws.length = l.length ∧ A.es.length = 1 + l.length ∧ ((new (l.length : Int)).take (l.length : Int)).es.length = 1 ∧ ∀ j, j < l.length → A.word j = l.getD j 0 := by
  have h1 : (new (l.length : Int)).canTake (l.length : Int) = true := by simp [canTake, new]
  have e1 := take_yes h1
  have ht : ((new (l.length : Int)).take (l.length : Int)).top = l.length := by rw [e1]; simp [new]
  have hw : ((new (l.length : Int)).take (l.length : Int)).ws.length = l.length := by rw [e1]; simp [new]
  have he : ((new (l.length : Int)).take (l.length : Int)).es.length = 1 := by rw [e1]; rfl
  have h2 : ((new (l.length : Int)).take (l.length : Int)).fits 0 (l.length : Int) = true := by rw [fits_iff, ht]; omega
  refine ⟨h1, h2, _, rfl, ?_, ?_, ?_, he, ?_⟩
  · rw [put_yes h2, putK_top, ht]
  · rw [put_yes h2, putK_wslen, hw]
  · rw [put_yes h2, putK_eslen, he]
  · intro j hj
    rw [put_yes h2, putK_word _ _ _ _ (Nat.le_refl _) (by rw [hw]; simp), if_pos (by simp; exact hj)]; simp
end Ars
end Go.Proofs.YtjcnkigadlmpgaaDoor
