/- Charts as plain mathematics: what lines say, and the first line that says nothing. Nothing of the program is named here. -/
import Derived.Test.YtgalmlelnolodaaGreatDoorChP
import Derived.WalkKit
namespace Go.Proofs.YtgalmlelnolodaaGreatDoor
open Go.RowKit

/-- what a line says: its first and last point, and the rest as cells -/
structure It where
  a : Nat
  b : Nat
  r : List Value
def wd (w : List ByteArray) (i : Nat) : ByteArray := w.getD i ByteArray.empty
def rgOf (w : List ByteArray) : Option It :=
  if w.length = 6 then match spV (bs (wd w 0)) (bs (wd w 1)) with
    | some (x, y) => if (ctV (bs (wd w 2)) && nmV 3 (bs (wd w 3)) && jnV (wd w 4) && edV (wd w 5)) = true then some ⟨x, y, [.string (wd w 2), .string (wd w 3), .string (wd w 4), .bool ((wd w 5).toList == [110, 101, 119])]⟩ else none
    | none => none
  else none
def wtOf (w : List ByteArray) : Option It :=
  if w.length = 3 then match spV (bs (wd w 0)) (bs (wd w 1)), clV (bs (wd w 2)) with
    | some (x, y), some n => some ⟨x, y, [.int .u32 (n : Nat)]⟩
    | _, _ => none
  else none
def ruOf (w : List ByteArray) : Option It :=
  if w.length = 3 then match spV (bs (wd w 0)) (bs (wd w 1)), ptV (bs (wd w 2)) with
    | some (x, y), some n => some ⟨x, y, [.int .u32 (n : Nat)]⟩
    | _, _ => none
  else none
def nmOf (w : List ByteArray) : Option It :=
  if w.length = 3 then match nmV 10 (bs (wd w 0)), spV (bs (wd w 1)) (bs (wd w 2)) with
    | true, some (x, y) => some ⟨x, y, [.string (wd w 0)]⟩
    | _, _ => none
  else none
def upW (p x : It) : Bool := decide (p.b < x.a)
def anyW (_ _ : It) : Bool := true

variable {α : Type} (of : List ByteArray → Option α) (bh : α → α → Bool) (ls : List (List ByteArray))
/-- may x stand behind l? -/
def fitV (l : List α) (x : α) : Bool := l.getLast?.all fun p => bh p x
/-- what the first k lines say, and 0; or nothing, and the number of the first one that says nothing -/
def rsV : Nat → List α × Nat
  | 0 => ([], 0)
  | k + 1 => if (rsV k).2 ≠ 0 then rsV k else match of (ls.getD k []) with
    | some x => if fitV bh (rsV k).1 x = true then ((rsV k).1 ++ [x], 0) else ([], k + 1)
    | none => ([], k + 1)
variable {of bh ls}
theorem rsV_next {k : Nat} {l : List α} {x : α} (h : rsV of bh ls k = (l, 0)) (hx : of (ls.getD k []) = some x) (hf : fitV bh l x = true) : rsV of bh ls (k + 1) = (l ++ [x], 0) := by
  rw [rsV, h, hx]
  simp [hf]
theorem rsV_none {k : Nat} {l : List α} (h : rsV of bh ls k = (l, 0)) (hx : of (ls.getD k []) = none) : rsV of bh ls (k + 1) = ([], k + 1) := by
  rw [rsV, h, hx]
  simp
theorem rsV_bad {k : Nat} {l : List α} {x : α} (h : rsV of bh ls k = (l, 0)) (hx : of (ls.getD k []) = some x) (hf : fitV bh l x = false) : rsV of bh ls (k + 1) = ([], k + 1) := by
  rw [rsV, h, hx]
  simp [hf]
theorem rsV_stay {k m : Nat} (h : (rsV of bh ls k).2 ≠ 0) (hm : k ≤ m) : rsV of bh ls m = rsV of bh ls k := by
  induction m with
  | zero => rw [show k = 0 by omega]
  | succ m ih =>
    by_cases e : k = m + 1
    · rw [e]
    · have := ih (by omega)
      rw [rsV, if_pos (by rw [this]; exact h), this]
theorem rsV_end {k m : Nat} {l : List α} {j : Nat} (h : rsV of bh ls k = (l, j + 1)) (hm : k ≤ m) : rsV of bh ls m = (l, j + 1) := by
  rw [rsV_stay (by rw [h]; simp) hm, h]
theorem rsV_len {k : Nat} {l : List α} (h : rsV of bh ls k = (l, 0)) : l.length = k := by
  induction k generalizing l with
  | zero => cases h; rfl
  | succ k ih =>
    obtain ⟨l0, e0, h0⟩ : ∃ l0 e0, rsV of bh ls k = (l0, e0) := ⟨_, _, rfl⟩
    rw [rsV, h0] at h
    by_cases he : e0 = 0
    · subst he
      simp only [ne_eq, not_true_eq_false, if_false] at h
      split at h
      · split at h
        · cases h; rw [List.length_append, ih h0]; rfl
        · cases h
      · cases h
    · simp only [ne_eq, he, not_false_eq_true, if_true] at h
      cases h; exact absurd rfl he
theorem rsV_some {k : Nat} {l : List α} (h : rsV of bh ls k = (l, 0)) : ∀ x ∈ l, ∃ j, j < k ∧ of (ls.getD j []) = some x := by
  induction k generalizing l with
  | zero => cases h; intro x hx; cases hx
  | succ k ih =>
    obtain ⟨l0, e0, h0⟩ : ∃ l0 e0, rsV of bh ls k = (l0, e0) := ⟨_, _, rfl⟩
    rw [rsV, h0] at h
    by_cases he : e0 = 0
    · subst he
      simp only [ne_eq, not_true_eq_false, if_false] at h
      split at h
      · rename_i y hy
        split at h
        · cases h
          intro x hx
          rcases List.mem_append.1 hx with h1 | h1
          · obtain ⟨j, hj, e⟩ := ih h0 x h1
            exact ⟨j, by omega, e⟩
          · rw [List.mem_singleton] at h1
            subst h1
            exact ⟨k, by omega, hy⟩
        · cases h
      · cases h
    · simp only [ne_eq, he, not_false_eq_true, if_true] at h
      cases h; exact absurd rfl he
/-- the lines of a text, as words -/
def lnV (s : ByteArray) : List ByteArray := if s.size = 0 then [] else splS 10 s
def lwV (s : ByteArray) : List (List ByteArray) := (lnV s).map (splS 32)
theorem lwV_at {s : ByteArray} {k : Nat} {x : ByteArray} (h : (lnV s)[k]? = some x) : (lwV s).getD k [] = splS 32 x := by
  unfold lwV
  rw [List.getD_eq_getElem?_getD, List.getElem?_map, h]
  rfl
end Go.Proofs.YtgalmlelnolodaaGreatDoor
