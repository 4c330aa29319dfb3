/- Charts of what points become, as plain mathematics. Nothing of the program is named here. -/
import Derived.Test.YtgalmlelnolodaaGreatDoorChQ
namespace Go.Proofs.YtgalmlelnolodaaGreatDoor
open Go.RowKit

/-- what a line says of a point: it, what it becomes, by likeness, alone -/
structure Dt where
  p : Nat
  to : List Nat
  c : Bool
  a : Bool
/-- words as points -/
def psV : List ByteArray → Option (List Nat)
  | [] => some []
  | w :: r => (ptV (bs w)).bind fun p => (psV r).map fun l => p :: l
def pvV (w : List ByteArray) : Option (List Nat) := if 3 < w.length then none else psV w
def dcOf (w : List ByteArray) : Option Dt :=
  if 3 ≤ w.length then (ptV (bs (wd w 0))).bind fun p => (pvV (w.drop 2)).bind fun l => if sgV (wd w 1) = true then some ⟨p, l, (wd w 1).toList == [126], (wd w 1).toList == [33]⟩ else none
  else none
def upD (p x : Dt) : Bool := decide (p.p < x.p)

theorem psV_snoc (l : List ByteArray) (x : ByteArray) : psV (l ++ [x]) = (psV l).bind fun a => (ptV (bs x)).map fun p => a ++ [p] := by
  induction l with
  | nil => simp only [List.nil_append, psV]; cases ptV (bs x) <;> rfl
  | cons y r ih =>
    rw [List.cons_append, psV, psV, ih]
    cases ptV (bs y) with
    | none => rfl
    | some p =>
      cases psV r with
      | none => rfl
      | some a => cases ptV (bs x) <;> rfl
theorem psV_app_none {l r : List ByteArray} (h : psV l = none) : psV (l ++ r) = none := by
  induction l with
  | nil => cases h
  | cons y t ih =>
    rw [List.cons_append, psV]
    rw [psV] at h
    cases hy : ptV (bs y) with
    | none => rfl
    | some p =>
      rw [hy] at h
      cases ht : psV t with
      | none => rw [ih ht]; rfl
      | some a => rw [ht] at h; cases h
theorem psV_len {l : List ByteArray} {a : List Nat} (h : psV l = some a) : a.length = l.length := by
  induction l generalizing a with
  | nil => cases h; rfl
  | cons y t ih =>
    rw [psV] at h
    cases hy : ptV (bs y) with
    | none => rw [hy] at h; cases h
    | some p =>
      rw [hy] at h
      cases ht : psV t with
      | none => rw [ht] at h; cases h
      | some b => rw [ht] at h; cases h; rw [List.length_cons, List.length_cons, ih ht]
theorem psV_le {l : List ByteArray} {a : List Nat} (h : psV l = some a) : ∀ p ∈ a, p ≤ 1114111 := by
  induction l generalizing a with
  | nil => cases h; intro p hp; cases hp
  | cons y t ih =>
    rw [psV] at h
    cases hy : ptV (bs y) with
    | none => rw [hy] at h; cases h
    | some q =>
      rw [hy] at h
      cases ht : psV t with
      | none => rw [ht] at h; cases h
      | some b =>
        rw [ht] at h; cases h
        intro p hp
        rcases List.mem_cons.1 hp with rfl | hp
        · exact ptV_le hy
        · exact ih ht p hp
theorem take_next {l : List ByteArray} {k : Nat} (h : k < l.length) : l.take (k + 1) = l.take k ++ [wd l k] := by
  rw [List.take_add_one, List.getElem?_eq_getElem h]
  unfold wd
  rw [List.getD_eq_getElem?_getD, List.getElem?_eq_getElem h]
  rfl
theorem psV_next {l : List ByteArray} {k p : Nat} {a : List Nat} (h : k < l.length) (ha : psV (l.take k) = some a) (hp : ptV (bs (wd l k)) = some p) : psV (l.take (k + 1)) = some (a ++ [p]) := by
  rw [take_next h, psV_snoc, ha, hp]; rfl
theorem psV_stop {l : List ByteArray} {k : Nat} {a : List Nat} (h : k < l.length) (ha : psV (l.take k) = some a) (hp : ptV (bs (wd l k)) = none) : psV l = none := by
  have : psV (l.take (k + 1)) = none := by rw [take_next h, psV_snoc, ha, hp]; rfl
  have h2 := psV_app_none (r := l.drop (k + 1)) this
  rw [List.take_append_drop] at h2
  exact h2
theorem pvV_many {l : List ByteArray} (h : 3 < l.length) : pvV l = none := by unfold pvV; rw [if_pos h]
theorem pvV_few {l : List ByteArray} (h : ¬ 3 < l.length) : pvV l = psV l := by unfold pvV; rw [if_neg h]
theorem pvV_len {l : List ByteArray} {a : List Nat} (h : pvV l = some a) : a.length = l.length ∧ a.length ≤ 3 := by
  by_cases h3 : 3 < l.length
  · rw [pvV_many h3] at h; cases h
  · rw [pvV_few h3] at h
    have := psV_len h
    exact ⟨this, by omega⟩
theorem pvV_le {l : List ByteArray} {a : List Nat} (h : pvV l = some a) : ∀ p ∈ a, p ≤ 1114111 := by
  by_cases h3 : 3 < l.length
  · rw [pvV_many h3] at h; cases h
  · rw [pvV_few h3] at h; exact psV_le h
theorem dcOf_few {w : List ByteArray} (h : w.length < 3) : dcOf w = none := by unfold dcOf; rw [if_neg (by omega)]
theorem dcOf_in {w : List ByteArray} (h : 3 ≤ w.length) : dcOf w = (ptV (bs (wd w 0))).bind fun p => (pvV (w.drop 2)).bind fun l => if sgV (wd w 1) = true then some ⟨p, l, (wd w 1).toList == [126], (wd w 1).toList == [33]⟩ else none := by unfold dcOf; rw [if_pos h]
theorem dcOf_r {w : List ByteArray} {d : Dt} (h : dcOf w = some d) : d.p ≤ 1114111 ∧ 1 ≤ d.to.length ∧ d.to.length ≤ 3 ∧ ∀ p ∈ d.to, p ≤ 1114111 := by
  by_cases h3 : 3 ≤ w.length
  · rw [dcOf_in h3] at h
    cases hp : ptV (bs (wd w 0)) with
    | none => rw [hp] at h; cases h
    | some p =>
      cases hl : pvV (w.drop 2) with
      | none => rw [hp, hl] at h; cases h
      | some l =>
        rw [hp, hl] at h
        simp only [Option.bind_some] at h
        split at h
        · cases h
          obtain ⟨h4, h5⟩ := pvV_len hl
          rw [List.length_drop] at h4
          exact ⟨ptV_le hp, by show 1 ≤ l.length; omega, h5, pvV_le hl⟩
        · cases h
  · rw [dcOf_few (by omega)] at h; cases h
end Go.Proofs.YtgalmlelnolodaaGreatDoor
