/- Whole charts, gone through once: what the kernel can reckon. No conditions. -/
import Derived.Test.YtgalmlelnolodaaGreatDoorChMe
namespace Go.Proofs.YtgalmlelnolodaaGreatDoor
open Go.RowKit
set_option linter.unusedVariables false

variable {α : Type}
/-- does each line say something, and stand rightly behind the one ahead? -/
def okV (of : List ByteArray → Option α) (bh : α → α → Bool) : List (List ByteArray) → Option α → Bool
  | [], _ => true
  | l :: r, prev => match of l with
    | none => false
    | some x => match prev.all fun p => bh p x with
      | true => okV of bh r (some x)
      | false => false
theorem okV_run {of : List ByteArray → Option α} {bh : α → α → Bool} {ls : List (List ByteArray)} : ∀ (d k : Nat) (l : List α), ls.length = k + d → rsV of bh ls k = (l, 0) → okV of bh (ls.drop k) l.getLast? = true → ∃ its, rsV of bh ls ls.length = (its, 0) := by
  intro d
  induction d with
  | zero => intro k l hk hr _; rw [hk]; exact ⟨l, hr⟩
  | succ d ih =>
    intro k l hk hr ho
    have hlt : k < ls.length := by omega
    rw [List.drop_eq_getElem_cons hlt, okV] at ho
    have hg : ls.getD k [] = ls[k] := by rw [List.getD_eq_getElem?_getD, List.getElem?_eq_getElem hlt]; rfl
    cases hx : of ls[k] with
    | none => rw [hx] at ho; cases ho
    | some x =>
      rw [hx] at ho
      simp only at ho
      cases hf : l.getLast?.all fun p => bh p x with
      | false => rw [hf] at ho; cases ho
      | true =>
        rw [hf] at ho
        simp only at ho
        have hn := rsV_next hr (by rw [hg]; exact hx) (show fitV bh l x = true from hf)
        exact ih (k + 1) _ (by omega) hn (by rw [List.getLast?_append]; exact ho)
theorem okV_all {of : List ByteArray → Option α} {bh : α → α → Bool} {ls : List (List ByteArray)} (h : okV of bh ls none = true) : ∃ its, rsV of bh ls ls.length = (its, 0) :=
  okV_run ls.length 0 [] (by omega) rfl h
def rgK (w : List ByteArray) : Option It :=
  if w.length = 6 then match spV (bs (wd w 0)) (bs (wd w 1)) with
    | some (x, y) => if (ctV (bs (wd w 2)) && nmV 3 (bs (wd w 3)) && (let t := (wd w 4).data.toList; t == [85] || t == [68] || t == [82] || t == [76] || t == [67] || t == [84]) && (let t := (wd w 5).data.toList; t == [111, 108, 100] || t == [110, 101, 119])) = true then some ⟨x, y, [.string (wd w 2), .string (wd w 3), .string (wd w 4), .bool ((wd w 5).data.toList == [110, 101, 119])]⟩ else none
    | none => none
  else none
theorem rgK_eq : rgK = rgOf := by
  funext w
  unfold rgK rgOf jnV edV
  simp only [Lib.toList_data]
  rfl
def dcK (w : List ByteArray) : Option Dt :=
  if 3 ≤ w.length then (ptV (bs (wd w 0))).bind fun p => (pvV (w.drop 2)).bind fun l => if (let t := (wd w 1).data.toList; t == [61] || t == [33] || t == [126]) = true then some ⟨p, l, (wd w 1).data.toList == [126], (wd w 1).data.toList == [33]⟩ else none
  else none
theorem dcK_eq : dcK = dcOf := by
  funext w
  unfold dcK dcOf sgV
  simp only [Lib.toList_data]
/-- a chart of at least n lines is read -/
def goodV (of : List ByteArray → Option α) (bh : α → α → Bool) (n : Nat) (s : ByteArray) : Bool := Nat.ble s.size 1000000 && (Nat.ble n (lwV s).length && okV of bh (lwV s) none)
theorem goodV_said {of : List ByteArray → Option α} {bh : α → α → Bool} {n at_ : Nat} {s : ByteArray} {its : List α} (h : goodV of bh n s = true) (hr : rsV of bh (lwV s) (lwV s).length = (its, at_)) : at_ = 0 ∧ n ≤ its.length := by
  unfold goodV at h
  rw [Bool.and_eq_true, Bool.and_eq_true] at h
  obtain ⟨_, h⟩ := h
  obtain ⟨its', h'⟩ := okV_all h.2
  have := h'.symm.trans hr
  cases this
  exact ⟨rfl, by rw [rsV_len hr]; exact Nat.le_of_ble_eq_true h.1⟩
theorem goodV_size {of : List ByteArray → Option α} {bh : α → α → Bool} {n : Nat} {s : ByteArray} (h : goodV of bh n s = true) : s.size ≤ 1000000 := by
  unfold goodV at h
  rw [Bool.and_eq_true] at h
  exact Nat.le_of_ble_eq_true h.1
theorem rg_le {ws : List ByteArray} {i : It} (h : rgOf ws = some i) : i.a ≤ i.b := by
  by_cases h6 : ws.length = 6
  · rw [rgOf_6 h6] at h
    unfold spV at h
    cases ha : ptV (bs (wd ws 0)) with
    | none => rw [ha, spO_l] at h; cases h
    | some x =>
      cases hb : ptV (bs (wd ws 1)) with
      | none => rw [ha, hb, spO_r] at h; cases h
      | some y =>
        rw [ha, hb] at h
        by_cases hxy : x ≤ y
        · rw [spO_yes hxy] at h
          simp only [Option.bind_some] at h
          split at h
          · cases h; exact hxy
          · cases h
        · rw [spO_no hxy] at h; cases h
  · rw [rgOf_no6 h6] at h; cases h
theorem blw_set6 {w0 w : World} {g : Nat} {a b c d e f : Value} (h : Below w0.heap.size w0 w) (hg : w0.heap.size ≤ g) : Below w0.heap.size w0 ((((((w.setCell ⟨g, 0, none⟩ a).setCell ⟨g, 1, none⟩ b).setCell ⟨g, 2, none⟩ c).setCell ⟨g, 3, none⟩ d).setCell ⟨g, 4, none⟩ e).setCell ⟨g, 5, none⟩ f) :=
  ((((((h.setCell (p := ⟨g, 0, none⟩) hg _).setCell (p := ⟨g, 1, none⟩) hg _).setCell (p := ⟨g, 2, none⟩) hg _).setCell (p := ⟨g, 3, none⟩) hg _).setCell (p := ⟨g, 4, none⟩) hg _).setCell (p := ⟨g, 5, none⟩) hg _)
theorem heap_set6 {w : World} {g q : Nat} {a b c d e f : Value} (hn : q ≠ g) : ((((((w.setCell ⟨g, 0, none⟩ a).setCell ⟨g, 1, none⟩ b).setCell ⟨g, 2, none⟩ c).setCell ⟨g, 3, none⟩ d).setCell ⟨g, 4, none⟩ e).setCell ⟨g, 5, none⟩ f).heap[q]? = w.heap[q]? :=
  (Below.heap_setCell _ _ _ q hn).trans ((Below.heap_setCell _ _ _ q hn).trans ((Below.heap_setCell _ _ _ q hn).trans ((Below.heap_setCell _ _ _ q hn).trans ((Below.heap_setCell _ _ _ q hn).trans (Below.heap_setCell _ _ _ q hn)))))
theorem heap_set4 {w : World} {g q : Nat} {a b c d : Value} (hn : q ≠ g) : ((((w.setCell ⟨g, 0, none⟩ a).setCell ⟨g, 1, none⟩ b).setCell ⟨g, 2, none⟩ c).setCell ⟨g, 3, none⟩ d).heap[q]? = w.heap[q]? :=
  (Below.heap_setCell _ _ _ q hn).trans ((Below.heap_setCell _ _ _ q hn).trans ((Below.heap_setCell _ _ _ q hn).trans (Below.heap_setCell _ _ _ q hn)))
theorem tmod_nat (a b : Nat) : Int.tmod (a : Int) (b : Int) = ((a % b : Nat) : Int) := rfl
end Go.Proofs.YtgalmlelnolodaaGreatDoor
