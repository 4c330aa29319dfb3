/- An arena's state as plain data, and what each call makes of it. Plain facts; nothing of the program is named here. -/
import Derived.Test.YtjcnkigadlmpgaaDoorLo
namespace Go.Proofs.YtjcnkigadlmpgaaDoor
open Go.RowKit

/-- words, how many are taken, what was noted -/
structure Ars where
  ws : List Nat
  top : Nat
  es : List Ev

namespace Ars
def ok (A : Ars) : Prop := A.top ≤ A.ws.length ∧ A.ws.length ≤ 4194304 ∧ ∀ x ∈ A.ws, x < 4294967296
def fits (A : Ars) (at_ n : Int) : Bool := decide (0 ≤ at_ ∧ 0 ≤ n ∧ n ≤ (A.top : Int) - at_)
def note (A : Ars) (e : Ev) : Ars := ⟨A.ws, A.top, A.es ++ [e]⟩
def canTake (A : Ars) (n : Int) : Bool := decide (0 ≤ n ∧ n ≤ (A.ws.length : Int) - (A.top : Int))
def takeAt (A : Ars) (n : Int) : Int := if A.canTake n then (A.top : Int) else 0
def take (A : Ars) (n : Int) : Ars := if A.canTake n then ⟨A.ws, A.top + n.toNat, A.es ++ [⟨4, A.top, cnt n⟩]⟩ else A
def storeN (A : Ars) (i v : Nat) : Ars := ⟨A.ws.set i v, A.top, A.es ++ [⟨2, i, 0⟩]⟩
def store (A : Ars) (at_ : Int) (v : Nat) : Ars := if A.fits at_ 1 then A.storeN at_.toNat v else A
def word (A : Ars) (i : Nat) : Nat := A.ws.getD i 0
def loadV (A : Ars) (at_ : Int) : Nat := if A.fits at_ 1 then A.word at_.toNat else 0
def loadN (A : Ars) (i : Nat) : Ars := A.note ⟨1, i, 0⟩
def load (A : Ars) (at_ : Int) : Ars := if A.fits at_ 1 then A.loadN at_.toNat else A
def relN (A : Ars) (i : Nat) : Ars := (A.loadN i).note ⟨3, 0, A.word i⟩
def rel (A : Ars) (at_ : Int) : Ars := if A.fits at_ 1 then A.relN at_.toNat else A
/-- the first k words of l are stored from i on -/
def putK (A : Ars) (i : Nat) (l : List Nat) : Nat → Ars
  | 0 => A
  | k + 1 => (A.putK i l k).storeN (i + k) (l.getD k 0)
def put (A : Ars) (at_ : Int) (l : List Nat) : Ars := if A.fits at_ l.length then A.putK at_.toNat l l.length else A
/-- k words are told, from i on -/
def relK (A : Ars) (i : Nat) : Nat → Ars
  | 0 => A
  | k + 1 => (A.relK i k).relN (i + k)
def told (A : Ars) (i k : Nat) : List Nat := (List.range k).map fun j => A.word (i + j)
def showV (A : Ars) (at_ n : Int) : List Nat := if A.fits at_ n then A.told at_.toNat n.toNat else []
def shown (A : Ars) (at_ n : Int) : Ars := if A.fits at_ n then A.relK at_.toNat n.toNat else A
/-- k words are set to 0, from t - 1 down -/
def zeroK (A : Ars) (t : Nat) : Nat → Ars
  | 0 => A
  | k + 1 => (A.zeroK t k).storeN (t - 1 - k) 0
def downTo (A : Ars) (t : Nat) : Ars := ⟨A.ws, t, A.es⟩
def giveN (A : Ars) (i : Nat) : Ars := ((A.zeroK A.top (A.top - i)).downTo i).note ⟨5, i, cnt ((A.top : Int) - i)⟩
def give (A : Ars) (at_ : Int) : Ars := if A.fits at_ 0 then A.giveN at_.toNat else A
def new (n : Int) : Ars := ⟨List.replicate n.toNat 0, 0, []⟩
def blank (A : Ars) : Bool := A.ws.all (· == 0)

variable {A : Ars}
theorem fits_iff {at_ n : Int} : A.fits at_ n = true ↔ 0 ≤ at_ ∧ 0 ≤ n ∧ n ≤ (A.top : Int) - at_ := by simp [fits]
theorem fits_no {at_ n : Int} : A.fits at_ n = false ↔ ¬ (0 ≤ at_ ∧ 0 ≤ n ∧ n ≤ (A.top : Int) - at_) := by simp [fits]
theorem fits_nat {i n : Nat} (h : i + n ≤ A.top) : A.fits i n = true := by rw [fits_iff]; omega
theorem ok_note {e : Ev} (h : A.ok) : (A.note e).ok := h
theorem ok_storeN {i v : Nat} (h : A.ok) (hv : v < 4294967296) : (A.storeN i v).ok := by
  refine ⟨by simpa [storeN] using h.1, by simpa [storeN] using h.2.1, fun x hx => ?_⟩
  simp only [storeN] at hx
  rcases List.mem_or_eq_of_mem_set hx with h1 | h1
  · exact h.2.2 x h1
  · rw [h1]; exact hv
theorem ok_downTo {t : Nat} (h : A.ok) (ht : t ≤ A.top) : (A.downTo t).ok := ⟨Nat.le_trans ht h.1, h.2⟩
theorem ok_relN {i : Nat} (h : A.ok) : (A.relN i).ok := h
theorem word_lt (h : A.ok) (i : Nat) : A.word i < 4294967296 := by
  unfold word
  rw [List.getD_eq_getElem?_getD]
  rcases Nat.lt_or_ge i A.ws.length with h1 | h1
  · rw [List.getElem?_eq_getElem h1]; exact h.2.2 _ (List.getElem_mem h1)
  · rw [List.getElem?_eq_none h1]; decide
theorem loadV_lt (h : A.ok) (at_ : Int) : A.loadV at_ < 4294967296 := by
  unfold loadV; split
  · exact word_lt h _
  · decide
@[simp] theorem storeN_top {i v : Nat} : (A.storeN i v).top = A.top := rfl
@[simp] theorem storeN_wslen {i v : Nat} : (A.storeN i v).ws.length = A.ws.length := by simp [storeN]
@[simp] theorem storeN_eslen {i v : Nat} : (A.storeN i v).es.length = A.es.length + 1 := by simp [storeN]
@[simp] theorem relN_top {i : Nat} : (A.relN i).top = A.top := rfl
@[simp] theorem relN_ws {i : Nat} : (A.relN i).ws = A.ws := rfl
@[simp] theorem relN_eslen {i : Nat} : (A.relN i).es.length = A.es.length + 2 := by simp [relN, loadN, note]
theorem putK_top (i : Nat) (l : List Nat) (k : Nat) : (A.putK i l k).top = A.top := by
  induction k with
  | zero => rfl
  | succ k ih => simpa [putK] using ih
theorem putK_wslen (i : Nat) (l : List Nat) (k : Nat) : (A.putK i l k).ws.length = A.ws.length := by
  induction k with
  | zero => rfl
  | succ k ih => simpa [putK] using ih
theorem putK_eslen (i : Nat) (l : List Nat) (k : Nat) : (A.putK i l k).es.length = A.es.length + k := by
  induction k with
  | zero => rfl
  | succ k ih => simp [putK, ih]; omega
theorem getD_lt {l : List Nat} (h : ∀ x ∈ l, x < 4294967296) (k : Nat) : l.getD k 0 < 4294967296 := by
  rw [List.getD_eq_getElem?_getD]
  rcases Nat.lt_or_ge k l.length with h1 | h1
  · rw [List.getElem?_eq_getElem h1]; exact h _ (List.getElem_mem h1)
  · rw [List.getElem?_eq_none h1]; decide
theorem ok_putK (i : Nat) (l : List Nat) (k : Nat) (h : A.ok) (hl : ∀ x ∈ l, x < 4294967296) : (A.putK i l k).ok := by
  induction k with
  | zero => exact h
  | succ k ih => exact ok_storeN ih (getD_lt hl k)
theorem relK_top (i k : Nat) : (A.relK i k).top = A.top := by
  induction k with
  | zero => rfl
  | succ k ih => simpa [relK] using ih
theorem relK_ws (i k : Nat) : (A.relK i k).ws = A.ws := by
  induction k with
  | zero => rfl
  | succ k ih => simpa [relK] using ih
theorem relK_word (i k j : Nat) : (A.relK i k).word j = A.word j := by unfold word; rw [relK_ws]
theorem relK_eslen (i k : Nat) : (A.relK i k).es.length = A.es.length + 2 * k := by
  induction k with
  | zero => rfl
  | succ k ih => simp [relK, ih]; omega
theorem ok_relK (i k : Nat) (h : A.ok) : (A.relK i k).ok := by
  induction k with
  | zero => exact h
  | succ k ih => exact ok_relN ih
theorem told_len (i k : Nat) : (A.told i k).length = k := by simp [told]
theorem told_succ (i k : Nat) : A.told i (k + 1) = A.told i k ++ [A.word (i + k)] := by simp [told, List.range_succ]
theorem zeroK_top (t k : Nat) : (A.zeroK t k).top = A.top := by
  induction k with
  | zero => rfl
  | succ k ih => simpa [zeroK] using ih
theorem zeroK_wslen (t k : Nat) : (A.zeroK t k).ws.length = A.ws.length := by
  induction k with
  | zero => rfl
  | succ k ih => simpa [zeroK] using ih
theorem zeroK_eslen (t k : Nat) : (A.zeroK t k).es.length = A.es.length + k := by
  induction k with
  | zero => rfl
  | succ k ih => simp [zeroK, ih]; omega
theorem ok_zeroK (t k : Nat) (h : A.ok) : (A.zeroK t k).ok := by
  induction k with
  | zero => exact h
  | succ k ih => exact ok_storeN ih (by decide)
theorem downTo_storeN (t i v : Nat) : (A.downTo t).storeN i v = (A.storeN i v).downTo t := rfl
theorem downTo_downTo (t s : Nat) : (A.downTo t).downTo s = A.downTo s := rfl
theorem downTo_self : A.downTo A.top = A := rfl
theorem ok_giveN (i : Nat) (h : A.ok) (hi : i ≤ A.top) : (A.giveN i).ok := by
  unfold giveN
  exact ok_note (ok_downTo (ok_zeroK _ _ h) (by rw [zeroK_top]; exact hi))
theorem giveN_eslen (i : Nat) : (A.giveN i).es.length = A.es.length + (A.top - i) + 1 := by
  simp [giveN, note, downTo, zeroK_eslen]
theorem ok_new (n : Int) (h : n ≤ 4194304) : (new n).ok := by
  refine ⟨Nat.zero_le _, by simp [new]; omega, fun x hx => ?_⟩
  simp only [new, List.mem_replicate] at hx
  rw [hx.2]; decide
theorem ok_take (n : Int) (h : A.ok) : (A.take n).ok := by
  unfold take; split
  · rename_i h1; simp only [canTake, decide_eq_true_eq] at h1
    exact ⟨by simp only; omega, h.2⟩
  · exact h
theorem ok_store (at_ : Int) (v : Nat) (h : A.ok) (hv : v < 4294967296) : (A.store at_ v).ok := by
  unfold store; split
  · exact ok_storeN h hv
  · exact h
theorem ok_load (at_ : Int) (h : A.ok) : (A.load at_).ok := by
  unfold load; split <;> exact h
theorem ok_rel (at_ : Int) (h : A.ok) : (A.rel at_).ok := by
  unfold rel; split <;> exact h
theorem ok_put (at_ : Int) (l : List Nat) (h : A.ok) (hl : ∀ x ∈ l, x < 4294967296) : (A.put at_ l).ok := by
  unfold put; split
  · exact ok_putK _ _ _ h hl
  · exact h
theorem ok_shown (at_ n : Int) (h : A.ok) : (A.shown at_ n).ok := by
  unfold shown; split
  · exact ok_relK _ _ h
  · exact h
theorem ok_give (at_ : Int) (h : A.ok) : (A.give at_).ok := by
  unfold give; split
  · rename_i h1; rw [fits_iff] at h1
    exact ok_giveN _ h (by omega)
  · exact h
end Ars
end Go.Proofs.YtjcnkigadlmpgaaDoor
