/- The contract of package chart's read at ranges, over this seat's translation. Conditions: a text's size; what the library's variables hold is some number, some errors. -/
import Derived.Test.YtiekffkeagcaiaaDoorChK
namespace Go.Proofs.YtiekffkeagcaiaaDoor
open Go.RowKit
set_option linter.unusedVariables false

theorem fitV_nil {α : Type} {bh : α → α → Bool} {x : α} : fitV bh [] x = true := rfl
theorem fitV_last {α : Type} {bh : α → α → Bool} {l : List α} {x : α} (h : 0 < l.length) : fitV bh l x = bh (l[l.length - 1]'(by omega)) x := by
  unfold fitV
  rw [List.getLast?_eq_getElem?, List.getElem?_eq_getElem (by omega)]
  rfl
theorem owns_base {w : World} {b c : Nat} {e : TypeId} {size : Nat} {v : Value} {n : Nat} {xs : List Value} (h : w.ownsRow c e size v n xs) (hb : b ≤ c) : w.ownsRow b e size v n xs := by
  refine ⟨h.1, ?_⟩
  rcases h.2 with h0 | ⟨g, cp, cur, h1, h2, h3⟩
  · exact Or.inl h0
  · exact Or.inr ⟨g, cp, cur, h1, Nat.le_trans hb h2, h3⟩
theorem rgC_size {ws : List ByteArray} {i : It} (h : rgOf ws = some i) : (rgC i).size = 6 := by
  obtain ⟨_, _, s2, s3, s4, b5, hr⟩ := rgOf_r h
  unfold rgC; rw [hr]; rfl
end Go.Proofs.YtiekffkeagcaiaaDoor
