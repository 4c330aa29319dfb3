/- Variables that a drawn region makes and fills: what is known of them, whatever has come up. Nothing of the program is named here. -/
import Derived.Test.YtgkpmcmgkdmeeaaDoorJv
namespace Go.Proofs.YtgkpmcmgkdmeeaaDoor
open Go.RowKit
set_option linter.unusedVariables false

/-- a variable that a region makes, and perhaps has filled -/
def OwnV (w0 w : World) (b c : Bool) (p : Value) (cs0 cs1 : Array Value) (t : TypeId) : Prop := b = true → ∃ z, p = .pointer (some ⟨z, 0, none⟩) ∧ w0.heap.size ≤ z ∧ w.heap[z]? = some (.cells (if c then cs1 else cs0) t (0, 0))
theorem OwnV.below {w0 w w' : World} {b c : Bool} {p : Value} {cs0 cs1 : Array Value} {t : TypeId} (h : OwnV w0 w b c p cs0 cs1 t) (hB : Below w.heap.size w w') : OwnV w0 w' b c p cs0 cs1 t := fun hb => by
  obtain ⟨z, h1, h2, h3⟩ := h hb
  exact ⟨z, h1, h2, (hB.block z (lt_of_heap h3)).trans h3⟩
theorem OwnV.new {w0 w : World} {cs0 cs1 : Array Value} {t : TypeId} (hB : Below w0.heap.size w0 w) : OwnV w0 (w.alloc (.cells cs0 t (0, 0))) true false (.pointer (some ⟨w.heap.size, 0, none⟩)) cs0 cs1 t := fun _ =>
  ⟨_, rfl, hB.size, heap_alloc_at _ _⟩
theorem OwnV.non {w0 w : World} {c : Bool} {p : Value} {cs0 cs1 : Array Value} {t : TypeId} : OwnV w0 w false c p cs0 cs1 t := fun h => by cases h
theorem OwnV.fresh {w0 w : World} {b c : Bool} {p : Value} {cs0 cs1 : Array Value} {t : TypeId} (h : OwnV w0 w b c p cs0 cs1 t) (hb : b = true) : Value.pointer (some ⟨w.heap.size, 0, none⟩) ≠ p := fun e => by
  obtain ⟨z, h1, _, h3⟩ := h hb
  rw [h1] at e
  have := lt_of_heap h3
  injection e with e; injection e with e; injection e with e; omega
theorem OwnV.other {w0 w w' : World} {b c : Bool} {p : Value} {cs0 cs1 : Array Value} {t : TypeId} {z : Nat} (h : OwnV w0 w b c p cs0 cs1 t) (hne : b = true → Value.pointer (some ⟨z, 0, none⟩) ≠ p) (hw : ∀ k, k ≠ z → w'.heap[k]? = w.heap[k]?) : OwnV w0 w' b c p cs0 cs1 t := fun hb => by
  obtain ⟨y, h1, h2, h3⟩ := h hb
  refine ⟨y, h1, h2, ?_⟩
  have : y ≠ z := fun e => hne hb (by rw [h1, e])
  rw [hw y this]; exact h3
theorem ptr_ne {y z : Nat} (h : Value.pointer (some ⟨y, 0, none⟩) ≠ Value.pointer (some ⟨z, 0, none⟩)) : y ≠ z := fun e => h (by rw [e])
theorem off_set {w : World} {z i : Nat} {v : Value} {f : Nat → Option Obj} (h : ∀ k, k ≠ z → w.heap[k]? = f k) : ∀ k, k ≠ z → (w.setCell ⟨z, i, none⟩ v).heap[k]? = f k := fun k hk => (Below.heap_setCell _ _ _ _ hk).trans (h k hk)
theorem vset1 {w : World} {g : Nat} {u0 a : Value} {t : TypeId} (h : w.heap[g]? = some (.cells #[u0] t (0, 0))) : (w.setCell ⟨g, 0, none⟩ a).heap[g]? = some (.cells #[a] t (0, 0)) := heap_setCell_at _ _ 0 _ _ _ a h
theorem vset4 {w : World} {g : Nat} {u0 u1 u2 u3 a b c d : Value} {t : TypeId} (h : w.heap[g]? = some (.cells #[u0, u1, u2, u3] t (0, 0))) : ((((w.setCell ⟨g, 0, none⟩ a).setCell ⟨g, 1, none⟩ b).setCell ⟨g, 2, none⟩ c).setCell ⟨g, 3, none⟩ d).heap[g]? = some (.cells #[a, b, c, d] t (0, 0)) :=
  heap_setCell_at _ _ 3 _ _ _ d (heap_setCell_at _ _ 2 _ _ _ c (heap_setCell_at _ _ 1 _ _ _ b (heap_setCell_at _ _ 0 _ _ _ a h)))
theorem hp_get (w : World) (o : Obj) (i : Nat) : (w.alloc o).heap[i]? = if i = w.heap.size then some o else w.heap[i]? := by
  split
  · next h => subst h; exact heap_alloc_at _ _
  · next h =>
    rcases Nat.lt_or_ge i w.heap.size with hl | hl
    · exact heap_alloc_old _ _ _ hl
    · rw [Array.getElem?_eq_none hl, Array.getElem?_eq_none (by simp; omega)]
theorem belowCat {w0 w w' : World} (h : Below w0.heap.size w0 w) (hb : Below w.heap.size w w') : Below w0.heap.size w0 w' := h.trans (hb.mono h.size)
theorem cell_s1 {w : World} {g : Nat} {v : Int} {T : TypeId} (h : w.heap[g]? = some (.cells #[.int .u32 v] T (0, 0))) : w.cell? ⟨g, 0, none⟩ = some (.int .u32 v) := cell_of_heap h rfl
end Go.Proofs.YtgkpmcmgkdmeeaaDoor
