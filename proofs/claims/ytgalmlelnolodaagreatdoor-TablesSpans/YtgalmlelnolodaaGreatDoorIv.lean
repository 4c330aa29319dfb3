/- A region that draws its order, walked by an invariant on what has come up (one proof an operation, however many orders there are), which may speak of the state in which it began; variables that a drawn region makes and fills. Nothing of the program is named here. -/
import Derived.Test.YtgalmlelnolodaaGreatDoorFs
import Derived.Deep.RegionHeld3
namespace Go.Proofs.YtgalmlelnolodaaGreatDoor
open Go.RowKit
set_option linter.unusedVariables false

section
variable {P : Program} {ops : Array Oper} {Q : Exit → Act → World → Prop} {md : Region.Mode} {S : World → Prop}
theorem count_set_lt {l : List Bool} {i : Nat} (h : l[i]? = some false) : (l.set i true).count false + 1 = l.count false := by
  induction l generalizing i with
  | nil => simp at h
  | cons b l ih =>
    cases i with
    | zero => simp at h; subst h; simp
    | succ i =>
      have := ih (i := i) (by simpa using h)
      cases b <;> simp <;> omega
theorem wpAnyH_inv (I : Array Bool → Act → World → Prop)
    (hI : ∀ listed a w, I listed a w → (Region.ready md ops listed = [] → Q .normal a w) ∧ ∀ i ∈ Region.ready md ops listed, wpOp P ops Q i (fun a' w' => S w' ∧ I (listed.setIfInBounds i true) a' w') a w) :
    ∀ (fuel : Nat) (listed : Array Bool) (a : Act) (w : World), listed.toList.count false ≤ fuel → I listed a w → wpAnyH P md ops Q S fuel listed a w := by
  have key : ∀ (listed : Array Bool) (i : Nat), i ∈ Region.ready md ops listed → listed.toList[i]? = some false := fun listed i hi => by
    have := (mem_ready.1 hi).1
    rcases Nat.lt_or_ge i listed.size with h | h
    · simp [h] at this ⊢; exact this
    · simp [Array.getD, Nat.not_lt.2 h] at this
  intro fuel
  induction fuel with
  | zero =>
    intro listed a w hc h
    have hr : Region.ready md ops listed = [] := by
      cases he : Region.ready md ops listed with
      | nil => rfl
      | cons i rs =>
        have := count_set_lt (key listed i (by rw [he]; exact List.mem_cons_self ..))
        omega
    exact ⟨hr, (hI listed a w h).1 hr⟩
  | succ fuel ih =>
    intro listed a w hc h
    refine ⟨(hI listed a w h).1, fun i hi => wpOp_mono (fun a' w' h' => ⟨h'.1, ih _ a' w' ?_ h'.2⟩) ((hI listed a w h).2 i hi)⟩
    have := count_set_lt (key listed i hi)
    rw [Array.toList_setIfInBounds]
    omega
/-- the taking of an operation whose temporary is named -/
theorem tk_at {i : Nat} {oi : Oper} {d : Option Tmp} {v : Value} {fuel : Nat} {listed : Array Bool} {a : Act} {w : World} (hi : ops[i]? = some oi) (hd : oi.dst = d)
    (hs : Region.noSelect ops = true) (hf : Region.free md ops listed i = true) (hr : (Region.ready md ops listed).contains i = true)
    (hQ : ∀ c a w, Q (.panic c) (a.put d v) w → Q (.panic c) a w) (hy : YieldsIf P ops S oi v a) (hS : S w)
    (h : wpAnyH P md ops Q S fuel (listed.setIfInBounds i true) (a.put d v) w) : wpAnyH P md ops Q S (fuel + 1) listed a w := by
  subst hd; exact wpAnyH_take hi hs hf hr hQ hy hS h
/-- one operation, its way on shut -/
theorem wpOp_shut {i : Nat} {o : Oper} {K : Act → World → Prop} {a : Act} {w : World} (ho : ops[i]? = some o)
    (h : ∀ K' : Act → World → Prop, Shut (∀ a w, K a w → K' a w) → if Region.wanted o (yielded ops a.tmps) = true then Oper.wp P o a w K' Q else K' (a.put o.dst undef) w) : wpOp P ops Q i K a w :=
  wpOp_step ho h
end
theorem set_self (t : Array Value) (i : Nat) : t.setIfInBounds i (t.getD i undef) = t := by
  apply Array.ext_getElem?
  intro j
  rw [Array.getElem?_setIfInBounds]
  split
  · next h =>
    subst h
    split
    · next h => simp [h]
    · next h => rw [Array.getElem?_eq_none (by omega)]
  · rfl
theorem wpAnyH_inv0 {P : Program} {ops : Array Oper} {Q : Exit → Act → World → Prop} {md : Region.Mode} {S : World → Prop} {a0 : Act} (J : Act → Array Bool → Act → World → Prop)
    (hI : ∀ listed a w, J a0 listed a w → (Region.ready md ops listed = [] → Q .normal a w) ∧ ∀ i ∈ Region.ready md ops listed, wpOp P ops Q i (fun a' w' => S w' ∧ J a0 (listed.setIfInBounds i true) a' w') a w)
    (fuel : Nat) (listed : Array Bool) (w : World) (hc : listed.toList.count false ≤ fuel) (h : ∀ aS : Act, J aS listed aS w) : wpAnyH P md ops Q S fuel listed a0 w :=
  wpAnyH_inv (J a0) hI fuel listed a0 w hc (h a0)

/-- a variable that a region makes, and perhaps has filled -/
def OwnV (w0 w : World) (b c : Bool) (p : Value) (cs0 cs1 : Array Value) (t : TypeId) : Prop := b = true → ∃ z, p = .pointer (some ⟨z, 0, none⟩) ∧ w0.heap.size ≤ z ∧ w.heap[z]? = some (.cells (if c then cs1 else cs0) t (0, 0))
theorem OwnV.below {w0 w w' : World} {b c : Bool} {p : Value} {cs0 cs1 : Array Value} {t : TypeId} (h : OwnV w0 w b c p cs0 cs1 t) (hB : Below w.heap.size w w') : OwnV w0 w' b c p cs0 cs1 t := fun hb => by
  obtain ⟨z, h1, h2, h3⟩ := h hb
  exact ⟨z, h1, h2, (hB.block z (lt_of_heap h3)).trans h3⟩
theorem OwnV.new {w0 w : World} {cs0 cs1 : Array Value} {t : TypeId} (hB : Below w0.heap.size w0 w) : OwnV w0 (w.alloc (.cells cs0 t (0, 0))) true false (.pointer (some ⟨w.heap.size, 0, none⟩)) cs0 cs1 t := fun _ =>
  ⟨_, rfl, hB.size, heap_alloc_at _ _⟩
theorem OwnV.non {w0 w : World} {c : Bool} {p : Value} {cs0 cs1 : Array Value} {t : TypeId} : OwnV w0 w false c p cs0 cs1 t := fun h => by cases h
theorem OwnV.fresh {w0 w : World} {b c : Bool} {p : Value} {cs0 cs1 : Array Value} {t : TypeId} (h : OwnV w0 w b c p cs0 cs1 t) (hb : b = true) : Value.pointer (some ⟨w.heap.size, 0, none⟩) ≠ p := fun e => by
  obtain ⟨z, h1, _, h3⟩ := h hb
  rw [h1] at e
  have := lt_of_heap h3
  injection e with e; injection e with e; injection e with e; omega
theorem OwnV.other {w0 w w' : World} {b c : Bool} {p : Value} {cs0 cs1 : Array Value} {t : TypeId} {z : Nat} (h : OwnV w0 w b c p cs0 cs1 t) (hne : b = true → Value.pointer (some ⟨z, 0, none⟩) ≠ p) (hw : ∀ k, k ≠ z → w'.heap[k]? = w.heap[k]?) : OwnV w0 w' b c p cs0 cs1 t := fun hb => by
  obtain ⟨y, h1, h2, h3⟩ := h hb
  refine ⟨y, h1, h2, ?_⟩
  have : y ≠ z := fun e => hne hb (by rw [h1, e])
  rw [hw y this]; exact h3
theorem ptr_ne {y z : Nat} (h : Value.pointer (some ⟨y, 0, none⟩) ≠ Value.pointer (some ⟨z, 0, none⟩)) : y ≠ z := fun e => h (by rw [e])
theorem off_set {w : World} {z i : Nat} {v : Value} {f : Nat → Option Obj} (h : ∀ k, k ≠ z → w.heap[k]? = f k) : ∀ k, k ≠ z → (w.setCell ⟨z, i, none⟩ v).heap[k]? = f k := fun k hk => (Below.heap_setCell _ _ _ _ hk).trans (h k hk)
theorem vset1 {w : World} {g : Nat} {u0 a : Value} {t : TypeId} (h : w.heap[g]? = some (.cells #[u0] t (0, 0))) : (w.setCell ⟨g, 0, none⟩ a).heap[g]? = some (.cells #[a] t (0, 0)) := heap_setCell_at _ _ 0 _ _ _ a h
theorem vset4 {w : World} {g : Nat} {u0 u1 u2 u3 a b c d : Value} {t : TypeId} (h : w.heap[g]? = some (.cells #[u0, u1, u2, u3] t (0, 0))) : ((((w.setCell ⟨g, 0, none⟩ a).setCell ⟨g, 1, none⟩ b).setCell ⟨g, 2, none⟩ c).setCell ⟨g, 3, none⟩ d).heap[g]? = some (.cells #[a, b, c, d] t (0, 0)) :=
  heap_setCell_at _ _ 3 _ _ _ d (heap_setCell_at _ _ 2 _ _ _ c (heap_setCell_at _ _ 1 _ _ _ b (heap_setCell_at _ _ 0 _ _ _ a h)))
theorem hp_get (w : World) (o : Obj) (i : Nat) : (w.alloc o).heap[i]? = if i = w.heap.size then some o else w.heap[i]? := by
  split
  · next h => subst h; exact heap_alloc_at _ _
  · next h =>
    rcases Nat.lt_or_ge i w.heap.size with hl | hl
    · exact heap_alloc_old _ _ _ hl
    · rw [Array.getElem?_eq_none hl, Array.getElem?_eq_none (by simp; omega)]
theorem belowCat {w0 w w' : World} (h : Below w0.heap.size w0 w) (hb : Below w.heap.size w w') : Below w0.heap.size w0 w' := h.trans (hb.mono h.size)
theorem cell_s1 {w : World} {g : Nat} {v : Int} {T : TypeId} (h : w.heap[g]? = some (.cells #[.int .u32 v] T (0, 0))) : w.cell? ⟨g, 0, none⟩ = some (.int .u32 v) := cell_of_heap h rfl
end Go.Proofs.YtgalmlelnolodaaGreatDoor
