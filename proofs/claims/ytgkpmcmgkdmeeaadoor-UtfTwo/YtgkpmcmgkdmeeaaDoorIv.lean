/- A region that draws its order, walked by an invariant on what has come up: one proof an operation, however many orders there are. Nothing of the program is named here. -/
import Derived.Test.YtgkpmcmgkdmeeaaDoorFs
import Derived.Deep.RegionHeld3
namespace Go.Proofs.YtgkpmcmgkdmeeaaDoor
open Go.RowKit

section
variable {P : Program} {ops : Array Oper} {Q : Exit → Act → World → Prop} {md : Region.Mode} {S : World → Prop}
theorem count_set_lt {l : List Bool} {i : Nat} (h : l[i]? = some false) : (l.set i true).count false + 1 = l.count false := by
  induction l generalizing i with
  | nil => simp at h
  | cons b l ih =>
    cases i with
    | zero => simp at h; subst h; simp
    | succ i =>
      have := ih (i := i) (by simpa using h)
      cases b <;> simp <;> omega
theorem wpAnyH_inv (I : Array Bool → Act → World → Prop)
    (hI : ∀ listed a w, I listed a w → (Region.ready md ops listed = [] → Q .normal a w) ∧ ∀ i ∈ Region.ready md ops listed, wpOp P ops Q i (fun a' w' => S w' ∧ I (listed.setIfInBounds i true) a' w') a w) :
    ∀ (fuel : Nat) (listed : Array Bool) (a : Act) (w : World), listed.toList.count false ≤ fuel → I listed a w → wpAnyH P md ops Q S fuel listed a w := by
  have key : ∀ (listed : Array Bool) (i : Nat), i ∈ Region.ready md ops listed → listed.toList[i]? = some false := fun listed i hi => by
    have := (mem_ready.1 hi).1
    rcases Nat.lt_or_ge i listed.size with h | h
    · simp [h] at this ⊢; exact this
    · simp [Array.getD, Nat.not_lt.2 h] at this
  intro fuel
  induction fuel with
  | zero =>
    intro listed a w hc h
    have hr : Region.ready md ops listed = [] := by
      cases he : Region.ready md ops listed with
      | nil => rfl
      | cons i rs =>
        have := count_set_lt (key listed i (by rw [he]; exact List.mem_cons_self ..))
        omega
    exact ⟨hr, (hI listed a w h).1 hr⟩
  | succ fuel ih =>
    intro listed a w hc h
    refine ⟨(hI listed a w h).1, fun i hi => wpOp_mono (fun a' w' h' => ⟨h'.1, ih _ a' w' ?_ h'.2⟩) ((hI listed a w h).2 i hi)⟩
    have := count_set_lt (key listed i hi)
    rw [Array.toList_setIfInBounds]
    omega
/-- the taking of an operation whose temporary is named -/
theorem tk_at {i : Nat} {oi : Oper} {d : Option Tmp} {v : Value} {fuel : Nat} {listed : Array Bool} {a : Act} {w : World} (hi : ops[i]? = some oi) (hd : oi.dst = d)
    (hs : Region.noSelect ops = true) (hf : Region.free md ops listed i = true) (hr : (Region.ready md ops listed).contains i = true)
    (hQ : ∀ c a w, Q (.panic c) (a.put d v) w → Q (.panic c) a w) (hy : YieldsIf P ops S oi v a) (hS : S w)
    (h : wpAnyH P md ops Q S fuel (listed.setIfInBounds i true) (a.put d v) w) : wpAnyH P md ops Q S (fuel + 1) listed a w := by
  subst hd; exact wpAnyH_take hi hs hf hr hQ hy hS h
/-- one operation, its way on shut -/
theorem wpOp_shut {i : Nat} {o : Oper} {K : Act → World → Prop} {a : Act} {w : World} (ho : ops[i]? = some o)
    (h : ∀ K' : Act → World → Prop, Shut (∀ a w, K a w → K' a w) → if Region.wanted o (yielded ops a.tmps) = true then Oper.wp P o a w K' Q else K' (a.put o.dst undef) w) : wpOp P ops Q i K a w :=
  wpOp_step ho h
end
/-- a word that a region makes, and perhaps has filled -/
def Own1 (w0 w : World) (b c : Bool) (p : Value) (m : Nat) : Prop := b = true → ∃ z, p = .pointer (some ⟨z, 0, none⟩) ∧ w0.heap.size ≤ z ∧ w.heap[z]? = some (.cells #[.int .u32 (if c then (m : Int) else 0)] 32 (0, 0))
theorem Own1.below {w0 w w' : World} {b c : Bool} {p : Value} {m : Nat} (h : Own1 w0 w b c p m) (hB : Below w.heap.size w w') : Own1 w0 w' b c p m := fun hb => by
  obtain ⟨z, h1, h2, h3⟩ := h hb
  exact ⟨z, h1, h2, (hB.block z (lt_of_heap h3)).trans h3⟩
theorem Own1.new {w0 w : World} {m : Nat} (hB : Below w0.heap.size w0 w) : Own1 w0 (w.alloc (.cells #[.int .u32 0] 32 (0, 0))) true false (.pointer (some ⟨w.heap.size, 0, none⟩)) m := fun _ =>
  ⟨_, rfl, hB.size, heap_alloc_at _ _⟩
theorem Own1.fresh {w0 w : World} {b c : Bool} {p : Value} {m : Nat} (h : Own1 w0 w b c p m) (hb : b = true) : Value.pointer (some ⟨w.heap.size, 0, none⟩) ≠ p := fun e => by
  obtain ⟨z, h1, _, h3⟩ := h hb
  rw [h1] at e
  have := lt_of_heap h3
  injection e with e; injection e with e; injection e with e; omega
theorem own_put {w : World} {z : Nat} {v x : Int} (h : w.heap[z]? = some (.cells #[.int .u32 v] 32 (0, 0))) : (w.setCell ⟨z, 0, none⟩ (.int .u32 x)).heap[z]? = some (.cells #[.int .u32 x] 32 (0, 0)) := by
  rw [heap_setCell_at _ _ 0 _ _ _ _ h]; rfl
theorem Own1.other {w0 w : World} {b c : Bool} {p : Value} {m z : Nat} {v : Value} (h : Own1 w0 w b c p m) (hne : Value.pointer (some ⟨z, 0, none⟩) ≠ p) : Own1 w0 (w.setCell ⟨z, 0, none⟩ v) b c p m := fun hb => by
  obtain ⟨y, h1, h2, h3⟩ := h hb
  refine ⟨y, h1, h2, ?_⟩
  have : z ≠ y := fun e => hne (by rw [h1, e])
  rw [Below.heap_setCell _ _ _ _ (fun e => this e.symm)]; exact h3
theorem Own1.none {w0 w : World} {c : Bool} {p : Value} {m : Nat} : Own1 w0 w false c p m := fun h => by cases h
end Go.Proofs.YtgkpmcmgkdmeeaaDoor
