/- A region that draws its order, walked by an invariant that speaks of the state in which it began. Nothing of the program is named here. -/
import Derived.Test.YtgkpmcmgkdmeeaaDoorIv
namespace Go.Proofs.YtgkpmcmgkdmeeaaDoor
open Go.RowKit
theorem set_self (t : Array Value) (i : Nat) : t.setIfInBounds i (t.getD i undef) = t := by
  apply Array.ext_getElem?
  intro j
  rw [Array.getElem?_setIfInBounds]
  split
  · next h =>
    subst h
    split
    · next h => simp [h]
    · next h => rw [Array.getElem?_eq_none (by omega)]
  · rfl
theorem wpAnyH_inv0 {P : Program} {ops : Array Oper} {Q : Exit → Act → World → Prop} {md : Region.Mode} {S : World → Prop} {a0 : Act} (J : Act → Array Bool → Act → World → Prop)
    (hI : ∀ listed a w, J a0 listed a w → (Region.ready md ops listed = [] → Q .normal a w) ∧ ∀ i ∈ Region.ready md ops listed, wpOp P ops Q i (fun a' w' => S w' ∧ J a0 (listed.setIfInBounds i true) a' w') a w)
    (fuel : Nat) (listed : Array Bool) (w : World) (hc : listed.toList.count false ≤ fuel) (h : ∀ aS : Act, J aS listed aS w) : wpAnyH P md ops Q S fuel listed a0 w :=
  wpAnyH_inv (J a0) hI fuel listed a0 w hc (h a0)
end Go.Proofs.YtgkpmcmgkdmeeaaDoor
