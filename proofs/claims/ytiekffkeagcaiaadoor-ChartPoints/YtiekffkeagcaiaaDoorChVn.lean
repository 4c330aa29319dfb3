/- The contract of the document's Sets, over this seat's translation. Conditions: a text's size. -/
import Derived.Test.YtiekffkeagcaiaaDoorChWr
import Derived.BigQuiet
namespace Go.Proofs.YtiekffkeagcaiaaDoor
open Go.RowKit
set_option linter.unusedVariables false

theorem OutS.blocks {w : World} {lo base g q n rc : Nat} {cap : Nat} {L : List (List ByteArray)} {vs : List Value} (o : OutS w lo base (.slice (some ⟨g, 0, none⟩) n cap) L vs) (hn : n = L.length) (i : Nat) (h : i < L.length) {v : Nat} (hc : w.cell? ⟨g, i, none⟩ = some (.slice (some ⟨q, 0, none⟩) v rc)) :
    (∃ cs, w.heap[g]? = some (.cells cs 41 (0, 0))) ∧ ∃ cs, w.heap[q]? = some (.cells cs 9 (0, 0)) := by
  subst hn
  obtain ⟨g', h1, _, _, h2⟩ := owns_cell o.own (by omega)
  cases h1
  obtain ⟨r, h3, q', rc', cs, rfl, _, h5, h6⟩ := o.row i h
  have := (h2 i _ h3).symm.trans hc
  cases this
  exact ⟨rowB o.own rfl, cs, h5⟩
end Go.Proofs.YtiekffkeagcaiaaDoor
