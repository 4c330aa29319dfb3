/- The contract of package chart's read at runs, over this seat's translation. Conditions: a text's size; what the library's variables hold is some number, some errors. -/
import Derived.Test.YtiekffkeagcaiaaDoorChL
namespace Go.Proofs.YtiekffkeagcaiaaDoor
open Go.RowKit
set_option linter.unusedVariables false

theorem ruC_size {ws : List ByteArray} {i : It} (h : ruOf ws = some i) : (rgC i).size = 3 := by
  obtain ⟨_, _, n, _, hr⟩ := ruOf_r h
  unfold rgC; rw [hr]; rfl
end Go.Proofs.YtiekffkeagcaiaaDoor
