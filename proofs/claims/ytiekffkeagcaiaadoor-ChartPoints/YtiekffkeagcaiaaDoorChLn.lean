/- The contract of package chart's read at sets, over this seat's translation. Conditions: a text's size; what the library's variables hold is some number, some errors. -/
import Derived.Test.YtiekffkeagcaiaaDoorChL
namespace Go.Proofs.YtiekffkeagcaiaaDoor
open Go.RowKit
set_option linter.unusedVariables false

theorem nmC_size {ws : List ByteArray} {i : It} (h : nmOf ws = some i) : (nmC i).size = 3 := by
  obtain ⟨_, _, s2, hr⟩ := nmOf_r h
  unfold nmC; rw [hr]; rfl
end Go.Proofs.YtiekffkeagcaiaaDoor
