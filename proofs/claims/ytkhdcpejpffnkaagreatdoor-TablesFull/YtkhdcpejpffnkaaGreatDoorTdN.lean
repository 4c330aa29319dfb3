/- The given chart once more, as plain mathematics: by likeness or not. Nothing of the program is named here. -/
import Derived.Test.YtkhdcpejpffnkaaGreatDoorTdH
namespace Go.Proofs.YtkhdcpejpffnkaaGreatDoor
set_option linter.unusedVariables false

theorem chL_fewT : few3 3 (cnt true chL) = true := by decide +kernel
theorem chL_fewB (cp : Bool) : few3 3 (cnt cp chL) = true := by cases cp; exact chL_few; exact chL_fewT
theorem chL_ne : (chL.all fun d => Nat.ble 1 d.2.1.length) = true := by decide +kernel
theorem chL_lenB (cp : Bool) : 0 < (cnt cp chL).length ∧ (cnt cp chL).length ≤ 506 := by
  cases cp
  · rw [chL_len.2]; omega
  · have : (cnt true chL).length = 506 := by decide +kernel
    rw [this]; omega
theorem cnt_rises (cp : Bool) : ((cnt cp chL).map (·.1)).Pairwise (· < ·) := by
  have h1 := chL_rises
  rw [List.pairwise_map] at h1
  unfold cnt
  rw [List.map_map, List.pairwise_map]
  exact h1.filter _
end Go.Proofs.YtkhdcpejpffnkaaGreatDoor
