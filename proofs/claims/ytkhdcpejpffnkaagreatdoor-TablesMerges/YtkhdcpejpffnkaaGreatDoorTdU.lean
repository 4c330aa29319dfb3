/- The given chart of what points become, as plain mathematics: its points rise, what each becomes ends, and is at most three points. Nothing of the program is named here. -/
import Derived.Test.YtkhdcpejpffnkaaGreatDoorTbV
namespace Go.Proofs.YtkhdcpejpffnkaaGreatDoor
set_option linter.unusedVariables false

theorem risesB_said : ∀ {l : List Nat}, risesB l = true → l.Pairwise (· < ·) := by
  intro l
  induction l with
  | nil => intro _; exact List.Pairwise.nil
  | cons a r ih =>
    intro h
    cases r with
    | nil => exact List.pairwise_singleton _ _
    | cons b t =>
      simp only [risesB, Bool.and_eq_true] at h
      have hab : a < b := by have := h.1; unfold Nat.blt at this; exact Nat.le_of_ble_eq_true this
      have hp := ih h.2
      refine List.Pairwise.cons (fun x hx => ?_) hp
      rcases List.mem_cons.1 hx with rfl | hx
      · exact hab
      · exact Nat.lt_trans hab (List.rel_of_pairwise_cons hp hx)
/-- what each becomes ends within so many lines, and is at most three points -/
def few3 (F : Nat) (l : List Ln) : Bool := l.all fun d => match bcm F l d.1 with
  | some r => Nat.ble r.length 3
  | none => false
theorem few3_said {F : Nat} {l : List Ln} (h : few3 F l = true) : ∀ d ∈ l, ∃ r, bcm F l d.1 = some r ∧ r.length ≤ 3 := fun d hd => by
  have h1 := List.all_eq_true.1 h d hd
  cases hb : bcm F l d.1 with
  | none => rw [hb] at h1; cases h1
  | some r => rw [hb] at h1; exact ⟨r, rfl, Nat.le_of_ble_eq_true h1⟩
theorem chL_rises : (chL.map (·.1)).Pairwise (· < ·) := risesB_said (by decide +kernel)
theorem chL_few : few3 3 (cnt false chL) = true := by decide +kernel
theorem chL_len : chL.length = 506 ∧ (cnt false chL).length = 306 := by decide +kernel
theorem chL_01D5 : bcm 3 (cnt false chL) 469 = some [85, 776, 772] := by decide +kernel
theorem chL_has : ((cnt false chL).map (·.1)).contains 469 = true := by decide +kernel
theorem chL_to : (chL.all fun d => Nat.ble d.2.1.length 3) = true := by decide +kernel
end Go.Proofs.YtkhdcpejpffnkaaGreatDoor
