/- The contracts of package chart's calls on single bytes and words that go by no call of the library, and of the document's, over this seat's translation. Conditions: none but a word's size. -/
import Derived.Test.YtgalmlelnolodaaGreatDoorProg
import Derived.Test.YtgalmlelnolodaaGreatDoorChQ
import Derived.Test.YtgalmlelnolodaaGreatDoorFs
import Derived.WalkSpells
import Derived.WalkLawsBesides
namespace Go.Proofs.YtgalmlelnolodaaGreatDoor
open Go.RowKit

theorem retB {x y : Bool} (h : x = y) : Ending.returned (.bool x) = Ending.returned (.bool y) := by rw [h]

set_option maxHeartbeats 400000 in
theorem digitOf_any (b : Nat) (w : World) (hb : b < 256) : Calls Tryz.prog 110 #[.int .u8 (b : Int)] w fun e w' => e = .returned (.tuple #[.int .u32 (((dgV b).getD 0 : Nat) : Int), .bool (dgV b).isSome]) ∧ w' = w := by
  by_cases h1 : 48 ≤ b ∧ b ≤ 57
  · have e : dgV b = some (b - 48) := by unfold dgV; rw [if_pos h1]
    rw [e]
    obtain ⟨h1, h2⟩ := h1
    go_enter Tryz.func110, Tryz.ntmps110
    go_wp2
    exact bodyPost_ret (v := .tuple #[.int .u32 ((b - 48 : Nat) : Int), .bool true]) (by simp [results, Tryz.results110, go_sem]; omega) rfl ⟨rfl, rfl⟩
  · by_cases h2 : 65 ≤ b ∧ b ≤ 70
    · have e : dgV b = some (b - 55) := by unfold dgV; rw [if_neg h1, if_pos h2]
      rw [e]
      obtain ⟨h2, h3⟩ := h2
      have h4 : ¬ b ≤ 57 := by omega
      clear h1
      go_enter Tryz.func110, Tryz.ntmps110
      go_wp2
      exact bodyPost_ret (v := .tuple #[.int .u32 ((b - 55 : Nat) : Int), .bool true]) (by simp [results, Tryz.results110, go_sem]; omega) rfl ⟨rfl, rfl⟩
    · have e : dgV b = none := by unfold dgV; rw [if_neg h1, if_neg h2]
      rw [e]
      by_cases g1 : 48 ≤ b <;> by_cases g2 : b ≤ 57 <;> by_cases g3 : 65 ≤ b <;> by_cases g4 : b ≤ 70 <;> first | (exfalso; omega) | skip
      all_goals
        clear h1 h2
        go_enter Tryz.func110, Tryz.ntmps110
        go_wp2
        exact bodyPost_ret (v := .tuple #[.int .u32 0, .bool false]) (by simp [results, Tryz.results110, go_sem]) rfl ⟨rfl, rfl⟩
def isU (b : Nat) : Bool := decide (65 ≤ b ∧ b ≤ 90)
def isL (b : Nat) : Bool := decide (97 ≤ b ∧ b ≤ 122)
set_option maxHeartbeats 400000 in
theorem capital_any (b : Nat) (w : World) (hb : b < 256) : Calls Tryz.prog 106 #[.int .u8 (b : Int)] w fun e w' => e = .returned (.bool (isU b)) ∧ w' = w := by
  by_cases g1 : 65 ≤ b
  · by_cases g2 : b ≤ 90
    · rw [show isU b = true from decide_eq_true (by omega)]
      go_enter Tryz.func106, Tryz.ntmps106
      go_wp2
      go_ret
      exact ⟨retB (decide_eq_true (by omega)), rfl⟩
    · rw [show isU b = false from decide_eq_false (by omega)]
      go_enter Tryz.func106, Tryz.ntmps106
      go_wp2
      go_ret
      exact ⟨retB (decide_eq_false (by omega)), rfl⟩
  · rw [show isU b = false from decide_eq_false (by omega)]
    go_enter Tryz.func106, Tryz.ntmps106
    go_wp2
    go_ret
    exact ⟨rfl, rfl⟩
set_option maxHeartbeats 400000 in
theorem small_any (b : Nat) (w : World) (hb : b < 256) : Calls Tryz.prog 107 #[.int .u8 (b : Int)] w fun e w' => e = .returned (.bool (isL b)) ∧ w' = w := by
  by_cases g1 : 97 ≤ b
  · by_cases g2 : b ≤ 122
    · rw [show isL b = true from decide_eq_true (by omega)]
      go_enter Tryz.func107, Tryz.ntmps107
      go_wp2
      go_ret
      exact ⟨retB (decide_eq_true (by omega)), rfl⟩
    · rw [show isL b = false from decide_eq_false (by omega)]
      go_enter Tryz.func107, Tryz.ntmps107
      go_wp2
      go_ret
      exact ⟨retB (decide_eq_false (by omega)), rfl⟩
  · rw [show isL b = false from decide_eq_false (by omega)]
    go_enter Tryz.func107, Tryz.ntmps107
    go_wp2
    go_ret
    exact ⟨rfl, rfl⟩
set_option maxHeartbeats 400000 in
theorem rdigit_any (b : Nat) (w : World) (hb : b < 256) : Calls Tryz.prog 85 #[.int .u8 (b : Int)] w fun e w' => e = .returned (.int .i64 (match dgV b with | some d => (d : Int) | none => -1)) ∧ w' = w := by
  by_cases h1 : 48 ≤ b ∧ b ≤ 57
  · have e : dgV b = some (b - 48) := by unfold dgV; rw [if_pos h1]
    rw [e]
    obtain ⟨h1, h2⟩ := h1
    go_enter Tryz.func85, Tryz.ntmps85
    go_wp2
    go_ret
    exact ⟨retI (by show _ = ((b - 48 : Nat) : Int); go_num), rfl⟩
  · by_cases h2 : 65 ≤ b ∧ b ≤ 70
    · have e : dgV b = some (b - 55) := by unfold dgV; rw [if_neg h1, if_pos h2]
      rw [e]
      obtain ⟨h2, h3⟩ := h2
      have h4 : ¬ b ≤ 57 := by omega
      clear h1
      go_enter Tryz.func85, Tryz.ntmps85
      go_wp2
      go_ret
      exact ⟨retI (by show _ = ((b - 55 : Nat) : Int); go_num), rfl⟩
    · have e : dgV b = none := by unfold dgV; rw [if_neg h1, if_neg h2]
      rw [e]
      by_cases g1 : 48 ≤ b <;> by_cases g2 : b ≤ 57 <;> by_cases g3 : 65 ≤ b <;> by_cases g4 : b ≤ 70 <;> first | (exfalso; omega) | skip
      all_goals
        clear h1 h2
        go_enter Tryz.func85, Tryz.ntmps85
        go_wp2
        go_ret
        exact ⟨rfl, rfl⟩
end Go.Proofs.YtgalmlelnolodaaGreatDoor
