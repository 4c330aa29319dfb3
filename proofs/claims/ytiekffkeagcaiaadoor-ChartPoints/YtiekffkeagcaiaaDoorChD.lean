/- The contracts of package chart's isCategory, isName, isEdition, isSign, and of the document's all and number, over this seat's translation. Conditions: none but a word's size. -/
import Derived.Test.YtiekffkeagcaiaaDoorChC
namespace Go.Proofs.YtiekffkeagcaiaaDoor
open Go.RowKit
set_option linter.unusedVariables false

theorem ctV_bytes {s : ByteArray} (h2 : s.size = 2) (g0 : 0 < s.size) (g1 : 1 < s.size) (a b : Nat) (ha : s[0].toNat = a) (hb : s[1].toNat = b) : ctV (bs s) = (isU a && isL b) := by
  have e0 : (bs s).getD 0 0 = a := (bs_at (by omega)).trans ha
  have e1 : (bs s).getD 1 0 = b := (bs_at (by omega)).trans hb
  unfold ctV isU isL
  rw [bs_len, e0, e1, ← Bool.decide_and]
  exact decide_eq_decide.2 (by omega)
theorem ctV_no {s : ByteArray} (h2 : s.size ≠ 2) : ctV (bs s) = false := by
  unfold ctV; rw [bs_len]; exact decide_eq_false (by omega)
/-- so far all bytes are between lo and hi -/
def alK (lo hi : Nat) (l : List Nat) (k : Nat) : Bool := (l.take k).all fun b => decide (lo ≤ b ∧ b ≤ hi)
theorem alK_step {lo hi : Nat} {l : List Nat} {k : Nat} (hk : k < l.length) (h : alK lo hi l k = true) (hx : lo ≤ l.getD k 0 ∧ l.getD k 0 ≤ hi) : alK lo hi l (k + 1) = true := by
  unfold alK at *
  rw [List.take_add_one, List.all_append, h, List.getElem?_eq_getElem hk]
  rw [List.getD_eq_getElem?_getD, List.getElem?_eq_getElem hk] at hx
  simpa using hx
theorem alV_no {lo hi : Nat} {l : List Nat} {k : Nat} (hk : k < l.length) (hx : ¬ (lo ≤ l.getD k 0 ∧ l.getD k 0 ≤ hi)) : alV lo hi l = false := by
  unfold alV
  rw [List.getD_eq_getElem?_getD, List.getElem?_eq_getElem hk] at hx
  rw [List.all_eq_false]
  exact ⟨l[k], List.getElem_mem hk, by simpa using hx⟩
theorem alK_all {lo hi : Nat} {l : List Nat} (h : alK lo hi l l.length = true) : alV lo hi l = true := by unfold alK at h; rw [List.take_length] at h; exact h
set_option maxHeartbeats 1600000 in
theorem isSign_any (s : ByteArray) (w : World) :
    Calls Tryd.prog 28 #[.string s] w fun e w' => e = .returned (.bool (sgV s)) ∧ w' = w := by
  by_cases h1 : s.toList = [61]
  · rw [show sgV s = true by unfold sgV; rw [h1]; rfl]
    go_enter Tryd.func28, Tryd.ntmps28
    go_wp2
    go_ret
    exact ⟨rfl, rfl⟩
  · by_cases h2 : s.toList = [33]
    · rw [show sgV s = true by unfold sgV; rw [h2]; rfl]
      go_enter Tryd.func28, Tryd.ntmps28
      go_wp2
      go_ret
      exact ⟨rfl, rfl⟩
    · unfold sgV
      go_enter Tryd.func28, Tryd.ntmps28
      go_wp2
      go_ret
      exact ⟨rfl, rfl⟩
end Go.Proofs.YtiekffkeagcaiaaDoor
