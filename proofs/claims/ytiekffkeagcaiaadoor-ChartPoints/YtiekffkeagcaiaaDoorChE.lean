/- The contract of the document's number, over this seat's translation. Conditions: none but a word's size. -/
import Derived.Test.YtiekffkeagcaiaaDoorChD
namespace Go.Proofs.YtiekffkeagcaiaaDoor
open Go.RowKit
set_option linter.unusedVariables false

theorem alV_at {lo hi : Nat} {l : List Nat} (h : alV lo hi l = true) {k : Nat} (hk : k < l.length) : lo ≤ l.getD k 0 ∧ l.getD k 0 ≤ hi := by
  unfold alV at h
  rw [List.all_eq_true] at h
  rw [List.getD_eq_getElem?_getD, List.getElem?_eq_getElem hk]
  simpa using h l[k] (List.getElem_mem hk)
theorem dcV_lt {l : List Nat} (h : alV 48 57 l = true) : ∀ k, k ≤ l.length → dcV l k < 10 ^ k := by
  intro k
  induction k with
  | zero => intro _; show (0 : Nat) < 10 ^ 0; decide
  | succ k ih =>
    intro hk
    have h1 := ih (by omega)
    have h2 := alV_at h (k := k) (by omega)
    rw [dcV, Nat.pow_succ]
    omega
theorem clV_no {s : ByteArray} (h : ¬ ((1 ≤ s.size ∧ s.size ≤ 3) ∧ alV 48 57 (bs s) = true ∧ (bs s).getD 0 0 ≠ 48)) : clV (bs s) = none := by
  unfold clV
  rw [bs_len, if_neg (fun x => h ⟨x.1, x.2.1, x.2.2.1⟩)]
theorem clV_in {s : ByteArray} (h1 : 1 ≤ s.size ∧ s.size ≤ 3) (h2 : alV 48 57 (bs s) = true) (h3 : (bs s).getD 0 0 ≠ 48) : clV (bs s) = if dcV (bs s) s.size ≤ 254 then some (dcV (bs s) s.size) else none := by
  unfold clV
  rw [bs_len]
  by_cases h : dcV (bs s) s.size ≤ 254
  · rw [if_pos ⟨h1, h2, h3, h⟩, if_pos h]
  · rw [if_neg (fun x => h x.2.2.2), if_neg h]
end Go.Proofs.YtiekffkeagcaiaaDoor
