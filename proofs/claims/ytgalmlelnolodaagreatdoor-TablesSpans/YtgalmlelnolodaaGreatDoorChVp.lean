/- Sizes of lines and words, for the document's readings. -/
import Derived.Test.YtgalmlelnolodaaGreatDoorChU
import Derived.Test.YtgalmlelnolodaaGreatDoorChLw
import Derived.Test.YtgalmlelnolodaaGreatDoorChLr
import Derived.Test.YtgalmlelnolodaaGreatDoorChLn
namespace Go.Proofs.YtgalmlelnolodaaGreatDoor
open Go.RowKit
set_option linter.unusedVariables false
theorem lwV_cap (s : ByteArray) : (lwV s).length ≤ s.size + 1 := by rw [lwV_len]; exact lnV_len s
theorem lwV_words (s : ByteArray) (i j : Nat) : (wd ((lwV s).getD i []) j).size ≤ s.size := by
  by_cases h : i < (lnV s).length
  · rw [lwV_wd h]
    exact Nat.le_trans (wd_size (fun y hy => splS_size hy) j) (wd_size (fun y hy => lnV_size hy) i)
  · have : (lwV s).getD i [] = [] := by
      rw [List.getD_eq_getElem?_getD, List.getElem?_eq_none (by rw [lwV_len]; omega)]
      rfl
    rw [this]
    exact Nat.zero_le _
theorem dcV_ge (l : List Nat) : ∀ k, 1 ≤ k → l.getD 0 0 - 48 ≤ dcV l k
  | 0, h => by omega
  | 1, _ => by show _ ≤ dcV l 0 * 10 + (l.getD 0 0 - 48); omega
  | k + 2, _ => by
    have := dcV_ge l (k + 1) (by omega)
    show _ ≤ dcV l (k + 1) * 10 + (l.getD (k + 1) 0 - 48)
    omega
theorem clV_pos {l : List Nat} {n : Nat} (h : clV l = some n) : 1 ≤ n := by
  unfold clV at h
  split at h
  · rename_i hc
    obtain ⟨⟨h1, h2⟩, h3, h4, _⟩ := hc
    cases h
    have h5 := dcV_ge l l.length h1
    cases l with
    | nil => simp at h1
    | cons x t =>
      unfold alV at h3
      rw [List.all_cons, Bool.and_eq_true, decide_eq_true_eq] at h3
      have h6 : (x :: t).getD 0 0 = x := rfl
      rw [h6] at h4 h5
      omega
  · cases h
end Go.Proofs.YtgalmlelnolodaaGreatDoor
