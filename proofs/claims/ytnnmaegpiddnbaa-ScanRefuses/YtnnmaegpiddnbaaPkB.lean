/- Contracts of package pack's read and write, over this seat's translation. Conditions: places within the arena; a bit's number below 20; the log has at most some hundred million events. -/
import Derived.Test.YtnnmaegpiddnbaaPkA
import Derived.Deep.CutRange
namespace Go.Proofs.Ytnnmaegpiddnbaa
open Go.RowKit

theorem cell_blk {w : World} {a : Addr} {v : Value} (h : w.cell? a = some v) : a.block < w.heap.size := by
  rcases Nat.lt_or_ge a.block w.heap.size with hlt | hge
  · exact hlt
  · simp [World.cell?, Array.getElem?_eq_none hge] at h
theorem heap_drew (w : World) : w.drew.heap = w.heap := rfl
theorem heap_alloc_get (w : World) (o : Obj) (i : Nat) : (w.alloc o).heap[i]? = if i = w.heap.size then some o else w.heap[i]? := by
  by_cases h : i = w.heap.size
  · rw [if_pos h, h]; exact heap_alloc_at w o
  · rw [if_neg h]
    rcases Nat.lt_or_ge i w.heap.size with h1 | h1
    · exact heap_alloc_old _ _ _ h1
    · have : w.heap[i]? = none := Array.getElem?_eq_none h1
      rw [this]
      exact Array.getElem?_eq_none (by rw [World.size_alloc]; omega)
theorem ld_at {A : Ars} {L i : Nat} (h : L + i < A.top) : A.loadV ((L : Int) + (i : Int)) = A.word (L + i) ∧ A.load ((L : Int) + (i : Int)) = A.loadN (L + i) := by
  have hf : A.fits ((L : Int) + (i : Int)) 1 = true := by rw [Ars.fits_iff]; omega
  have e : ((L : Int) + (i : Int)).toNat = L + i := by omega
  unfold Ars.loadV Ars.load
  rw [if_pos hf, if_pos hf, e]; exact ⟨rfl, rfl⟩
theorem w64_nat (z : Int) (h0 : 0 ≤ z) (h1 : z ≤ 10000000) : wrap64 z = z := by unfold wrap64; omega
theorem pow_small (s : Nat) (hs : s < 20) : ∃ p : Nat, 2 ^ s = p ∧ p ≤ 524288 ∧ 1 ≤ p ∧ wrap64 ((2 : Int) ^ s) = (p : Int) := by
  have h1 : 2 ^ s ≤ 2 ^ 19 := Nat.pow_le_pow_right (n := 2) (by decide) (show s ≤ 19 from Nat.le_of_lt_succ hs)
  rw [show 2 ^ 19 = 524288 from rfl] at h1
  refine ⟨2 ^ s, rfl, h1, Nat.two_pow_pos s, ?_⟩
  have h2 : ((2 : Int) ^ s) = ((2 ^ s : Nat) : Int) := by simp
  rw [h2]
  generalize 2 ^ s = q at *
  exact w64_nat _ (by omega) (by omega)
theorem duo3_put {w : World} {g : Nat} {a b c x0 x1 x2 : Value} {t : TypeId} (hb : w.heap[g]? = some (.cells #[a, b, c] t (0, 0))) :
    (((w.setCell ⟨g, 0, none⟩ x0).setCell ⟨g, 1, none⟩ x1).setCell ⟨g, 2, none⟩ x2).heap[g]? = some (.cells #[x0, x1, x2] t (0, 0)) := by
  have h0 := heap_setCell_at w g 0 _ _ _ x0 hb
  have h1 := heap_setCell_at _ g 1 _ _ _ x1 h0
  have h2 := heap_setCell_at _ g 2 _ _ _ x2 h1
  rw [h2]; rfl
theorem st_at {A : Ars} {L i v : Nat} (h : L + i < A.top) : A.store ((L : Int) + (i : Int)) v = A.storeN (L + i) v := by
  have hf : A.fits ((L : Int) + (i : Int)) 1 = true := by rw [Ars.fits_iff]; omega
  have e : ((L : Int) + (i : Int)).toNat = L + i := by omega
  unfold Ars.store
  rw [if_pos hf, e]
/-- an arena behind a read -/
def rdP (A : Ars) (n s L i : Nat) : Ars := if i + 2 ^ s < n then (A.loadN (L + i)).loadN (L + (i + 2 ^ s)) else A.loadN (L + i)
theorem grew_rdP (A : Ars) (n s L i : Nat) : Grew A (rdP A n s L i) A.word (evRd n s L i) := by
  unfold rdP evRd
  by_cases h : i + 2 ^ s < n
  · rw [if_pos h, if_pos h]; exact ⟨rfl, rfl, rfl, by simp [Ars.loadN, Ars.note, evLd]⟩
  · rw [if_neg h, if_neg h]; exact ⟨rfl, rfl, rfl, by simp [Ars.loadN, Ars.note, evLd]⟩
abbrev dpV (p : Int) (x y : Nat) : Value := .agg #[.int .i64 p, .int .u32 (x : Int), .int .u32 (y : Int)]
end Go.Proofs.Ytnnmaegpiddnbaa
