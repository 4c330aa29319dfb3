/- The contract of package pack's move, over this seat's translation. Conditions: rows within the arena that lie apart; n of at most 49152; a bit's number below 20; the log has at most some hundred million events. -/
import Derived.Test.YtnnmaegpiddnbaaPkD
import Derived.Test.YtnnmaegpiddnbaaIv
import Derived.Deep.CutRange
namespace Go.Proofs.Ytnnmaegpiddnbaa
open Go.RowKit

theorem sb_put {w : World} {g : Nat} {v : Int} (x : Int) (h : w.heap[g]? = some (sb v)) : (w.setCell ⟨g, 0, none⟩ (.int .u32 x)).heap[g]? = some (sb x) := by
  rw [heap_setCell_at _ _ 0 _ _ _ _ h]; rfl
theorem below1p (w : World) (o : Obj) : Below w.heap.size w (w.alloc o) := (Below.refl _ w).alloc (Nat.le_refl _) o
theorem belowCat {a b c : World} (h : Below a.heap.size a b) (k : Below b.heap.size b c) : Below a.heap.size a c := h.trans (k.mono h.size)
theorem evRd_le (n s L i : Nat) : (evRd n s L i).length ≤ 2 := by unfold evRd; split <;> simp
def L0 (ls : List Nat) (j : Nat) : Nat := ls.getD j 0
theorem evMv_le (n s : Nat) (ls : List Nat) (i : Nat) : (evMv n s ls i).length ≤ 3 * ls.length := by
  rw [evMv_len]; exact Nat.mul_le_mul_right _ (by by_cases h : i + 2 ^ s < n <;> simp [h])
end Go.Proofs.Ytnnmaegpiddnbaa
