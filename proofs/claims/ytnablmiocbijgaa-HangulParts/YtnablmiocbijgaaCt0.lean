/- The contract of ct.Of, over this seat's translation, and the shapes of secret words. No conditions. -/
import Derived.Test.YtnablmiocbijgaaProg
import Derived.Test.YtnablmiocbijgaaCtP
import Derived.WalkSpells
import Derived.WalkLawsBesides
namespace Go.Proofs.Ytnablmiocbijgaa
open Go.RowKit

abbrev u32 (v : Int) : Value := .int .u32 v
abbrev sec (v : Int) : Value := .agg #[.int .u32 v]
abbrev sb (v : Int) : Obj := .cells #[.int .u32 v] 28
theorem blw_alloc {a w : World} {o : Obj} (h : Below a.heap.size a w) : Below a.heap.size a (w.alloc o) := h.alloc h.size o
theorem blw_drew {a w : World} (h : Below a.heap.size a w) : Below a.heap.size a w.drew := h.drew

set_option maxHeartbeats 400000 in
theorem of_any (v : Int) (w : World) :
    Calls Try.prog 7 #[u32 v] w fun e w' => e = .returned (sec v) ∧ w' = w.alloc (sb v) := by
  go_enter Try.func7, Try.ntmps7
  go_wp2
  exact bodyPost_ret (v := sec v) (by simp [results, Try.results7, go_sem]) rfl ⟨rfl, rfl⟩

end Go.Proofs.Ytnablmiocbijgaa
