/- The contract of package pack's mark, over this seat's translation. Conditions: a row within the arena; n of at most 49152; the log has at most some hundred million events. -/
import Derived.Test.YtnnmaegpiddnbaaPkC
namespace Go.Proofs.Ytnnmaegpiddnbaa
open Go.RowKit

structure Mkd (W V : Nat → Nat) (keep v k : Nat) : Prop where
  lane : ∀ i, i < k → V (keep + i) = mk (decide (i < v))
  rest : ∀ x, x < keep ∨ keep + k ≤ x → V x = W x
end Go.Proofs.Ytnnmaegpiddnbaa
