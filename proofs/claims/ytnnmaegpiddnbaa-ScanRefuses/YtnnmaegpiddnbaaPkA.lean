/- Contracts of package pack's whole and asks, over this seat's translation. Conditions: the words' bounds; a bit's number below 32. -/
import Derived.Test.YtnnmaegpiddnbaaPkP
import Derived.Test.YtnnmaegpiddnbaaFs
import Derived.Test.YtnnmaegpiddnbaaArD
import Derived.Deep.RegionHeld3
import Derived.Deep.LoopGhost
import Derived.BigQuiet
import Derived.Deep.QuietTactic
namespace Go.Proofs.Ytnnmaegpiddnbaa
open Go.RowKit

abbrev stV (h : Hn) (n s : Nat) : Value := .agg #[arPtr h, .int .i64 (n : Int), .int .i64 (s : Int)]
end Go.Proofs.Ytnnmaegpiddnbaa
