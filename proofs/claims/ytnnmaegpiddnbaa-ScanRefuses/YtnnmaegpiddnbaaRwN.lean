/- slices.SortFunc of no rows, over this seat's translation. -/
import Derived.Test.YtnnmaegpiddnbaaBc
import Derived.Shelf.SlSortCmp.NoneTotal
namespace Go.Proofs.Ytnnmaegpiddnbaa
open Go.RowKit
theorem sortNone_any (ad : Option Addr) (cap : Nat) (fv : Value) (w : World) : Calls Try.prog 57 #[.slice ad 0 cap, fv] w fun e w' => e = .returned (.tuple #[]) ∧ w' = w := by
  have := AnyF.slices_SortFunc_none laySort ad cap fv w
  exact this
end Go.Proofs.Ytnnmaegpiddnbaa
