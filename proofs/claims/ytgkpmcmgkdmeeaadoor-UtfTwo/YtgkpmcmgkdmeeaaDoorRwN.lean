/- slices.SortFunc of no rows, over this seat's translation. -/
import Derived.Test.YtgkpmcmgkdmeeaaDoorBc
import Derived.Shelf.SlSortCmp.NoneTotal
namespace Go.Proofs.YtgkpmcmgkdmeeaaDoor
open Go.RowKit
theorem sortNone_any (ad : Option Addr) (cap : Nat) (fv : Value) (w : World) : Calls Tryd.prog 42 #[.slice ad 0 cap, fv] w fun e w' => e = .returned (.tuple #[]) ∧ w' = w := by
  have := AnyF.slices_SortFunc_none laySort ad cap fv w
  exact this
end Go.Proofs.YtgkpmcmgkdmeeaaDoor
