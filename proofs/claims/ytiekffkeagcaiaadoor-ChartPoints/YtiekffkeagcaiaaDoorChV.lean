/- The contract of the document's Classes, over this seat's translation. Conditions: a text's size. -/
import Derived.Test.YtiekffkeagcaiaaDoorChVp
import Derived.BigQuiet
namespace Go.Proofs.YtiekffkeagcaiaaDoor
open Go.RowKit
set_option linter.unusedVariables false

end Go.Proofs.YtiekffkeagcaiaaDoor
