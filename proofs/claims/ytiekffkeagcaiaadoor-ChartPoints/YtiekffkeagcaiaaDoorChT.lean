/- The contract of the document's Split, over this seat's translation. Conditions: a text's size. -/
import Derived.Test.YtiekffkeagcaiaaDoorChS
namespace Go.Proofs.YtiekffkeagcaiaaDoor
open Go.RowKit
set_option linter.unusedVariables false

end Go.Proofs.YtiekffkeagcaiaaDoor
