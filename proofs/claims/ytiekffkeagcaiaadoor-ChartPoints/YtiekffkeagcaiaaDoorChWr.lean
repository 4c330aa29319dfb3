/- Chart's Ranges and Sets, over this seat's translation. Conditions: a text's size; what the library's variables hold is some number, some errors. -/
import Derived.Test.YtiekffkeagcaiaaDoorChW
namespace Go.Proofs.YtiekffkeagcaiaaDoor
open Go.RowKit
set_option linter.unusedVariables false

end Go.Proofs.YtiekffkeagcaiaaDoor
