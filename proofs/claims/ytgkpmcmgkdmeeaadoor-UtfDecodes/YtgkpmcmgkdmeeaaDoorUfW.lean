/- The law UtfDecodes' walk, as its row takes it. Conditions: what the variable leads holds. -/
import Derived.Test.YtgkpmcmgkdmeeaaDoorUfM
import Derived.Test.YtgkpmcmgkdmeeaaDoorUfV
namespace Go.Proofs.YtgkpmcmgkdmeeaaDoor
open Go.RowKit
set_option linter.unusedVariables false
theorem decodes_law (ad : Option Addr) (len cap : Nat) (zs : List Int) (n ab : Nat) (w : World) (hr : IsRow .u8 w ad len cap zs) (h1 : n < 4294967296) (h2 : ab < 4294967296) (t : Lv w) :
    Calls Tryd.prog 3 #[.slice ad len cap, .int .u32 (n : Int), .int .u32 (ab : Int)] w fun e w' => e = .returned (.bool true) ∧ Below w.heap.size w w' := by
  obtain ⟨l, rfl, hl, hu, hc⟩ := u8s_row hr
  exact decodes_core ad cap l n ab w hu hl hc h1 h2 t
end Go.Proofs.YtgkpmcmgkdmeeaaDoor
