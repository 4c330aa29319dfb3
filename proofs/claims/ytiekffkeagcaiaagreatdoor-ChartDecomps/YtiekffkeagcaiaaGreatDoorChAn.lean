/- The law ChartDecomps' walk, as its row takes it. No conditions but what the library's variables hold. -/
import Derived.Test.YtiekffkeagcaiaaGreatDoorChMg
import Derived.Test.YtiekffkeagcaiaaGreatDoorChAf
namespace Go.Proofs.YtiekffkeagcaiaaGreatDoor
open Go.RowKit
theorem decomps_law (s : ByteArray) (w : World) (hs : s.size ≤ 9223372036854775807) (v : Vr w) (t : Tz w) :
    Calls Tryz.prog 5 #[.string s] w fun e w' => e = .returned (.bool true) ∧ Below w.heap.size w w' := decomps_walk s w hs v (awake_any w v t)
end Go.Proofs.YtiekffkeagcaiaaGreatDoor
