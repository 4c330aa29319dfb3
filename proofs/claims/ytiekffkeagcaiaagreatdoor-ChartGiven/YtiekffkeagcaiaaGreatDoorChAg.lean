/- The law ChartGiven's walk, as its row takes it. No conditions but what the library's variables hold. -/
import Derived.Test.YtiekffkeagcaiaaGreatDoorChGb
import Derived.Test.YtiekffkeagcaiaaGreatDoorChAf
namespace Go.Proofs.YtiekffkeagcaiaaGreatDoor
open Go.RowKit
theorem given_law (n : Nat) (w : World) (hn : n < 65536) (v : Vr w) (t : Tz w) :
    Calls Tryz.prog 6 #[.int .u16 (n : Int)] w fun e w' => e = .returned (.bool true) ∧ Below w.heap.size w w' := given_walk n w hn v (awake_any w v t)
end Go.Proofs.YtiekffkeagcaiaaGreatDoor
