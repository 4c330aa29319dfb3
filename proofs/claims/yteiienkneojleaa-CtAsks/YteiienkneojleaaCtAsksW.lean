/- The law CtAsks returns true at all words. -/
import Derived.Test.YteiienkneojleaaCtAsksX
import Derived.Test.YteiienkneojleaaCtAsksY
import Derived.Test.YteiienkneojleaaCtAsksZ
namespace Go.Proofs.Yteiienkneojleaa
open Go.RowKit
theorem ctAsks_walk (a b m : Nat) (w : World) (ha : a < 4294967296) (hb : b < 4294967296) (hm : m < 4294967296) :
    Calls Try.prog 6 #[u32 a, u32 b, u32 m] w fun e w' => e = .returned (.bool true) ∧ Below w.heap.size w w' := by
  rcases Nat.lt_trichotomy a b with h | h | h
  · exact ctAsks_lt a b m w ha hb hm h (by omega) (by simp; omega) (by rw [of_beq]; simp; omega)
  · exact ctAsks_eq a b m w ha hb hm (by omega) (by omega) (by simp [h]) (by simp [h])
  · exact ctAsks_gt a b m w ha hb hm h (by omega) (by simp; omega) (by rw [of_beq]; simp; omega)
end Go.Proofs.Yteiienkneojleaa
