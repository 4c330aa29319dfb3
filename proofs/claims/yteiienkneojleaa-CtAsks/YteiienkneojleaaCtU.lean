/- What the laws on words have in common: 'is' where the answer is right; words that lie in cells. Over this seat's translation. No conditions. -/
import Derived.Test.YteiienkneojleaaCtM
import Derived.Deep.RegionHeld3
namespace Go.Proofs.Yteiienkneojleaa
open Go.RowKit

theorem is_true (a v : Int) (h : a = v) (w : World) :
    Calls Try.prog 11 #[sec a, u32 v] w fun e w' => e = .returned (.bool true) ∧ Below w.heap.size w w' :=
  (is_any a v w).mono fun _ _ ⟨he, hw⟩ => ⟨by rw [he, h]; simp, hw⟩
theorem is_same (a : Int) (w : World) :
    Calls Try.prog 11 #[sec a, u32 a] w fun e w' => e = .returned (.bool true) ∧ Below w.heap.size w w' := is_true a a rfl w

theorem third {p q r : Prop} (h : p ∧ q ∧ r) : r := h.2.2
theorem cell_drew (w : World) (a : Addr) : w.drew.cell? a = w.cell? a := rfl
/-- two words that lie in cells, and all below B as it was -/
theorem held2 {B : Nat} {x y : Addr} {a b : Value} {w0 w w' : World} (hb : Below w.heap.size w w') (h : w.cell? x = some a ∧ w.cell? y = some b ∧ Below B w0 w) (hB : B ≤ w0.heap.size) : w'.cell? x = some a ∧ w'.cell? y = some b ∧ Below B w0 w' :=
  ⟨cell_later hb h.1, cell_later hb h.2.1, h.2.2.trans (hb.mono (Nat.le_trans hB h.2.2.size))⟩
end Go.Proofs.Yteiienkneojleaa
