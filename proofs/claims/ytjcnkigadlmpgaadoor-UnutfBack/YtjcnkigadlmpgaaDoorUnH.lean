/- The document's Bytes, with what they are, over this seat's translation. Conditions: points of up to 21 bits. -/
import Derived.Test.YtjcnkigadlmpgaaDoorUnF
import Derived.Test.YtjcnkigadlmpgaaDoorUfB
namespace Go.Proofs.YtjcnkigadlmpgaaDoor
open Go.RowKit
set_option linter.unusedVariables false

/-- bytes as cells -/
def ucs (l : List Nat) : List Value := l.map fun (b : Nat) => Value.int .u8 (b : Int)
theorem ucs_one (l : List Nat) : ∀ u ∈ ucs l, u.oneCell' = true := fun u hu => by
  obtain ⟨z, _, rfl⟩ := List.mem_map.1 hu; rfl
theorem ucs_append (a b : List Nat) : ucs (a ++ b) = ucs a ++ ucs b := by simp [ucs]
theorem ucs_news {w : World} {g : Nat} {l : List Nat} (h : w.heap[g]? = some (.cells (ucs l).toArray 5 (0, 0))) : ∀ j u, (ucs l)[j]? = some u → w.cell? ((⟨g, 0, none⟩ : Addr).add j) = some u := fun j u hj => by
  rw [add_plain]
  exact cell_of_heap h (by simpa using hj)
theorem alloc_ucs {w : World} {l : List Nat} {cs : Array Value} (h : cs = (ucs l).toArray) : (w.alloc (.cells cs 5)).heap[w.heap.size]? = some (.cells (ucs l).toArray 5 (0, 0)) := by
  rw [heap_alloc_at, h]
set_option maxHeartbeats 3200000 in
set_option maxRecDepth 20000 in
theorem ubytes_any (p : Nat) (w : World) (hp : p < 2097152) : Calls Tryd.prog 37 #[.int .u32 (p : Int)] w fun e w' => (∃ g, e = .returned (.slice (some ⟨g, 0, none⟩) (bysB p).length (bysB p).length) ∧ w'.heap[g]? = some (.cells (ucs (bysB p)).toArray 5 (0, 0))) ∧ Below w.heap.size w w' := by
  have hcl : p < 128 ∨ (128 ≤ p ∧ p < 2048) ∨ (2048 ≤ p ∧ p < 65536) ∨ 65536 ≤ p := by omega
  unfold bysB
  rcases hcl with hcl | hcl | hcl | hcl
  · rw [if_pos hcl]
    have HP := hid hcl
    have g0 : ((p : Int) < 128) = True := eq_true (by omega)
    clear hcl hp
    go_enter Tryd.func37, Tryd.ntmps37
    go_wp2
    go_ret
    exact ⟨⟨_, rfl, alloc_ucs (by have := HP.out; simp [ucs]; try omega)⟩, (by repeat (first | exact Below.refl _ _ | refine blw_alloc ?_ | refine blw_drew ?_ | assumption))⟩
  · rw [if_neg (by omega), if_pos hcl.2]
    have HP := hid hcl
    have g0 : ((p : Int) < 128) = False := eq_false (by omega)
    have g1 : ((p : Int) < 2048) = True := eq_true (by omega)
    clear hcl hp
    go_enter Tryd.func37, Tryd.ntmps37
    go_wp2
    go_ret
    exact ⟨⟨_, rfl, alloc_ucs (by have := HP.out; simp [ucs]; try omega)⟩, (by repeat (first | exact Below.refl _ _ | refine blw_alloc ?_ | refine blw_drew ?_ | assumption))⟩
  · rw [if_neg (by omega), if_neg (by omega), if_pos hcl.2]
    have HP := hid hcl
    have g0 : ((p : Int) < 128) = False := eq_false (by omega)
    have g1 : ((p : Int) < 2048) = False := eq_false (by omega)
    have g2 : ((p : Int) < 65536) = True := eq_true (by omega)
    clear hcl hp
    go_enter Tryd.func37, Tryd.ntmps37
    go_wp2
    go_ret
    exact ⟨⟨_, rfl, alloc_ucs (by have := HP.out; simp [ucs]; try omega)⟩, (by repeat (first | exact Below.refl _ _ | refine blw_alloc ?_ | refine blw_drew ?_ | assumption))⟩
  · rw [if_neg (by omega), if_neg (by omega), if_neg (by omega)]
    have HP := hid (And.intro hcl hp)
    have g0 : ((p : Int) < 128) = False := eq_false (by omega)
    have g1 : ((p : Int) < 2048) = False := eq_false (by omega)
    have g2 : ((p : Int) < 65536) = False := eq_false (by omega)
    clear hcl hp
    go_enter Tryd.func37, Tryd.ntmps37
    go_wp2
    go_ret
    exact ⟨⟨_, rfl, alloc_ucs (by have := HP.out; simp [ucs]; try omega)⟩, (by repeat (first | exact Below.refl _ _ | refine blw_alloc ?_ | refine blw_drew ?_ | assumption))⟩
end Go.Proofs.YtjcnkigadlmpgaaDoor
