/- The law ChartClasses, over this seat's translation: its walk, out of what its awake answers. Conditions: a text's size is an int; what the library's variables hold is some number, some errors. -/
import Derived.Test.YtiekffkeagcaiaaDoorChW
import Derived.BigQuiet
namespace Go.Proofs.YtiekffkeagcaiaaDoor
open Go.RowKit
set_option linter.unusedVariables false

theorem rsV_each {α : Type} {of : List ByteArray → Option α} {bh : α → α → Bool} {ls : List (List ByteArray)} {k a : Nat} {l : List α} (h : rsV of bh ls k = (l, a)) : ∀ x ∈ l, ∃ ws, of ws = some x := by
  intro x hx
  by_cases ha : a = 0
  · subst ha
    obtain ⟨j, _, hj⟩ := rsV_some h x hx
    exact ⟨_, hj⟩
  · rw [rsV_off h ha] at hx; cases hx
theorem wt_three {ws : List ByteArray} {i : It} (h : wtOf ws = some i) : ∃ a b m : Nat, rgC i = #[.int .u32 (a : Int), .int .u32 (b : Int), .int .u32 (m : Int)] := by
  obtain ⟨_, _, n, _, hr⟩ := wtOf_r h
  exact ⟨i.a, i.b, n, by unfold rgC; rw [hr]⟩
theorem ru_three {ws : List ByteArray} {i : It} (h : ruOf ws = some i) : ∃ a b m : Nat, rgC i = #[.int .u32 (a : Int), .int .u32 (b : Int), .int .u32 (m : Int)] := by
  obtain ⟨_, _, n, _, hr⟩ := ruOf_r h
  exact ⟨i.a, i.b, n, by unfold rgC; rw [hr]⟩
/-- two rows of the same items: each item's cells in both -/
theorem both3 {w : World} {b1 b2 n c1 c2 : Nat} {T : TypeId} {ad1 ad2 : Option Addr} {of : List ByteArray → Option It} {bh : It → It → Bool} {ls : List (List ByteArray)} {m at_ : Nat} {its : List It} (hr : rsV of bh ls m = (its, at_)) (ho : ∀ ws i, of ws = some i → ∃ a b m : Nat, rgC i = #[.int .u32 (a : Int), .int .u32 (b : Int), .int .u32 (m : Int)])
    (h1 : w.ownsRow b1 T 3 (.slice ad1 n c1) n (rowC rgC its)) (h2 : w.ownsRow b2 T 3 (.slice ad2 n c2) n (rowC rgC its)) (hn : its.length = n) {k : Nat} (hk : k < n) :
    ∃ (g1 g2 a b m : Nat), ad1 = some ⟨g1, 0, none⟩ ∧ ad2 = some ⟨g2, 0, none⟩ ∧ w.cell? ⟨g1, k * 3, none⟩ = some (.int .u32 (a : Int)) ∧ w.cell? ⟨g1, k * 3 + 1, none⟩ = some (.int .u32 (b : Int)) ∧ w.cell? ⟨g1, k * 3 + 2, none⟩ = some (.int .u32 (m : Int))
      ∧ w.cell? ⟨g2, k * 3, none⟩ = some (.int .u32 (a : Int)) ∧ w.cell? ⟨g2, k * 3 + 1, none⟩ = some (.int .u32 (b : Int)) ∧ w.cell? ⟨g2, k * 3 + 2, none⟩ = some (.int .u32 (m : Int)) := by
  have hsz : ∀ i ∈ its, (rgC i).size = 3 := fun i hi => by
    obtain ⟨ws, hw⟩ := rsV_each hr i hi
    obtain ⟨_, _, _, h⟩ := ho ws i hw
    rw [h]; rfl
  have hk' : k < its.length := by omega
  obtain ⟨ws, hw⟩ := rsV_each hr its[k] (List.getElem_mem hk')
  obtain ⟨a, b, m, hx⟩ := ho ws _ hw
  obtain ⟨g1, e1, x1, y1, z1⟩ := row3 h1 hsz hk' hn hx
  obtain ⟨g2, e2, x2, y2, z2⟩ := row3 h2 hsz hk' hn hx
  exact ⟨g1, g2, a, b, m, e1, e2, x1, y1, z1, x2, y2, z2⟩
end Go.Proofs.YtiekffkeagcaiaaDoor
