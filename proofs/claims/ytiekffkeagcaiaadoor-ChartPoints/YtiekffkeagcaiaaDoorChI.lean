/- The contract of package chart's rangeOf, over this seat's translation. Conditions: the words' sizes; what the library's variables hold is some number, some errors. -/
import Derived.Test.YtiekffkeagcaiaaDoorChH
namespace Go.Proofs.YtiekffkeagcaiaaDoor
open Go.RowKit
set_option linter.unusedVariables false

/-- what a line's reading answers: its value, or a zero value -/
def itR (z : Array Value) (f : It → Array Value) (o : Option It) : Ending := .returned (.tuple #[.agg (match o with | some i => f i | none => z), .bool o.isSome])
/-- on the way of a line's reading: the words, the result's variable -/
structure Rg (w0 : World) (x : Nat) (ws : List ByteArray) (Z : Array Value) (T : TypeId) (w : World) : Prop where
  bel : Below w0.heap.size w0 w
  row : ∀ j, j < ws.length → w.cell? ⟨x, j, none⟩ = some (.string (wd ws j))
  res : w.heap[w0.heap.size]? = some (.cells Z T (0, 0))
  vr : Vr w
  xb : 0 < ws.length → x < w0.heap.size
variable {w0 w w' : World} {x : Nat} {ws : List ByteArray} {Z : Array Value} {T : TypeId}
theorem Rg.below (r : Rg w0 x ws Z T w) (hb : Below w.heap.size w w') : Rg w0 x ws Z T w' :=
  ⟨belowCat r.bel hb, fun j hj => cell_later hb (r.row j hj), (hb.block _ (lt_of_heap r.res)).trans r.res, r.vr.below hb, r.xb⟩
theorem Rg.drew (r : Rg w0 x ws Z T w) : Rg w0 x ws Z T w.drew := r.below ((Below.refl _ w).drew)
theorem cell_blk {w : World} {p : Addr} {v : Value} (h : w.cell? p = some v) : p.block < w.heap.size := by
  rcases Nat.lt_or_ge p.block w.heap.size with hlt | hge
  · exact hlt
  · simp [World.cell?, Array.getElem?_eq_none hge] at h
theorem Rg.start (v : Vr w) (hx : ∀ j, j < ws.length → w.cell? ⟨x, j, none⟩ = some (.string (wd ws j))) : Rg w x ws Z T (w.alloc (.cells Z T (0, 0))) :=
  ⟨(Below.refl _ _).alloc (Nat.le_refl _) _, fun j hj => cell_later ((Below.refl _ _).alloc (Nat.le_refl _) _) (hx j hj), heap_alloc_at _ _, v.alloc _, fun h => by exact cell_blk (hx 0 h)⟩
theorem cell_ne {w : World} {p q : Addr} {v u : Value} (h : w.cell? p = some v) (hn : p.block ≠ q.block) : (w.setCell q u).cell? p = some v :=
  (World.cell?_of_block (Below.heap_setCell w q u p.block hn)).trans h
theorem Rg.rows (r : Rg w0 x ws Z T w) {j : Nat} (hj : j < ws.length) {u : Value} {i : Nat} : (w.setCell ⟨w0.heap.size, i, none⟩ u).cell? ⟨x, j, none⟩ = some (.string (wd ws j)) :=
  cell_ne (r.row j hj) (Nat.ne_of_lt (r.xb (by omega)))
theorem cell_ne3 {w : World} {p : Addr} {v a b c : Value} {g : Nat} (h : w.cell? p = some v) (hn : p.block ≠ g) : (((w.setCell ⟨g, 0, none⟩ a).setCell ⟨g, 1, none⟩ b).setCell ⟨g, 2, none⟩ c).cell? p = some v :=
  cell_ne (cell_ne (cell_ne h hn) hn) hn
theorem cell_ne6 {w : World} {p : Addr} {v a b c d e f : Value} {g : Nat} (h : w.cell? p = some v) (hn : p.block ≠ g) :
    ((((((w.setCell ⟨g, 0, none⟩ a).setCell ⟨g, 1, none⟩ b).setCell ⟨g, 2, none⟩ c).setCell ⟨g, 3, none⟩ d).setCell ⟨g, 4, none⟩ e).setCell ⟨g, 5, none⟩ f).cell? p = some v :=
  cell_ne (cell_ne (cell_ne (cell_ne3 h hn) hn) hn) hn
abbrev rgZ : Array Value := #[.int .u32 0, .int .u32 0, .string ⟨#[]⟩, .string ⟨#[]⟩, .string ⟨#[]⟩, .bool false]
def rgC (i : It) : Array Value := (.int .u32 (i.a : Int) :: .int .u32 (i.b : Int) :: i.r).toArray
theorem rgOf_no6 {ws : List ByteArray} (h : ws.length ≠ 6) : rgOf ws = none := by unfold rgOf; rw [if_neg h]
theorem rgOf_6 {ws : List ByteArray} (h : ws.length = 6) : rgOf ws = (spV (bs (wd ws 0)) (bs (wd ws 1))).bind fun p => if (ctV (bs (wd ws 2)) && nmV 3 (bs (wd ws 3)) && jnV (wd ws 4) && edV (wd ws 5)) = true then some ⟨p.1, p.2, [.string (wd ws 2), .string (wd ws 3), .string (wd ws 4), .bool ((wd ws 5).toList == [110, 101, 119])]⟩ else none := by
  unfold rgOf
  rw [if_pos h]
  cases spV (bs (wd ws 0)) (bs (wd ws 1)) <;> rfl
end Go.Proofs.YtiekffkeagcaiaaDoor
