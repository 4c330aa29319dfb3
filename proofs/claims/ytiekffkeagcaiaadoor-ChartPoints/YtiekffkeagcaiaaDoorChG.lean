/- The contracts of package chart's isJoin, classOf and lines, and of the library's Clone and Split at one byte, over this seat's translation. Conditions: a text's size; what the library's variables hold is some number, some errors. -/
import Derived.Test.YtiekffkeagcaiaaDoorChF
import Derived.Test.YtiekffkeagcaiaaDoorShL
import Derived.Shelf.Pu.Clone
namespace Go.Proofs.YtiekffkeagcaiaaDoor
open Go.RowKit
set_option linter.unusedVariables false

/-- what the library's own variables hold: some number, some errors -/
structure Vr (w : World) : Prop where
  m : ∃ m, w.cell? ⟨2, 0, none⟩ = some (.int .i64 m)
  es : ∃ ev, w.cell? ⟨5, 0, none⟩ = some ev ∧ (ev = .nilIface ∨ ∃ te pe, ev = .iface te pe)
  er : ∃ ev, w.cell? ⟨6, 0, none⟩ = some ev ∧ (ev = .nilIface ∨ ∃ te pe, ev = .iface te pe)
theorem Vr.below {w w' : World} (v : Vr w) (h : Below w.heap.size w w') : Vr w' := by
  obtain ⟨⟨m, hm⟩, ⟨e1, h1, k1⟩, ⟨e2, h2, k2⟩⟩ := v
  exact ⟨⟨m, cell_later h hm⟩, ⟨e1, cell_later h h1, k1⟩, ⟨e2, cell_later h h2, k2⟩⟩
theorem Vr.alloc {w : World} (v : Vr w) (o : Obj) : Vr (w.alloc o) := v.below ((Below.refl _ _).alloc (Nat.le_refl _) o)
theorem Vr.later {w w' : World} {B : Nat} (v : Vr w) (hB : w.heap.size ≤ B) (h : Below B w w') : Vr w' := v.below (h.mono hB)

theorem sclone_any (s : ByteArray) (w : World) (hs : s.size ≤ 4000000000) :
    Calls Tryd.prog 88 #[.string s] w fun e w' => e = .returned (.string s) ∧ Below w.heap.size w w' :=
  AnyPu.stringslite_Clone ({ Tryd.laysPu14 with } : LaysPu.n25 Tryd.prog Tryd.laysPu14_ren) s w (by omega)
/-- a string of one byte -/
abbrev one (c : UInt8) : ByteArray := ⟨#[c]⟩
theorem split_any (s : ByteArray) (c : UInt8) (w : World) (v : Vr w) (hs : s.size ≤ 4000000000) :
    Calls Tryd.prog 25 #[.string s, .string (one c)] w fun e w' =>
      e = .returned (.slice (some ⟨w.heap.size, 0, none⟩) (splS c s).length (splS c s).length) ∧ w' = w.alloc (.cells ((splS c s).map Value.string).toArray 9) := by
  obtain ⟨m, hm⟩ := v.m
  refine (Tryd.strings_Split s (one c) m w (by omega) hm (Nat.le_refl 1)).mono ?_
  rintro e w' ⟨rfl, rfl⟩
  rw [countB_splS, splitB_splS]
  exact ⟨rfl, rfl⟩
end Go.Proofs.YtiekffkeagcaiaaDoor
