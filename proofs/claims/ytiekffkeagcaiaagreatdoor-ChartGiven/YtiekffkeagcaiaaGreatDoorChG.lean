/- The contracts of package chart's isJoin, classOf and lines, and of the library's Clone and Split at one byte, over this seat's translation. Conditions: a text's size; what the library's variables hold is some number, some errors. -/
import Derived.Test.YtiekffkeagcaiaaGreatDoorChF
import Derived.Test.YtiekffkeagcaiaaGreatDoorShL
import Derived.Shelf.Pu.Clone
namespace Go.Proofs.YtiekffkeagcaiaaGreatDoor
open Go.RowKit
set_option linter.unusedVariables false

/-- what the library's own variables hold: some number, some errors -/
structure Vr (w : World) : Prop where
  m : ∃ m, w.cell? ⟨2, 0, none⟩ = some (.int .i64 m)
  es : ∃ ev, w.cell? ⟨3, 0, none⟩ = some ev ∧ (ev = .nilIface ∨ ∃ te pe, ev = .iface te pe)
  er : ∃ ev, w.cell? ⟨4, 0, none⟩ = some ev ∧ (ev = .nilIface ∨ ∃ te pe, ev = .iface te pe)
theorem Vr.below {w w' : World} (v : Vr w) (h : Below w.heap.size w w') : Vr w' := by
  obtain ⟨⟨m, hm⟩, ⟨e1, h1, k1⟩, ⟨e2, h2, k2⟩⟩ := v
  exact ⟨⟨m, cell_later h hm⟩, ⟨e1, cell_later h h1, k1⟩, ⟨e2, cell_later h h2, k2⟩⟩
theorem Vr.alloc {w : World} (v : Vr w) (o : Obj) : Vr (w.alloc o) := v.below ((Below.refl _ _).alloc (Nat.le_refl _) o)
theorem Vr.later {w w' : World} {B : Nat} (v : Vr w) (hB : w.heap.size ≤ B) (h : Below B w w') : Vr w' := v.below (h.mono hB)

theorem sclone_any (s : ByteArray) (w : World) (hs : s.size ≤ 4000000000) :
    Calls Tryz.prog 67 #[.string s] w fun e w' => e = .returned (.string s) ∧ Below w.heap.size w w' :=
  AnyPu.stringslite_Clone ({ Tryz.laysPu14 with } : LaysPu.n25 Tryz.prog Tryz.laysPu14_ren) s w (by omega)
set_option maxHeartbeats 800000 in
theorem clone_any (s : ByteArray) (w : World) (hs : s.size ≤ 4000000000) :
    Calls Tryz.prog 50 #[.string s] w fun e w' => e = .returned (.string s) ∧ Below w.heap.size w w' := by
  go_enter Tryz.func50, Tryz.ntmps50
  go_wp2_with fail
  refine (sclone_any s _ hs).mono ?_
  rintro e w1 ⟨rfl, hB⟩
  have HB := hid hB
  clear hB
  go_wp2
  go_ret
  exact ⟨rfl, HB.out⟩
/-- a string of one byte -/
abbrev one (c : UInt8) : ByteArray := ⟨#[c]⟩
theorem split_any (s : ByteArray) (c : UInt8) (w : World) (v : Vr w) (hs : s.size ≤ 4000000000) :
    Calls Tryz.prog 44 #[.string s, .string (one c)] w fun e w' =>
      e = .returned (.slice (some ⟨w.heap.size, 0, none⟩) (splS c s).length (splS c s).length) ∧ w' = w.alloc (.cells ((splS c s).map Value.string).toArray 9) := by
  obtain ⟨m, hm⟩ := v.m
  refine (Tryz.strings_Split s (one c) m w (by omega) hm (Nat.le_refl 1)).mono ?_
  rintro e w' ⟨rfl, rfl⟩
  rw [countB_splS, splitB_splS]
  exact ⟨rfl, rfl⟩
set_option maxHeartbeats 800000 in
theorem isJoin_any (s : ByteArray) (w : World) (v : Vr w) (hs : s.size ≤ 4000000000) :
    Calls Tryz.prog 48 #[.string s] w fun e w' => e = .returned (.bool (jnV s)) ∧ w' = w := by
  by_cases h1 : s.size = 1
  · rw [jnV_one h1]
    have e1 : ((s.size : Int) == 1) = true := by simp [h1]
    obtain ⟨m, hm⟩ := v.m
    have HC := hid (Tryz.strings_Contains ⟨#[85, 68, 82, 76, 67, 84]⟩ s m w (by decide) hm)
    clear h1 v hm
    go_enter Tryz.func48, Tryz.ntmps48
    go_wp2_with fail
    refine HC.out.mono ?_
    rintro e w' ⟨rfl, hw⟩
    subst w'
    go_wp2
    go_ret
    exact ⟨rfl, rfl⟩
  · rw [jnV_no h1]
    have e1 : ((s.size : Int) == 1) = false := by simp; omega
    clear h1
    go_enter Tryz.func48, Tryz.ntmps48
    go_wp2
    go_ret
    exact ⟨rfl, rfl⟩
end Go.Proofs.YtiekffkeagcaiaaGreatDoor
