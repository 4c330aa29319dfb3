/- The laws' awake, over this seat's translation. No conditions but what the library's variables hold. -/
import Derived.Test.YtiekffkeagcaiaaDoorChAd
import Derived.Test.YtiekffkeagcaiaaDoorChW
namespace Go.Proofs.YtiekffkeagcaiaaDoor
open Go.RowKit
set_option linter.unusedVariables false

def awS : ByteArray := ⟨#[48, 51, 48, 48, 32, 48, 51, 49, 52, 32, 50, 51, 48]⟩
theorem awake_said : rsV wtOf upW (lwV awS) (lwV awS).length = ([⟨768, 788, [.int .u32 230]⟩], 0) := by kernel_rfl
theorem awake_points : (⟨(Lib.join (([65, 1114111].map wrd).map (·.data.toList)) [32]).toArray⟩ : ByteArray) = ⟨#[48, 48, 52, 49, 32, 49, 48, 70, 70, 70, 70]⟩ := by kernel_rfl
set_option maxHeartbeats 1600000 in
theorem awake_any (w : World) (v : Vr w) (t : Tz w) : Calls Tryd.prog 4 #[] w fun e w' => e = .returned (.bool true) ∧ Below w.heap.size w w' := by
  have HC := hid (classes_any awS w v (by decide))
  have T0 := hid t
  clear t v
  go_enter Tryd.func4, Tryd.ntmps4
  go_wp2_with fail
  refine HC.out.mono ?_
  rintro e w1 ⟨ad, cap, at_, its, rfl, hr, ho, hB⟩
  have he := awake_said.symm.trans hr
  obtain ⟨rfl, rfl⟩ := Prod.mk.inj he
  obtain ⟨g, rfl, _, _, hc⟩ := owns_cell ho (by decide)
  have c0 : w1.cell? ⟨g, 0, none⟩ = some (.int .u32 768) := hc 0 _ rfl
  have c1 : w1.cell? ⟨g, 1, none⟩ = some (.int .u32 788) := hc 1 _ rfl
  have c2 : w1.cell? ⟨g, 2, none⟩ = some (.int .u32 230) := hc 2 _ rfl
  have B1 := hid hB
  have T1 := hid (T0.out.below hB)
  clear hr ho hB he hc HC
  rw [if_pos rfl]
  go_wp2_with fail
  have hP := points_any ⟨w1.heap.size, 0, none⟩ [65, 1114111] 2 (w1.alloc (.cells #[.int .u32 65, .int .u32 1114111] 25)) (T1.out.below ((Below.refl _ _).alloc (Nat.le_refl _) _))
    (fun j h => match j, h with
      | 0, _ => cell_of_heap (i := 0) (heap_alloc_at _ _) rfl
      | 1, _ => cell_of_heap (i := 1) (heap_alloc_at _ _) rfl
      | j + 2, h => absurd h (by simp)) (by simp [World.size_alloc]) (by decide) (by decide) (by decide +kernel)
  rw [awake_points] at hP
  refine hP.mono ?_
  rintro e w2 ⟨rfl, hB⟩
  have B2 := hid (belowCat (blw_alloc B1.out) hB)
  clear hB hP c0 c1 c2
  go_wp2
  go_ret
  exact ⟨rfl, B2.out⟩
end Go.Proofs.YtiekffkeagcaiaaDoor
