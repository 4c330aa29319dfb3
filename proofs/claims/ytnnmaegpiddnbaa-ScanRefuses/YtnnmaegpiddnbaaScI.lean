/- The laws' awake (layer 5), over this seat's translation. No conditions. -/
import Derived.Test.YtnnmaegpiddnbaaScH
import Derived.Test.YtnnmaegpiddnbaaArE
namespace Go.Proofs.Ytnnmaegpiddnbaa
open Go.RowKit

theorem told_sums {l : List Nat} {B : Ars} (h : Lain B l []) : (evo B (fun i => 0 + i) (fun i => sv B 0 (i + 1)) l.length).told 0 l.length = (List.range l.length).map (slF l true) :=
  told_evo (p := fun i => i) (by rw [h.wl]; simp) (fun _ h => h) (fun _ _ _ _ e => e) (fun q hq => ⟨q, hq, rfl⟩) (fun i hi => by show sv B 0 (i + 1) = slF l true i; rw [sv_sl h.a (i + 1) (by omega)]; rfl)
theorem u32_row {w : World} {g : Nat} {l : List Nat} (h : w.heap[g]? = some (.cells (secs l).toArray 30 (0, 0))) : U32s w (some ⟨g, 0, none⟩) l := secs_row h
set_option maxHeartbeats 1600000 in
theorem awake5_any (w : World) : Calls Try.prog 6 #[] w fun e w' => e = .returned (.bool true) ∧ Below w.heap.size w w' := by
  have HU := hid (show U32s (w.alloc (.cells #[.int .u32 1, .int .u32 2, .int .u32 3] 30)) (some ⟨w.heap.size, 0, none⟩) [1, 2, 3] from u32_row (heap_alloc_at _ _))
  have HBA := hid (show Below w.heap.size w (w.alloc (.cells #[.int .u32 1, .int .u32 2, .int .u32 3] 30)) from (by repeat (first | exact Below.refl _ _ | refine blw_alloc ?_ | refine blw_drew ?_ | assumption)))
  have HLI := hid (lain_is [1, 2, 3] [])
  have HT := hid (told_sums (lain_is [1, 2, 3] []))
  have HV := hid (show sv (lain [1, 2, 3] []) 0 3 = 6 from (sv_sl (l := [1, 2, 3]) (lain_is [1, 2, 3] []).a 3 (Nat.le_refl _)).trans rfl)
  have HLW := hid (fun w' hu => lay5_any (some ⟨w.heap.size, 0, none⟩) none 3 0 [1, 2, 3] [] w' hu (fun k hk => by cases hk) (by decide) (by decide) (by decide))
  obtain ⟨B, hBe⟩ : ∃ B, lain [1, 2, 3] [] = B := ⟨_, rfl⟩
  rw [hBe] at HLI HT HV HLW
  clear hBe
  go_enter Try.func6, Try.ntmps6
  go_wp2_with fail
  refine (HLW.out _ HU.out).mono ?_
  rintro e w1 ⟨h, F1, rfl, a1, hF1, hB1⟩
  have A1 := hid a1
  have F1h := hid (show ∀ i, F1 i → w.heap.size ≤ i from fun i hi => Nat.le_trans HBA.out.size (hF1 i hi))
  have B1 := hid (show Below w.heap.size w w1 from HBA.out.trans (hB1.mono HBA.out.size))
  clear a1 hF1 hB1
  go_wp2_with fail
  refine (sums_yes h F1 B 0 3 _ A1.out (by rw [HLI.out.top]; decide) (by rw [HLI.out.es]; decide)).mono ?_
  rintro e w2 ⟨rfl, F2, a2, s2⟩
  rw [HV.out]
  have A2 := hid a2
  have F2h := hid (show ∀ i, F2 i → w.heap.size ≤ i from s2.high B1.out.size F1h.out)
  have B2 := hid (show Below w.heap.size w w2 from B1.out.trans (s2.below B1.out.size F1h.out))
  clear a2 s2
  go_wp2_with fail
  refine (ar_show_yes h F2 _ 0 3 _ (A2.out.alloc _) (by rw [evo_top, HLI.out.top]; decide) (by rw [evo_es, HLI.out.es]; decide)).mono ?_
  rintro e w3 ⟨g, F3, rfl, hg, hgs, hgF, a3, s3⟩
  have hg' := hg
  rw [show (evo B (fun i => 0 + i) (fun i => sv B 0 (i + 1)) 3).told 0 3 = [1, 3, 6] from HT.out.trans rfl] at hg'
  have HY := hid (show w3.heap[w2.heap.size]? = some (sb 6) from s3.heap (heap_alloc_at _ _) (fun z => by have := A2.out.lt _ z; omega))
  have k0 : w3.cell? ⟨g, 0, none⟩ = some (.int .u32 1) := cell_of_heap hg' rfl
  have k1 : w3.cell? ⟨g, 1, none⟩ = some (.int .u32 3) := cell_of_heap hg' rfl
  have k2 : w3.cell? ⟨g, 2, none⟩ = some (.int .u32 6) := cell_of_heap hg' rfl
  have HK := hid (And.intro k0 (And.intro k1 k2))
  have ky := cell_sb8 HY.out
  have B3 := hid (show Below w.heap.size w w3 from (blw_alloc B2.out).trans (s3.below (by rw [World.size_alloc]; have := B2.out.size; omega) F2h.out))
  clear hg hg' hgs hgF a3 s3 k0 k1 k2
  go_wp2_with fail
  refine (told5_any _ _).mono ?_
  rintro e w4 ⟨rfl, hB4⟩
  have d0 := cell_later hB4 HK.out.1
  have d1 := cell_later hB4 HK.out.2.1
  have d2 := cell_later hB4 HK.out.2.2
  have B4 := hid (B3.out.trans (hB4.mono B3.out.size))
  clear hB4 ky
  go_wp2
  go_ret
  exact ⟨rfl, B4.out⟩
end Go.Proofs.Ytnnmaegpiddnbaa
