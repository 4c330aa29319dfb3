/- The laws' first lines (awake, layer 4) return true, over this seat's translation. No conditions. -/
import Derived.Test.YtlnankianpchbaaPkI
namespace Go.Proofs.Ytlnankianpchbaa
open Go.RowKit

theorem u32s_new (w : World) (l : List Nat) : U32s (w.alloc (.cells (secs l).toArray 31 (0, 0))) (some ⟨w.heap.size, 0, none⟩) l := fun k hk =>
  ⟨_, rfl, by rw [add_plain]; exact cell_of_heap (heap_alloc_at _ _) (by simp [secs, hk])⟩
theorem lz_new (w : World) (F : Nat → Prop) (z : Int) (h : ¬ F w.heap.size) : Lz (w.alloc (.cells #[.int .i64 z] 3 (0, 0))) F (some ⟨w.heap.size, 0, none⟩) 1 [z] :=
  Or.inr ⟨_, rfl, by simp, h, fun j hj => by
    have : j = 0 := by simpa using hj
    subst this; exact cell_of_heap (heap_alloc_at _ _) rfl⟩
theorem freshF {w : World} {h : Hn} {F : Nat → Prop} {A : Ars} (a : Ar w h F A) : ¬ F w.heap.size := fun x => by have := a.lt _ x; omega
set_option maxHeartbeats 1600000 in
set_option maxRecDepth 4000 in
theorem awake4_any (w : World) : Calls Try.prog 16 #[] w fun e w' => e = .returned (.bool true) ∧ Below w.heap.size w w' := by
  go_enter Try.func16, Try.ntmps16
  go_wp2_with fail
  refine (ar_new_at 20 20 _ (Or.inr rfl) (by decide)).mono ?_
  rintro e w1 ⟨h, F1, rfl, a1, hi, hb⟩
  have HB1 := hid hb
  have HI1 := hid hi
  have HA1 := hid a1
  clear a1 hi hb
  go_wp2_with fail
  refine (ar_take h F1 _ 6 _ HA1.out (by decide)).mono ?_
  rintro e w2 ⟨rfl, F2, a2, s2⟩
  have HA2 := hid a2
  have HS2 := hid s2
  clear a2 s2
  go_wp2_with fail
  have HU := hid (u32s_new w2 [1, 0, 1, 5, 6, 7])
  refine (ar_put h F2 _ 0 (some ⟨w2.heap.size, 0, none⟩) 6 [1, 0, 1, 5, 6, 7] _ (HA2.out.alloc _) (by decide) (by decide) HU.out (fun x hx _ => by cases hx; exact freshF HA2.out) (by decide)).mono ?_
  rintro e w3 ⟨rfl, F3, a3, s3⟩
  have HS3 := hid (HS2.out.trans ((Step.refl w2 F2).alloc _ |>.trans s3))
  obtain ⟨A, eA, hA⟩ : ∃ A, A = ((Ars.new 20).take 6).put 0 [1, 0, 1, 5, 6, 7] ∧ Ar w3 h F3 A := ⟨_, rfl, a3⟩
  have k3 : A.top = 6 ∧ A.ws.length = 20 ∧ A.es.length = 7 ∧ rk (fun i => A.word (0 + i) % 2 == 1) 3 = 2 ∧ ((kp (fun i => A.word (0 + i) % 2 == 1) 3).map fun p => A.word (3 + p)) = [5, 7] := by subst eA; decide +kernel
  have HA3 := hid hA
  have HK := hid k3
  clear a3 s3 hA eA k3 HU
  go_wp2_with fail
  refine (pack_yes h F3 A 3 0 3 0 1 (some ⟨w3.heap.size, 0, none⟩) [3] [3] _ (HA3.out.alloc _) rfl rfl rfl (by decide) (by decide) (lz_new _ _ _ (freshF HA3.out)) (fun L hL => by have := HK.out.1; simp at hL; omega) (by simp; exact ⟨by omega⟩) (by have := HK.out.1; have := HK.out.2.1; omega) (by have := HK.out.2.2.1; omega)).mono ?_
  rintro e w4 ⟨rfl, F4, B, a4, s4, pk⟩
  rw [HK.out.2.2.2.1]
  have hw : B.word 0 = 4294967295 ∧ B.word 1 = 4294967295 ∧ B.word 2 = 0 ∧ B.word 3 = 5 ∧ B.word 4 = 7 ∧ B.word 5 = 0 := by
    have q0 := pk.kps 0 (by decide)
    have q1 := pk.kps 1 (by decide)
    have q2 := pk.kps 2 (by decide)
    have l0 := pk.lane 3 (by simp) 0 (by decide)
    have l1 := pk.lane 3 (by simp) 1 (by decide)
    have l2 := pk.lane 3 (by simp) 2 (by decide)
    rw [HK.out.2.2.2.1] at q0 q1 q2
    rw [HK.out.2.2.2.2] at l0 l1 l2
    exact ⟨q0, q1, q2, l0, l1, l2⟩
  have HT4 := hid (show B.top = 6 from pk.top.trans HK.out.1)
  have HE4 := hid (show B.es.length ≤ 100000 by rw [pk.es, List.length_append, HK.out.2.2.1, HK.out.1]; decide +kernel)
  have HW4 := hid hw
  have HS4 := hid (HS3.out.trans ((Step.refl w3 F3).alloc _ |>.trans s4))
  have HA4 := hid a4
  clear a4 s4 pk hw
  go_wp2_with fail
  have hN4 := freshF HA4.out
  have HN4 := hid (And.intro (heap_alloc_at w4 (sb 2)) hN4)
  have HL4 := hid (show w4.heap.size < (w4.alloc (sb 2)).heap.size by simp)
  have HSA := hid ((HS4.out.alloc (sb 2)))
  have HAA := hid (HA4.out.alloc (sb 2))
  clear hN4
  obtain ⟨z, hz⟩ : ∃ z, w4.heap.size = z := ⟨_, rfl⟩
  rw [hz] at HN4 HL4 ⊢
  generalize w4.alloc (sb 2) = w5 at *
  refine (ar_show_yes h F4 B 0 6 _ HAA.out (by have := HT4.out; omega) (by have := HE4.out; omega)).mono ?_
  rintro e w6 ⟨g, F6, rfl, hg, hlt, hng, a6, s6⟩
  have htold : B.told 0 6 = [4294967295, 4294967295, 0, 5, 7, 0] := by
    obtain ⟨q0, q1, q2, q3, q4, q5⟩ := HW4.out
    show [B.word 0, B.word 1, B.word 2, B.word 3, B.word 4, B.word 5] = _
    rw [q0, q1, q2, q3, q4, q5]
  rw [htold] at hg
  have HG := hid (show ∀ w' : World, Below w6.heap.size w6 w' → w'.heap[g]? = some (.cells (secs [4294967295, 4294967295, 0, 5, 7, 0]).toArray 31 (0, 0)) from fun w' hb => (hb.block g (lt_of_heap hg)).trans hg)
  have hz6 := s6.heap HN4.out.1 HN4.out.2
  have kz : w6.cell? ⟨z, 0, none⟩ = some (.int .u32 2) := cell_of_heap hz6 rfl
  have HA6 := hid a6
  have HT6 := hid (show (B.relK 0 6).top = 6 by rw [Ars.relK_top]; exact HT4.out)
  have HS6 := hid (HSA.out.trans s6)
  clear htold hg hlt hng a6 s6 hz6
  go_wp2_with (first
    | (go_at_call 24; refine (told_any 2 _).mono ?_; rintro e w7 ⟨rfl, hB7⟩; have HB7 := hid hB7; have hg7 := HG.out w7 hB7; have c0 : w7.cell? ⟨g, 0, none⟩ = some (.int .u32 4294967295) := cell_of_heap hg7 rfl; have c2 : w7.cell? ⟨g, 2, none⟩ = some (.int .u32 0) := cell_of_heap hg7 rfl; have c3 : w7.cell? ⟨g, 3, none⟩ = some (.int .u32 5) := cell_of_heap hg7 rfl; have c4 : w7.cell? ⟨g, 4, none⟩ = some (.int .u32 7) := cell_of_heap hg7 rfl; have c5 : w7.cell? ⟨g, 5, none⟩ = some (.int .u32 0) := cell_of_heap hg7 rfl; clear hB7 hg7)
    | (go_at_call 21; refine (ar_top h F6 _ _ (HA6.out.below HB7.out)).mono ?_; rintro e w' ⟨rfl, hw⟩; subst w'; rw [HT6.out]))
  go_ret
  refine ⟨rfl, ?_⟩
  exact HB1.out.trans (Below.trans (HS6.out.below HB1.out.size HI1.out) (HB7.out.mono (Nat.le_trans HB1.out.size HS6.out.size)))
end Go.Proofs.Ytlnankianpchbaa
