/- Package tables' New, over this seat's translation: all that the charts say. Conditions: what the library's variables hold is some number, some errors. The document's New of layer 8, over this seat's translation: all that the charts say. No conditions. -/
import Derived.Test.YtgalmlelnolodaaGreatDoorTdH
import Derived.Test.YtgalmlelnolodaaGreatDoorTxA
import Derived.Test.YtgalmlelnolodaaGreatDoorChVg
import Derived.Test.YtgalmlelnolodaaGreatDoorChMf
namespace Go.Proofs.YtgalmlelnolodaaGreatDoor
open Go.RowKit
set_option linter.unusedVariables false

set_option maxRecDepth 2000 in
set_option maxHeartbeats 12800000 in
theorem newX_any (itR itC itL itW itS : List It) (G : Gi itR itC itL itW itS) (w : World) (v : Vr w) :
    Calls Tryz.prog 7 #[] w fun e w' => ∃ (g : Nat) (s0 s1 s3 s4 s5 : Sl3) (ad : Option Addr) (cap : Nat) (its : List Dt) (vs : List Value), e = .returned (.pointer (some ⟨g, 0, none⟩)) ∧ w'.heap[g]? = some (.cells #[s0.v, s1.v, .slice ad its.length cap, s3.v, s4.v, s5.v] 84 (0, 0)) ∧ w.heap.size ≤ g ∧
      its.map dtE = chL ∧ OutD w' w.heap.size w.heap.size (.slice ad its.length cap) its vs ∧ AllR w' w.heap.size [(nmC, itS, s5), (rgC, itW, s4), (rgC, itL, s3), (rgC, itC, s1), (rgC, itR, s0)] ∧ Below w.heap.size w w' := by
  have HG := hid G
  clear G
  have V0 := hid v
  clear v
  go_enter Tryz.func7, Tryz.ntmps7
  generalize hT1 : ByteArray.mk _ = T1
  generalize hT2 : ByteArray.mk _ = T2
  generalize hT3 : ByteArray.mk _ = T3
  generalize hT4 : ByteArray.mk _ = T4
  generalize hT5 : ByteArray.mk _ = T5
  generalize hT6 : ByteArray.mk _ = T6
  have HT1 := hid (show T1 = txR from by subst hT1; kernel_rfl)
  have F1 := hid (show T1.size ≤ 1000000 from Nat.le_of_ble_eq_true (by subst hT1; kernel_rfl))
  have HT2 := hid (show T2 = txC from by subst hT2; kernel_rfl)
  have F2 := hid (show T2.size ≤ 1000000 from Nat.le_of_ble_eq_true (by subst hT2; kernel_rfl))
  have HT4 := hid (show T4 = txL from by subst hT4; kernel_rfl)
  have F4 := hid (show T4.size ≤ 1000000 from Nat.le_of_ble_eq_true (by subst hT4; kernel_rfl))
  have HT5 := hid (show T5 = txW from by subst hT5; kernel_rfl)
  have F5 := hid (show T5.size ≤ 1000000 from Nat.le_of_ble_eq_true (by subst hT5; kernel_rfl))
  have HT6 := hid (show T6 = txS from by subst hT6; kernel_rfl)
  have F6 := hid (show T6.size ≤ 1000000 from Nat.le_of_ble_eq_true (by subst hT6; kernel_rfl))
  have F3 : goodV dcK upD 400 T3 = true := by subst hT3; kernel_rfl
  rw [dcK_eq] at F3
  have F3 := hid F3
  have E3 : eqV dcK (lwV T3) chL = true := by subst hT3; kernel_rfl
  rw [dcK_eq] at E3
  have E3 := hid E3
  clear hT1 hT2 hT3 hT4 hT5 hT6
  go_wp2_with fail
  have HN0 := hid (heap_alloc_at w (.cells #[.slice none 0 0, .slice none 0 0, .slice none 0 0, .slice none 0 0, .slice none 0 0, .slice none 0 0] 84))
  have B0 := hid (show Below w.heap.size w (w.alloc (.cells #[.slice none 0 0, .slice none 0 0, .slice none 0 0, .slice none 0 0, .slice none 0 0, .slice none 0 0] 84)) from (Below.refl _ _).alloc (Nat.le_refl _) _)
  generalize w.alloc (.cells #[.slice none 0 0, .slice none 0 0, .slice none 0 0, .slice none 0 0, .slice none 0 0, .slice none 0 0] 84) = w0 at *
  obtain ⟨N, hN⟩ : ∃ N, w.heap.size = N := ⟨_, rfl⟩
  have HNE := hid hN
  rw [hN] at HN0 ⊢
  clear hN
  have A0 := hid (AllR.nil w0 (N + 1))
  refine (ranges_any T1 _ (V0.out.below B0.out) F1.out).mono ?_
  rintro e v1 ⟨ad1, cap1, at1, its1, rfl, hr, ho, hb⟩
  have HV1 := hid ((hb.block N (lt_of_heap HN0.out)).trans HN0.out)
  have BV1 := hid (belowCat B0.out hb)
  rw [HT1.out] at hr
  have AV1 := hid (A0.out.add hb (gi_is HG.out.r hr) ho (by have := lt_of_heap HN0.out; omega))
  obtain ⟨n1, hn1⟩ : ∃ n, its1.length = n := ⟨_, rfl⟩
  rw [hn1] at AV1
  rw [hn1]
  clear A0
  clear hr ho hb hn1 HN0 B0
  obtain ⟨E1, hE1⟩ : ∃ E : Int, (if at1 = 0 then 0 else 3) = E := ⟨_, rfl⟩
  rw [hE1]
  clear hE1
  have c1 := cell_of_heap (i := 0) HV1.out rfl
  have z1 := frozen_of_heap (i := 0) HV1.out
  go_wp2_with fail
  have HN1 := hid (show (v1.setCell ⟨N, 0, none⟩ (.slice ad1 n1 cap1)).heap[N]? = some (.cells #[.slice ad1 n1 cap1, .slice none 0 0, .slice none 0 0, .slice none 0 0, .slice none 0 0, .slice none 0 0] 84 (0, 0)) from tab_set HV1.out)
  have A1 := hid (AV1.out.set (i := 0) (v := .slice ad1 n1 cap1) (show N < N + 1 by omega))
  clear AV1
  have B1 := hid (show Below w.heap.size w (v1.setCell ⟨N, 0, none⟩ (.slice ad1 n1 cap1)) from BV1.out.setCell (p := ⟨N, 0, none⟩) (by have := HNE.out; show w.heap.size ≤ N; omega) _)
  clear c1 z1 HV1 BV1
  generalize v1.setCell ⟨N, 0, none⟩ (.slice ad1 n1 cap1) = w1 at *
  refine (classes_any T2 _ (V0.out.below B1.out) F2.out).mono ?_
  rintro e v2 ⟨ad2, cap2, at2, its2, rfl, hr, ho, hb⟩
  have HV2 := hid ((hb.block N (lt_of_heap HN1.out)).trans HN1.out)
  have BV2 := hid (belowCat B1.out hb)
  rw [HT2.out] at hr
  have AV2 := hid (A1.out.add hb (gi_is HG.out.c hr) ho (by have := lt_of_heap HN1.out; omega))
  obtain ⟨n2, hn2⟩ : ∃ n, its2.length = n := ⟨_, rfl⟩
  rw [hn2] at AV2
  rw [hn2]
  clear A1
  clear hr ho hb hn2 HN1 B1
  obtain ⟨E2, hE2⟩ : ∃ E : Int, (if at2 = 0 then 0 else 3) = E := ⟨_, rfl⟩
  rw [hE2]
  clear hE2
  have c2 := cell_of_heap (i := 1) HV2.out rfl
  have z2 := frozen_of_heap (i := 1) HV2.out
  go_wp2_with fail
  have HN2 := hid (show (v2.setCell ⟨N, 1, none⟩ (.slice ad2 n2 cap2)).heap[N]? = some (.cells #[.slice ad1 n1 cap1, .slice ad2 n2 cap2, .slice none 0 0, .slice none 0 0, .slice none 0 0, .slice none 0 0] 84 (0, 0)) from tab_set HV2.out)
  have A2 := hid (AV2.out.set (i := 1) (v := .slice ad2 n2 cap2) (show N < N + 1 by omega))
  clear AV2
  have B2 := hid (show Below w.heap.size w (v2.setCell ⟨N, 1, none⟩ (.slice ad2 n2 cap2)) from BV2.out.setCell (p := ⟨N, 1, none⟩) (by have := HNE.out; show w.heap.size ≤ N; omega) _)
  clear c2 z2 HV2 BV2
  generalize v2.setCell ⟨N, 1, none⟩ (.slice ad2 n2 cap2) = w2 at *
  refine (decomps_any T3 _ (V0.out.below B2.out) (goodV_size F3.out)).mono ?_
  rintro e v3 ⟨ad3, cap3, at3, its3, vs3, rfl, hr, ho, hb⟩
  obtain ⟨rfl, _⟩ := goodV_said F3.out hr
  have HL := hid (its_lit E3.out hr)
  have OD0 := hid (show OutD v3 w.heap.size w.heap.size (.slice ad3 its3.length cap3) its3 vs3 from ho.base B2.out.size B2.out.size)
  have HV3 := hid ((hb.block N (lt_of_heap HN2.out)).trans HN2.out)
  have BV3 := hid (belowCat B2.out hb)
  have AV3 := hid (A2.out.below hb)
  clear A2
  obtain ⟨n3, hn3⟩ : ∃ n, its3.length = n := ⟨_, rfl⟩
  rw [hn3] at OD0
  have HN3E := hid hn3
  rw [hn3]
  clear hr ho hb hn3 HN2 B2
  rw [if_pos rfl]
  have c3 := cell_of_heap (i := 2) HV3.out rfl
  have z3 := frozen_of_heap (i := 2) HV3.out
  go_wp2_with fail
  have HN3 := hid (show (v3.setCell ⟨N, 2, none⟩ (.slice ad3 n3 cap3)).heap[N]? = some (.cells #[.slice ad1 n1 cap1, .slice ad2 n2 cap2, .slice ad3 n3 cap3, .slice none 0 0, .slice none 0 0, .slice none 0 0] 84 (0, 0)) from tab_set HV3.out)
  have A3 := hid (AV3.out.set (i := 2) (v := .slice ad3 n3 cap3) (show N < N + 1 by omega))
  clear AV3
  have B3 := hid (show Below w.heap.size w (v3.setCell ⟨N, 2, none⟩ (.slice ad3 n3 cap3)) from BV3.out.setCell (p := ⟨N, 2, none⟩) (by have := HNE.out; show w.heap.size ≤ N; omega) _)
  have OD0 := hid (OutD.setOther (i := 2) (u := (.slice ad3 n3 cap3)) OD0.out HV3.out)
  clear c3 z3 HV3 BV3
  generalize v3.setCell ⟨N, 2, none⟩ (.slice ad3 n3 cap3) = w3 at *
  refine (runs_any T4 _ (V0.out.below B3.out) F4.out).mono ?_
  rintro e v4 ⟨ad4, cap4, at4, its4, rfl, hr, ho, hb⟩
  have HV4 := hid ((hb.block N (lt_of_heap HN3.out)).trans HN3.out)
  have BV4 := hid (belowCat B3.out hb)
  have OV4 := hid (OD0.out.below hb)
  rw [HT4.out] at hr
  have AV4 := hid (A3.out.add hb (gi_is HG.out.l hr) ho (by have := lt_of_heap HN3.out; omega))
  obtain ⟨n4, hn4⟩ : ∃ n, its4.length = n := ⟨_, rfl⟩
  rw [hn4] at AV4
  rw [hn4]
  clear A3
  clear hr ho hb hn4 HN3 B3 OD0
  obtain ⟨E4, hE4⟩ : ∃ E : Int, (if at4 = 0 then 0 else 3) = E := ⟨_, rfl⟩
  rw [hE4]
  clear hE4
  have c4 := cell_of_heap (i := 3) HV4.out rfl
  have z4 := frozen_of_heap (i := 3) HV4.out
  go_wp2_with fail
  have HN4 := hid (show (v4.setCell ⟨N, 3, none⟩ (.slice ad4 n4 cap4)).heap[N]? = some (.cells #[.slice ad1 n1 cap1, .slice ad2 n2 cap2, .slice ad3 n3 cap3, .slice ad4 n4 cap4, .slice none 0 0, .slice none 0 0] 84 (0, 0)) from tab_set HV4.out)
  have A4 := hid (AV4.out.set (i := 3) (v := .slice ad4 n4 cap4) (show N < N + 1 by omega))
  clear AV4
  have B4 := hid (show Below w.heap.size w (v4.setCell ⟨N, 3, none⟩ (.slice ad4 n4 cap4)) from BV4.out.setCell (p := ⟨N, 3, none⟩) (by have := HNE.out; show w.heap.size ≤ N; omega) _)
  have OD1 := hid (OutD.setOther (i := 3) (u := (.slice ad4 n4 cap4)) OV4.out HV4.out)
  clear c4 z4 HV4 BV4 OV4
  generalize v4.setCell ⟨N, 3, none⟩ (.slice ad4 n4 cap4) = w4 at *
  refine (runs_any T5 _ (V0.out.below B4.out) F5.out).mono ?_
  rintro e v5 ⟨ad5, cap5, at5, its5, rfl, hr, ho, hb⟩
  have HV5 := hid ((hb.block N (lt_of_heap HN4.out)).trans HN4.out)
  have BV5 := hid (belowCat B4.out hb)
  have OV5 := hid (OD1.out.below hb)
  rw [HT5.out] at hr
  have AV5 := hid (A4.out.add hb (gi_is HG.out.w hr) ho (by have := lt_of_heap HN4.out; omega))
  obtain ⟨n5, hn5⟩ : ∃ n, its5.length = n := ⟨_, rfl⟩
  rw [hn5] at AV5
  rw [hn5]
  clear A4
  clear hr ho hb hn5 HN4 B4 OD1
  obtain ⟨E5, hE5⟩ : ∃ E : Int, (if at5 = 0 then 0 else 3) = E := ⟨_, rfl⟩
  rw [hE5]
  clear hE5
  have c5 := cell_of_heap (i := 4) HV5.out rfl
  have z5 := frozen_of_heap (i := 4) HV5.out
  go_wp2_with fail
  have HN5 := hid (show (v5.setCell ⟨N, 4, none⟩ (.slice ad5 n5 cap5)).heap[N]? = some (.cells #[.slice ad1 n1 cap1, .slice ad2 n2 cap2, .slice ad3 n3 cap3, .slice ad4 n4 cap4, .slice ad5 n5 cap5, .slice none 0 0] 84 (0, 0)) from tab_set HV5.out)
  have A5 := hid (AV5.out.set (i := 4) (v := .slice ad5 n5 cap5) (show N < N + 1 by omega))
  clear AV5
  have B5 := hid (show Below w.heap.size w (v5.setCell ⟨N, 4, none⟩ (.slice ad5 n5 cap5)) from BV5.out.setCell (p := ⟨N, 4, none⟩) (by have := HNE.out; show w.heap.size ≤ N; omega) _)
  have OD2 := hid (OutD.setOther (i := 4) (u := (.slice ad5 n5 cap5)) OV5.out HV5.out)
  clear c5 z5 HV5 BV5 OV5
  generalize v5.setCell ⟨N, 4, none⟩ (.slice ad5 n5 cap5) = w5 at *
  refine (sets_any T6 _ (V0.out.below B5.out) F6.out).mono ?_
  rintro e v6 ⟨ad6, cap6, at6, its6, rfl, hr, ho, hb⟩
  have HV6 := hid ((hb.block N (lt_of_heap HN5.out)).trans HN5.out)
  have BV6 := hid (belowCat B5.out hb)
  have OV6 := hid (OD2.out.below hb)
  rw [HT6.out] at hr
  have AV6 := hid (A5.out.add hb (gi_is HG.out.s hr) ho (by have := lt_of_heap HN5.out; omega))
  obtain ⟨n6, hn6⟩ : ∃ n, its6.length = n := ⟨_, rfl⟩
  rw [hn6] at AV6
  rw [hn6]
  clear A5
  clear hr ho hb hn6 HN5 B5 OD2
  obtain ⟨E6, hE6⟩ : ∃ E : Int, (if at6 = 0 then 0 else 3) = E := ⟨_, rfl⟩
  rw [hE6]
  clear hE6
  have c6 := cell_of_heap (i := 5) HV6.out rfl
  have z6 := frozen_of_heap (i := 5) HV6.out
  go_wp2
  have HN6 := hid (show (v6.setCell ⟨N, 5, none⟩ (.slice ad6 n6 cap6)).heap[N]? = some (.cells #[.slice ad1 n1 cap1, .slice ad2 n2 cap2, .slice ad3 n3 cap3, .slice ad4 n4 cap4, .slice ad5 n5 cap5, .slice ad6 n6 cap6] 84 (0, 0)) from tab_set HV6.out)
  have A6 := hid (AV6.out.set (i := 5) (v := .slice ad6 n6 cap6) (show N < N + 1 by omega))
  clear AV6
  have B6 := hid (show Below w.heap.size w (v6.setCell ⟨N, 5, none⟩ (.slice ad6 n6 cap6)) from BV6.out.setCell (p := ⟨N, 5, none⟩) (by have := HNE.out; show w.heap.size ≤ N; omega) _)
  have OD3 := hid (OutD.setOther (i := 5) (u := (.slice ad6 n6 cap6)) OV6.out HV6.out)
  clear c6 z6 HV6 BV6 OV6
  go_ret
  have e3 := HN3E.out
  exact ⟨N, (ad1, n1, cap1), (ad2, n2, cap2), (ad4, n4, cap4), (ad5, n5, cap5), (ad6, n6, cap6), ad3, cap3, its3, vs3, rfl, by rw [e3]; exact HN6.out, by have := HNE.out; omega, HL.out, by rw [e3]; exact OD3.out, A6.out.low (by have := HNE.out; omega), B6.out⟩
end Go.Proofs.YtgalmlelnolodaaGreatDoor
namespace Go.Proofs.YtgalmlelnolodaaGreatDoor
open Go.RowKit
set_option linter.unusedVariables false

theorem OutD.setOtherR {w : World} {lo base N i : Nat} {v u : Value} {its : List Dt} {vs : List Value} {cs : Array Value} (o : OutD w lo base v its vs) (h : w.heap[N]? = some (.cells cs 30 (0, 0))) : OutD (w.setCell ⟨N, i, none⟩ u) lo base v its vs :=
  ⟨owns_of_blocks o.own fun q hq => by
    obtain ⟨ds, hds⟩ := rowB o.own hq
    exact Below.heap_setCell _ _ _ _ (heap_ne hds h (by decide)), fun k hk => by
    obtain ⟨g, cap, h1, h2, h3⟩ := o.row k hk
    exact ⟨g, cap, h1, h2, h3.keep fun ds hds => (Below.heap_setCell _ _ _ _ (heap_ne hds h (by decide))).trans hds⟩⟩
theorem tab_setR {w : World} {N i : Nat} {s0 s1 s2 s3 s4 s5 v : Value} (h : w.heap[N]? = some (.cells #[s0, s1, s2, s3, s4, s5] 30 (0, 0))) : (w.setCell ⟨N, i, none⟩ v).heap[N]? = some (.cells (#[s0, s1, s2, s3, s4, s5].setIfInBounds i v) 30 (0, 0)) := heap_setCell_at _ _ _ _ _ _ _ h
set_option maxRecDepth 2000 in
set_option maxHeartbeats 12800000 in
theorem rnewX_any (itR itC itL itW itS : List It) (G : Gi itR itC itL itW itS) (w : World) :
    Calls Tryz.prog 6 #[] w fun e w' => ∃ (s0 s1 s3 s4 s5 : Sl3) (ad : Option Addr) (cap : Nat) (its : List Dt) (vs : List Value), e = .returned (.agg #[s0.v, s1.v, .slice ad its.length cap, s3.v, s4.v, s5.v]) ∧
      its.map dtE = chL ∧ OutD w' w.heap.size w.heap.size (.slice ad its.length cap) its vs ∧ AllR w' w.heap.size [(nmC, itS, s5), (rgC, itW, s4), (rgC, itL, s3), (rgC, itC, s1), (rgC, itR, s0)] ∧ Below w.heap.size w w' := by
  have HG := hid G
  clear G
  go_enter Tryz.func6, Tryz.ntmps6
  generalize hT1 : ByteArray.mk _ = T1
  generalize hT2 : ByteArray.mk _ = T2
  generalize hT3 : ByteArray.mk _ = T3
  generalize hT4 : ByteArray.mk _ = T4
  generalize hT5 : ByteArray.mk _ = T5
  generalize hT6 : ByteArray.mk _ = T6
  have HT1 := hid (show T1 = txR from by subst hT1; kernel_rfl)
  have F1 := hid (show T1.size ≤ 1000000 from Nat.le_of_ble_eq_true (by subst hT1; kernel_rfl))
  have HT2 := hid (show T2 = txC from by subst hT2; kernel_rfl)
  have F2 := hid (show T2.size ≤ 1000000 from Nat.le_of_ble_eq_true (by subst hT2; kernel_rfl))
  have HT4 := hid (show T4 = txL from by subst hT4; kernel_rfl)
  have F4 := hid (show T4.size ≤ 1000000 from Nat.le_of_ble_eq_true (by subst hT4; kernel_rfl))
  have HT5 := hid (show T5 = txW from by subst hT5; kernel_rfl)
  have F5 := hid (show T5.size ≤ 1000000 from Nat.le_of_ble_eq_true (by subst hT5; kernel_rfl))
  have HT6 := hid (show T6 = txS from by subst hT6; kernel_rfl)
  have F6 := hid (show T6.size ≤ 1000000 from Nat.le_of_ble_eq_true (by subst hT6; kernel_rfl))
  have F3 : goodV dcK upD 400 T3 = true := by subst hT3; kernel_rfl
  rw [dcK_eq] at F3
  have F3 := hid F3
  have E3 : eqV dcK (lwV T3) chL = true := by subst hT3; kernel_rfl
  rw [dcK_eq] at E3
  have E3 := hid E3
  clear hT1 hT2 hT3 hT4 hT5 hT6
  go_wp2_with fail
  have HR0 := hid (show ((w.alloc (.cells #[.slice none 0 0, .slice none 0 0, .slice none 0 0, .slice none 0 0, .slice none 0 0, .slice none 0 0] 30)).alloc (.cells #[.slice none 0 0, .slice none 0 0, .slice none 0 0, .slice none 0 0, .slice none 0 0, .slice none 0 0] 30)).heap[w.heap.size]? = some (.cells #[.slice none 0 0, .slice none 0 0, .slice none 0 0, .slice none 0 0, .slice none 0 0, .slice none 0 0] 30 (0, 0)) from by rw [heap_alloc_old _ _ _ (by simp)]; exact heap_alloc_at _ _)
  have HN0 := hid (show ((w.alloc (.cells #[.slice none 0 0, .slice none 0 0, .slice none 0 0, .slice none 0 0, .slice none 0 0, .slice none 0 0] 30)).alloc (.cells #[.slice none 0 0, .slice none 0 0, .slice none 0 0, .slice none 0 0, .slice none 0 0, .slice none 0 0] 30)).heap[w.heap.size + 1]? = some (.cells #[.slice none 0 0, .slice none 0 0, .slice none 0 0, .slice none 0 0, .slice none 0 0, .slice none 0 0] 30 (0, 0)) from by
    have := heap_alloc_at (w.alloc (.cells #[.slice none 0 0, .slice none 0 0, .slice none 0 0, .slice none 0 0, .slice none 0 0, .slice none 0 0] 30)) (.cells #[.slice none 0 0, .slice none 0 0, .slice none 0 0, .slice none 0 0, .slice none 0 0, .slice none 0 0] 30); rw [World.size_alloc] at this; exact this)
  have B0 := hid (show Below w.heap.size w ((w.alloc (.cells #[.slice none 0 0, .slice none 0 0, .slice none 0 0, .slice none 0 0, .slice none 0 0, .slice none 0 0] 30)).alloc (.cells #[.slice none 0 0, .slice none 0 0, .slice none 0 0, .slice none 0 0, .slice none 0 0, .slice none 0 0] 30)) from ((Below.refl _ _).alloc (Nat.le_refl _) _).alloc (by simp) _)
  generalize ((w.alloc (.cells #[.slice none 0 0, .slice none 0 0, .slice none 0 0, .slice none 0 0, .slice none 0 0, .slice none 0 0] 30)).alloc (.cells #[.slice none 0 0, .slice none 0 0, .slice none 0 0, .slice none 0 0, .slice none 0 0, .slice none 0 0] 30)) = w0 at *
  obtain ⟨R, hR⟩ : ∃ R, w.heap.size = R := ⟨_, rfl⟩
  have HRE := hid hR
  rw [hR] at HN0 HR0 ⊢
  clear hR
  have A0 := hid (AllR.nil w0 (R + 1 + 1))
  refine (rranges_any T1 _ F1.out).mono ?_
  rintro e v1 ⟨ad1, cap1, at1, its1, rfl, hr, ho, hb⟩
  have HV1 := hid ((hb.block (R + 1) (lt_of_heap HN0.out)).trans HN0.out)
  have HU1 := hid ((hb.block R (lt_of_heap HR0.out)).trans HR0.out)
  have BV1 := hid (belowCat B0.out hb)
  rw [HT1.out] at hr
  have AV1 := hid (A0.out.add hb (gi_is HG.out.r hr) ho (by have := lt_of_heap HN0.out; omega))
  obtain ⟨n1, hn1⟩ : ∃ n, its1.length = n := ⟨_, rfl⟩
  rw [hn1] at AV1
  rw [hn1]
  clear A0
  clear hr ho hb hn1 HN0 HR0 B0
  have c1 := cell_of_heap (i := 0) HV1.out rfl
  have z1 := frozen_of_heap (i := 0) HV1.out
  go_wp2_with fail
  have HN1 := hid (show (v1.setCell ⟨R + 1, 0, none⟩ (.slice ad1 n1 cap1)).heap[R + 1]? = some (.cells #[.slice ad1 n1 cap1, .slice none 0 0, .slice none 0 0, .slice none 0 0, .slice none 0 0, .slice none 0 0] 30 (0, 0)) from tab_setR HV1.out)
  have HR1 := hid (show (v1.setCell ⟨R + 1, 0, none⟩ (.slice ad1 n1 cap1)).heap[R]? = some (.cells #[.slice none 0 0, .slice none 0 0, .slice none 0 0, .slice none 0 0, .slice none 0 0, .slice none 0 0] 30 (0, 0)) from (Below.heap_setCell _ _ _ _ (show R ≠ R + 1 by omega)).trans HU1.out)
  have A1 := hid (AV1.out.set (i := 0) (v := .slice ad1 n1 cap1) (show R + 1 < R + 1 + 1 by omega))
  clear AV1
  have B1 := hid (show Below w.heap.size w (v1.setCell ⟨R + 1, 0, none⟩ (.slice ad1 n1 cap1)) from BV1.out.setCell (p := ⟨R + 1, 0, none⟩) (by have := HRE.out; show w.heap.size ≤ R + 1; omega) _)
  clear c1 z1 HV1 HU1 BV1
  generalize v1.setCell ⟨R + 1, 0, none⟩ (.slice ad1 n1 cap1) = w1 at *
  refine (rclasses_any T2 _ F2.out).mono ?_
  rintro e v2 ⟨ad2, cap2, at2, its2, rfl, hr, ho, hb⟩
  have HV2 := hid ((hb.block (R + 1) (lt_of_heap HN1.out)).trans HN1.out)
  have HU2 := hid ((hb.block R (lt_of_heap HR1.out)).trans HR1.out)
  have BV2 := hid (belowCat B1.out hb)
  rw [HT2.out] at hr
  have AV2 := hid (A1.out.add hb (gi_is HG.out.c hr) ho (by have := lt_of_heap HN1.out; omega))
  obtain ⟨n2, hn2⟩ : ∃ n, its2.length = n := ⟨_, rfl⟩
  rw [hn2] at AV2
  rw [hn2]
  clear A1
  clear hr ho hb hn2 HN1 HR1 B1
  have c2 := cell_of_heap (i := 1) HV2.out rfl
  have z2 := frozen_of_heap (i := 1) HV2.out
  go_wp2_with fail
  have HN2 := hid (show (v2.setCell ⟨R + 1, 1, none⟩ (.slice ad2 n2 cap2)).heap[R + 1]? = some (.cells #[.slice ad1 n1 cap1, .slice ad2 n2 cap2, .slice none 0 0, .slice none 0 0, .slice none 0 0, .slice none 0 0] 30 (0, 0)) from tab_setR HV2.out)
  have HR2 := hid (show (v2.setCell ⟨R + 1, 1, none⟩ (.slice ad2 n2 cap2)).heap[R]? = some (.cells #[.slice none 0 0, .slice none 0 0, .slice none 0 0, .slice none 0 0, .slice none 0 0, .slice none 0 0] 30 (0, 0)) from (Below.heap_setCell _ _ _ _ (show R ≠ R + 1 by omega)).trans HU2.out)
  have A2 := hid (AV2.out.set (i := 1) (v := .slice ad2 n2 cap2) (show R + 1 < R + 1 + 1 by omega))
  clear AV2
  have B2 := hid (show Below w.heap.size w (v2.setCell ⟨R + 1, 1, none⟩ (.slice ad2 n2 cap2)) from BV2.out.setCell (p := ⟨R + 1, 1, none⟩) (by have := HRE.out; show w.heap.size ≤ R + 1; omega) _)
  clear c2 z2 HV2 HU2 BV2
  generalize v2.setCell ⟨R + 1, 1, none⟩ (.slice ad2 n2 cap2) = w2 at *
  refine (rdecomps_any T3 _ (goodV_size F3.out)).mono ?_
  rintro e v3 ⟨ad3, cap3, at3, its3, vs3, rfl, hr, ho, hb⟩
  obtain ⟨rfl, _⟩ := goodV_said F3.out hr
  have HL := hid (its_lit E3.out hr)
  have OD0 := hid (show OutD v3 w.heap.size w.heap.size (.slice ad3 its3.length cap3) its3 vs3 from ho.base B2.out.size B2.out.size)
  have HV3 := hid ((hb.block (R + 1) (lt_of_heap HN2.out)).trans HN2.out)
  have HU3 := hid ((hb.block R (lt_of_heap HR2.out)).trans HR2.out)
  have BV3 := hid (belowCat B2.out hb)
  have AV3 := hid (A2.out.below hb)
  clear A2
  obtain ⟨n3, hn3⟩ : ∃ n, its3.length = n := ⟨_, rfl⟩
  rw [hn3] at OD0
  have HN3E := hid hn3
  rw [hn3]
  clear hr ho hb hn3 HN2 HR2 B2
  have c3 := cell_of_heap (i := 2) HV3.out rfl
  have z3 := frozen_of_heap (i := 2) HV3.out
  go_wp2_with fail
  have HN3 := hid (show (v3.setCell ⟨R + 1, 2, none⟩ (.slice ad3 n3 cap3)).heap[R + 1]? = some (.cells #[.slice ad1 n1 cap1, .slice ad2 n2 cap2, .slice ad3 n3 cap3, .slice none 0 0, .slice none 0 0, .slice none 0 0] 30 (0, 0)) from tab_setR HV3.out)
  have HR3 := hid (show (v3.setCell ⟨R + 1, 2, none⟩ (.slice ad3 n3 cap3)).heap[R]? = some (.cells #[.slice none 0 0, .slice none 0 0, .slice none 0 0, .slice none 0 0, .slice none 0 0, .slice none 0 0] 30 (0, 0)) from (Below.heap_setCell _ _ _ _ (show R ≠ R + 1 by omega)).trans HU3.out)
  have A3 := hid (AV3.out.set (i := 2) (v := .slice ad3 n3 cap3) (show R + 1 < R + 1 + 1 by omega))
  clear AV3
  have B3 := hid (show Below w.heap.size w (v3.setCell ⟨R + 1, 2, none⟩ (.slice ad3 n3 cap3)) from BV3.out.setCell (p := ⟨R + 1, 2, none⟩) (by have := HRE.out; show w.heap.size ≤ R + 1; omega) _)
  have OD0 := hid (OutD.setOtherR (i := 2) (u := (.slice ad3 n3 cap3)) OD0.out HV3.out)
  clear c3 z3 HV3 HU3 BV3
  generalize v3.setCell ⟨R + 1, 2, none⟩ (.slice ad3 n3 cap3) = w3 at *
  refine (rruns_any T4 _ F4.out).mono ?_
  rintro e v4 ⟨ad4, cap4, at4, its4, rfl, hr, ho, hb⟩
  have HV4 := hid ((hb.block (R + 1) (lt_of_heap HN3.out)).trans HN3.out)
  have HU4 := hid ((hb.block R (lt_of_heap HR3.out)).trans HR3.out)
  have BV4 := hid (belowCat B3.out hb)
  have OV4 := hid (OD0.out.below hb)
  rw [HT4.out] at hr
  have AV4 := hid (A3.out.add hb (gi_is HG.out.l hr) ho (by have := lt_of_heap HN3.out; omega))
  obtain ⟨n4, hn4⟩ : ∃ n, its4.length = n := ⟨_, rfl⟩
  rw [hn4] at AV4
  rw [hn4]
  clear A3
  clear hr ho hb hn4 HN3 HR3 B3 OD0
  have c4 := cell_of_heap (i := 3) HV4.out rfl
  have z4 := frozen_of_heap (i := 3) HV4.out
  go_wp2_with fail
  have HN4 := hid (show (v4.setCell ⟨R + 1, 3, none⟩ (.slice ad4 n4 cap4)).heap[R + 1]? = some (.cells #[.slice ad1 n1 cap1, .slice ad2 n2 cap2, .slice ad3 n3 cap3, .slice ad4 n4 cap4, .slice none 0 0, .slice none 0 0] 30 (0, 0)) from tab_setR HV4.out)
  have HR4 := hid (show (v4.setCell ⟨R + 1, 3, none⟩ (.slice ad4 n4 cap4)).heap[R]? = some (.cells #[.slice none 0 0, .slice none 0 0, .slice none 0 0, .slice none 0 0, .slice none 0 0, .slice none 0 0] 30 (0, 0)) from (Below.heap_setCell _ _ _ _ (show R ≠ R + 1 by omega)).trans HU4.out)
  have A4 := hid (AV4.out.set (i := 3) (v := .slice ad4 n4 cap4) (show R + 1 < R + 1 + 1 by omega))
  clear AV4
  have B4 := hid (show Below w.heap.size w (v4.setCell ⟨R + 1, 3, none⟩ (.slice ad4 n4 cap4)) from BV4.out.setCell (p := ⟨R + 1, 3, none⟩) (by have := HRE.out; show w.heap.size ≤ R + 1; omega) _)
  have OD1 := hid (OutD.setOtherR (i := 3) (u := (.slice ad4 n4 cap4)) OV4.out HV4.out)
  clear c4 z4 HV4 HU4 BV4 OV4
  generalize v4.setCell ⟨R + 1, 3, none⟩ (.slice ad4 n4 cap4) = w4 at *
  refine (rruns_any T5 _ F5.out).mono ?_
  rintro e v5 ⟨ad5, cap5, at5, its5, rfl, hr, ho, hb⟩
  have HV5 := hid ((hb.block (R + 1) (lt_of_heap HN4.out)).trans HN4.out)
  have HU5 := hid ((hb.block R (lt_of_heap HR4.out)).trans HR4.out)
  have BV5 := hid (belowCat B4.out hb)
  have OV5 := hid (OD1.out.below hb)
  rw [HT5.out] at hr
  have AV5 := hid (A4.out.add hb (gi_is HG.out.w hr) ho (by have := lt_of_heap HN4.out; omega))
  obtain ⟨n5, hn5⟩ : ∃ n, its5.length = n := ⟨_, rfl⟩
  rw [hn5] at AV5
  rw [hn5]
  clear A4
  clear hr ho hb hn5 HN4 HR4 B4 OD1
  have c5 := cell_of_heap (i := 4) HV5.out rfl
  have z5 := frozen_of_heap (i := 4) HV5.out
  go_wp2_with fail
  have HN5 := hid (show (v5.setCell ⟨R + 1, 4, none⟩ (.slice ad5 n5 cap5)).heap[R + 1]? = some (.cells #[.slice ad1 n1 cap1, .slice ad2 n2 cap2, .slice ad3 n3 cap3, .slice ad4 n4 cap4, .slice ad5 n5 cap5, .slice none 0 0] 30 (0, 0)) from tab_setR HV5.out)
  have HR5 := hid (show (v5.setCell ⟨R + 1, 4, none⟩ (.slice ad5 n5 cap5)).heap[R]? = some (.cells #[.slice none 0 0, .slice none 0 0, .slice none 0 0, .slice none 0 0, .slice none 0 0, .slice none 0 0] 30 (0, 0)) from (Below.heap_setCell _ _ _ _ (show R ≠ R + 1 by omega)).trans HU5.out)
  have A5 := hid (AV5.out.set (i := 4) (v := .slice ad5 n5 cap5) (show R + 1 < R + 1 + 1 by omega))
  clear AV5
  have B5 := hid (show Below w.heap.size w (v5.setCell ⟨R + 1, 4, none⟩ (.slice ad5 n5 cap5)) from BV5.out.setCell (p := ⟨R + 1, 4, none⟩) (by have := HRE.out; show w.heap.size ≤ R + 1; omega) _)
  have OD2 := hid (OutD.setOtherR (i := 4) (u := (.slice ad5 n5 cap5)) OV5.out HV5.out)
  clear c5 z5 HV5 HU5 BV5 OV5
  generalize v5.setCell ⟨R + 1, 4, none⟩ (.slice ad5 n5 cap5) = w5 at *
  refine (rsets_any T6 _ F6.out).mono ?_
  rintro e v6 ⟨ad6, cap6, at6, its6, rfl, hr, ho, hb⟩
  have HV6 := hid ((hb.block (R + 1) (lt_of_heap HN5.out)).trans HN5.out)
  have HU6 := hid ((hb.block R (lt_of_heap HR5.out)).trans HR5.out)
  have BV6 := hid (belowCat B5.out hb)
  have OV6 := hid (OD2.out.below hb)
  rw [HT6.out] at hr
  have AV6 := hid (A5.out.add hb (gi_is HG.out.s hr) ho (by have := lt_of_heap HN5.out; omega))
  obtain ⟨n6, hn6⟩ : ∃ n, its6.length = n := ⟨_, rfl⟩
  rw [hn6] at AV6
  rw [hn6]
  clear A5
  clear hr ho hb hn6 HN5 HR5 B5 OD2
  have c6 := cell_of_heap (i := 5) HV6.out rfl
  have z6 := frozen_of_heap (i := 5) HV6.out
  go_upto_region 8 with fail
  have HN6 := hid (show (v6.setCell ⟨R + 1, 5, none⟩ (.slice ad6 n6 cap6)).heap[R + 1]? = some (.cells #[.slice ad1 n1 cap1, .slice ad2 n2 cap2, .slice ad3 n3 cap3, .slice ad4 n4 cap4, .slice ad5 n5 cap5, .slice ad6 n6 cap6] 30 (0, 0)) from tab_setR HV6.out)
  have HR6 := hid (show (v6.setCell ⟨R + 1, 5, none⟩ (.slice ad6 n6 cap6)).heap[R]? = some (.cells #[.slice none 0 0, .slice none 0 0, .slice none 0 0, .slice none 0 0, .slice none 0 0, .slice none 0 0] 30 (0, 0)) from (Below.heap_setCell _ _ _ _ (show R ≠ R + 1 by omega)).trans HU6.out)
  have A6 := hid (AV6.out.set (i := 5) (v := .slice ad6 n6 cap6) (show R + 1 < R + 1 + 1 by omega))
  clear AV6
  have B6 := hid (show Below w.heap.size w (v6.setCell ⟨R + 1, 5, none⟩ (.slice ad6 n6 cap6)) from BV6.out.setCell (p := ⟨R + 1, 5, none⟩) (by have := HRE.out; show w.heap.size ≤ R + 1; omega) _)
  have OD3 := hid (OutD.setOtherR (i := 5) (u := (.slice ad6 n6 cap6)) OV6.out HV6.out)
  clear c6 z6 HV6 HU6 BV6 OV6
  generalize v6.setCell ⟨R + 1, 5, none⟩ (.slice ad6 n6 cap6) = w6 at *
  have k0 := cell_of_heap (i := 0) HN6.out rfl
  have r0 := cell_of_heap (i := 0) HR6.out rfl
  have y0 := frozen_of_heap (i := 0) HR6.out
  have k1 := cell_of_heap (i := 1) HN6.out rfl
  have r1 := cell_of_heap (i := 1) HR6.out rfl
  have y1 := frozen_of_heap (i := 1) HR6.out
  have k2 := cell_of_heap (i := 2) HN6.out rfl
  have r2 := cell_of_heap (i := 2) HR6.out rfl
  have y2 := frozen_of_heap (i := 2) HR6.out
  have k3 := cell_of_heap (i := 3) HN6.out rfl
  have r3 := cell_of_heap (i := 3) HR6.out rfl
  have y3 := frozen_of_heap (i := 3) HR6.out
  have k4 := cell_of_heap (i := 4) HN6.out rfl
  have r4 := cell_of_heap (i := 4) HR6.out rfl
  have y4 := frozen_of_heap (i := 4) HR6.out
  have k5 := cell_of_heap (i := 5) HN6.out rfl
  have r5 := cell_of_heap (i := 5) HR6.out rfl
  have y5 := frozen_of_heap (i := 5) HR6.out
  go_wp2
  have hS : ((((((w6.setCell ⟨R, 0, none⟩ (.slice ad1 n1 cap1)).setCell ⟨R, 1, none⟩ (.slice ad2 n2 cap2)).setCell ⟨R, 2, none⟩ (.slice ad3 n3 cap3)).setCell ⟨R, 3, none⟩ (.slice ad4 n4 cap4)).setCell ⟨R, 4, none⟩ (.slice ad5 n5 cap5)).setCell ⟨R, 5, none⟩ (.slice ad6 n6 cap6)).heap[R]? = some (.cells #[.slice ad1 n1 cap1, .slice ad2 n2 cap2, .slice ad3 n3 cap3, .slice ad4 n4 cap4, .slice ad5 n5 cap5, .slice ad6 n6 cap6] 30 (0, 0)) := (tab_setR (i := 5) (v := .slice ad6 n6 cap6) (tab_setR (i := 4) (v := .slice ad5 n5 cap5) (tab_setR (i := 3) (v := .slice ad4 n4 cap4) (tab_setR (i := 2) (v := .slice ad3 n3 cap3) (tab_setR (i := 1) (v := .slice ad2 n2 cap2) (tab_setR (i := 0) (v := .slice ad1 n1 cap1) HR6.out))))))
  have OZ := hid (show OutD ((((((w6.setCell ⟨R, 0, none⟩ (.slice ad1 n1 cap1)).setCell ⟨R, 1, none⟩ (.slice ad2 n2 cap2)).setCell ⟨R, 2, none⟩ (.slice ad3 n3 cap3)).setCell ⟨R, 3, none⟩ (.slice ad4 n4 cap4)).setCell ⟨R, 4, none⟩ (.slice ad5 n5 cap5)).setCell ⟨R, 5, none⟩ (.slice ad6 n6 cap6)) w.heap.size w.heap.size (.slice ad3 n3 cap3) its3 vs3 from (OutD.setOtherR (i := 5) (u := .slice ad6 n6 cap6) (OutD.setOtherR (i := 4) (u := .slice ad5 n5 cap5) (OutD.setOtherR (i := 3) (u := .slice ad4 n4 cap4) (OutD.setOtherR (i := 2) (u := .slice ad3 n3 cap3) (OutD.setOtherR (i := 1) (u := .slice ad2 n2 cap2) (OutD.setOtherR (i := 0) (u := .slice ad1 n1 cap1) OD3.out HR6.out) (tab_setR (i := 0) (v := .slice ad1 n1 cap1) HR6.out)) (tab_setR (i := 1) (v := .slice ad2 n2 cap2) (tab_setR (i := 0) (v := .slice ad1 n1 cap1) HR6.out))) (tab_setR (i := 2) (v := .slice ad3 n3 cap3) (tab_setR (i := 1) (v := .slice ad2 n2 cap2) (tab_setR (i := 0) (v := .slice ad1 n1 cap1) HR6.out)))) (tab_setR (i := 3) (v := .slice ad4 n4 cap4) (tab_setR (i := 2) (v := .slice ad3 n3 cap3) (tab_setR (i := 1) (v := .slice ad2 n2 cap2) (tab_setR (i := 0) (v := .slice ad1 n1 cap1) HR6.out))))) (tab_setR (i := 4) (v := .slice ad5 n5 cap5) (tab_setR (i := 3) (v := .slice ad4 n4 cap4) (tab_setR (i := 2) (v := .slice ad3 n3 cap3) (tab_setR (i := 1) (v := .slice ad2 n2 cap2) (tab_setR (i := 0) (v := .slice ad1 n1 cap1) HR6.out)))))))
  have AZ := (((((((A6.out.set (N := R) (i := 0) (v := .slice ad1 n1 cap1) (by omega)).set (N := R) (i := 1) (v := .slice ad2 n2 cap2) (by omega)).set (N := R) (i := 2) (v := .slice ad3 n3 cap3) (by omega)).set (N := R) (i := 3) (v := .slice ad4 n4 cap4) (by omega)).set (N := R) (i := 4) (v := .slice ad5 n5 cap5) (by omega)).set (N := R) (i := 5) (v := .slice ad6 n6 cap6) (by omega)).low (show w.heap.size ≤ R + 1 + 1 by have := HRE.out; omega))
  have d0 := cell_of_heap (i := 0) hS rfl
  have d1 := cell_of_heap (i := 1) hS rfl
  have d2 := cell_of_heap (i := 2) hS rfl
  have d3 := cell_of_heap (i := 3) hS rfl
  have d4 := cell_of_heap (i := 4) hS rfl
  have d5 := cell_of_heap (i := 5) hS rfl
  have hb := blw_set6 (a := .slice ad1 n1 cap1) (b := .slice ad2 n2 cap2) (c := .slice ad3 n3 cap3) (d := .slice ad4 n4 cap4) (e := .slice ad5 n5 cap5) (f := .slice ad6 n6 cap6) (g := R) B6.out (by have := HRE.out; omega)
  have e3 := HN3E.out
  exact bodyPost_ret (v := .agg #[.slice ad1 n1 cap1, .slice ad2 n2 cap2, .slice ad3 n3 cap3, .slice ad4 n4 cap4, .slice ad5 n5 cap5, .slice ad6 n6 cap6]) (by simp only [results, Tryz.results6]; simp [go_sem, d0, d1, d2, d3, d4, d5]) rfl
    ⟨(ad1, n1, cap1), (ad2, n2, cap2), (ad4, n4, cap4), (ad5, n5, cap5), (ad6, n6, cap6), ad3, cap3, its3, vs3, by rw [e3], HL.out, by rw [e3]; exact OZ.out, AZ, hb⟩
end Go.Proofs.YtgalmlelnolodaaGreatDoor
