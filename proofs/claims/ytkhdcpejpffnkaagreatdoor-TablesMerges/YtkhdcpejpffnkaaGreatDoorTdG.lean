/- Package tables' New, lines and Full, over this seat's translation: what the chart of what points become says. Conditions: what the library's variables hold is some number, some errors. -/
import Derived.Test.YtkhdcpejpffnkaaGreatDoorTdF
import Derived.Test.YtkhdcpejpffnkaaGreatDoorChWr
import Derived.Test.YtkhdcpejpffnkaaGreatDoorChGa
namespace Go.Proofs.YtkhdcpejpffnkaaGreatDoor
open Go.RowKit
set_option linter.unusedVariables false

/-- a slice's three numbers -/
abbrev Sl3 := Option Addr × Nat × Nat
abbrev Sl3.v (s : Sl3) : Value := .slice s.1 s.2.1 s.2.2
theorem OutD.setOther {w : World} {lo base N i : Nat} {v u : Value} {its : List Dt} {vs : List Value} {cs : Array Value} (o : OutD w lo base v its vs) (h : w.heap[N]? = some (.cells cs 90 (0, 0))) : OutD (w.setCell ⟨N, i, none⟩ u) lo base v its vs :=
  ⟨owns_of_blocks o.own fun q hq => by
    obtain ⟨ds, hds⟩ := rowB o.own hq
    exact Below.heap_setCell _ _ _ _ (heap_ne hds h (by decide)), fun k hk => by
    obtain ⟨g, cap, h1, h2, h3⟩ := o.row k hk
    exact ⟨g, cap, h1, h2, h3.keep fun ds hds => (Below.heap_setCell _ _ _ _ (heap_ne hds h (by decide))).trans hds⟩⟩
theorem tab_set {w : World} {N i : Nat} {s0 s1 s2 s3 s4 s5 v : Value} (h : w.heap[N]? = some (.cells #[s0, s1, s2, s3, s4, s5] 90 (0, 0))) : (w.setCell ⟨N, i, none⟩ v).heap[N]? = some (.cells (#[s0, s1, s2, s3, s4, s5].setIfInBounds i v) 90 (0, 0)) := heap_setCell_at _ _ _ _ _ _ _ h
set_option maxRecDepth 2000 in
set_option maxHeartbeats 12800000 in
theorem new_any (w : World) (v : Vr w) :
    Calls Tryz.prog 9 #[] w fun e w' => ∃ (g : Nat) (s0 s1 s3 s4 s5 : Sl3) (ad : Option Addr) (cap : Nat) (its : List Dt) (vs : List Value), e = .returned (.pointer (some ⟨g, 0, none⟩)) ∧ w'.heap[g]? = some (.cells #[s0.v, s1.v, .slice ad its.length cap, s3.v, s4.v, s5.v] 90 (0, 0)) ∧ w.heap.size ≤ g ∧
      its.map dtE = chL ∧ OutD w' w.heap.size w.heap.size (.slice ad its.length cap) its vs ∧ Below w.heap.size w w' := by
  have V0 := hid v
  clear v
  go_enter Tryz.func9, Tryz.ntmps9
  generalize hT1 : ByteArray.mk _ = T1
  generalize hT2 : ByteArray.mk _ = T2
  generalize hT3 : ByteArray.mk _ = T3
  generalize hT4 : ByteArray.mk _ = T4
  generalize hT5 : ByteArray.mk _ = T5
  generalize hT6 : ByteArray.mk _ = T6
  have F1 := hid (show T1.size ≤ 1000000 from Nat.le_of_ble_eq_true (by subst hT1; kernel_rfl))
  have F2 := hid (show T2.size ≤ 1000000 from Nat.le_of_ble_eq_true (by subst hT2; kernel_rfl))
  have F4 := hid (show T4.size ≤ 1000000 from Nat.le_of_ble_eq_true (by subst hT4; kernel_rfl))
  have F5 := hid (show T5.size ≤ 1000000 from Nat.le_of_ble_eq_true (by subst hT5; kernel_rfl))
  have F6 := hid (show T6.size ≤ 1000000 from Nat.le_of_ble_eq_true (by subst hT6; kernel_rfl))
  have F3 : goodV dcK upD 400 T3 = true := by subst hT3; kernel_rfl
  rw [dcK_eq] at F3
  have F3 := hid F3
  have E3 : eqV dcK (lwV T3) chL = true := by subst hT3; kernel_rfl
  rw [dcK_eq] at E3
  have E3 := hid E3
  clear hT1 hT2 hT3 hT4 hT5 hT6
  go_wp2_with fail
  have HN0 := hid (heap_alloc_at w (.cells #[.slice none 0 0, .slice none 0 0, .slice none 0 0, .slice none 0 0, .slice none 0 0, .slice none 0 0] 90))
  have B0 := hid (show Below w.heap.size w (w.alloc (.cells #[.slice none 0 0, .slice none 0 0, .slice none 0 0, .slice none 0 0, .slice none 0 0, .slice none 0 0] 90)) from (Below.refl _ _).alloc (Nat.le_refl _) _)
  generalize w.alloc (.cells #[.slice none 0 0, .slice none 0 0, .slice none 0 0, .slice none 0 0, .slice none 0 0, .slice none 0 0] 90) = w0 at *
  obtain ⟨N, hN⟩ : ∃ N, w.heap.size = N := ⟨_, rfl⟩
  have HNE := hid hN
  rw [hN] at HN0 ⊢
  clear hN
  refine (ranges_any T1 _ (V0.out.below B0.out) F1.out).mono ?_
  rintro e v1 ⟨ad1, cap1, at1, its1, rfl, hr, ho, hb⟩
  have HV1 := hid ((hb.block N (lt_of_heap HN0.out)).trans HN0.out)
  have BV1 := hid (belowCat B0.out hb)
  obtain ⟨n1, hn1⟩ : ∃ n, its1.length = n := ⟨_, rfl⟩
  rw [hn1]
  clear hr ho hb hn1 HN0 B0
  obtain ⟨E1, hE1⟩ : ∃ E : Int, (if at1 = 0 then 0 else 3) = E := ⟨_, rfl⟩
  rw [hE1]
  clear hE1
  have c1 := cell_of_heap (i := 0) HV1.out rfl
  have z1 := frozen_of_heap (i := 0) HV1.out
  go_wp2_with fail
  have HN1 := hid (show (v1.setCell ⟨N, 0, none⟩ (.slice ad1 n1 cap1)).heap[N]? = some (.cells #[.slice ad1 n1 cap1, .slice none 0 0, .slice none 0 0, .slice none 0 0, .slice none 0 0, .slice none 0 0] 90 (0, 0)) from tab_set HV1.out)
  have B1 := hid (show Below w.heap.size w (v1.setCell ⟨N, 0, none⟩ (.slice ad1 n1 cap1)) from BV1.out.setCell (p := ⟨N, 0, none⟩) (by have := HNE.out; show w.heap.size ≤ N; omega) _)
  clear c1 z1 HV1 BV1
  generalize v1.setCell ⟨N, 0, none⟩ (.slice ad1 n1 cap1) = w1 at *
  refine (classes_any T2 _ (V0.out.below B1.out) F2.out).mono ?_
  rintro e v2 ⟨ad2, cap2, at2, its2, rfl, hr, ho, hb⟩
  have HV2 := hid ((hb.block N (lt_of_heap HN1.out)).trans HN1.out)
  have BV2 := hid (belowCat B1.out hb)
  obtain ⟨n2, hn2⟩ : ∃ n, its2.length = n := ⟨_, rfl⟩
  rw [hn2]
  clear hr ho hb hn2 HN1 B1
  obtain ⟨E2, hE2⟩ : ∃ E : Int, (if at2 = 0 then 0 else 3) = E := ⟨_, rfl⟩
  rw [hE2]
  clear hE2
  have c2 := cell_of_heap (i := 1) HV2.out rfl
  have z2 := frozen_of_heap (i := 1) HV2.out
  go_wp2_with fail
  have HN2 := hid (show (v2.setCell ⟨N, 1, none⟩ (.slice ad2 n2 cap2)).heap[N]? = some (.cells #[.slice ad1 n1 cap1, .slice ad2 n2 cap2, .slice none 0 0, .slice none 0 0, .slice none 0 0, .slice none 0 0] 90 (0, 0)) from tab_set HV2.out)
  have B2 := hid (show Below w.heap.size w (v2.setCell ⟨N, 1, none⟩ (.slice ad2 n2 cap2)) from BV2.out.setCell (p := ⟨N, 1, none⟩) (by have := HNE.out; show w.heap.size ≤ N; omega) _)
  clear c2 z2 HV2 BV2
  generalize v2.setCell ⟨N, 1, none⟩ (.slice ad2 n2 cap2) = w2 at *
  refine (decomps_any T3 _ (V0.out.below B2.out) (goodV_size F3.out)).mono ?_
  rintro e v3 ⟨ad3, cap3, at3, its3, vs3, rfl, hr, ho, hb⟩
  obtain ⟨rfl, _⟩ := goodV_said F3.out hr
  have HL := hid (its_lit E3.out hr)
  have OD0 := hid (show OutD v3 w.heap.size w.heap.size (.slice ad3 its3.length cap3) its3 vs3 from ho.base B2.out.size B2.out.size)
  have HV3 := hid ((hb.block N (lt_of_heap HN2.out)).trans HN2.out)
  have BV3 := hid (belowCat B2.out hb)
  obtain ⟨n3, hn3⟩ : ∃ n, its3.length = n := ⟨_, rfl⟩
  rw [hn3] at OD0
  have HN3E := hid hn3
  rw [hn3]
  clear hr ho hb hn3 HN2 B2
  rw [if_pos rfl]
  have c3 := cell_of_heap (i := 2) HV3.out rfl
  have z3 := frozen_of_heap (i := 2) HV3.out
  go_wp2_with fail
  have HN3 := hid (show (v3.setCell ⟨N, 2, none⟩ (.slice ad3 n3 cap3)).heap[N]? = some (.cells #[.slice ad1 n1 cap1, .slice ad2 n2 cap2, .slice ad3 n3 cap3, .slice none 0 0, .slice none 0 0, .slice none 0 0] 90 (0, 0)) from tab_set HV3.out)
  have B3 := hid (show Below w.heap.size w (v3.setCell ⟨N, 2, none⟩ (.slice ad3 n3 cap3)) from BV3.out.setCell (p := ⟨N, 2, none⟩) (by have := HNE.out; show w.heap.size ≤ N; omega) _)
  have OD0 := hid (OutD.setOther (i := 2) (u := (.slice ad3 n3 cap3)) OD0.out HV3.out)
  clear c3 z3 HV3 BV3
  generalize v3.setCell ⟨N, 2, none⟩ (.slice ad3 n3 cap3) = w3 at *
  refine (runs_any T4 _ (V0.out.below B3.out) F4.out).mono ?_
  rintro e v4 ⟨ad4, cap4, at4, its4, rfl, hr, ho, hb⟩
  have HV4 := hid ((hb.block N (lt_of_heap HN3.out)).trans HN3.out)
  have BV4 := hid (belowCat B3.out hb)
  have OV4 := hid (OD0.out.below hb)
  obtain ⟨n4, hn4⟩ : ∃ n, its4.length = n := ⟨_, rfl⟩
  rw [hn4]
  clear hr ho hb hn4 HN3 B3 OD0
  obtain ⟨E4, hE4⟩ : ∃ E : Int, (if at4 = 0 then 0 else 3) = E := ⟨_, rfl⟩
  rw [hE4]
  clear hE4
  have c4 := cell_of_heap (i := 3) HV4.out rfl
  have z4 := frozen_of_heap (i := 3) HV4.out
  go_wp2_with fail
  have HN4 := hid (show (v4.setCell ⟨N, 3, none⟩ (.slice ad4 n4 cap4)).heap[N]? = some (.cells #[.slice ad1 n1 cap1, .slice ad2 n2 cap2, .slice ad3 n3 cap3, .slice ad4 n4 cap4, .slice none 0 0, .slice none 0 0] 90 (0, 0)) from tab_set HV4.out)
  have B4 := hid (show Below w.heap.size w (v4.setCell ⟨N, 3, none⟩ (.slice ad4 n4 cap4)) from BV4.out.setCell (p := ⟨N, 3, none⟩) (by have := HNE.out; show w.heap.size ≤ N; omega) _)
  have OD1 := hid (OutD.setOther (i := 3) (u := (.slice ad4 n4 cap4)) OV4.out HV4.out)
  clear c4 z4 HV4 BV4 OV4
  generalize v4.setCell ⟨N, 3, none⟩ (.slice ad4 n4 cap4) = w4 at *
  refine (runs_any T5 _ (V0.out.below B4.out) F5.out).mono ?_
  rintro e v5 ⟨ad5, cap5, at5, its5, rfl, hr, ho, hb⟩
  have HV5 := hid ((hb.block N (lt_of_heap HN4.out)).trans HN4.out)
  have BV5 := hid (belowCat B4.out hb)
  have OV5 := hid (OD1.out.below hb)
  obtain ⟨n5, hn5⟩ : ∃ n, its5.length = n := ⟨_, rfl⟩
  rw [hn5]
  clear hr ho hb hn5 HN4 B4 OD1
  obtain ⟨E5, hE5⟩ : ∃ E : Int, (if at5 = 0 then 0 else 3) = E := ⟨_, rfl⟩
  rw [hE5]
  clear hE5
  have c5 := cell_of_heap (i := 4) HV5.out rfl
  have z5 := frozen_of_heap (i := 4) HV5.out
  go_wp2_with fail
  have HN5 := hid (show (v5.setCell ⟨N, 4, none⟩ (.slice ad5 n5 cap5)).heap[N]? = some (.cells #[.slice ad1 n1 cap1, .slice ad2 n2 cap2, .slice ad3 n3 cap3, .slice ad4 n4 cap4, .slice ad5 n5 cap5, .slice none 0 0] 90 (0, 0)) from tab_set HV5.out)
  have B5 := hid (show Below w.heap.size w (v5.setCell ⟨N, 4, none⟩ (.slice ad5 n5 cap5)) from BV5.out.setCell (p := ⟨N, 4, none⟩) (by have := HNE.out; show w.heap.size ≤ N; omega) _)
  have OD2 := hid (OutD.setOther (i := 4) (u := (.slice ad5 n5 cap5)) OV5.out HV5.out)
  clear c5 z5 HV5 BV5 OV5
  generalize v5.setCell ⟨N, 4, none⟩ (.slice ad5 n5 cap5) = w5 at *
  refine (sets_any T6 _ (V0.out.below B5.out) F6.out).mono ?_
  rintro e v6 ⟨ad6, cap6, at6, its6, rfl, hr, ho, hb⟩
  have HV6 := hid ((hb.block N (lt_of_heap HN5.out)).trans HN5.out)
  have BV6 := hid (belowCat B5.out hb)
  have OV6 := hid (OD2.out.below hb)
  obtain ⟨n6, hn6⟩ : ∃ n, its6.length = n := ⟨_, rfl⟩
  rw [hn6]
  clear hr ho hb hn6 HN5 B5 OD2
  obtain ⟨E6, hE6⟩ : ∃ E : Int, (if at6 = 0 then 0 else 3) = E := ⟨_, rfl⟩
  rw [hE6]
  clear hE6
  have c6 := cell_of_heap (i := 5) HV6.out rfl
  have z6 := frozen_of_heap (i := 5) HV6.out
  go_wp2
  have HN6 := hid (show (v6.setCell ⟨N, 5, none⟩ (.slice ad6 n6 cap6)).heap[N]? = some (.cells #[.slice ad1 n1 cap1, .slice ad2 n2 cap2, .slice ad3 n3 cap3, .slice ad4 n4 cap4, .slice ad5 n5 cap5, .slice ad6 n6 cap6] 90 (0, 0)) from tab_set HV6.out)
  have B6 := hid (show Below w.heap.size w (v6.setCell ⟨N, 5, none⟩ (.slice ad6 n6 cap6)) from BV6.out.setCell (p := ⟨N, 5, none⟩) (by have := HNE.out; show w.heap.size ≤ N; omega) _)
  have OD3 := hid (OutD.setOther (i := 5) (u := (.slice ad6 n6 cap6)) OV6.out HV6.out)
  clear c6 z6 HV6 BV6 OV6
  go_ret
  have e3 := HN3E.out
  exact ⟨N, (ad1, n1, cap1), (ad2, n2, cap2), (ad4, n4, cap4), (ad5, n5, cap5), (ad6, n6, cap6), ad3, cap3, its3, vs3, rfl, by rw [e3]; exact HN6.out, by have := HNE.out; omega, HL.out, by rw [e3]; exact OD3.out, B6.out⟩
end Go.Proofs.YtkhdcpejpffnkaaGreatDoor
