/- The law ChartGiven, over this seat's translation: its walk, out of what its awake answers. Conditions: what the library's variables hold is some number, some errors. -/
import Derived.Test.YtiekffkeagcaiaaGreatDoorChGa
import Derived.Test.YtiekffkeagcaiaaGreatDoorChXr
import Derived.BigQuiet
namespace Go.Proofs.YtiekffkeagcaiaaGreatDoor
open Go.RowKit
set_option linter.unusedVariables false

set_option maxRecDepth 2000 in
set_option maxHeartbeats 12800000 in
theorem given_walk (n : Nat) (w : World) (hn : n < 65536) (v : Vr w)
    (HA : Calls Tryz.prog 7 #[] w fun e w' => e = .returned (.bool true) ∧ Below w.heap.size w w') :
    Calls Tryz.prog 6 #[.int .u16 (n : Int)] w fun e w' => e = .returned (.bool true) ∧ Below w.heap.size w w' := by
  have HAW := hid HA
  have V0 := hid v
  clear HA v
  go_enter Tryz.func6, Tryz.ntmps6
  generalize hT1 : ByteArray.mk _ = T1
  generalize hT2 : ByteArray.mk _ = T2
  generalize hT3 : ByteArray.mk _ = T3
  generalize hT4 : ByteArray.mk _ = T4
  generalize hT5 : ByteArray.mk _ = T5
  generalize hT6 : ByteArray.mk _ = T6
  have F1 : goodV rgK upW 300 T1 = true := by subst hT1; kernel_rfl
  rw [rgK_eq] at F1
  have F1 := hid F1
  have F2 : goodV wtOf upW 40 T2 = true := by subst hT2; kernel_rfl
  have F2 := hid F2
  have F3 : goodV dcK upD 400 T3 = true := by subst hT3; kernel_rfl
  rw [dcK_eq] at F3
  have F3 := hid F3
  have F4 : goodV ruOf upW 20 T4 = true := by subst hT4; kernel_rfl
  have F4 := hid F4
  have F5 : goodV ruOf upW 20 T5 = true := by subst hT5; kernel_rfl
  have F5 := hid F5
  have F6 : goodV nmOf anyW 30 T6 = true := by subst hT6; kernel_rfl
  have F6 := hid F6
  clear hT1 hT2 hT3 hT4 hT5 hT6
  go_wp2_with fail
  refine HAW.out.mono ?_
  rintro e w1 ⟨rfl, hB⟩
  have B1 := hid hB
  have V1 := hid (V0.out.below hB)
  clear hB HAW V0
  go_wp2_with fail
  refine (ranges_any T1 _ V1.out (goodV_size F1.out)).mono ?_
  rintro e w2 ⟨ad1, cap1, at1, its1, rfl, hr, ho, hb⟩
  obtain ⟨rfl, hn1⟩ := goodV_said F1.out hr
  have hm1 : its1.length ≤ 1000001 := by have h1 := rsV_len hr; have h2 := lwV_cap T1; have h3 := goodV_size F1.out; omega
  have R1 := hid hr
  have O1 := hid ho
  have B2 := hid (belowCat B1.out hb)
  have V2 := hid (V1.out.below hb)
  obtain ⟨N1, hN1⟩ : ∃ N, its1.length = N := ⟨_, rfl⟩
  have HN1 := hid hN1
  rw [hN1] at hn1 hm1 O1 ⊢
  clear hr ho hb hN1 B1 V1 F1
  rw [if_pos rfl]
  go_wp2_with fail
  refine (classes_any T2 _ V2.out (goodV_size F2.out)).mono ?_
  rintro e w3 ⟨ad2, cap2, at2, its2, rfl, hr, ho, hb⟩
  obtain ⟨rfl, hn2⟩ := goodV_said F2.out hr
  have hm2 : its2.length ≤ 1000001 := by have h1 := rsV_len hr; have h2 := lwV_cap T2; have h3 := goodV_size F2.out; omega
  have O1 := hid (owns_below O1.out hb)
  have B3 := hid (belowCat B2.out hb)
  have V3 := hid (V2.out.below hb)
  obtain ⟨N2, hN2⟩ : ∃ N, its2.length = N := ⟨_, rfl⟩
  rw [hN2] at hn2 hm2 ⊢
  clear hr ho hb hN2 B2 V2 F2
  rw [if_pos rfl]
  go_wp2_with fail
  refine (decomps_any T3 _ V3.out (goodV_size F3.out)).mono ?_
  rintro e w4 ⟨ad3, cap3, at3, its3, vs3, rfl, hr, ho, hb⟩
  obtain ⟨rfl, hn3⟩ := goodV_said F3.out hr
  have hm3 : its3.length ≤ 1000001 := by have h1 := rsV_len hr; have h2 := lwV_cap T3; have h3 := goodV_size F3.out; omega
  have R3 := hid hr
  have O3 := hid ho
  have O1 := hid (owns_below O1.out hb)
  have B4 := hid (belowCat B3.out hb)
  have V4 := hid (V3.out.below hb)
  obtain ⟨N3, hN3⟩ : ∃ N, its3.length = N := ⟨_, rfl⟩
  have HN3 := hid hN3
  rw [hN3] at hn3 hm3 ⊢
  rw [hN3] at O3
  clear hr ho hb hN3 B3 V3 F3
  rw [if_pos rfl]
  go_wp2_with fail
  refine (runs_any T4 _ V4.out (goodV_size F4.out)).mono ?_
  rintro e w5 ⟨ad4, cap4, at4, its4, rfl, hr, ho, hb⟩
  obtain ⟨rfl, hn4⟩ := goodV_said F4.out hr
  have hm4 : its4.length ≤ 1000001 := by have h1 := rsV_len hr; have h2 := lwV_cap T4; have h3 := goodV_size F4.out; omega
  have O1 := hid (owns_below O1.out hb)
  have O3 := hid (O3.out.below hb)
  have B5 := hid (belowCat B4.out hb)
  have V5 := hid (V4.out.below hb)
  obtain ⟨N4, hN4⟩ : ∃ N, its4.length = N := ⟨_, rfl⟩
  rw [hN4] at hn4 hm4 ⊢
  clear hr ho hb hN4 B4 V4 F4
  rw [if_pos rfl]
  go_wp2_with fail
  refine (runs_any T5 _ V5.out (goodV_size F5.out)).mono ?_
  rintro e w6 ⟨ad5, cap5, at5, its5, rfl, hr, ho, hb⟩
  obtain ⟨rfl, hn5⟩ := goodV_said F5.out hr
  have hm5 : its5.length ≤ 1000001 := by have h1 := rsV_len hr; have h2 := lwV_cap T5; have h3 := goodV_size F5.out; omega
  have O1 := hid (owns_below O1.out hb)
  have O3 := hid (O3.out.below hb)
  have B6 := hid (belowCat B5.out hb)
  have V6 := hid (V5.out.below hb)
  obtain ⟨N5, hN5⟩ : ∃ N, its5.length = N := ⟨_, rfl⟩
  rw [hN5] at hn5 hm5 ⊢
  clear hr ho hb hN5 B5 V5 F5
  rw [if_pos rfl]
  go_wp2_with fail
  refine (sets_any T6 _ V6.out (goodV_size F6.out)).mono ?_
  rintro e w7 ⟨ad6, cap6, at6, its6, rfl, hr, ho, hb⟩
  obtain ⟨rfl, hn6⟩ := goodV_said F6.out hr
  have hm6 : its6.length ≤ 1000001 := by have h1 := rsV_len hr; have h2 := lwV_cap T6; have h3 := goodV_size F6.out; omega
  have O1 := hid (owns_below O1.out hb)
  have O3 := hid (O3.out.below hb)
  have B7 := hid (belowCat B6.out hb)
  have V7 := hid (V6.out.below hb)
  obtain ⟨N6, hN6⟩ : ∃ N, its6.length = N := ⟨_, rfl⟩
  rw [hN6] at hn6 hm6 ⊢
  clear hr ho hb hN6 B6 V6 F6
  rw [if_pos rfl]
  have e1 : ((N1 : Int) < 300) = False := eq_false (by omega)
  have e2 : ((N2 : Int) < 40) = False := eq_false (by omega)
  have e3 : ((N3 : Int) < 400) = False := eq_false (by omega)
  have e4 : ((N4 : Int) < 20) = False := eq_false (by omega)
  have e5 : ((N5 : Int) < 20) = False := eq_false (by omega)
  have e6 : ((N6 : Int) < 30) = False := eq_false (by omega)
  go_upto_region 11 with fail
  clear e1 e2 e3 e4 e5 e6 hn2 hn4 hn5 hn6 hm2 hm4 hm5 hm6
  obtain ⟨i1, hi1⟩ : ∃ i, n % N1 = i := ⟨_, rfl⟩
  obtain ⟨i3, hi3⟩ : ∃ i, n % N3 = i := ⟨_, rfl⟩
  have hl1 : i1 < N1 := by rw [← hi1]; exact Nat.mod_lt _ (by omega)
  have hl3 : i3 < N3 := by rw [← hi3]; exact Nat.mod_lt _ (by omega)
  have tm1 : Int.tmod (n : Int) (N1 : Int) = (i1 : Int) := by rw [tmod_nat, hi1]
  have tm3 : Int.tmod (n : Int) (N3 : Int) = (i3 : Int) := by rw [tmod_nat, hi3]
  have nz1 : (N1 = 0) = False := eq_false (by omega)
  have nz3 : (N3 = 0) = False := eq_false (by omega)
  have hwn : IntKind.i64.wrap (n : Int) = (n : Int) := by rw [IntKind.wrap_i64]; omega
  have hw1 : IntKind.i64.wrap (i1 : Int) = (i1 : Int) := by rw [IntKind.wrap_i64]; omega
  have hw3 : IntKind.i64.wrap (i3 : Int) = (i3 : Int) := by rw [IntKind.wrap_i64]; omega
  have hsz : ∀ i ∈ its1, (rgC i).size = 6 := fun i hi => by
    obtain ⟨ws, hw⟩ := rsV_each R1.out i hi
    exact rgC_size hw
  obtain ⟨ws1, hws1⟩ := rsV_each R1.out (its1[i1]'(by rw [HN1.out]; exact hl1)) (List.getElem_mem _)
  have hab := rg_le hws1
  obtain ⟨ha6, hb6, s2, s3, s4, b5, hri⟩ := rgOf_r hws1
  obtain ⟨g1, hg1, X⟩ := rowN O1.out hsz (by decide) (k := i1) (by rw [HN1.out]; exact hl1) HN1.out rfl
  obtain ⟨it, hit⟩ : ∃ it, its1[i1]'(by rw [HN1.out]; exact hl1) = it := ⟨_, rfl⟩
  rw [hit] at hab ha6 hb6 hri X
  obtain ⟨a, b, r⟩ := it
  simp only at hab ha6 hb6 hri
  subst hri hg1
  obtain ⟨g3, gq, cq, hg3, y0, y1, y2, y3, _, _⟩ := O3.out.at HN3.out.symm i3 (by rw [HN3.out]; exact hl3)
  obtain ⟨ws3, hws3⟩ := rsV_each R3.out (its3[i3]'(by rw [HN3.out]; exact hl3)) (List.getElem_mem _)
  obtain ⟨hp6, hq1, hq3, _⟩ := dcOf_r hws3
  obtain ⟨d, hd⟩ : ∃ d, its3[i3]'(by rw [HN3.out]; exact hl3) = d := ⟨_, rfl⟩
  rw [hd] at y0 y1 y2 y3 hp6 hq1 hq3
  obtain ⟨p, l, c, al⟩ := d
  simp only at y0 y1 y2 y3 hp6 hq1 hq3
  obtain ⟨m, hm⟩ : ∃ m, l.length = m := ⟨_, rfl⟩
  rw [hm] at y1 hq1 hq3
  subst hg3
  have x0 := X 0 _ (by decide) rfl
  have x1 := X 1 _ (by decide) rfl
  have x2 := X 2 _ (by decide) rfl
  have x3 := X 3 _ (by decide) rfl
  have x4 := X 4 _ (by decide) rfl
  have x5 := X 5 _ (by decide) rfl
  rw [Nat.add_zero] at x0
  have KB := hid (show ∀ w', Below w7.heap.size w7 w' → (fun w' => w'.cell? ⟨g1, i1 * 6, none⟩ = some (.int .u32 (a : Int)) ∧ w'.cell? ⟨g1, i1 * 6 + 1, none⟩ = some (.int .u32 (b : Int)) ∧ w'.cell? ⟨g1, i1 * 6 + 2, none⟩ = some (.string s2) ∧ w'.cell? ⟨g1, i1 * 6 + 3, none⟩ = some (.string s3) ∧ w'.cell? ⟨g1, i1 * 6 + 4, none⟩ = some (.string s4) ∧ w'.cell? ⟨g1, i1 * 6 + 5, none⟩ = some (.bool b5) ∧ w'.cell? ⟨g3, i3 * 4, none⟩ = some (.int .u32 (p : Int)) ∧ w'.cell? ⟨g3, i3 * 4 + 1, none⟩ = some (.slice (some ⟨gq, 0, none⟩) m cq) ∧ w'.cell? ⟨g3, i3 * 4 + 2, none⟩ = some (.bool c) ∧ w'.cell? ⟨g3, i3 * 4 + 3, none⟩ = some (.bool al)) w' from fun w' hb' => ⟨cell_later hb' x0, cell_later hb' x1, cell_later hb' x2, cell_later hb' x3, cell_later hb' x4, cell_later hb' x5, cell_later hb' y0, cell_later hb' y1, cell_later hb' y2, cell_later hb' y3⟩)
  have HAB := hid hab
  clear X x0 x1 x2 x3 x4 x5 y0 y1 y2 y3 hws1 hws3 hit hd hm hsz hi1 hi3 hab
  go_cut [21, 22] from 107 to 122 (fun x y wx => ∃ z1 z2, x = .pointer (some ⟨z1, 0, none⟩) ∧ y = .pointer (some ⟨z2, 0, none⟩) ∧ wx.heap[z1]? = some (.cells #[.int .u32 (a : Int), .int .u32 (b : Int), .string s2, .string s3, .string s4, .bool b5] 39 (0, 0)) ∧ wx.heap[z2]? = some (.cells #[.int .u32 (p : Int), .slice (some ⟨gq, 0, none⟩) m cq, .bool c, .bool al] 64 (0, 0)) ∧ Below w7.heap.size w7 wx)
  case first =>
    refine wp_region_held_drew (S := (fun w' => w'.cell? ⟨g1, i1 * 6, none⟩ = some (.int .u32 (a : Int)) ∧ w'.cell? ⟨g1, i1 * 6 + 1, none⟩ = some (.int .u32 (b : Int)) ∧ w'.cell? ⟨g1, i1 * 6 + 2, none⟩ = some (.string s2) ∧ w'.cell? ⟨g1, i1 * 6 + 3, none⟩ = some (.string s3) ∧ w'.cell? ⟨g1, i1 * 6 + 4, none⟩ = some (.string s4) ∧ w'.cell? ⟨g1, i1 * 6 + 5, none⟩ = some (.bool b5) ∧ w'.cell? ⟨g3, i3 * 4, none⟩ = some (.int .u32 (p : Int)) ∧ w'.cell? ⟨g3, i3 * 4 + 1, none⟩ = some (.slice (some ⟨gq, 0, none⟩) m cq) ∧ w'.cell? ⟨g3, i3 * 4 + 2, none⟩ = some (.bool c) ∧ w'.cell? ⟨g3, i3 * 4 + 3, none⟩ = some (.bool al))) (by kernel_rfl) (KB.out _ (blw_drew (Below.refl _ _))) (fun hHeld => ?_)
    have HB8 := hid (blw_drew (Below.refl w7.heap.size w7))
    obtain ⟨w8, hw8⟩ : ∃ y, w7.drew = y := ⟨_, rfl⟩
    rw [hw8] at HB8 hHeld ⊢
    clear hw8
    refine tk_at (i := 0) (d := some 107) (v := ?_) rfl rfl (by kernel_rfl) (by kernel_rfl) (by kernel_rfl) (fun _ _ _ h => h) (Or.inl ⟨by rfl, ?_⟩) (by assumption) ?_
    rotate_left
    · (intro w hSw; (try dsimp only at hSw); go_simp; try (with_reducible rfl))
    simp only [Act.put, List.setIfInBounds_toArray, List.set_cons_zero, List.set_cons_succ]
    refine tk_at (i := 1) (d := some 108) (v := ?_) rfl rfl (by kernel_rfl) (by kernel_rfl) (by kernel_rfl) (fun _ _ _ h => h) (Or.inl ⟨by rfl, ?_⟩) (by assumption) ?_
    rotate_left
    · (intro w hSw; (try dsimp only at hSw); go_simp; try (with_reducible rfl))
    simp only [Act.put, List.setIfInBounds_toArray, List.set_cons_zero, List.set_cons_succ]
    refine tk_at (i := 2) (d := some 109) (v := ?_) rfl rfl (by kernel_rfl) (by kernel_rfl) (by kernel_rfl) (fun _ _ _ h => h) (Or.inl ⟨by rfl, ?_⟩) (by assumption) ?_
    rotate_left
    · (intro w hSw; (try dsimp only at hSw); go_simp; try (with_reducible rfl))
    simp only [Act.put, List.setIfInBounds_toArray, List.set_cons_zero, List.set_cons_succ]
    refine tk_at (i := 3) (d := some 110) (v := ?_) rfl rfl (by kernel_rfl) (by kernel_rfl) (by kernel_rfl) (fun _ _ _ h => h) (Or.inl ⟨by rfl, ?_⟩) (by assumption) ?_
    rotate_left
    · (intro w hSw; (try dsimp only at hSw); go_simp; try (with_reducible rfl))
    simp only [Act.put, List.setIfInBounds_toArray, List.set_cons_zero, List.set_cons_succ]
    refine tk_at (i := 4) (d := some 111) (v := ?_) rfl rfl (by kernel_rfl) (by kernel_rfl) (by kernel_rfl) (fun _ _ _ h => h) (Or.inl ⟨by rfl, ?_⟩) (by assumption) ?_
    rotate_left
    · (intro w hSw; (try dsimp only at hSw); go_simp; try (with_reducible rfl))
    simp only [Act.put, List.setIfInBounds_toArray, List.set_cons_zero, List.set_cons_succ]
    refine tk_at (i := 5) (d := some 112) (v := ?_) rfl rfl (by kernel_rfl) (by kernel_rfl) (by kernel_rfl) (fun _ _ _ h => h) (Or.inl ⟨by rfl, ?_⟩) (by assumption) ?_
    rotate_left
    · (intro w hSw; (try dsimp only at hSw); go_simp; try (with_reducible rfl))
    simp only [Act.put, List.setIfInBounds_toArray, List.set_cons_zero, List.set_cons_succ]
    refine tk_at (i := 6) (d := some 113) (v := ?_) rfl rfl (by kernel_rfl) (by kernel_rfl) (by kernel_rfl) (fun _ _ _ h => h) (Or.inl ⟨by rfl, ?_⟩) (by assumption) ?_
    rotate_left
    · (intro w hSw; (try dsimp only at hSw); go_simp; try (with_reducible rfl))
    simp only [Act.put, List.setIfInBounds_toArray, List.set_cons_zero, List.set_cons_succ]
    refine tk_at (i := 7) (d := some 114) (v := ?_) rfl rfl (by kernel_rfl) (by kernel_rfl) (by kernel_rfl) (fun _ _ _ h => h) (Or.inl ⟨by rfl, ?_⟩) (by assumption) ?_
    rotate_left
    · (intro w hSw; (try dsimp only at hSw); go_simp; try (with_reducible rfl))
    simp only [Act.put, List.setIfInBounds_toArray, List.set_cons_zero, List.set_cons_succ]
    refine tk_at (i := 8) (d := some 115) (v := ?_) rfl rfl (by kernel_rfl) (by kernel_rfl) (by kernel_rfl) (fun _ _ _ h => h) (Or.inl ⟨by rfl, ?_⟩) (by assumption) ?_
    rotate_left
    · (intro w hSw; (try dsimp only at hSw); go_simp; try (with_reducible rfl))
    simp only [Act.put, List.setIfInBounds_toArray, List.set_cons_zero, List.set_cons_succ]
    refine tk_at (i := 9) (d := some 116) (v := ?_) rfl rfl (by kernel_rfl) (by kernel_rfl) (by kernel_rfl) (fun _ _ _ h => h) (Or.inl ⟨by rfl, ?_⟩) (by assumption) ?_
    rotate_left
    · (intro w hSw; (try dsimp only at hSw); go_simp; try (with_reducible rfl))
    simp only [Act.put, List.setIfInBounds_toArray, List.set_cons_zero, List.set_cons_succ]
    refine tk_at (i := 10) (d := some 117) (v := ?_) rfl rfl (by kernel_rfl) (by kernel_rfl) (by kernel_rfl) (fun _ _ _ h => h) (Or.inl ⟨by rfl, ?_⟩) (by assumption) ?_
    rotate_left
    · (intro w hSw; (try dsimp only at hSw); go_simp; try (with_reducible rfl))
    simp only [Act.put, List.setIfInBounds_toArray, List.set_cons_zero, List.set_cons_succ]
    refine tk_at (i := 11) (d := some 118) (v := ?_) rfl rfl (by kernel_rfl) (by kernel_rfl) (by kernel_rfl) (fun _ _ _ h => h) (Or.inl ⟨by rfl, ?_⟩) (by assumption) ?_
    rotate_left
    · (intro w hSw; (try dsimp only at hSw); go_simp; try (with_reducible rfl))
    simp only [Act.put, List.setIfInBounds_toArray, List.set_cons_zero, List.set_cons_succ]
    refine tk_at (i := 12) (d := some 119) (v := ?_) rfl rfl (by kernel_rfl) (by kernel_rfl) (by kernel_rfl) (fun _ _ _ h => h) (Or.inl ⟨by rfl, ?_⟩) (by assumption) ?_
    rotate_left
    · (intro w hSw; (try dsimp only at hSw); go_simp; try (with_reducible rfl))
    simp only [Act.put, List.setIfInBounds_toArray, List.set_cons_zero, List.set_cons_succ]
    refine tk_at (i := 13) (d := some 120) (v := ?_) rfl rfl (by kernel_rfl) (by kernel_rfl) (by kernel_rfl) (fun _ _ _ h => h) (Or.inl ⟨by rfl, ?_⟩) (by assumption) ?_
    rotate_left
    · (intro w hSw; (try dsimp only at hSw); go_simp; try (with_reducible rfl))
    simp only [Act.put, List.setIfInBounds_toArray, List.set_cons_zero, List.set_cons_succ]
    refine tk_at (i := 14) (d := some 121) (v := ?_) rfl rfl (by kernel_rfl) (by kernel_rfl) (by kernel_rfl) (fun _ _ _ h => h) (Or.inl ⟨by rfl, ?_⟩) (by assumption) ?_
    rotate_left
    · (intro w hSw; (try dsimp only at hSw); go_simp; try (with_reducible rfl))
    simp only [Act.put, List.setIfInBounds_toArray, List.set_cons_zero, List.set_cons_succ]
    refine tk_at (i := 15) (d := some 122) (v := ?_) rfl rfl (by kernel_rfl) (by kernel_rfl) (by kernel_rfl) (fun _ _ _ h => h) (Or.inl ⟨by rfl, ?_⟩) (by assumption) ?_
    rotate_left
    · (intro w hSw; (try dsimp only at hSw); go_simp; try (with_reducible rfl))
    simp only [Act.put, List.setIfInBounds_toArray, List.set_cons_zero, List.set_cons_succ]
    refine wpAnyH_ready (rs := [16, 17]) (by kernel_rfl) (by simp) ?_
    refine AllReadyH.cons rfl (fun K hK => ?_) (AllReadyH.cons rfl (fun K hK => ?_) AllReadyH.nil)
    · go_simp
      go_wp2_with fail
      refine hK.out _ _ (KB.out _ (blw_alloc HB8.out)) (fun hHeld => ?_)
      clear hK K
      try simp only [Act.put, List.setIfInBounds_toArray, List.set_cons_zero, List.set_cons_succ]
      refine wpAnyH_ready (rs := [17]) (by kernel_rfl) (by simp) ?_
      refine AllReadyH.cons rfl (fun K hK => ?_) AllReadyH.nil
      go_simp
      go_wp2_with fail
      refine hK.out _ _ (KB.out _ (blw_alloc (blw_alloc HB8.out))) (fun hHeld => ?_)
      clear hK K
      try simp only [Act.put, List.setIfInBounds_toArray, List.set_cons_zero, List.set_cons_succ]
      have HW := hid (show Below w7.heap.size w7 ((w8.alloc (.cells #[.int .u32 0, .int .u32 0, .string ⟨#[]⟩, .string ⟨#[]⟩, .string ⟨#[]⟩, .bool false] 39)).alloc (.cells #[.int .u32 0, .slice none 0 0, .bool false, .bool false] 64)) from blw_alloc (blw_alloc HB8.out))
      have h1 : ((w8.alloc (.cells #[.int .u32 0, .int .u32 0, .string ⟨#[]⟩, .string ⟨#[]⟩, .string ⟨#[]⟩, .bool false] 39)).alloc (.cells #[.int .u32 0, .slice none 0 0, .bool false, .bool false] 64)).heap[w8.heap.size]? = some (.cells #[.int .u32 0, .int .u32 0, .string ⟨#[]⟩, .string ⟨#[]⟩, .string ⟨#[]⟩, .bool false] 39 (0, 0)) := ((blw_alloc (Below.refl _ (w8.alloc (.cells #[.int .u32 0, .int .u32 0, .string ⟨#[]⟩, .string ⟨#[]⟩, .string ⟨#[]⟩, .bool false] 39)))).block _ (by rw [World.size_alloc]; exact Nat.lt_succ_self _)).trans (heap_alloc_at _ _)
      have h2 : ((w8.alloc (.cells #[.int .u32 0, .int .u32 0, .string ⟨#[]⟩, .string ⟨#[]⟩, .string ⟨#[]⟩, .bool false] 39)).alloc (.cells #[.int .u32 0, .slice none 0 0, .bool false, .bool false] 64)).heap[w8.heap.size + 1]? = some (.cells #[.int .u32 0, .slice none 0 0, .bool false, .bool false] 64 (0, 0)) := by have := heap_alloc_at (w8.alloc (.cells #[.int .u32 0, .int .u32 0, .string ⟨#[]⟩, .string ⟨#[]⟩, .string ⟨#[]⟩, .bool false] 39)) (.cells #[.int .u32 0, .slice none 0 0, .bool false, .bool false] 64); rw [World.size_alloc] at this; exact this
      obtain ⟨W, hW⟩ : ∃ y, ((w8.alloc (.cells #[.int .u32 0, .int .u32 0, .string ⟨#[]⟩, .string ⟨#[]⟩, .string ⟨#[]⟩, .bool false] 39)).alloc (.cells #[.int .u32 0, .slice none 0 0, .bool false, .bool false] 64)) = y := ⟨_, rfl⟩
      obtain ⟨z1, hza⟩ : ∃ z, w8.heap.size = z := ⟨_, rfl⟩
      obtain ⟨z2, hzb⟩ : ∃ z, z1 + 1 = z := ⟨_, rfl⟩
      rw [hW] at HW h1 h2 hHeld ⊢
      rw [hza] at h1 h2 ⊢
      rw [hzb] at h2 ⊢
      have G1 := hid (show W.heap[z1]? = some (.cells #[.int .u32 0, .int .u32 0, .string ⟨#[]⟩, .string ⟨#[]⟩, .string ⟨#[]⟩, .bool false] 39 (0, 0)) from h1)
      have G2 := hid (show W.heap[z2]? = some (.cells #[.int .u32 0, .slice none 0 0, .bool false, .bool false] 64 (0, 0)) from h2)
      have GE := hid (show z1 ≠ z2 ∧ w7.heap.size ≤ z1 ∧ w7.heap.size ≤ z2 from by have := HB8.out.size; omega)
      clear hW hza hzb h1 h2
      have k0 : W.cell? ⟨z1, 0, none⟩ = some (.int .u32 0) := cell_of_heap G1.out rfl
      have k1 : W.cell? ⟨z1, 1, none⟩ = some (.int .u32 0) := cell_of_heap G1.out rfl
      have k2 : W.cell? ⟨z1, 2, none⟩ = some (.string ⟨#[]⟩) := cell_of_heap G1.out rfl
      have k3 : W.cell? ⟨z1, 3, none⟩ = some (.string ⟨#[]⟩) := cell_of_heap G1.out rfl
      have k4 : W.cell? ⟨z1, 4, none⟩ = some (.string ⟨#[]⟩) := cell_of_heap G1.out rfl
      have k5 : W.cell? ⟨z1, 5, none⟩ = some (.bool false) := cell_of_heap G1.out rfl
      have f0 := frozen_of_heap (i := 0) G1.out
      have f1 := frozen_of_heap (i := 1) G1.out
      have f2 := frozen_of_heap (i := 2) G1.out
      have f3 := frozen_of_heap (i := 3) G1.out
      have f4 := frozen_of_heap (i := 4) G1.out
      have f5 := frozen_of_heap (i := 5) G1.out
      refine wpAnyH_ready (rs := [18]) (by kernel_rfl) (by simp) ?_
      refine AllReadyH.cons rfl (fun K hK => ?_) AllReadyH.nil
      go_simp
      go_wp2_with fail
      refine hK.out _ _ (KB.out _ (blw_set6 HW.out GE.out.2.1)) (fun hHeld => ?_)
      clear hK K
      try simp only [Act.put, List.setIfInBounds_toArray, List.set_cons_zero, List.set_cons_succ]
      clear k0 f0 k1 f1 k2 f2 k3 f3 k4 f4 k5 f5
      have G3 := hid (show ((((((W.setCell ⟨z1, 0, none⟩ (.int .u32 (a : Int))).setCell ⟨z1, 1, none⟩ (.int .u32 (b : Int))).setCell ⟨z1, 2, none⟩ (.string s2)).setCell ⟨z1, 3, none⟩ (.string s3)).setCell ⟨z1, 4, none⟩ (.string s4)).setCell ⟨z1, 5, none⟩ (.bool b5)).heap[z1]? = some (.cells #[.int .u32 (a : Int), .int .u32 (b : Int), .string s2, .string s3, .string s4, .bool b5] 39 (0, 0)) from set6 G1.out)
      have G4 := hid (show ((((((W.setCell ⟨z1, 0, none⟩ (.int .u32 (a : Int))).setCell ⟨z1, 1, none⟩ (.int .u32 (b : Int))).setCell ⟨z1, 2, none⟩ (.string s2)).setCell ⟨z1, 3, none⟩ (.string s3)).setCell ⟨z1, 4, none⟩ (.string s4)).setCell ⟨z1, 5, none⟩ (.bool b5)).heap[z2]? = some (.cells #[.int .u32 0, .slice none 0 0, .bool false, .bool false] 64 (0, 0)) from (heap_set6 (fun e => GE.out.1 e.symm)).trans G2.out)
      have HW3 := hid (show Below w7.heap.size w7 ((((((W.setCell ⟨z1, 0, none⟩ (.int .u32 (a : Int))).setCell ⟨z1, 1, none⟩ (.int .u32 (b : Int))).setCell ⟨z1, 2, none⟩ (.string s2)).setCell ⟨z1, 3, none⟩ (.string s3)).setCell ⟨z1, 4, none⟩ (.string s4)).setCell ⟨z1, 5, none⟩ (.bool b5)) from blw_set6 HW.out GE.out.2.1)
      obtain ⟨W3, hW3⟩ : ∃ y, ((((((W.setCell ⟨z1, 0, none⟩ (.int .u32 (a : Int))).setCell ⟨z1, 1, none⟩ (.int .u32 (b : Int))).setCell ⟨z1, 2, none⟩ (.string s2)).setCell ⟨z1, 3, none⟩ (.string s3)).setCell ⟨z1, 4, none⟩ (.string s4)).setCell ⟨z1, 5, none⟩ (.bool b5)) = y := ⟨_, rfl⟩
      rw [hW3] at G3 G4 HW3 hHeld ⊢
      clear hW3
      have k0 : W3.cell? ⟨z2, 0, none⟩ = some (.int .u32 0) := cell_of_heap G4.out rfl
      have k1 : W3.cell? ⟨z2, 1, none⟩ = some (.slice none 0 0) := cell_of_heap G4.out rfl
      have k2 : W3.cell? ⟨z2, 2, none⟩ = some (.bool false) := cell_of_heap G4.out rfl
      have k3 : W3.cell? ⟨z2, 3, none⟩ = some (.bool false) := cell_of_heap G4.out rfl
      have f0 := frozen_of_heap (i := 0) G4.out
      have f1 := frozen_of_heap (i := 1) G4.out
      have f2 := frozen_of_heap (i := 2) G4.out
      have f3 := frozen_of_heap (i := 3) G4.out
      refine wpAnyH_ready (rs := [19]) (by kernel_rfl) (by simp) ?_
      refine AllReadyH.cons rfl (fun K hK => ?_) AllReadyH.nil
      go_simp
      go_wp2_with fail
      refine hK.out _ _ (KB.out _ (blw_set4 HW3.out GE.out.2.2)) (fun hHeld => ?_)
      clear hK K
      try simp only [Act.put, List.setIfInBounds_toArray, List.set_cons_zero, List.set_cons_succ]
      refine wpAnyH_done (by kernel_rfl) ?_ _
      clear hHeld
      go_wp2_with fail
      go_meet
      case rel => exact ⟨z1, z2, rfl, rfl, (heap_set4 GE.out.1).trans G3.out, set4 G4.out, blw_set4 HW3.out GE.out.2.2⟩
    · go_simp
      go_wp2_with fail
      refine hK.out _ _ (KB.out _ (blw_alloc HB8.out)) (fun hHeld => ?_)
      clear hK K
      try simp only [Act.put, List.setIfInBounds_toArray, List.set_cons_zero, List.set_cons_succ]
      refine wpAnyH_ready (rs := [16]) (by kernel_rfl) (by simp) ?_
      refine AllReadyH.cons rfl (fun K hK => ?_) AllReadyH.nil
      go_simp
      go_wp2_with fail
      refine hK.out _ _ (KB.out _ (blw_alloc (blw_alloc HB8.out))) (fun hHeld => ?_)
      clear hK K
      try simp only [Act.put, List.setIfInBounds_toArray, List.set_cons_zero, List.set_cons_succ]
      have HW := hid (show Below w7.heap.size w7 ((w8.alloc (.cells #[.int .u32 0, .slice none 0 0, .bool false, .bool false] 64)).alloc (.cells #[.int .u32 0, .int .u32 0, .string ⟨#[]⟩, .string ⟨#[]⟩, .string ⟨#[]⟩, .bool false] 39)) from blw_alloc (blw_alloc HB8.out))
      have h1 : ((w8.alloc (.cells #[.int .u32 0, .slice none 0 0, .bool false, .bool false] 64)).alloc (.cells #[.int .u32 0, .int .u32 0, .string ⟨#[]⟩, .string ⟨#[]⟩, .string ⟨#[]⟩, .bool false] 39)).heap[w8.heap.size]? = some (.cells #[.int .u32 0, .slice none 0 0, .bool false, .bool false] 64 (0, 0)) := ((blw_alloc (Below.refl _ (w8.alloc (.cells #[.int .u32 0, .slice none 0 0, .bool false, .bool false] 64)))).block _ (by rw [World.size_alloc]; exact Nat.lt_succ_self _)).trans (heap_alloc_at _ _)
      have h2 : ((w8.alloc (.cells #[.int .u32 0, .slice none 0 0, .bool false, .bool false] 64)).alloc (.cells #[.int .u32 0, .int .u32 0, .string ⟨#[]⟩, .string ⟨#[]⟩, .string ⟨#[]⟩, .bool false] 39)).heap[w8.heap.size + 1]? = some (.cells #[.int .u32 0, .int .u32 0, .string ⟨#[]⟩, .string ⟨#[]⟩, .string ⟨#[]⟩, .bool false] 39 (0, 0)) := by have := heap_alloc_at (w8.alloc (.cells #[.int .u32 0, .slice none 0 0, .bool false, .bool false] 64)) (.cells #[.int .u32 0, .int .u32 0, .string ⟨#[]⟩, .string ⟨#[]⟩, .string ⟨#[]⟩, .bool false] 39); rw [World.size_alloc] at this; exact this
      obtain ⟨W, hW⟩ : ∃ y, ((w8.alloc (.cells #[.int .u32 0, .slice none 0 0, .bool false, .bool false] 64)).alloc (.cells #[.int .u32 0, .int .u32 0, .string ⟨#[]⟩, .string ⟨#[]⟩, .string ⟨#[]⟩, .bool false] 39)) = y := ⟨_, rfl⟩
      obtain ⟨z2, hza⟩ : ∃ z, w8.heap.size = z := ⟨_, rfl⟩
      obtain ⟨z1, hzb⟩ : ∃ z, z2 + 1 = z := ⟨_, rfl⟩
      rw [hW] at HW h1 h2 hHeld ⊢
      rw [hza] at h1 h2 ⊢
      rw [hzb] at h2 ⊢
      have G1 := hid (show W.heap[z1]? = some (.cells #[.int .u32 0, .int .u32 0, .string ⟨#[]⟩, .string ⟨#[]⟩, .string ⟨#[]⟩, .bool false] 39 (0, 0)) from h2)
      have G2 := hid (show W.heap[z2]? = some (.cells #[.int .u32 0, .slice none 0 0, .bool false, .bool false] 64 (0, 0)) from h1)
      have GE := hid (show z1 ≠ z2 ∧ w7.heap.size ≤ z1 ∧ w7.heap.size ≤ z2 from by have := HB8.out.size; omega)
      clear hW hza hzb h1 h2
      have k0 : W.cell? ⟨z1, 0, none⟩ = some (.int .u32 0) := cell_of_heap G1.out rfl
      have k1 : W.cell? ⟨z1, 1, none⟩ = some (.int .u32 0) := cell_of_heap G1.out rfl
      have k2 : W.cell? ⟨z1, 2, none⟩ = some (.string ⟨#[]⟩) := cell_of_heap G1.out rfl
      have k3 : W.cell? ⟨z1, 3, none⟩ = some (.string ⟨#[]⟩) := cell_of_heap G1.out rfl
      have k4 : W.cell? ⟨z1, 4, none⟩ = some (.string ⟨#[]⟩) := cell_of_heap G1.out rfl
      have k5 : W.cell? ⟨z1, 5, none⟩ = some (.bool false) := cell_of_heap G1.out rfl
      have f0 := frozen_of_heap (i := 0) G1.out
      have f1 := frozen_of_heap (i := 1) G1.out
      have f2 := frozen_of_heap (i := 2) G1.out
      have f3 := frozen_of_heap (i := 3) G1.out
      have f4 := frozen_of_heap (i := 4) G1.out
      have f5 := frozen_of_heap (i := 5) G1.out
      refine wpAnyH_ready (rs := [18]) (by kernel_rfl) (by simp) ?_
      refine AllReadyH.cons rfl (fun K hK => ?_) AllReadyH.nil
      go_simp
      go_wp2_with fail
      refine hK.out _ _ (KB.out _ (blw_set6 HW.out GE.out.2.1)) (fun hHeld => ?_)
      clear hK K
      try simp only [Act.put, List.setIfInBounds_toArray, List.set_cons_zero, List.set_cons_succ]
      clear k0 f0 k1 f1 k2 f2 k3 f3 k4 f4 k5 f5
      have G3 := hid (show ((((((W.setCell ⟨z1, 0, none⟩ (.int .u32 (a : Int))).setCell ⟨z1, 1, none⟩ (.int .u32 (b : Int))).setCell ⟨z1, 2, none⟩ (.string s2)).setCell ⟨z1, 3, none⟩ (.string s3)).setCell ⟨z1, 4, none⟩ (.string s4)).setCell ⟨z1, 5, none⟩ (.bool b5)).heap[z1]? = some (.cells #[.int .u32 (a : Int), .int .u32 (b : Int), .string s2, .string s3, .string s4, .bool b5] 39 (0, 0)) from set6 G1.out)
      have G4 := hid (show ((((((W.setCell ⟨z1, 0, none⟩ (.int .u32 (a : Int))).setCell ⟨z1, 1, none⟩ (.int .u32 (b : Int))).setCell ⟨z1, 2, none⟩ (.string s2)).setCell ⟨z1, 3, none⟩ (.string s3)).setCell ⟨z1, 4, none⟩ (.string s4)).setCell ⟨z1, 5, none⟩ (.bool b5)).heap[z2]? = some (.cells #[.int .u32 0, .slice none 0 0, .bool false, .bool false] 64 (0, 0)) from (heap_set6 (fun e => GE.out.1 e.symm)).trans G2.out)
      have HW3 := hid (show Below w7.heap.size w7 ((((((W.setCell ⟨z1, 0, none⟩ (.int .u32 (a : Int))).setCell ⟨z1, 1, none⟩ (.int .u32 (b : Int))).setCell ⟨z1, 2, none⟩ (.string s2)).setCell ⟨z1, 3, none⟩ (.string s3)).setCell ⟨z1, 4, none⟩ (.string s4)).setCell ⟨z1, 5, none⟩ (.bool b5)) from blw_set6 HW.out GE.out.2.1)
      obtain ⟨W3, hW3⟩ : ∃ y, ((((((W.setCell ⟨z1, 0, none⟩ (.int .u32 (a : Int))).setCell ⟨z1, 1, none⟩ (.int .u32 (b : Int))).setCell ⟨z1, 2, none⟩ (.string s2)).setCell ⟨z1, 3, none⟩ (.string s3)).setCell ⟨z1, 4, none⟩ (.string s4)).setCell ⟨z1, 5, none⟩ (.bool b5)) = y := ⟨_, rfl⟩
      rw [hW3] at G3 G4 HW3 hHeld ⊢
      clear hW3
      have k0 : W3.cell? ⟨z2, 0, none⟩ = some (.int .u32 0) := cell_of_heap G4.out rfl
      have k1 : W3.cell? ⟨z2, 1, none⟩ = some (.slice none 0 0) := cell_of_heap G4.out rfl
      have k2 : W3.cell? ⟨z2, 2, none⟩ = some (.bool false) := cell_of_heap G4.out rfl
      have k3 : W3.cell? ⟨z2, 3, none⟩ = some (.bool false) := cell_of_heap G4.out rfl
      have f0 := frozen_of_heap (i := 0) G4.out
      have f1 := frozen_of_heap (i := 1) G4.out
      have f2 := frozen_of_heap (i := 2) G4.out
      have f3 := frozen_of_heap (i := 3) G4.out
      refine wpAnyH_ready (rs := [19]) (by kernel_rfl) (by simp) ?_
      refine AllReadyH.cons rfl (fun K hK => ?_) AllReadyH.nil
      go_simp
      go_wp2_with fail
      refine hK.out _ _ (KB.out _ (blw_set4 HW3.out GE.out.2.2)) (fun hHeld => ?_)
      clear hK K
      try simp only [Act.put, List.setIfInBounds_toArray, List.set_cons_zero, List.set_cons_succ]
      refine wpAnyH_done (by kernel_rfl) ?_ _
      clear hHeld
      go_wp2_with fail
      go_meet
      case rel => exact ⟨z1, z2, rfl, rfl, (heap_set4 GE.out.1).trans G3.out, set4 G4.out, blw_set4 HW3.out GE.out.2.2⟩
  case rest =>
    obtain ⟨z1, z2, rfl, rfl, h1, h2, hb⟩ := hcut
    have c0 : wc.cell? ⟨z1, 0, none⟩ = some (.int .u32 (a : Int)) := cell_of_heap h1 rfl
    have c1 : wc.cell? ⟨z1, 1, none⟩ = some (.int .u32 (b : Int)) := cell_of_heap h1 rfl
    have c2 : wc.cell? ⟨z2, 1, none⟩ = some (.slice (some ⟨gq, 0, none⟩) m cq) := cell_of_heap h2 rfl
    have hab : a ≤ b := HAB.out
    have hm1 : (1 : Int) ≤ (m : Int) := by omega
    have hm3 : (m : Int) ≤ 3 := by omega
    have BZ := hid (belowCat B7.out hb)
    clear h1 h2 hb
    go_wp2
    go_ret
    exact ⟨rfl, BZ.out⟩
end Go.Proofs.YtiekffkeagcaiaaGreatDoor
