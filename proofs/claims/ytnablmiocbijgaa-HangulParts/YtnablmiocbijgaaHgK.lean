/- The law HangulParts, over this seat's translation. Conditions: the words' bounds. -/
import Derived.Test.YtnablmiocbijgaaHgJ
namespace Go.Proofs.Ytnablmiocbijgaa
open Go.RowKit
set_option linter.unusedVariables false

set_option maxRecDepth 4000 in
set_option maxHeartbeats 12800000 in
theorem parts_law (p n : Nat) (w : World) (hp : p < 4294967296) (hn : n < 65536) :
    Calls Try.prog 3 #[u32 p, .int .u16 (n : Int)] w fun e w' => e = .returned (.bool true) ∧ Below w.heap.size w w' := by
  have HQ := hid (show n % 11172 < 11172 from Nat.mod_lt _ (by decide))
  have cq : (44032 + (n : Int) % 11172) = ((44032 + n % 11172 : Nat) : Int) := by omega
  obtain ⟨q, hq⟩ : ∃ q, 44032 + n % 11172 = q := ⟨_, rfl⟩
  rw [hq] at cq
  have HC := hid cq
  have HQ32 := hid (show q < 4294967296 by have := HQ.out; omega)
  clear cq hq HQ
  go_enter Try.func3, Try.ntmps3
  go_wp2_with fail
  refine (awake11_any _).mono ?_
  rintro e w1 ⟨rfl, hB1⟩
  have B1 := hid hB1
  clear hB1
  go_wp2_with fail
  rw [HC.out]
  have HG := hid (heap_alloc_at w1 (.cells #[.int .u32 (p : Int), .int .u32 (q : Int)] 22))
  have B2 := hid (show Below w.heap.size w (w1.alloc (.cells #[.int .u32 (p : Int), .int .u32 (q : Int)] 22)) from blw_alloc B1.out)
  have HGN := hid (show w.heap.size ≤ w1.heap.size from B1.out.size)
  generalize w1.alloc (.cells #[.int .u32 (p : Int), .int .u32 (q : Int)] 22) = w2 at *
  obtain ⟨G, hG⟩ : ∃ G, w1.heap.size = G := ⟨_, rfl⟩
  rw [hG] at HG HGN ⊢
  clear hG B1 HC hn
  go_loopw [23] (fun c wr => ∃ i : Nat, i ≤ 2 ∧ c = .int .i64 (i : Int) ∧ Below w.heap.size w wr ∧ wr.heap[G]? = some (.cells #[.int .u32 (p : Int), .int .u32 (q : Int)] 22 (0, 0))) (fun c _ => 2 - (intOf c).toNat)
  case atStart => exact ⟨0, by omega, rfl, B2.out, HG.out⟩
  case round =>
    obtain ⟨i, hi, rfl, hB, h0⟩ := hrel
    have HB := hid hB
    have H0 := hid h0
    by_cases hlt : i < 2
    · obtain ⟨x, hx, k0⟩ : ∃ x : Nat, x < 4294967296 ∧ wr.cell? ⟨G, i, none⟩ = some (.int .u32 (x : Int)) := by
        have hi2 : i = 0 ∨ i = 1 := by omega
        rcases hi2 with rfl | rfl
        · exact ⟨p, hp, cell_of_heap h0 rfl⟩
        · exact ⟨q, HQ32.out, cell_of_heap h0 rfl⟩
      have HX := hid hx
      clear hB h0 hi
      go_wp2_with fail
      refine (of_b _ _).mono ?_
      rintro e w3 ⟨rfl, hB3⟩
      have B3 := hid (belowCat HB.out hB3)
      have H3 := hid (hpB hB3 H0.out)
      clear hB3 k0 hx
      go_wp2_with fail
      refine (parts_any x _ HX.out).mono ?_
      rintro e w4 ⟨rfl, hB4⟩
      have B4 := hid (belowCat B3.out hB4)
      have H4 := hid (hpB hB4 H3.out)
      have PL := hid (pa_lt x)
      clear hB4 H3 B3 HB H0
      cases hs : syl x with
      | false =>
        have E : pa0 x = 0 ∧ pa1 x = 0 ∧ pa2 x = 0 := by unfold pa0 pa1 pa2; rw [hs]; exact ⟨rfl, rfl, rfl⟩
        have RI := hid (fun w => ris_any x w)
        rw [hs] at RI
        rw [E.1, E.2.1, E.2.2, show ((mk false : Nat) : Int) = 0 from rfl]
        clear E PL hs
        go_upto_region 7 with fail
        have Q0 := hid (show ((w4.alloc (.cells #[.int .u32 0, .int .u32 0, .int .u32 0] 29)).alloc (sb 0)).heap[w4.heap.size]? = some (.cells #[.int .u32 0, .int .u32 0, .int .u32 0] 29) from (by simp only [hp_get, World.size_alloc]; repeat (first | rw [if_pos trivial] | rw [if_pos rfl] | rw [if_neg (by omega)])))
        have Q1 := hid (show ((w4.alloc (.cells #[.int .u32 0, .int .u32 0, .int .u32 0] 29)).alloc (sb 0)).heap[w4.heap.size + 1]? = some (sb 0) from (by simp only [hp_get, World.size_alloc]; repeat (first | rw [if_pos trivial] | rw [if_pos rfl] | rw [if_neg (by omega)])))
        have hBA := show Below w4.heap.size w4 ((w4.alloc (.cells #[.int .u32 0, .int .u32 0, .int .u32 0] 29)).alloc (sb 0)) from (by repeat (first | exact Below.refl _ _ | refine blw_alloc ?_ | refine blw_drew ?_ | assumption))
        have B5 := hid (belowCat B4.out hBA)
        have H5 := hid (hpB hBA H4.out)
        clear hBA B4 H4
        generalize (w4.alloc (.cells #[.int .u32 0, .int .u32 0, .int .u32 0] 29)).alloc (sb 0) = w5 at *
        obtain ⟨M, hM⟩ : ∃ M, w4.heap.size = M := ⟨_, rfl⟩
        rw [hM] at Q0 Q1 ⊢
        clear hM
        go_wp2_with fail
        refine (RI.out _).mono ?_
        rintro e w6 ⟨rfl, hw⟩
        subst hw
        have KC := hid (show ∀ w' : World, Below w6.heap.size w6 w' → w'.cell? ⟨M, 0, none⟩ = some (.int .u32 0) ∧ w'.cell? ⟨M, 1, none⟩ = some (.int .u32 0) ∧ w'.cell? ⟨M, 2, none⟩ = some (.int .u32 0) ∧ w'.cell? ⟨M + 1, 0, none⟩ = some (.int .u32 0) from
          fun w' hb => ⟨cell_of_heap (hpB hb Q0.out) rfl, cell_of_heap (hpB hb Q0.out) rfl, cell_of_heap (hpB hb Q0.out) rfl, cell_sb (hpB hb Q1.out)⟩)
        clear Q0 Q1 RI
        have k0 := (KC.out w6 (Below.refl _ _)).1
        go_wp2_with fail
        refine (is_same 0 _).mono ?_
        rintro e y1 ⟨rfl, hBy⟩
        have Y1 := hid hBy
        have k1 := (KC.out y1 Y1.out).2.1
        clear hBy k0
        go_wp2_with fail
        refine (is_same 0 _).mono ?_
        rintro e y2 ⟨rfl, hBy⟩
        have Y2 := hid (belowCat Y1.out hBy)
        have k2 := (KC.out y2 Y2.out).2.2.1
        clear hBy k1 Y1
        go_wp2_with fail
        refine (is_same 0 _).mono ?_
        rintro e y3 ⟨rfl, hBy⟩
        have Y3 := hid (belowCat Y2.out hBy)
        have k3 := (KC.out y3 Y3.out).2.2.2
        clear hBy k2 Y2
        go_wp2_with fail
        refine (is_same 0 _).mono ?_
        rintro e y4 ⟨rfl, hBy⟩
        have Y4 := hid (belowCat Y3.out hBy)
        have BZ := hid (belowCat B5.out Y4.out)
        have HZ := hid (hpB Y4.out H5.out)
        clear hBy k3 Y3 KC
        go_wp2
        go_roundw
        case rel => exact ⟨i + 1, by omega, by go_num, BZ.out, HZ.out⟩
        case measure => simp [intOf]; omega
      | true =>
        obtain ⟨e0, e1, e2, l1, l2, z0, z1, z2⟩ := rp_said x hs
        have RI := hid (fun w => ris_any x w)
        have RP := hid (fun w => rparts_x x w hs)
        rw [hs] at RI
        have HA := hid (again x hs)
        have HL := hid (hl_lt x hs)
        rw [e0, e1, e2, show ((mk true : Nat) : Int) = 4294967295 from rfl]
        obtain ⟨L, hL⟩ : ∃ L, (rp (x - 44032)).length = L := ⟨_, rfl⟩
        obtain ⟨xs, hxs⟩ : ∃ xs, us (rp (x - 44032)) = xs := ⟨_, rfl⟩
        simp only [hL, hxs] at RP l1 l2 z0 z1 z2
        obtain ⟨a, ha⟩ : ∃ a, hl0 x = a := ⟨_, rfl⟩
        obtain ⟨b, hb⟩ : ∃ b, hl1 x = b := ⟨_, rfl⟩
        obtain ⟨c, hc⟩ : ∃ c, hl2 x = c := ⟨_, rfl⟩
        rw [ha, hb, hc] at HA HL
        rw [ha] at z0
        rw [hb] at z1
        rw [hc] at z2
        rw [ha, hb, hc]
        have Z := hid (And.intro z0 (And.intro z1 z2))
        have LL := hid (And.intro l1 l2)
        clear e0 e1 e2 hL hxs ha hb hc z0 z1 z2 PL hs l1 l2
        go_upto_region 7 with fail
        have Q0 := hid (show ((w4.alloc (.cells #[.int .u32 (a : Nat), .int .u32 (b : Nat), .int .u32 (c : Nat)] 29)).alloc (sb 4294967295)).heap[w4.heap.size]? = some (.cells #[.int .u32 (a : Nat), .int .u32 (b : Nat), .int .u32 (c : Nat)] 29) from (by simp only [hp_get, World.size_alloc]; repeat (first | rw [if_pos trivial] | rw [if_pos rfl] | rw [if_neg (by omega)])))
        have Q1 := hid (show ((w4.alloc (.cells #[.int .u32 (a : Nat), .int .u32 (b : Nat), .int .u32 (c : Nat)] 29)).alloc (sb 4294967295)).heap[w4.heap.size + 1]? = some (sb 4294967295) from (by simp only [hp_get, World.size_alloc]; repeat (first | rw [if_pos trivial] | rw [if_pos rfl] | rw [if_neg (by omega)])))
        have hBA := show Below w4.heap.size w4 ((w4.alloc (.cells #[.int .u32 (a : Nat), .int .u32 (b : Nat), .int .u32 (c : Nat)] 29)).alloc (sb 4294967295)) from (by repeat (first | exact Below.refl _ _ | refine blw_alloc ?_ | refine blw_drew ?_ | assumption))
        have B5 := hid (belowCat B4.out hBA)
        have H5 := hid (hpB hBA H4.out)
        clear hBA B4 H4
        generalize (w4.alloc (.cells #[.int .u32 (a : Nat), .int .u32 (b : Nat), .int .u32 (c : Nat)] 29)).alloc (sb 4294967295) = w5 at *
        obtain ⟨M, hM⟩ : ∃ M, w4.heap.size = M := ⟨_, rfl⟩
        rw [hM] at Q0 Q1 ⊢
        clear hM
        go_wp2_with fail
        refine (RI.out _).mono ?_
        rintro e w6 ⟨rfl, hw⟩
        subst hw
        clear RI
        go_wp2_with fail
        refine (RP.out _).mono ?_
        rintro e w7 ⟨ad, cap, rfl, hown, hB7⟩
        have O7 := hid hown
        have HSZ := hid (show w6.heap.size ≤ w7.heap.size from hB7.size)
        have HWZ := hid (show w.heap.size ≤ w6.heap.size from B5.out.size)
        have HGW := hid (show G < w6.heap.size from lt_of_heap H5.out)
        have B7 := hid (belowCat B5.out hB7)
        have H7 := hid (hpB hB7 H5.out)
        have HMW := hid (show M + 1 < w6.heap.size from lt_of_heap Q1.out)
        have Q0 := hid (hpB hB7 Q0.out)
        have Q1 := hid (hpB hB7 Q1.out)
        obtain ⟨i0, hi, hz0, hz1, hz2⟩ := info_parts infoU32
        clear hown hB7 RP B5 H5
        go_wp2_with (at_builtin; refine wpList_append_own _ rfl (.tmp 58) (.tmp 59) 25 rfl w6.heap.size 22 i0 _ 1 4 Try.underlying25 hi hz0 hz1 hz2 rfl (by decide) _ L xs rfl (O7.out.alloc _) ⟨w7.heap.size, 0, none⟩ 1 1 [.int .u32 0] rfl rfl (World.news_of_block (heap_alloc_at _ _)) (by intro u hu; simp at hu; rcases hu with rfl; rfl) (by have := LL.out; unfold maxLen; omega) (by have := LL.out; omega) (by have := HSZ.out; simp; omega) ?_; intro v' w8 hown' hgrow _; obtain ⟨sd', sc', rfl⟩ := owns_shape hown'; have HO8 := hid hown'; have HG8 := hid hgrow; clear hown' hgrow)
        have hB8 : Below w6.heap.size w7 w8 := ((Below.refl w6.heap.size w7).alloc HSZ.out _).grown HG8.out (by have := HSZ.out; simp; omega) (fun k hk => (O7.out.lt k hk).1)
        have B8 := hid (show Below w.heap.size w w8 from B7.out.trans (hB8.mono HWZ.out))
        have H8 := hid ((hB8.block G HGW.out).trans H7.out)
        have q0 := hid ((hB8.block M (by have := HMW.out; omega)).trans Q0.out)
        have q1 := hid ((hB8.block (M + 1) HMW.out).trans Q1.out)
        obtain ⟨g, rfl, _, hg, hgc⟩ := owns_cell HO8.out (by omega)
        have k0 := hgc 0 _ Z.out.1
        have k1 := hgc 1 _ Z.out.2.1
        have k2 := hgc 2 _ Z.out.2.2
        have n0 : (0 : Int) < ((L + 1 : Nat) : Int) := by omega
        have n1 : (1 : Int) < ((L + 1 : Nat) : Int) := by have := LL.out; omega
        have n2 : (2 : Int) < ((L + 1 : Nat) : Int) := by have := LL.out; omega
        have m0 : 0 < L + 1 := by omega
        have m1 : 1 < L + 1 := by have := LL.out; omega
        have m2 : 2 < L + 1 := by have := LL.out; omega
        have KD := hid (show ∀ w' : World, Below w8.heap.size w8 w' → w'.cell? ⟨M, 0, none⟩ = some (.int .u32 (a : Nat)) ∧ w'.cell? ⟨M, 1, none⟩ = some (.int .u32 (b : Nat)) ∧ w'.cell? ⟨M, 2, none⟩ = some (.int .u32 (c : Nat)) ∧ w'.cell? ⟨M + 1, 0, none⟩ = some (.int .u32 4294967295) ∧ w'.cell? ⟨g, 0, none⟩ = some (.int .u32 (a : Nat)) ∧ w'.cell? ⟨g, 1, none⟩ = some (.int .u32 (b : Nat)) ∧ w'.cell? ⟨g, 2, none⟩ = some (.int .u32 (c : Nat)) from
          fun w' hb => ⟨cell_of_heap (hpB hb q0.out) rfl, cell_of_heap (hpB hb q0.out) rfl, cell_of_heap (hpB hb q0.out) rfl, cell_sb (hpB hb q1.out), cell_below hb k0 hg, cell_below hb k1 hg, cell_below hb k2 hg⟩)
        clear hB8 hgc k0 k1 k2 hi hz0 hz1 hz2 Q0 Q1 O7 HO8 HG8 B7 H7 hg
        obtain ⟨N, hN⟩ : ∃ N, L + 1 = N := ⟨_, rfl⟩
        rw [hN] at n0 n1 n2 m0 m1 m2
        try rw [hN]
        clear hN Z
        refine wp_region_held_drew (S := (fun w' => w'.cell? ⟨M, 0, none⟩ = some (.int .u32 (a : Nat)) ∧ w'.cell? ⟨M, 1, none⟩ = some (.int .u32 (b : Nat)) ∧ w'.cell? ⟨M, 2, none⟩ = some (.int .u32 (c : Nat)) ∧ w'.cell? ⟨M + 1, 0, none⟩ = some (.int .u32 4294967295) ∧ w'.cell? ⟨g, 0, none⟩ = some (.int .u32 (a : Nat)) ∧ w'.cell? ⟨g, 1, none⟩ = some (.int .u32 (b : Nat)) ∧ w'.cell? ⟨g, 2, none⟩ = some (.int .u32 (c : Nat)))) (by kernel_rfl) (KD.out _ (blw_drew (Below.refl _ _))) (fun hHeld => ?_)
        refine tk_at (i := 0) (d := some 61) (v := ?_) rfl rfl (by kernel_rfl) (by kernel_rfl) (by kernel_rfl) (fun _ _ _ h => h) (Or.inl ⟨by rfl, ?_⟩) (by assumption) ?_
        rotate_left
        · (intro w hSw; (try dsimp only at hSw); go_simp; try (with_reducible rfl))
        simp only [Act.put, List.setIfInBounds_toArray, List.set_cons_zero, List.set_cons_succ]
        refine tk_at (i := 1) (d := some 62) (v := ?_) rfl rfl (by kernel_rfl) (by kernel_rfl) (by kernel_rfl) (fun _ _ _ h => h) (Or.inl ⟨by rfl, ?_⟩) (by assumption) ?_
        rotate_left
        · (intro w hSw; (try dsimp only at hSw); go_simp; try (with_reducible rfl))
        simp only [Act.put, List.setIfInBounds_toArray, List.set_cons_zero, List.set_cons_succ]
        refine tk_at (i := 2) (d := some 63) (v := ?_) rfl rfl (by kernel_rfl) (by kernel_rfl) (by kernel_rfl) (fun _ _ _ h => h) (Or.inl ⟨by rfl, ?_⟩) (by assumption) ?_
        rotate_left
        · (intro w hSw; (try dsimp only at hSw); go_simp; try (with_reducible rfl))
        simp only [Act.put, List.setIfInBounds_toArray, List.set_cons_zero, List.set_cons_succ]
        refine tk_at (i := 3) (d := some 64) (v := ?_) rfl rfl (by kernel_rfl) (by kernel_rfl) (by kernel_rfl) (fun _ _ _ h => h) (Or.inl ⟨by rfl, ?_⟩) (by assumption) ?_
        rotate_left
        · (intro w hSw; (try dsimp only at hSw); go_simp; try (with_reducible rfl))
        simp only [Act.put, List.setIfInBounds_toArray, List.set_cons_zero, List.set_cons_succ]
        refine tk_at (i := 4) (d := some 65) (v := ?_) rfl rfl (by kernel_rfl) (by kernel_rfl) (by kernel_rfl) (fun _ _ _ h => h) (Or.inl ⟨by rfl, ?_⟩) (by assumption) ?_
        rotate_left
        · (intro w hSw; (try dsimp only at hSw); go_simp; try (with_reducible rfl))
        simp only [Act.put, List.setIfInBounds_toArray, List.set_cons_zero, List.set_cons_succ]
        refine wpAnyH_ready (rs := [5]) (by kernel_rfl) (by simp) ?_
        refine AllReadyH.cons rfl (fun K hK => ?_) AllReadyH.nil
        go_simp
        refine (is_same a _).mono ?_
        rintro e y1 ⟨rfl, hBy⟩
        have Y1 := hid (belowCat (blw_drew (Below.refl _ _)) hBy)
        clear hBy
        go_wp2_with fail
        refine hK.out _ _ (KD.out _ Y1.out) (fun hHeld => ?_)
        clear hK K
        try simp only [Act.put, List.setIfInBounds_toArray, List.set_cons_zero, List.set_cons_succ]
        refine tk_at (i := 6) (d := some 67) (v := ?_) rfl rfl (by kernel_rfl) (by kernel_rfl) (by kernel_rfl) (fun _ _ _ h => h) (Or.inl ⟨by rfl, ?_⟩) (by assumption) ?_
        rotate_left
        · (intro w hSw; (try dsimp only at hSw); go_simp; try (with_reducible rfl))
        simp only [Act.put, List.setIfInBounds_toArray, List.set_cons_zero, List.set_cons_succ]
        refine tk_at (i := 7) (d := some 68) (v := ?_) rfl rfl (by kernel_rfl) (by kernel_rfl) (by kernel_rfl) (fun _ _ _ h => h) (Or.inl ⟨by rfl, ?_⟩) (by assumption) ?_
        rotate_left
        · (intro w hSw; (try dsimp only at hSw); go_simp; try (with_reducible rfl))
        simp only [Act.put, List.setIfInBounds_toArray, List.set_cons_zero, List.set_cons_succ]
        refine tk_at (i := 8) (d := some 69) (v := ?_) rfl rfl (by kernel_rfl) (by kernel_rfl) (by kernel_rfl) (fun _ _ _ h => h) (Or.inl ⟨by rfl, ?_⟩) (by assumption) ?_
        rotate_left
        · (intro w hSw; (try dsimp only at hSw); go_simp; try (with_reducible rfl))
        simp only [Act.put, List.setIfInBounds_toArray, List.set_cons_zero, List.set_cons_succ]
        refine tk_at (i := 9) (d := some 70) (v := ?_) rfl rfl (by kernel_rfl) (by kernel_rfl) (by kernel_rfl) (fun _ _ _ h => h) (Or.inl ⟨by rfl, ?_⟩) (by assumption) ?_
        rotate_left
        · (intro w hSw; (try dsimp only at hSw); go_simp; try (with_reducible rfl))
        simp only [Act.put, List.setIfInBounds_toArray, List.set_cons_zero, List.set_cons_succ]
        refine tk_at (i := 10) (d := some 71) (v := ?_) rfl rfl (by kernel_rfl) (by kernel_rfl) (by kernel_rfl) (fun _ _ _ h => h) (Or.inl ⟨by rfl, ?_⟩) (by assumption) ?_
        rotate_left
        · (intro w hSw; (try dsimp only at hSw); go_simp; try (with_reducible rfl))
        simp only [Act.put, List.setIfInBounds_toArray, List.set_cons_zero, List.set_cons_succ]
        refine tk_at (i := 11) (d := some 72) (v := ?_) rfl rfl (by kernel_rfl) (by kernel_rfl) (by kernel_rfl) (fun _ _ _ h => h) (Or.inl ⟨by rfl, ?_⟩) (by assumption) ?_
        rotate_left
        · (intro w hSw; (try dsimp only at hSw); go_simp; try (with_reducible rfl))
        simp only [Act.put, List.setIfInBounds_toArray, List.set_cons_zero, List.set_cons_succ]
        refine tk_at (i := 12) (d := some 73) (v := ?_) rfl rfl (by kernel_rfl) (by kernel_rfl) (by kernel_rfl) (fun _ _ _ h => h) (Or.inl ⟨by rfl, ?_⟩) (by assumption) ?_
        rotate_left
        · (intro w hSw; (try dsimp only at hSw); go_simp; try (with_reducible rfl))
        simp only [Act.put, List.setIfInBounds_toArray, List.set_cons_zero, List.set_cons_succ]
        refine wpAnyH_ready (rs := [13]) (by kernel_rfl) (by simp) ?_
        refine AllReadyH.cons rfl (fun K hK => ?_) AllReadyH.nil
        go_simp
        refine (is_same b _).mono ?_
        rintro e y2 ⟨rfl, hBy⟩
        have Y2 := hid (belowCat Y1.out hBy)
        clear hBy
        go_wp2_with fail
        refine hK.out _ _ (KD.out _ Y2.out) (fun hHeld => ?_)
        clear hK K
        try simp only [Act.put, List.setIfInBounds_toArray, List.set_cons_zero, List.set_cons_succ]
        refine tk_at (i := 14) (d := some 75) (v := ?_) rfl rfl (by kernel_rfl) (by kernel_rfl) (by kernel_rfl) (fun _ _ _ h => h) (Or.inl ⟨by rfl, ?_⟩) (by assumption) ?_
        rotate_left
        · (intro w hSw; (try dsimp only at hSw); go_simp; try (with_reducible rfl))
        simp only [Act.put, List.setIfInBounds_toArray, List.set_cons_zero, List.set_cons_succ]
        refine tk_at (i := 15) (d := some 76) (v := ?_) rfl rfl (by kernel_rfl) (by kernel_rfl) (by kernel_rfl) (fun _ _ _ h => h) (Or.inl ⟨by rfl, ?_⟩) (by assumption) ?_
        rotate_left
        · (intro w hSw; (try dsimp only at hSw); go_simp; try (with_reducible rfl))
        simp only [Act.put, List.setIfInBounds_toArray, List.set_cons_zero, List.set_cons_succ]
        refine tk_at (i := 16) (d := some 77) (v := ?_) rfl rfl (by kernel_rfl) (by kernel_rfl) (by kernel_rfl) (fun _ _ _ h => h) (Or.inl ⟨by rfl, ?_⟩) (by assumption) ?_
        rotate_left
        · (intro w hSw; (try dsimp only at hSw); go_simp; try (with_reducible rfl))
        simp only [Act.put, List.setIfInBounds_toArray, List.set_cons_zero, List.set_cons_succ]
        refine tk_at (i := 17) (d := some 78) (v := ?_) rfl rfl (by kernel_rfl) (by kernel_rfl) (by kernel_rfl) (fun _ _ _ h => h) (Or.inl ⟨by rfl, ?_⟩) (by assumption) ?_
        rotate_left
        · (intro w hSw; (try dsimp only at hSw); go_simp; try (with_reducible rfl))
        simp only [Act.put, List.setIfInBounds_toArray, List.set_cons_zero, List.set_cons_succ]
        refine tk_at (i := 18) (d := some 79) (v := ?_) rfl rfl (by kernel_rfl) (by kernel_rfl) (by kernel_rfl) (fun _ _ _ h => h) (Or.inl ⟨by rfl, ?_⟩) (by assumption) ?_
        rotate_left
        · (intro w hSw; (try dsimp only at hSw); go_simp; try (with_reducible rfl))
        simp only [Act.put, List.setIfInBounds_toArray, List.set_cons_zero, List.set_cons_succ]
        refine tk_at (i := 19) (d := some 80) (v := ?_) rfl rfl (by kernel_rfl) (by kernel_rfl) (by kernel_rfl) (fun _ _ _ h => h) (Or.inl ⟨by rfl, ?_⟩) (by assumption) ?_
        rotate_left
        · (intro w hSw; (try dsimp only at hSw); go_simp; try (with_reducible rfl))
        simp only [Act.put, List.setIfInBounds_toArray, List.set_cons_zero, List.set_cons_succ]
        refine tk_at (i := 20) (d := some 81) (v := ?_) rfl rfl (by kernel_rfl) (by kernel_rfl) (by kernel_rfl) (fun _ _ _ h => h) (Or.inl ⟨by rfl, ?_⟩) (by assumption) ?_
        rotate_left
        · (intro w hSw; (try dsimp only at hSw); go_simp; try (with_reducible rfl))
        simp only [Act.put, List.setIfInBounds_toArray, List.set_cons_zero, List.set_cons_succ]
        refine tk_at (i := 21) (d := some 82) (v := ?_) rfl rfl (by kernel_rfl) (by kernel_rfl) (by kernel_rfl) (fun _ _ _ h => h) (Or.inl ⟨by rfl, ?_⟩) (by assumption) ?_
        rotate_left
        · (intro w hSw; (try dsimp only at hSw); go_simp; try (with_reducible rfl))
        simp only [Act.put, List.setIfInBounds_toArray, List.set_cons_zero, List.set_cons_succ]
        refine wpAnyH_ready (rs := [22]) (by kernel_rfl) (by simp) ?_
        refine AllReadyH.cons rfl (fun K hK => ?_) AllReadyH.nil
        go_simp
        refine (is_same c _).mono ?_
        rintro e y3 ⟨rfl, hBy⟩
        have Y3 := hid (belowCat Y2.out hBy)
        clear hBy
        go_wp2_with fail
        refine hK.out _ _ (KD.out _ Y3.out) (fun hHeld => ?_)
        clear hK K
        try simp only [Act.put, List.setIfInBounds_toArray, List.set_cons_zero, List.set_cons_succ]
        refine tk_at (i := 23) (d := some 84) (v := ?_) rfl rfl (by kernel_rfl) (by kernel_rfl) (by kernel_rfl) (fun _ _ _ h => h) (Or.inl ⟨by rfl, ?_⟩) (by assumption) ?_
        rotate_left
        · (intro w hSw; (try dsimp only at hSw); go_simp; try (with_reducible rfl))
        simp only [Act.put, List.setIfInBounds_toArray, List.set_cons_zero, List.set_cons_succ]
        refine tk_at (i := 24) (d := some 85) (v := ?_) rfl rfl (by kernel_rfl) (by kernel_rfl) (by kernel_rfl) (fun _ _ _ h => h) (Or.inl ⟨by rfl, ?_⟩) (by assumption) ?_
        rotate_left
        · (intro w hSw; (try dsimp only at hSw); go_simp; try (with_reducible rfl))
        simp only [Act.put, List.setIfInBounds_toArray, List.set_cons_zero, List.set_cons_succ]
        refine tk_at (i := 25) (d := some 86) (v := ?_) rfl rfl (by kernel_rfl) (by kernel_rfl) (by kernel_rfl) (fun _ _ _ h => h) (Or.inl ⟨by rfl, ?_⟩) (by assumption) ?_
        rotate_left
        · (intro w hSw; (try dsimp only at hSw); go_simp; try (with_reducible rfl))
        simp only [Act.put, List.setIfInBounds_toArray, List.set_cons_zero, List.set_cons_succ]
        refine tk_at (i := 26) (d := some 87) (v := ?_) rfl rfl (by kernel_rfl) (by kernel_rfl) (by kernel_rfl) (fun _ _ _ h => h) (Or.inl ⟨by rfl, ?_⟩) (by assumption) ?_
        rotate_left
        · (intro w hSw; (try dsimp only at hSw); go_simp; try (with_reducible rfl))
        simp only [Act.put, List.setIfInBounds_toArray, List.set_cons_zero, List.set_cons_succ]
        refine wpAnyH_ready (rs := [27]) (by kernel_rfl) (by simp) ?_
        refine AllReadyH.cons rfl (fun K hK => ?_) AllReadyH.nil
        go_simp
        refine (is_same 4294967295 _).mono ?_
        rintro e y4 ⟨rfl, hBy⟩
        have Y4 := hid (belowCat Y3.out hBy)
        clear hBy
        go_wp2_with fail
        refine hK.out _ _ (KD.out _ Y4.out) (fun hHeld => ?_)
        clear hK K
        try simp only [Act.put, List.setIfInBounds_toArray, List.set_cons_zero, List.set_cons_succ]
        refine tk_at (i := 28) (d := some 89) (v := ?_) rfl rfl (by kernel_rfl) (by kernel_rfl) (by kernel_rfl) (fun _ _ _ h => h) (Or.inl ⟨by rfl, ?_⟩) (by assumption) ?_
        rotate_left
        · (intro w hSw; (try dsimp only at hSw); go_simp; try (with_reducible rfl))
        simp only [Act.put, List.setIfInBounds_toArray, List.set_cons_zero, List.set_cons_succ]
        refine tk_at (i := 29) (d := some 90) (v := ?_) rfl rfl (by kernel_rfl) (by kernel_rfl) (by kernel_rfl) (fun _ _ _ h => h) (Or.inl ⟨by rfl, ?_⟩) (by assumption) ?_
        rotate_left
        · (intro w hSw; (try dsimp only at hSw); go_simp; try (with_reducible rfl))
        simp only [Act.put, List.setIfInBounds_toArray, List.set_cons_zero, List.set_cons_succ]
        refine wpAnyH_done (by kernel_rfl) ?_ _
        clear hHeld
        have BA := hid (belowCat B8.out Y4.out)
        have HA4 := hid (hpB Y4.out H8.out)
        have r0 := hid (hpB Y4.out q0.out)
        have k0 := (KD.out y4 Y4.out).1
        have k1 := (KD.out y4 Y4.out).2.1
        clear Y1 Y2 Y3 Y4 KD B8 H8 q0 q1 n0 n1 n2 m0 m1 m2
        go_wp2_with fail
        refine (join_any a b _ (by have := HL.out; omega) (by have := HL.out; omega)).mono ?_
        rintro e z1 ⟨rfl, hBz⟩
        have C1 := hid (belowCat BA.out hBz)
        have G1 := hid (hpB hBz HA4.out)
        have r1 := hid (hpB hBz r0.out)
        clear k0 k1 BA HA4 r0 hBz
        obtain ⟨y, hy⟩ : ∃ y, hjn a b = y := ⟨_, rfl⟩
        rw [hy] at HA ⊢
        rw [HA.out.1, show ((mk true : Nat) : Int) = 4294967295 from rfl]
        clear hy
        go_upto_region 14 with fail
        have T0 := hid (show ((z1.alloc (sb (y : Nat))).alloc (sb 4294967295)).heap[z1.heap.size]? = some (sb (y : Nat)) from (by simp only [hp_get, World.size_alloc]; repeat (first | rw [if_pos trivial] | rw [if_pos rfl] | rw [if_neg (by omega)])))
        have T1 := hid (show ((z1.alloc (sb (y : Nat))).alloc (sb 4294967295)).heap[z1.heap.size + 1]? = some (sb 4294967295) from (by simp only [hp_get, World.size_alloc]; repeat (first | rw [if_pos trivial] | rw [if_pos rfl] | rw [if_neg (by omega)])))
        have hBA := show Below z1.heap.size z1 ((z1.alloc (sb (y : Nat))).alloc (sb 4294967295)) from (by repeat (first | exact Below.refl _ _ | refine blw_alloc ?_ | refine blw_drew ?_ | assumption))
        have C2 := hid (belowCat C1.out hBA)
        have G2 := hid (hpB hBA G1.out)
        have r2 := hid (hpB hBA r1.out)
        clear hBA C1 G1 r1
        generalize (z1.alloc (sb (y : Nat))).alloc (sb 4294967295) = z2 at *
        obtain ⟨T, hT⟩ : ∃ T, z1.heap.size = T := ⟨_, rfl⟩
        rw [hT] at T0 T1 ⊢
        clear hT
        have k0 := cell_sb T0.out
        have k1 : z2.cell? ⟨M, 2, none⟩ = some (.int .u32 (c : Nat)) := cell_of_heap r2.out rfl
        go_wp2_with fail
        refine (join_any y c _ HA.out.2.1 (by have := HL.out; omega)).mono ?_
        rintro e z3 ⟨rfl, hBz⟩
        have C3 := hid (belowCat C2.out hBz)
        have G3 := hid (hpB hBz G2.out)
        have t0 := hid (hpB hBz T0.out)
        have t1 := hid (hpB hBz T1.out)
        have HV := hid (join_said y c).2.2.2
        clear k0 k1 C2 G2 r2 T0 T1 hBz
        obtain ⟨v, hv⟩ : ∃ v, hjn y c = v := ⟨_, rfl⟩
        rw [hv] at HA HV ⊢
        obtain ⟨m, hm⟩ : ∃ m, mk (v != 0) = m := ⟨_, rfl⟩
        have HM := hid (show m < 4294967296 by rw [← hm]; exact mk_lt _)
        rw [hm] at HA ⊢
        clear hv hm
        go_upto_region 15 with fail
        have U0 := hid (show ((z3.alloc (sb (v : Nat))).alloc (sb (m : Nat))).heap[z3.heap.size]? = some (sb (v : Nat)) from (by simp only [hp_get, World.size_alloc]; repeat (first | rw [if_pos trivial] | rw [if_pos rfl] | rw [if_neg (by omega)])))
        have U1 := hid (show ((z3.alloc (sb (v : Nat))).alloc (sb (m : Nat))).heap[z3.heap.size + 1]? = some (sb (m : Nat)) from (by simp only [hp_get, World.size_alloc]; repeat (first | rw [if_pos trivial] | rw [if_pos rfl] | rw [if_neg (by omega)])))
        have hBA := show Below z3.heap.size z3 ((z3.alloc (sb (v : Nat))).alloc (sb (m : Nat))) from (by repeat (first | exact Below.refl _ _ | refine blw_alloc ?_ | refine blw_drew ?_ | assumption))
        have C4 := hid (belowCat C3.out hBA)
        have G4 := hid (hpB hBA G3.out)
        have u0 := hid (hpB hBA t0.out)
        have u1 := hid (hpB hBA t1.out)
        clear hBA C3 G3 t0 t1
        generalize (z3.alloc (sb (v : Nat))).alloc (sb (m : Nat)) = z4 at *
        obtain ⟨U, hU⟩ : ∃ U, z3.heap.size = U := ⟨_, rfl⟩
        rw [hU] at U0 U1 ⊢
        clear hU
        have k0 := cell_sb u1.out
        go_wp2_with fail
        refine (is_same 4294967295 _).mono ?_
        rintro e z5 ⟨rfl, hBz⟩
        have C5 := hid (belowCat C4.out hBz)
        have G5 := hid (hpB hBz G4.out)
        have k1 := cell_sb (hpB hBz U1.out)
        have k2 := cell_sb (hpB hBz U0.out)
        have k3 := cell_sb (hpB hBz u0.out)
        clear k0 C4 G4 hBz
        go_wp2_with fail
        refine (sel_b m v y _ HM.out HV.out HA.out.2.1).mono ?_
        rintro e z6 ⟨rfl, hBz⟩
        rw [HA.out.2.2]
        have C6 := hid (belowCat C5.out hBz)
        have G6 := hid (hpB hBz G5.out)
        clear k1 k2 k3 C5 G5 hBz
        go_wp2_with fail
        refine (is_same x _).mono ?_
        rintro e z7 ⟨rfl, hBz⟩
        have C7 := hid (belowCat C6.out hBz)
        have G7 := hid (hpB hBz G6.out)
        clear hBz C6 G6
        go_wp2
        go_roundw
        case rel => exact ⟨i + 1, by omega, by go_num, C7.out, G7.out⟩
        case measure => simp [intOf]; omega
    · obtain rfl : i = 2 := by omega
      clear hB h0
      go_wp2
      go_ret
      exact ⟨rfl, HB.out⟩
end Go.Proofs.Ytnablmiocbijgaa
