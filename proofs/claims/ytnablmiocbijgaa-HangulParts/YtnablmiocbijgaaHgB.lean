/- Package hangul's divide, over this seat's translation: a quotient bit by bit. Conditions: the words' bounds. -/
import Derived.Test.YtnablmiocbijgaaHgA
namespace Go.Proofs.Ytnablmiocbijgaa
open Go.RowKit
set_option linter.unusedVariables false

theorem shl_d (d j : Nat) (hj : j < 5) (hd : d ≤ 1000) : ((d : Int) * 2 ^ j) % 4294967296 = ((d * 2 ^ j : Nat) : Int) ∧ d * 2 ^ j < 4294967296 := by
  have h1 : 2 ^ j ≤ 2 ^ 4 := Nat.pow_le_pow_right (by decide) (by omega)
  have h2 : d * 2 ^ j ≤ 1000 * 16 := Nat.mul_le_mul hd h1
  have e : ((d : Int) * 2 ^ j) = ((d * 2 ^ j : Nat) : Int) := by simp
  rw [e]
  generalize d * 2 ^ j = q at *
  omega
theorem two_j (j : Nat) (hj : j < 5) : ((2 : Int) ^ j) % 4294967296 = ((2 ^ j : Nat) : Int) ∧ 2 ^ j < 4294967296 := by
  have h := shl_d 1 j hj (by omega)
  simpa using h
theorem dvR_step (d j : Nat) (s : Nat × Nat) : dvR d (j + 1) s = dvR d j (orW s.1 (andW (notW (mk (decide (s.2 < d * 2 ^ j)))) (2 ^ j)), subW s.2 (andW (notW (mk (decide (s.2 < d * 2 ^ j)))) (d * 2 ^ j))) := rfl
set_option maxHeartbeats 6400000 in
theorem divide_any (x d : Nat) (w : World) (hx : x < 4294967296) (hd : d ≤ 1000) :
    Calls Try.prog 27 #[sec x, u32 d] w fun e w' => e = .returned (.tuple #[sec ((dvR d 5 (0, x)).1 : Nat), sec ((dvR d 5 (0, x)).2 : Nat)]) ∧ Below w.heap.size w w' := by
  go_enter Try.func27, Try.ntmps27
  go_upto_region 1 with fail
  have H0 := hid (show (((w.alloc (sb x)).alloc (sb 0)).alloc (sb 0)).heap[w.heap.size]? = some (sb x) from (by simp only [hp_get, World.size_alloc]; repeat (first | rw [if_pos trivial] | rw [if_pos rfl] | rw [if_neg (by omega)])))
  have H1 := hid (show (((w.alloc (sb x)).alloc (sb 0)).alloc (sb 0)).heap[w.heap.size + 1]? = some (sb 0) from (by simp only [hp_get, World.size_alloc]; repeat (first | rw [if_pos trivial] | rw [if_pos rfl] | rw [if_neg (by omega)])))
  have H2 := hid (show (((w.alloc (sb x)).alloc (sb 0)).alloc (sb 0)).heap[w.heap.size + 1 + 1]? = some (sb 0) from (by simp only [hp_get, World.size_alloc]; repeat (first | rw [if_pos trivial] | rw [if_pos rfl] | rw [if_neg (by omega)])))
  have HB := hid (show Below w.heap.size w (((w.alloc (sb x)).alloc (sb 0)).alloc (sb 0)) from (by repeat (first | exact Below.refl _ _ | refine blw_alloc ?_ | refine blw_drew ?_ | assumption)))
  generalize ((w.alloc (sb x)).alloc (sb 0)).alloc (sb 0) = w2 at *
  obtain ⟨N, hN⟩ : ∃ N, w.heap.size = N := ⟨_, rfl⟩
  have HN := hid hN
  rw [hN] at H0 H1 H2 ⊢
  clear hN
  refine wp_region_held_drew (S := (fun w' => w'.cell? ⟨N, 0, none⟩ = some (.int .u32 (x : Int)))) (by kernel_rfl) (cell_sb (hpB (blw_drew (Below.refl _ _)) H0.out)) (fun hHeld => ?_)
  refine tk_at (i := 1) (d := some 10) (v := ?_) rfl rfl (by kernel_rfl) (by kernel_rfl) (by kernel_rfl) (fun _ _ _ h => h) (Or.inl ⟨by rfl, ?_⟩) (by assumption) ?_
  rotate_left
  · (intro w hSw; (try dsimp only at hSw); go_simp; try (with_reducible rfl))
  simp only [Act.put, List.setIfInBounds_toArray, List.set_cons_zero, List.set_cons_succ]
  refine wpAnyH_ready (rs := [0]) (by kernel_rfl) (by simp) ?_
  refine AllReadyH.cons rfl (fun K hK => ?_) AllReadyH.nil
  go_simp
  refine (of_b _ _).mono ?_
  rintro e w4 ⟨rfl, hB4⟩
  have HB4 := hid (belowCat (blw_drew (Below.refl _ _)) hB4)
  clear hB4
  have J0 := hid (hpB HB4.out H0.out)
  have J1 := hid (hpB HB4.out H1.out)
  have J2 := hid (hpB HB4.out H2.out)
  have f1 := frozen_of_heap (i := 0) J1.out
  have c1 := cell_sb J1.out
  have f2 := frozen_of_heap (i := 0) J2.out
  have c2 := cell_sb J2.out
  go_wp2_with fail
  refine hK.out _ _ (cell_sb J0.out) (fun hHeld => ?_)
  clear hK K
  try simp only [Act.put, List.setIfInBounds_toArray, List.set_cons_zero, List.set_cons_succ]
  refine wpAnyH_ready (rs := [2]) (by kernel_rfl) (by simp) ?_
  refine AllReadyH.cons rfl (fun K hK => ?_) AllReadyH.nil
  go_simp
  go_wp2_with fail
  refine hK.out _ _ (cell_off hHeld (by omega)) (fun hHeld => ?_)
  clear hK K
  try simp only [Act.put, List.setIfInBounds_toArray, List.set_cons_zero, List.set_cons_succ]
  refine wpAnyH_ready (rs := [3]) (by kernel_rfl) (by simp) ?_
  refine AllReadyH.cons rfl (fun K hK => ?_) AllReadyH.nil
  go_simp
  have c2 := cell_off (g := N + 1) (i := 0) (v := .int .u32 0) c2 (by omega)
  have f2 := frozen_off (g := N + 1) (i := 0) (v := .int .u32 0) f2 (by omega)
  go_wp2_with fail
  refine hK.out _ _ (cell_off hHeld (by omega)) (fun hHeld => ?_)
  clear hK K
  try simp only [Act.put, List.setIfInBounds_toArray, List.set_cons_zero, List.set_cons_succ]
  refine wpAnyH_done (by kernel_rfl) ?_ _
  clear hHeld
  have K1 := hid (put_off (u := .int .u32 (x : Int)) (put_at (u := 0) J1.out) (show N + 1 ≠ N + 1 + 1 by omega))
  have K2 := hid (put_at (u := (x : Int)) (put_off (u := .int .u32 0) J2.out (show N + 1 + 1 ≠ N + 1 by omega)))
  have KB := hid (show Below w.heap.size w ((w4.setCell ⟨N + 1, 0, none⟩ (.int .u32 0)).setCell ⟨N + 1 + 1, 0, none⟩ (.int .u32 (x : Int))) from
    blw_set _ (blw_set _ (belowCat HB.out HB4.out) (by have := HN.out; show w.heap.size ≤ N + 1; omega)) (by have := HN.out; show w.heap.size ≤ N + 1 + 1; omega))
  clear f1 c1 f2 c2 J0 J1 J2 HB HB4 H0 H1 H2
  go_wp2_with fail
  generalize (w4.setCell ⟨N + 1, 0, none⟩ (.int .u32 0)).setCell ⟨N + 1 + 1, 0, none⟩ (.int .u32 (x : Int)) = w5 at *
  go_loopw [6] (fun c wr => ∃ (k : Nat) (s : Nat × Nat), k ≤ 5 ∧ c = .int .i64 ((k : Int) - 1) ∧ dvR d k s = dvR d 5 (0, x) ∧ s.1 < 4294967296 ∧ s.2 < 4294967296 ∧ Below w.heap.size w wr ∧ wr.heap[N + 1]? = some (sb (s.1 : Nat)) ∧ wr.heap[N + 1 + 1]? = some (sb (s.2 : Nat))) (fun c _ => (intOf c + 1).toNat)
  case atStart => exact ⟨5, (0, x), by omega, rfl, rfl, Nat.zero_lt_succ _, hx, KB.out, K1.out, K2.out⟩
  case round =>
    obtain ⟨k, s, hk, hc, hR, hs1, hs2, hB, h1, h2⟩ := hrel
    have HR := hid hR
    have HB := hid hB
    have G1 := hid h1
    have G2 := hid h2
    cases k with
    | zero =>
      obtain rfl := hc
      clear hB h1 h2 hk hR
      have HR2 := hid (show dvR d 5 (0, x) = s from HR.out.symm)
      go_upto_region 9 with fail
      refine wp_region_held_drew (S := (fun w' => w'.cell? ⟨N + 1, 0, none⟩ = some (.int .u32 (s.1 : Nat)) ∧ w'.cell? ⟨N + 1 + 1, 0, none⟩ = some (.int .u32 (s.2 : Nat)))) (by kernel_rfl) (⟨cell_sb (hpB (blw_drew (Below.refl _ _)) G1.out), cell_sb (hpB (blw_drew (Below.refl _ _)) G2.out)⟩) (fun hHeld => ?_)
      refine tk_at (i := 0) (d := some 35) (v := ?_) rfl rfl (by kernel_rfl) (by kernel_rfl) (by kernel_rfl) (fun _ _ _ h => h) (Or.inl ⟨by rfl, ?_⟩) (by assumption) ?_
      rotate_left
      · (intro w hSw; (try dsimp only at hSw); go_simp; try (with_reducible rfl))
      simp only [Act.put, List.setIfInBounds_toArray, List.set_cons_zero, List.set_cons_succ]
      refine tk_at (i := 1) (d := some 36) (v := ?_) rfl rfl (by kernel_rfl) (by kernel_rfl) (by kernel_rfl) (fun _ _ _ h => h) (Or.inl ⟨by rfl, ?_⟩) (by assumption) ?_
      rotate_left
      · (intro w hSw; (try dsimp only at hSw); go_simp; try (with_reducible rfl))
      simp only [Act.put, List.setIfInBounds_toArray, List.set_cons_zero, List.set_cons_succ]
      have J1 := hid (hpB (blw_drew (Below.refl _ wr)) G1.out)
      have J2 := hid (hpB (blw_drew (Below.refl _ wr)) G2.out)
      have HBW := hid (blw_drew HB.out)
      obtain ⟨w3, hw3⟩ : ∃ y, wr.drew = y := ⟨_, rfl⟩
      rw [hw3] at J1 J2 HBW hHeld ⊢
      clear hw3
      have f1 := frozen_of_heap (i := 0) J1.out
      have c1 := cell_sb J1.out
      have f2 := frozen_of_heap (i := 0) J2.out
      have c2 := cell_sb J2.out
      refine wpAnyH_ready (rs := [2]) (by kernel_rfl) (by simp) ?_
      refine AllReadyH.cons rfl (fun K hK => ?_) AllReadyH.nil
      go_simp
      go_wp2_with fail
      refine hK.out _ _ (⟨cell_sb (put_at (u := (s.1 : Nat)) J1.out), cell_off hHeld.2 (by omega)⟩) (fun hHeld => ?_)
      clear hK K
      try simp only [Act.put, List.setIfInBounds_toArray, List.set_cons_zero, List.set_cons_succ]
      refine wpAnyH_ready (rs := [3]) (by kernel_rfl) (by simp) ?_
      refine AllReadyH.cons rfl (fun K hK => ?_) AllReadyH.nil
      go_simp
      have c2 := cell_off (g := N + 1) (i := 0) (v := .int .u32 (s.1 : Nat)) c2 (by omega)
      have f2 := frozen_off (g := N + 1) (i := 0) (v := .int .u32 (s.1 : Nat)) f2 (by omega)
      go_wp2_with fail
      refine hK.out _ _ (⟨cell_off hHeld.1 (by omega), cell_sb (put_at (u := (s.2 : Nat)) (put_off (u := .int .u32 (s.1 : Nat)) J2.out (show N + 1 + 1 ≠ N + 1 by omega)))⟩) (fun hHeld => ?_)
      clear hK K
      try simp only [Act.put, List.setIfInBounds_toArray, List.set_cons_zero, List.set_cons_succ]
      refine wpAnyH_done (by kernel_rfl) ?_ _
      clear hHeld
      have d1 := cell_sb (put_off (u := .int .u32 (s.2 : Nat)) (put_at (u := (s.1 : Nat)) J1.out) (show N + 1 ≠ N + 1 + 1 by omega))
      have d2 := cell_sb (put_at (u := (s.2 : Nat)) (put_off (u := .int .u32 (s.1 : Nat)) J2.out (show N + 1 + 1 ≠ N + 1 by omega)))
      clear f1 c1 f2 c2
      go_wp2
      exact bodyPost_ret (v := .tuple #[sec (s.1 : Nat), sec (s.2 : Nat)]) (by simp only [results, Try.results27]; simp [go_sem, d1, d2]) rfl
        ⟨by rw [HR2.out], blw_set _ (blw_set _ HBW.out (by have := HN.out; show w.heap.size ≤ N + 1; omega)) (by have := HN.out; show w.heap.size ≤ N + 1 + 1; omega)⟩
    | succ j =>
      have hc' := hc.trans (show Value.int .i64 (((j + 1 : Nat) : Int) - 1) = .int .i64 (j : Int) by congr 1; omega)
      clear hc
      obtain rfl := hc'
      have hj : j < 5 := by omega
      obtain ⟨e1, p1⟩ := shl_d d j hj hd
      obtain ⟨e2, p2⟩ := two_j j hj
      have HRR := hid ((dvR_step d j s).symm.trans hR)
      clear HR
      obtain ⟨P, hP⟩ : ∃ P, d * 2 ^ j = P := ⟨_, rfl⟩
      rw [hP] at HRR e1 p1
      obtain ⟨Q, hQ⟩ : ∃ Q, 2 ^ j = Q := ⟨_, rfl⟩
      rw [hQ] at HRR e2 p2
      obtain ⟨g, hg⟩ : ∃ g, notW (mk (decide (s.2 < P))) = g := ⟨_, rfl⟩
      have g32 : g < 4294967296 := by rw [← hg]; exact notW_lt (mk_lt _)
      have HG := hid hg
      rw [hg] at HRR
      obtain ⟨q, r⟩ := s
      simp only at hs1 hs2 G1 G2 HRR HG
      have HW := hid (And.intro hP (And.intro p1 (And.intro p2 g32)))
      have HS := hid (And.intro hs1 hs2)
      have E2 := hid (show IntKind.u32.wrap ((2 : Int) ^ j) = (Q : Int) by rw [IntKind.wrap_u32]; exact e2)
      clear hB h1 h2 hP hQ hg hR p1 p2 g32 hs1 hs2 e2
      go_wp2_with fail
      rw [e1]
      refine (of_b _ _).mono ?_
      rintro e w6 ⟨rfl, hB6⟩
      have B6 := hid (belowCat HB.out hB6)
      have J1 := hid (hpB hB6 G1.out)
      have J2 := hid (hpB hB6 G2.out)
      clear hB6 HB G1 G2 K1 K2 KB e1
      go_upto_region 6 with fail
      have HP0 := hid (heap_alloc_at w6 (sb P))
      have M1 := hid (hpB ((Below.refl w6.heap.size w6).alloc (Nat.le_refl _) (sb P)) J1.out)
      have M2 := hid (hpB ((Below.refl w6.heap.size w6).alloc (Nat.le_refl _) (sb P)) J2.out)
      have B7 := hid (blw_alloc (o := sb P) B6.out)
      have HPN := hid (show N + 1 + 1 < w6.heap.size from lt_of_heap J2.out)
      generalize w6.alloc (sb P) = w7 at *
      obtain ⟨p, hp⟩ : ∃ p, w6.heap.size = p := ⟨_, rfl⟩
      rw [hp] at HP0 HPN ⊢
      clear hp J1 J2 B6
      have k2 := cell_sb M2.out
      have kp := cell_sb HP0.out
      go_wp2_with fail
      refine (lt_any r P _ HS.out.2 HW.out.2.1).mono ?_
      rintro e w8 ⟨rfl, hB8⟩
      go_wp2_with fail
      refine (not_b (mk (decide (r < P))) _ (mk_lt _)).mono ?_
      rintro e w9 ⟨rfl, hB9⟩
      rw [HG.out]
      have hBB := hB8.trans (hB9.mono hB8.size)
      have L1 := hid (hpB hBB M1.out)
      have L2 := hid (hpB hBB M2.out)
      have LP := hid (hpB hBB HP0.out)
      have B9 := hid (belowCat B7.out hBB)
      clear hB8 hB9 hBB M1 M2 HP0 B7 k2 kp
      go_upto_region 7 with fail
      have HG0 := hid (heap_alloc_at w9 (sb g))
      have hBA := (Below.refl w9.heap.size w9).alloc (Nat.le_refl _) (sb g)
      have M1 := hid (hpB hBA L1.out)
      have M2 := hid (hpB hBA L2.out)
      have MP := hid (hpB hBA LP.out)
      have B10 := hid (blw_alloc (o := sb g) B9.out)
      have HGN := hid (show p < w9.heap.size from lt_of_heap LP.out)
      clear hBA
      generalize w9.alloc (sb g) = w10 at *
      obtain ⟨y, hy⟩ : ∃ y, w9.heap.size = y := ⟨_, rfl⟩
      rw [hy] at HG0 HGN ⊢
      clear hy L1 L2 LP B9
      have K7 := hid (show ∀ w' : World, Fr (fun i => i = N + 1) w10 w' → w'.cell? ⟨y, 0, none⟩ = some (.int .u32 (g : Nat)) from fun w' hf => cell_sb ((hf.block y (lt_of_heap HG0.out) (by have := HGN.out; have := HPN.out; omega)).trans HG0.out))
      refine wp_region_held_drew (S := (fun w' => w'.cell? ⟨y, 0, none⟩ = some (.int .u32 (g : Nat)))) (by kernel_rfl) (K7.out _ (Fr.refl _ _).drew) (fun hHeld => ?_)
      refine tk_at (i := 1) (d := some 24) (v := ?_) rfl rfl (by kernel_rfl) (by kernel_rfl) (by kernel_rfl) (fun _ _ _ h => h) (Or.inl ⟨by rfl, ?_⟩) (by assumption) ?_
      rotate_left
      · (intro w hSw; (try dsimp only at hSw); go_simp; try (with_reducible rfl))
      simp only [Act.put, List.setIfInBounds_toArray, List.set_cons_zero, List.set_cons_succ]
      refine tk_at (i := 2) (d := some 25) (v := ?_) rfl rfl (by kernel_rfl) (by kernel_rfl) (by kernel_rfl) (fun _ _ _ h => h) (Or.inl ⟨by rfl, ?_⟩) (by assumption) ?_
      rotate_left
      · (intro w hSw; (try dsimp only at hSw); go_simp; try (with_reducible rfl))
      simp only [Act.put, List.setIfInBounds_toArray, List.set_cons_zero, List.set_cons_succ]
      refine tk_at (i := 3) (d := some 26) (v := ?_) rfl rfl (by kernel_rfl) (by kernel_rfl) (by kernel_rfl) (fun _ _ _ h => h) (Or.inl ⟨by rfl, ?_⟩) (by assumption) ?_
      rotate_left
      · (intro w hSw; (try dsimp only at hSw); go_simp; try (with_reducible rfl))
      simp only [Act.put, List.setIfInBounds_toArray, List.set_cons_zero, List.set_cons_succ]
      rw [E2.out]
      clear hHeld
      refine wpAnyH_inv0 (fun aC0 lsC aC wC => ∃ (b0 b4 b5 b6 b7 : Bool) (x23 x27 x28 x29 : Value), lsC = #[b0, true, true, true, b4, b5, b6, b7] ∧ aC = { aC0 with tmps := ((((aC0.tmps.setIfInBounds 23 x23).setIfInBounds 27 x27).setIfInBounds 28 x28).setIfInBounds 29 x29) } ∧ (b0 = true → x23 = sec (q : Nat)) ∧ (b4 = true → x27 = sec (Q : Nat)) ∧ (b5 = true → x28 = sec (andW g Q : Nat)) ∧ (b6 = true → x29 = sec (orW q (andW g Q) : Nat)) ∧ Fr (fun i => i = N + 1) w10 wC ∧ wC.heap[N + 1]? = some (.cells #[.int .u32 (if b7 then ((orW q (andW g Q) : Nat) : Int) else ((q : Nat) : Int))] 28 (0, 0)) ∧ (b0 || !b7) = true ∧ True) ?_ _ _ _ (by decide +kernel) (fun aS => ⟨false, false, false, false, false, aS.tmps.getD 23 undef, aS.tmps.getD 27 undef, aS.tmps.getD 28 undef, aS.tmps.getD 29 undef, by kernel_rfl, by simp only [set_self], fun h => (by cases h), fun h => (by cases h), fun h => (by cases h), fun h => (by cases h), (Fr.refl _ _).drew, M1.out, rfl, trivial⟩)
      intro lsC aC wC ⟨b0, b4, b5, b6, b7, x23, x27, x28, x29, hl, ha, hx23, hx27, hx28, hx29, hfr, how, hcc⟩
      subst hl ha
      have Hx23 := hid hx23
      have Hx27 := hid hx27
      have Hx28 := hid hx28
      have Hx29 := hid hx29
      have HFR := hid hfr
      have HOW := hid how
      have HCC := hid hcc
      clear hx23 hx27 hx28 hx29 hfr how hcc
      simp only [List.setIfInBounds_toArray, List.set_cons_zero, List.set_cons_succ]
      refine ⟨fun hr => ?_, fun i hi => ?_⟩
      rotate_left
      · have hcase : (i = 0 ∧ b0 = false) ∨ (i = 4 ∧ b4 = false) ∨ (i = 5 ∧ b5 = false ∧ b4 = true) ∨ (i = 6 ∧ b6 = false ∧ b0 = true ∧ b5 = true) ∨ (i = 7 ∧ b7 = false ∧ b0 = true ∧ b6 = true) := by
          refine of_decide_eq_true ((List.all_eq_true (p := fun i => decide ((i = 0 ∧ b0 = false) ∨ (i = 4 ∧ b4 = false) ∨ (i = 5 ∧ b5 = false ∧ b4 = true) ∨ (i = 6 ∧ b6 = false ∧ b0 = true ∧ b5 = true) ∨ (i = 7 ∧ b7 = false ∧ b0 = true ∧ b6 = true)))).1 ?_ i hi)
          clear Hx23 Hx27 Hx28 Hx29 HFR HOW HCC hi
          revert b0 b4 b5 b6 b7
          decide +kernel
        clear hi
        rcases hcase with ⟨rfl, rfl⟩ | ⟨rfl, rfl⟩ | ⟨rfl, rfl, rfl⟩ | ⟨rfl, rfl, rfl, rfl⟩ | ⟨rfl, rfl, rfl, rfl⟩
        · obtain rfl : b7 = false := by have := HCC.out.1; revert this; cases b7 <;> simp
          have c0 : wC.cell? ⟨N + 1, 0, none⟩ = some (.int .u32 ((q : Nat) : Int)) := cell_of_heap HOW.out rfl
          refine wpOp_shut rfl (fun K hK => ?_)
          go_simp
          go_wp2_with fail
          exact hK.out _ _ ⟨K7.out _ HFR.out, true, b4, b5, b6, false, _, _, _, _, by kernel_rfl, rfl, fun _ => rfl, Hx27.out, Hx28.out, Hx29.out, HFR.out, HOW.out, ⟨(by first | rfl | exact Bool.or_true _ | simp), trivial⟩⟩
        · refine wpOp_shut rfl (fun K hK => ?_)
          go_simp
          refine (of_b _ _).mono ?_
          rintro e wa ⟨rfl, hBa⟩
          have HBa := hid hBa
          clear hBa
          go_wp2_with fail
          have hF3 := HFR.out.trans (Fr.ofBelow (S := fun _ => False) HBa.out) (fun _ _ x => x.elim)
          exact hK.out _ _ ⟨K7.out _ hF3, b0, true, b5, b6, b7, _, _, _, _, by kernel_rfl, rfl, Hx23.out, fun _ => rfl, Hx28.out, Hx29.out, hF3, (hpB HBa.out HOW.out), HCC.out⟩
        · obtain rfl := Hx27.out rfl
          refine wpOp_shut rfl (fun K hK => ?_)
          go_simp
          refine (and_b g Q _ HW.out.2.2.2 HW.out.2.2.1).mono ?_
          rintro e wa ⟨rfl, hBa⟩
          have HBa := hid hBa
          clear hBa
          go_wp2_with fail
          have hF3 := HFR.out.trans (Fr.ofBelow (S := fun _ => False) HBa.out) (fun _ _ x => x.elim)
          exact hK.out _ _ ⟨K7.out _ hF3, b0, true, true, b6, b7, _, _, _, _, by kernel_rfl, rfl, Hx23.out, fun _ => rfl, fun _ => rfl, Hx29.out, hF3, (hpB HBa.out HOW.out), HCC.out⟩
        · obtain rfl := Hx23.out rfl
          obtain rfl := Hx28.out rfl
          refine wpOp_shut rfl (fun K hK => ?_)
          go_simp
          refine (or_b q (andW g Q) _ HS.out.1 (andW_lt HW.out.2.2.2)).mono ?_
          rintro e wa ⟨rfl, hBa⟩
          have HBa := hid hBa
          clear hBa
          go_wp2_with fail
          have hF3 := HFR.out.trans (Fr.ofBelow (S := fun _ => False) HBa.out) (fun _ _ x => x.elim)
          exact hK.out _ _ ⟨K7.out _ hF3, true, b4, true, true, b7, _, _, _, _, by kernel_rfl, rfl, fun _ => rfl, Hx27.out, fun _ => rfl, fun _ => rfl, hF3, (hpB HBa.out HOW.out), HCC.out⟩
        · obtain rfl := Hx29.out rfl
          have c0 := cell_of_heap (i := 0) HOW.out rfl
          have g0 := frozen_of_heap (i := 0) HOW.out
          refine wpOp_shut rfl (fun K hK => ?_)
          go_simp
          go_wp2_with fail
          have hF3 := HFR.out.setCell (p := ⟨N + 1, 0, none⟩) (.int .u32 ((orW q (andW g Q) : Nat) : Int)) (fun _ => rfl)
          exact hK.out _ _ ⟨K7.out _ hF3, true, b4, b5, true, true, _, _, _, _, by kernel_rfl, rfl, (fun _ => Hx23.out (by first | rfl | trivial)), Hx27.out, Hx28.out, fun _ => rfl, hF3, (heap_setCell_at _ _ 0 _ _ _ _ HOW.out), ⟨rfl, trivial⟩⟩
      have hall : (b0 && b4 && b5 && b6 && b7) = true := by
        clear Hx23 Hx27 Hx28 Hx29 HFR HOW HCC
        revert b0 b4 b5 b6 b7
        decide +kernel
      simp only [Bool.and_eq_true] at hall
      obtain ⟨⟨⟨⟨rfl, rfl⟩, rfl⟩, rfl⟩, rfl⟩ := hall
      obtain rfl := Hx23.out rfl
      obtain rfl := Hx27.out rfl
      obtain rfl := Hx28.out rfl
      obtain rfl := Hx29.out rfl
      have HR := hid (And.intro (show wC.heap[N + 1]? = some (sb ((orW q (andW g Q) : Nat) : Int)) from HOW.out) HFR.out)
      clear Hx23 Hx27 Hx28 Hx29 HFR HOW HCC hr
      have N1 := hid HR.out.1
      have hF := HR.out.2
      have N2 := hid ((hF.block (N + 1 + 1) (lt_of_heap M2.out) (by omega)).trans M2.out)
      have NP := hid ((hF.block p (lt_of_heap MP.out) (by have := HPN.out; omega)).trans MP.out)
      have NY := hid ((hF.block y (lt_of_heap HG0.out) (by have := HPN.out; have := HGN.out; omega)).trans HG0.out)
      have B11 := hid (B10.out.trans (hF.below B10.out.size (fun i hi e => by have := HN.out; omega)))
      clear hF HR M1 M2 MP HG0 B10 K7
      go_upto_region 8 with fail
      have K8 := hid (show ∀ w' : World, Fr (fun i => i = N + 1 + 1) wC w' → w'.cell? ⟨y, 0, none⟩ = some (.int .u32 (g : Nat)) ∧ w'.cell? ⟨p, 0, none⟩ = some (.int .u32 (P : Nat)) from fun w' hf => ⟨cell_sb ((hf.block y (lt_of_heap NY.out) (by have := HGN.out; have := HPN.out; omega)).trans NY.out), cell_sb ((hf.block p (lt_of_heap NP.out) (by have := HPN.out; omega)).trans NP.out)⟩)
      generalize wC = w12 at *
      refine wp_region_held_drew (S := (fun w' => w'.cell? ⟨y, 0, none⟩ = some (.int .u32 (g : Nat)) ∧ w'.cell? ⟨p, 0, none⟩ = some (.int .u32 (P : Nat)))) (by kernel_rfl) (K8.out _ (Fr.refl _ _).drew) (fun hHeld => ?_)
      refine tk_at (i := 1) (d := some 31) (v := ?_) rfl rfl (by kernel_rfl) (by kernel_rfl) (by kernel_rfl) (fun _ _ _ h => h) (Or.inl ⟨by rfl, ?_⟩) (by assumption) ?_
      rotate_left
      · (intro w hSw; (try dsimp only at hSw); go_simp; try (with_reducible rfl))
      simp only [Act.put, List.setIfInBounds_toArray, List.set_cons_zero, List.set_cons_succ]
      refine tk_at (i := 2) (d := some 32) (v := ?_) rfl rfl (by kernel_rfl) (by kernel_rfl) (by kernel_rfl) (fun _ _ _ h => h) (Or.inl ⟨by rfl, ?_⟩) (by assumption) ?_
      rotate_left
      · (intro w hSw; (try dsimp only at hSw); go_simp; try (with_reducible rfl))
      simp only [Act.put, List.setIfInBounds_toArray, List.set_cons_zero, List.set_cons_succ]
      clear hHeld
      refine wpAnyH_inv0 (fun aC0 lsC aC wC => ∃ (b0 b3 b4 b5 : Bool) (x30 x33 x34 : Value), lsC = #[b0, true, true, b3, b4, b5] ∧ aC = { aC0 with tmps := (((aC0.tmps.setIfInBounds 30 x30).setIfInBounds 33 x33).setIfInBounds 34 x34) } ∧ (b0 = true → x30 = sec (r : Nat)) ∧ (b3 = true → x33 = sec (andW g P : Nat)) ∧ (b4 = true → x34 = sec (subW r (andW g P) : Nat)) ∧ Fr (fun i => i = N + 1 + 1) w12 wC ∧ wC.heap[N + 1 + 1]? = some (.cells #[.int .u32 (if b5 then ((subW r (andW g P) : Nat) : Int) else ((r : Nat) : Int))] 28 (0, 0)) ∧ (b0 || !b5) = true ∧ True) ?_ _ _ _ (by decide +kernel) (fun aS => ⟨false, false, false, false, aS.tmps.getD 30 undef, aS.tmps.getD 33 undef, aS.tmps.getD 34 undef, by kernel_rfl, by simp only [set_self], fun h => (by cases h), fun h => (by cases h), fun h => (by cases h), (Fr.refl _ _).drew, N2.out, rfl, trivial⟩)
      intro lsC aC wC ⟨b0, b3, b4, b5, x30, x33, x34, hl, ha, hx30, hx33, hx34, hfr, how, hcc⟩
      subst hl ha
      have Hx30 := hid hx30
      have Hx33 := hid hx33
      have Hx34 := hid hx34
      have HFR := hid hfr
      have HOW := hid how
      have HCC := hid hcc
      clear hx30 hx33 hx34 hfr how hcc
      simp only [List.setIfInBounds_toArray, List.set_cons_zero, List.set_cons_succ]
      refine ⟨fun hr => ?_, fun i hi => ?_⟩
      rotate_left
      · have hcase : (i = 0 ∧ b0 = false) ∨ (i = 3 ∧ b3 = false) ∨ (i = 4 ∧ b4 = false ∧ b0 = true ∧ b3 = true) ∨ (i = 5 ∧ b5 = false ∧ b0 = true ∧ b4 = true) := by
          refine of_decide_eq_true ((List.all_eq_true (p := fun i => decide ((i = 0 ∧ b0 = false) ∨ (i = 3 ∧ b3 = false) ∨ (i = 4 ∧ b4 = false ∧ b0 = true ∧ b3 = true) ∨ (i = 5 ∧ b5 = false ∧ b0 = true ∧ b4 = true)))).1 ?_ i hi)
          clear Hx30 Hx33 Hx34 HFR HOW HCC hi
          revert b0 b3 b4 b5
          decide +kernel
        clear hi
        rcases hcase with ⟨rfl, rfl⟩ | ⟨rfl, rfl⟩ | ⟨rfl, rfl, rfl, rfl⟩ | ⟨rfl, rfl, rfl, rfl⟩
        · obtain rfl : b5 = false := by have := HCC.out.1; revert this; cases b5 <;> simp
          have c0 : wC.cell? ⟨N + 1 + 1, 0, none⟩ = some (.int .u32 ((r : Nat) : Int)) := cell_of_heap HOW.out rfl
          refine wpOp_shut rfl (fun K hK => ?_)
          go_simp
          go_wp2_with fail
          exact hK.out _ _ ⟨K8.out _ HFR.out, true, b3, b4, false, _, _, _, by kernel_rfl, rfl, fun _ => rfl, Hx33.out, Hx34.out, HFR.out, HOW.out, ⟨(by first | rfl | exact Bool.or_true _ | simp), trivial⟩⟩
        · refine wpOp_shut rfl (fun K hK => ?_)
          go_simp
          refine (and_b g P _ HW.out.2.2.2 HW.out.2.1).mono ?_
          rintro e wa ⟨rfl, hBa⟩
          have HBa := hid hBa
          clear hBa
          go_wp2_with fail
          have hF3 := HFR.out.trans (Fr.ofBelow (S := fun _ => False) HBa.out) (fun _ _ x => x.elim)
          exact hK.out _ _ ⟨K8.out _ hF3, b0, true, b4, b5, _, _, _, by kernel_rfl, rfl, Hx30.out, fun _ => rfl, Hx34.out, hF3, (hpB HBa.out HOW.out), HCC.out⟩
        · obtain rfl := Hx30.out rfl
          obtain rfl := Hx33.out rfl
          refine wpOp_shut rfl (fun K hK => ?_)
          go_simp
          refine (sub_b r (andW g P) _ HS.out.2 (andW_lt HW.out.2.2.2)).mono ?_
          rintro e wa ⟨rfl, hBa⟩
          have HBa := hid hBa
          clear hBa
          go_wp2_with fail
          have hF3 := HFR.out.trans (Fr.ofBelow (S := fun _ => False) HBa.out) (fun _ _ x => x.elim)
          exact hK.out _ _ ⟨K8.out _ hF3, true, true, true, b5, _, _, _, by kernel_rfl, rfl, fun _ => rfl, fun _ => rfl, fun _ => rfl, hF3, (hpB HBa.out HOW.out), HCC.out⟩
        · obtain rfl := Hx34.out rfl
          have c0 := cell_of_heap (i := 0) HOW.out rfl
          have g0 := frozen_of_heap (i := 0) HOW.out
          refine wpOp_shut rfl (fun K hK => ?_)
          go_simp
          go_wp2_with fail
          have hF3 := HFR.out.setCell (p := ⟨N + 1 + 1, 0, none⟩) (.int .u32 ((subW r (andW g P) : Nat) : Int)) (fun _ => rfl)
          exact hK.out _ _ ⟨K8.out _ hF3, true, b3, true, true, _, _, _, by kernel_rfl, rfl, (fun _ => Hx30.out (by first | rfl | trivial)), Hx33.out, fun _ => rfl, hF3, (heap_setCell_at _ _ 0 _ _ _ _ HOW.out), ⟨rfl, trivial⟩⟩
      have hall : (b0 && b3 && b4 && b5) = true := by
        clear Hx30 Hx33 Hx34 HFR HOW HCC
        revert b0 b3 b4 b5
        decide +kernel
      simp only [Bool.and_eq_true] at hall
      obtain ⟨⟨⟨rfl, rfl⟩, rfl⟩, rfl⟩ := hall
      obtain rfl := Hx30.out rfl
      obtain rfl := Hx33.out rfl
      obtain rfl := Hx34.out rfl
      have HR := hid (And.intro (show wC.heap[N + 1 + 1]? = some (sb ((subW r (andW g P) : Nat) : Int)) from HOW.out) HFR.out)
      clear Hx30 Hx33 Hx34 HFR HOW HCC hr
      have hF := HR.out.2
      have P1 := hid ((hF.block (N + 1) (lt_of_heap N1.out) (by omega)).trans N1.out)
      have B13 := hid (B11.out.trans (hF.below B11.out.size (fun i hi e => by have := HN.out; omega)))
      have P2 := hid HR.out.1
      clear hF
      go_wp2
      go_roundw
      case rel => exact ⟨j, (orW q (andW g Q), subW r (andW g P)), by omega, by go_num, HRR.out, orW_lt HS.out.1 (andW_lt HW.out.2.2.2), subW_lt _ _, B13.out, P1.out, P2.out⟩
      case measure => simp [intOf]
end Go.Proofs.Ytnablmiocbijgaa
