/- Contracts of package unutf's write and spread, over this seat's translation. Conditions: lanes within the arena and behind one another; at most 12288 points; the log has at most 300 million events; the variable places holds what the program's text lays there, and is no part of the arena. -/
import Derived.Test.YtjcnkigadlmpgaaDoorUnF
import Derived.Test.YtjcnkigadlmpgaaDoorUfD
import Derived.Test.YtjcnkigadlmpgaaDoorArE
import Derived.Deep.WholeRow
namespace Go.Proofs.YtjcnkigadlmpgaaDoor
open Go.RowKit
set_option linter.unusedVariables false

abbrev plV (p : Pl) : Value := .agg #[.int .u32 p.f, .int .u32 p.n, .int .i64 p.s, .int .u32 p.l]
abbrev plC (p : Pl) : Array Value := #[.int .u32 p.f, .int .u32 p.n, .int .i64 p.s, .int .u32 p.l]
abbrev plO (p : Pl) : Obj := .cells (plC p) 89 (0, 0)
theorem cell_pl {w : World} {g : Nat} {p : Pl} (h : w.heap[g]? = some (plO p)) : w.cell? ⟨g, 0, none⟩ = some (.int .u32 p.f) ∧ w.cell? ⟨g, 1, none⟩ = some (.int .u32 p.n) ∧ w.cell? ⟨g, 2, none⟩ = some (.int .i64 p.s) ∧ w.cell? ⟨g, 3, none⟩ = some (.int .u32 p.l) := ⟨cell_of_heap h rfl, cell_of_heap h rfl, cell_of_heap h rfl, cell_of_heap h rfl⟩

set_option maxHeartbeats 3200000 in
theorem write_any (p : Pl) (q : Nat) (w : World) (hq : q < 4294967296) (hf : p.f < 4294967296) (hn : p.n < 4294967296) (hs : p.s < 32) (hl : p.l < 256) :
    Calls Tryd.prog 50 #[plV p, sec q] w fun e w' => e = .returned (.tuple #[sec (p.bt q : Nat), sec (mk (p.is q) : Nat)]) ∧ Below w.heap.size w w' := by
  have HSH := hid (fun w' => shr_b q p.s w' hq)
  have hr : shr q p.s < 4294967296 := shr_lt _ _ hq
  have HBT := hid (show p.bt q = if decide (q < p.n) = true then orW p.l (shr q p.s) else orW 128 (andW (shr q p.s) 63) by unfold Pl.bt; simp only [decide_eq_true_eq])
  have HIS := hid (show p.is q = !decide (q < p.f) from rfl)
  rw [HBT.out, HIS.out]
  rw [Int.toNat_natCast] at HSH
  obtain ⟨r, hre⟩ : ∃ r, shr q p.s = r := ⟨_, rfl⟩
  rw [hre] at HSH hr ⊢
  have HOR := hid (fun w' => or_b p.l r w' (by omega) hr)
  have HA6 := hid (fun w' => and_b r 63 w' hr (by decide))
  have ha := andW_lt (b := 63) hr
  have ho := orW_lt (a := p.l) (b := r) (by omega) hr
  have HO2 := hid (fun w' => or_b 128 (andW r 63) w' (by decide) ha)
  have ho2 := orW_lt (a := 128) (b := andW r 63) (by decide) ha
  obtain ⟨bg, hbg⟩ : ∃ x, orW p.l r = x := ⟨_, rfl⟩
  obtain ⟨fo, hfo⟩ : ∃ x, orW 128 (andW r 63) = x := ⟨_, rfl⟩
  obtain ⟨m6, hm6⟩ : ∃ x, andW r 63 = x := ⟨_, rfl⟩
  rw [hbg] at HOR ho ⊢
  rw [hfo] at HO2 ho2 ⊢
  rw [hm6] at HA6 HO2 ha
  have HL1 := hid (fun w' => lt_any q p.n w' hq hn)
  have HL2 := hid (fun w' => lt_any q p.f w' hq hf)
  obtain ⟨c1, hc1⟩ : ∃ c, decide (q < p.n) = c := ⟨_, rfl⟩
  obtain ⟨c2, hc2⟩ : ∃ c, decide (q < p.f) = c := ⟨_, rfl⟩
  rw [hc1] at HL1 ⊢
  rw [hc2] at HL2 ⊢
  have HSE := hid (fun w' => sel_c c1 bg fo w' ho ho2)
  have HNO := hid (fun w' => not_c c2 w')
  obtain ⟨x, hx⟩ : ∃ x, (if c1 = true then bg else fo) = x := ⟨_, rfl⟩
  rw [hx] at HSE ⊢
  obtain ⟨c3, hc3⟩ : ∃ c, (!c2) = c := ⟨_, rfl⟩
  rw [hc3] at HNO ⊢
  clear HBT HIS hre hbg hfo hm6 hc1 hc2 hx hc3 ha ho ho2 hr hq hf hn hs hl
  obtain ⟨f, n, s, l⟩ := p
  simp only at HSH HOR HL1 HL2
  go_enter Tryd.func50, Tryd.ntmps50
  go_wp2_with fail
  have H0 := hid (show ((((w.alloc (plO ⟨f, n, s, l⟩)).alloc (sb q)).alloc (sb 0)).alloc (sb 0)).heap[w.heap.size]? = some (plO ⟨f, n, s, l⟩) from (by simp only [hp_get, World.size_alloc]; repeat (first | rw [if_pos trivial] | rw [if_pos rfl] | rw [if_neg (by omega)])))
  have H1 := hid (show ((((w.alloc (plO ⟨f, n, s, l⟩)).alloc (sb q)).alloc (sb 0)).alloc (sb 0)).heap[w.heap.size + 1]? = some (sb q) from (by simp only [hp_get, World.size_alloc]; repeat (first | rw [if_pos trivial] | rw [if_pos rfl] | rw [if_neg (by omega)])))
  have H2 := hid (show ((((w.alloc (plO ⟨f, n, s, l⟩)).alloc (sb q)).alloc (sb 0)).alloc (sb 0)).heap[w.heap.size + 1 + 1]? = some (sb 0) from (by simp only [hp_get, World.size_alloc]; repeat (first | rw [if_pos trivial] | rw [if_pos rfl] | rw [if_neg (by omega)])))
  have H3 := hid (show ((((w.alloc (plO ⟨f, n, s, l⟩)).alloc (sb q)).alloc (sb 0)).alloc (sb 0)).heap[w.heap.size + 1 + 1 + 1]? = some (sb 0) from (by simp only [hp_get, World.size_alloc]; repeat (first | rw [if_pos trivial] | rw [if_pos rfl] | rw [if_neg (by omega)])))
  have HB := hid (show Below w.heap.size w ((((w.alloc (plO ⟨f, n, s, l⟩)).alloc (sb q)).alloc (sb 0)).alloc (sb 0)) from (by repeat (first | exact Below.refl _ _ | refine blw_alloc ?_ | refine blw_drew ?_ | assumption)))
  refine (HSH.out _).mono ?_
  rintro e w1 ⟨rfl, hB1⟩
  have G0 := hid (bk hB1 H0.out)
  have G1 := hid (bk hB1 H1.out)
  have G2 := hid (bk hB1 H2.out)
  have G3 := hid (bk hB1 H3.out)
  have B1 := hid (belowCat HB.out hB1)
  clear hB1 H0 H1 H2 H3 HB HSH
  go_wp2_with fail
  have HBA := hid (show Below w1.heap.size w1 (w1.alloc (sb r)) from (by repeat (first | exact Below.refl _ _ | refine blw_alloc ?_ | refine blw_drew ?_ | assumption)))
  have K0 := hid (bk HBA.out G0.out)
  have K1 := hid (bk HBA.out G1.out)
  have K2 := hid (bk HBA.out G2.out)
  have K3 := hid (bk HBA.out G3.out)
  have K4 := hid (show (w1.alloc (sb r)).heap[w1.heap.size]? = some (sb r) from heap_alloc_at _ _)
  have BK := hid (belowCat B1.out HBA.out)
  have Z4 := hid (show w.heap.size + 1 + 1 + 1 < w1.heap.size from lt_of_heap G3.out)
  generalize (w1.alloc (sb r)) = W at *
  obtain ⟨y, hy⟩ : ∃ y, w1.heap.size = y := ⟨_, rfl⟩
  rw [hy] at K4 Z4 ⊢
  clear hy G0 G1 G2 G3 HBA B1
  have KB := hid (show ∀ w' : World, Below W.heap.size W w' → (w'.cell? ⟨w.heap.size, 0, none⟩ = some (.int .u32 f) ∧ w'.cell? ⟨w.heap.size, 1, none⟩ = some (.int .u32 n) ∧ w'.cell? ⟨w.heap.size, 2, none⟩ = some (.int .i64 s) ∧ w'.cell? ⟨w.heap.size, 3, none⟩ = some (.int .u32 l)) ∧ w'.cell? ⟨y, 0, none⟩ = some (.int .u32 (r : Int)) from fun w' hb => ⟨cell_pl (p := ⟨f, n, s, l⟩) (bk hb K0.out), cell_s1 (bk hb K4.out)⟩)
  refine wp_region_held_drew (S := (fun w' => (w'.cell? ⟨w.heap.size, 0, none⟩ = some (.int .u32 f) ∧ w'.cell? ⟨w.heap.size, 1, none⟩ = some (.int .u32 n) ∧ w'.cell? ⟨w.heap.size, 2, none⟩ = some (.int .i64 s) ∧ w'.cell? ⟨w.heap.size, 3, none⟩ = some (.int .u32 l)) ∧ w'.cell? ⟨y, 0, none⟩ = some (.int .u32 (r : Int)))) (by kernel_rfl) (KB.out _ (blw_drew (Below.refl _ _))) (fun hHeld => ?_)
  refine tk_at (i := 0) (d := some 13) (v := ?_) rfl rfl (by kernel_rfl) (by kernel_rfl) (by kernel_rfl) (fun _ _ _ h => h) (Or.inl ⟨by rfl, ?_⟩) (by assumption) ?_
  rotate_left
  · (intro w hSw; (try dsimp only at hSw); go_simp; try (with_reducible rfl))
  simp only [Act.put, List.setIfInBounds_toArray, List.set_cons_zero, List.set_cons_succ]
  refine tk_at (i := 1) (d := some 14) (v := ?_) rfl rfl (by kernel_rfl) (by kernel_rfl) (by kernel_rfl) (fun _ _ _ h => h) (Or.inl ⟨by rfl, ?_⟩) (by assumption) ?_
  rotate_left
  · (intro w hSw; (try dsimp only at hSw); go_simp; try (with_reducible rfl))
  simp only [Act.put, List.setIfInBounds_toArray, List.set_cons_zero, List.set_cons_succ]
  refine tk_at (i := 3) (d := some 16) (v := ?_) rfl rfl (by kernel_rfl) (by kernel_rfl) (by kernel_rfl) (fun _ _ _ h => h) (Or.inl ⟨by rfl, ?_⟩) (by assumption) ?_
  rotate_left
  · (intro w hSw; (try dsimp only at hSw); go_simp; try (with_reducible rfl))
  simp only [Act.put, List.setIfInBounds_toArray, List.set_cons_zero, List.set_cons_succ]
  clear hHeld
  refine wpAnyH_inv0 (fun aC0 lsC aC wCA => ∃ (kC : Nat) (b5 b6 : Bool) (pv0 x2 x4 : Value), kC < 3 ∧ lsC = #[true, true, decide (1 ≤ kC), true, decide (2 ≤ kC), b5, b6] ∧ aC = { aC0 with tmps := (((aC0.tmps.setIfInBounds 15 x2).setIfInBounds 17 x4).setIfInBounds 7 pv0) } ∧ (1 ≤ kC → x2 = sec (l : Nat)) ∧ (2 ≤ kC → x4 = sec (bg : Nat)) ∧ Below W.heap.size W wCA ∧ OwnV W wCA b5 b6 pv0 #[.int .u32 0] #[.int .u32 (bg : Int)] 32 ∧ (b5 || !b6) = true ∧ True) ?_ _ _ _ (by decide +kernel) (fun aS => ⟨0, false, false, aS.tmps.getD 7 undef, aS.tmps.getD 15 undef, aS.tmps.getD 17 undef, by decide, by kernel_rfl, by simp only [set_self], fun h => absurd h (by decide), fun h => absurd h (by decide), blw_drew (Below.refl _ _), OwnV.non, rfl, trivial⟩)
  intro lsC aC wCA ⟨kC, b5, b6, pv0, x2, x4, hk, hl, ha, hx2, hx4, hBw, hw0, hc0, _⟩
  subst hl ha
  have Hhx2 := hid hx2
  have Hhx4 := hid hx4
  have HhBw := hid hBw
  have Hhw0 := hid hw0
  have Hhc0 := hid hc0
  clear hx2 hx4 hBw hw0 hc0
  simp only [List.setIfInBounds_toArray, List.set_cons_zero, List.set_cons_succ]
  refine ⟨fun hr => ?_, fun i hi => ?_⟩
  rotate_left
  · have hcase : (i = 2 ∧ kC = 0) ∨ (i = 4 ∧ kC = 1) ∨ (i = 5 ∧ b5 = false) ∨ (i = 6 ∧ b6 = false ∧ b5 = true ∧ kC = 2) := by
      refine of_decide_eq_true ((List.all_eq_true (p := fun i => decide ((i = 2 ∧ kC = 0) ∨ (i = 4 ∧ kC = 1) ∨ (i = 5 ∧ b5 = false) ∨ (i = 6 ∧ b6 = false ∧ b5 = true ∧ kC = 2)))).1 ?_ i hi)
      clear Hhx2 Hhx4 HhBw Hhw0 Hhc0 hi
      revert b5 b6
      revert kC
      decide +kernel
    clear hi
    rcases hcase with ⟨rfl, rfl⟩ | ⟨rfl, rfl⟩ | ⟨rfl, rfl⟩ | ⟨rfl, rfl, rfl, rfl⟩
    · refine wpOp_shut rfl (fun K hK => ?_)
      go_simp
      refine (of_b _ _).mono ?_
      rintro e wa ⟨rfl, hBa⟩
      have HBa := hid hBa
      clear hBa
      go_wp2_with fail
      have hB3 := belowCat HhBw.out HBa.out
      exact hK.out _ _ ⟨KB.out _ hB3, 1, b5, b6, _, _, _, by first | exact hk | decide, by kernel_rfl, rfl, fun _ => rfl, fun h => absurd h (by decide), hB3, (Hhw0.out.below HBa.out), (by first | exact Hhc0.out | rfl), trivial⟩
    · obtain rfl := Hhx2.out (by decide)
      refine wpOp_shut rfl (fun K hK => ?_)
      go_simp
      refine (HOR.out _).mono ?_
      rintro e wa ⟨rfl, hBa⟩
      have HBa := hid hBa
      clear hBa
      go_wp2_with fail
      have hB3 := belowCat HhBw.out HBa.out
      exact hK.out _ _ ⟨KB.out _ hB3, 2, b5, b6, _, _, _, by first | exact hk | decide, by kernel_rfl, rfl, fun _ => rfl, fun _ => rfl, hB3, (Hhw0.out.below HBa.out), (by first | exact Hhc0.out | rfl), trivial⟩
    · obtain rfl : b6 = false := by have := Hhc0.out; revert this; cases b6 <;> simp
      refine wpOp_shut rfl (fun K hK => ?_)
      go_simp
      go_wp2_with fail
      have hBa := (Below.refl wCA.heap.size wCA).alloc (Nat.le_refl _) (.cells #[.int .u32 0] 32 (0, 0))
      have hB3 := belowCat HhBw.out hBa
      exact hK.out _ _ ⟨KB.out _ hB3, kC, true, false, _, _, _, by first | exact hk | decide, by kernel_rfl, rfl, Hhx2.out, Hhx4.out, hB3, (OwnV.new HhBw.out), (by first | exact Hhc0.out | rfl), trivial⟩
    · obtain ⟨z, rfl, hz1, hz2⟩ := Hhw0.out rfl
      obtain rfl := Hhx2.out (by decide)
      obtain rfl := Hhx4.out (by decide)
      have c0 := cell_of_heap (i := 0) hz2 rfl
      have g0 := frozen_of_heap (i := 0) hz2
      have HZ := hid (And.intro hz1 hz2)
      clear hz1 hz2
      refine wpOp_shut rfl (fun K hK => ?_)
      go_simp
      go_wp2_with fail
      exact hK.out _ _ ⟨KB.out _ (HhBw.out.setCell (p := ⟨z, 0, none⟩) HZ.out.1 _), 2, true, true, _, _, _, by first | exact hk | decide, by kernel_rfl, rfl, fun _ => rfl, fun _ => rfl, (HhBw.out.setCell (p := ⟨z, 0, none⟩) HZ.out.1 _), (fun _ => ⟨z, rfl, HZ.out.1, vset1 HZ.out.2⟩), (by first | exact Hhc0.out | rfl), trivial⟩
  have hall : (b5 && b6 && decide (kC = 2)) = true := by
    clear Hhx2 Hhx4 HhBw Hhw0 Hhc0
    revert b5 b6
    revert kC
    decide +kernel
  simp only [Bool.and_eq_true, decide_eq_true_eq] at hall
  obtain ⟨⟨rfl, rfl⟩, rfl⟩ := hall
  obtain ⟨z0A, hpz0, hy01, hy02⟩ := Hhw0.out rfl
  subst hpz0
  have HZ0A := hid (show W.heap.size ≤ z0A ∧ wCA.heap[z0A]? = some (.cells #[.int .u32 (bg : Int)] 32 (0, 0)) from (by first | exact And.intro hy01 hy02 | simpa using And.intro hy01 hy02))
  clear hy01 hy02
  obtain rfl := Hhx2.out (by decide)
  obtain rfl := Hhx4.out (by decide)
  have HRA := hid HhBw.out
  clear Hhx2 Hhx4 HhBw Hhw0 Hhc0 hr hk
  (try dsimp only)
  have KC := hid (show ∀ w' : World, Below wCA.heap.size wCA w' → w'.cell? ⟨y, 0, none⟩ = some (.int .u32 (r : Int)) from fun w' hb => (KB.out w' (belowCat HRA.out hb)).2)
  go_wp2_with fail
  refine wp_region_held_drew (S := (fun w' => w'.cell? ⟨y, 0, none⟩ = some (.int .u32 (r : Int)))) (by kernel_rfl) (KC.out _ (blw_drew (Below.refl _ _))) (fun hHeld => ?_)
  refine tk_at (i := 1) (d := some 19) (v := ?_) rfl rfl (by kernel_rfl) (by kernel_rfl) (by kernel_rfl) (fun _ _ _ h => h) (Or.inl ⟨by rfl, ?_⟩) (by assumption) ?_
  rotate_left
  · (intro w hSw; (try dsimp only at hSw); go_simp; try (with_reducible rfl))
  simp only [Act.put, List.setIfInBounds_toArray, List.set_cons_zero, List.set_cons_succ]
  clear hHeld
  refine wpAnyH_inv0 (fun aC0 lsC aC wCB => ∃ (kC : Nat) (b5 b6 : Bool) (pv0 x0 x2 x3 x4 : Value), kC < 5 ∧ lsC = #[decide (1 ≤ kC), true, decide (2 ≤ kC), decide (3 ≤ kC), decide (4 ≤ kC), b5, b6] ∧ aC = { aC0 with tmps := (((((aC0.tmps.setIfInBounds 18 x0).setIfInBounds 20 x2).setIfInBounds 21 x3).setIfInBounds 22 x4).setIfInBounds 8 pv0) } ∧ (1 ≤ kC → x0 = sec ((128 : Nat) : Int)) ∧ (2 ≤ kC → x2 = sec ((63 : Nat) : Int)) ∧ (3 ≤ kC → x3 = sec (m6 : Nat)) ∧ (4 ≤ kC → x4 = sec (fo : Nat)) ∧ Below wCA.heap.size wCA wCB ∧ OwnV wCA wCB b5 b6 pv0 #[.int .u32 0] #[.int .u32 (fo : Int)] 32 ∧ (b5 || !b6) = true ∧ True) ?_ _ _ _ (by decide +kernel) (fun aS => ⟨0, false, false, aS.tmps.getD 8 undef, aS.tmps.getD 18 undef, aS.tmps.getD 20 undef, aS.tmps.getD 21 undef, aS.tmps.getD 22 undef, by decide, by kernel_rfl, by simp only [set_self], fun h => absurd h (by decide), fun h => absurd h (by decide), fun h => absurd h (by decide), fun h => absurd h (by decide), blw_drew (Below.refl _ _), OwnV.non, rfl, trivial⟩)
  intro lsC aC wCB ⟨kC, b5, b6, pv0, x0, x2, x3, x4, hk, hl, ha, hx0, hx2, hx3, hx4, hBw, hw0, hc0, _⟩
  subst hl ha
  have Hhx0 := hid hx0
  have Hhx2 := hid hx2
  have Hhx3 := hid hx3
  have Hhx4 := hid hx4
  have HhBw := hid hBw
  have Hhw0 := hid hw0
  have Hhc0 := hid hc0
  clear hx0 hx2 hx3 hx4 hBw hw0 hc0
  simp only [List.setIfInBounds_toArray, List.set_cons_zero, List.set_cons_succ]
  refine ⟨fun hr => ?_, fun i hi => ?_⟩
  rotate_left
  · have hcase : (i = 0 ∧ kC = 0) ∨ (i = 2 ∧ kC = 1) ∨ (i = 3 ∧ kC = 2) ∨ (i = 4 ∧ kC = 3) ∨ (i = 5 ∧ b5 = false) ∨ (i = 6 ∧ b6 = false ∧ b5 = true ∧ kC = 4) := by
      refine of_decide_eq_true ((List.all_eq_true (p := fun i => decide ((i = 0 ∧ kC = 0) ∨ (i = 2 ∧ kC = 1) ∨ (i = 3 ∧ kC = 2) ∨ (i = 4 ∧ kC = 3) ∨ (i = 5 ∧ b5 = false) ∨ (i = 6 ∧ b6 = false ∧ b5 = true ∧ kC = 4)))).1 ?_ i hi)
      clear Hhx0 Hhx2 Hhx3 Hhx4 HhBw Hhw0 Hhc0 hi
      revert b5 b6
      revert kC
      decide +kernel
    clear hi
    rcases hcase with ⟨rfl, rfl⟩ | ⟨rfl, rfl⟩ | ⟨rfl, rfl⟩ | ⟨rfl, rfl⟩ | ⟨rfl, rfl⟩ | ⟨rfl, rfl, rfl, rfl⟩
    · refine wpOp_shut rfl (fun K hK => ?_)
      go_simp
      refine (of_b _ _).mono ?_
      rintro e wa ⟨rfl, hBa⟩
      have HBa := hid hBa
      clear hBa
      go_wp2_with fail
      have hB3 := belowCat HhBw.out HBa.out
      exact hK.out _ _ ⟨KC.out _ hB3, 1, b5, b6, _, _, _, _, _, by first | exact hk | decide, by kernel_rfl, rfl, fun _ => rfl, fun h => absurd h (by decide), fun h => absurd h (by decide), fun h => absurd h (by decide), hB3, (Hhw0.out.below HBa.out), (by first | exact Hhc0.out | rfl), trivial⟩
    · obtain rfl := Hhx0.out (by decide)
      refine wpOp_shut rfl (fun K hK => ?_)
      go_simp
      refine (of_b _ _).mono ?_
      rintro e wa ⟨rfl, hBa⟩
      have HBa := hid hBa
      clear hBa
      go_wp2_with fail
      have hB3 := belowCat HhBw.out HBa.out
      exact hK.out _ _ ⟨KC.out _ hB3, 2, b5, b6, _, _, _, _, _, by first | exact hk | decide, by kernel_rfl, rfl, fun _ => rfl, fun _ => rfl, fun h => absurd h (by decide), fun h => absurd h (by decide), hB3, (Hhw0.out.below HBa.out), (by first | exact Hhc0.out | rfl), trivial⟩
    · obtain rfl := Hhx0.out (by decide)
      obtain rfl := Hhx2.out (by decide)
      refine wpOp_shut rfl (fun K hK => ?_)
      go_simp
      refine (HA6.out _).mono ?_
      rintro e wa ⟨rfl, hBa⟩
      have HBa := hid hBa
      clear hBa
      go_wp2_with fail
      have hB3 := belowCat HhBw.out HBa.out
      exact hK.out _ _ ⟨KC.out _ hB3, 3, b5, b6, _, _, _, _, _, by first | exact hk | decide, by kernel_rfl, rfl, fun _ => rfl, fun _ => rfl, fun _ => rfl, fun h => absurd h (by decide), hB3, (Hhw0.out.below HBa.out), (by first | exact Hhc0.out | rfl), trivial⟩
    · obtain rfl := Hhx0.out (by decide)
      obtain rfl := Hhx2.out (by decide)
      obtain rfl := Hhx3.out (by decide)
      refine wpOp_shut rfl (fun K hK => ?_)
      go_simp
      refine (HO2.out _).mono ?_
      rintro e wa ⟨rfl, hBa⟩
      have HBa := hid hBa
      clear hBa
      go_wp2_with fail
      have hB3 := belowCat HhBw.out HBa.out
      exact hK.out _ _ ⟨KC.out _ hB3, 4, b5, b6, _, _, _, _, _, by first | exact hk | decide, by kernel_rfl, rfl, fun _ => rfl, fun _ => rfl, fun _ => rfl, fun _ => rfl, hB3, (Hhw0.out.below HBa.out), (by first | exact Hhc0.out | rfl), trivial⟩
    · obtain rfl : b6 = false := by have := Hhc0.out; revert this; cases b6 <;> simp
      refine wpOp_shut rfl (fun K hK => ?_)
      go_simp
      go_wp2_with fail
      have hBa := (Below.refl wCB.heap.size wCB).alloc (Nat.le_refl _) (.cells #[.int .u32 0] 32 (0, 0))
      have hB3 := belowCat HhBw.out hBa
      exact hK.out _ _ ⟨KC.out _ hB3, kC, true, false, _, _, _, _, _, by first | exact hk | decide, by kernel_rfl, rfl, Hhx0.out, Hhx2.out, Hhx3.out, Hhx4.out, hB3, (OwnV.new HhBw.out), (by first | exact Hhc0.out | rfl), trivial⟩
    · obtain ⟨z, rfl, hz1, hz2⟩ := Hhw0.out rfl
      obtain rfl := Hhx0.out (by decide)
      obtain rfl := Hhx2.out (by decide)
      obtain rfl := Hhx3.out (by decide)
      obtain rfl := Hhx4.out (by decide)
      have c0 := cell_of_heap (i := 0) hz2 rfl
      have g0 := frozen_of_heap (i := 0) hz2
      have HZ := hid (And.intro hz1 hz2)
      clear hz1 hz2
      refine wpOp_shut rfl (fun K hK => ?_)
      go_simp
      go_wp2_with fail
      exact hK.out _ _ ⟨KC.out _ (HhBw.out.setCell (p := ⟨z, 0, none⟩) HZ.out.1 _), 4, true, true, _, _, _, _, _, by first | exact hk | decide, by kernel_rfl, rfl, fun _ => rfl, fun _ => rfl, fun _ => rfl, fun _ => rfl, (HhBw.out.setCell (p := ⟨z, 0, none⟩) HZ.out.1 _), (fun _ => ⟨z, rfl, HZ.out.1, vset1 HZ.out.2⟩), (by first | exact Hhc0.out | rfl), trivial⟩
  have hall : (b5 && b6 && decide (kC = 4)) = true := by
    clear Hhx0 Hhx2 Hhx3 Hhx4 HhBw Hhw0 Hhc0
    revert b5 b6
    revert kC
    decide +kernel
  simp only [Bool.and_eq_true, decide_eq_true_eq] at hall
  obtain ⟨⟨rfl, rfl⟩, rfl⟩ := hall
  obtain ⟨z0B, hpz0, hy01, hy02⟩ := Hhw0.out rfl
  subst hpz0
  have HZ0B := hid (show wCA.heap.size ≤ z0B ∧ wCB.heap[z0B]? = some (.cells #[.int .u32 (fo : Int)] 32 (0, 0)) from (by first | exact And.intro hy01 hy02 | simpa using And.intro hy01 hy02))
  clear hy01 hy02
  obtain rfl := Hhx0.out (by decide)
  obtain rfl := Hhx2.out (by decide)
  obtain rfl := Hhx3.out (by decide)
  obtain rfl := Hhx4.out (by decide)
  have HRB := hid HhBw.out
  clear Hhx0 Hhx2 Hhx3 Hhx4 HhBw Hhw0 Hhc0 hr hk
  (try dsimp only)
  have BB := hid (belowCat HRA.out HRB.out)
  have X0 := hid (bk BB.out K0.out)
  have X1 := hid (bk BB.out K1.out)
  have X2 := hid (bk BB.out K2.out)
  have X3 := hid (bk BB.out K3.out)
  have XA := hid (bk HRB.out HZ0A.out.2)
  have XB := hid HZ0B.out.2
  have BX := hid (belowCat BK.out BB.out)
  have ZX := hid (show w.heap.size + 1 + 1 ≠ z0A ∧ w.heap.size + 1 + 1 ≠ z0B from by
    have h1 := HZ0A.out.1
    have h2 := HZ0B.out.1
    have h3 := lt_of_heap K2.out
    have h4 := lt_of_heap (bk HRA.out K2.out)
    exact ⟨by omega, by omega⟩)
  clear KB KC K0 K1 K2 K3 K4 BK HRA HRB BB HZ0A HZ0B HOR HA6 HO2 Z4
  have KD := hid (show ∀ w' : World, Below wCB.heap.size wCB w' → (w'.cell? ⟨w.heap.size, 0, none⟩ = some (.int .u32 f) ∧ w'.cell? ⟨w.heap.size, 1, none⟩ = some (.int .u32 n) ∧ w'.cell? ⟨w.heap.size, 2, none⟩ = some (.int .i64 s) ∧ w'.cell? ⟨w.heap.size, 3, none⟩ = some (.int .u32 l)) ∧ w'.cell? ⟨w.heap.size + 1, 0, none⟩ = some (.int .u32 (q : Int)) ∧ w'.cell? ⟨z0A, 0, none⟩ = some (.int .u32 (bg : Int)) ∧ w'.cell? ⟨z0B, 0, none⟩ = some (.int .u32 (fo : Int)) from fun w' hb => ⟨cell_pl (p := ⟨f, n, s, l⟩) (bk hb X0.out), cell_s1 (bk hb X1.out), cell_s1 (bk hb XA.out), cell_s1 (bk hb XB.out)⟩)
  have KS := hid (show ∀ (w' : World) (v : Value), ((w'.cell? ⟨w.heap.size, 0, none⟩ = some (.int .u32 f) ∧ w'.cell? ⟨w.heap.size, 1, none⟩ = some (.int .u32 n) ∧ w'.cell? ⟨w.heap.size, 2, none⟩ = some (.int .i64 s) ∧ w'.cell? ⟨w.heap.size, 3, none⟩ = some (.int .u32 l)) ∧ w'.cell? ⟨w.heap.size + 1, 0, none⟩ = some (.int .u32 (q : Int)) ∧ w'.cell? ⟨z0A, 0, none⟩ = some (.int .u32 (bg : Int)) ∧ w'.cell? ⟨z0B, 0, none⟩ = some (.int .u32 (fo : Int))) → ((w'.setCell ⟨w.heap.size + 1 + 1, 0, none⟩ v).cell? ⟨w.heap.size, 0, none⟩ = some (.int .u32 f) ∧ (w'.setCell ⟨w.heap.size + 1 + 1, 0, none⟩ v).cell? ⟨w.heap.size, 1, none⟩ = some (.int .u32 n) ∧ (w'.setCell ⟨w.heap.size + 1 + 1, 0, none⟩ v).cell? ⟨w.heap.size, 2, none⟩ = some (.int .i64 s) ∧ (w'.setCell ⟨w.heap.size + 1 + 1, 0, none⟩ v).cell? ⟨w.heap.size, 3, none⟩ = some (.int .u32 l)) ∧ (w'.setCell ⟨w.heap.size + 1 + 1, 0, none⟩ v).cell? ⟨w.heap.size + 1, 0, none⟩ = some (.int .u32 (q : Int)) ∧ (w'.setCell ⟨w.heap.size + 1 + 1, 0, none⟩ v).cell? ⟨z0A, 0, none⟩ = some (.int .u32 (bg : Int)) ∧ (w'.setCell ⟨w.heap.size + 1 + 1, 0, none⟩ v).cell? ⟨z0B, 0, none⟩ = some (.int .u32 (fo : Int)) from fun w' v h =>
    ⟨⟨cell_off h.1.1 (by omega), cell_off h.1.2.1 (by omega), cell_off h.1.2.2.1 (by omega), cell_off h.1.2.2.2 (by omega)⟩, cell_off h.2.1 (by omega), cell_off h.2.2.1 (fun e => ZX.out.1 e.symm), cell_off h.2.2.2 (fun e => ZX.out.2 e.symm)⟩)
  go_wp2_with fail
  refine wp_region_held_drew (S := (fun w' => (w'.cell? ⟨w.heap.size, 0, none⟩ = some (.int .u32 f) ∧ w'.cell? ⟨w.heap.size, 1, none⟩ = some (.int .u32 n) ∧ w'.cell? ⟨w.heap.size, 2, none⟩ = some (.int .i64 s) ∧ w'.cell? ⟨w.heap.size, 3, none⟩ = some (.int .u32 l)) ∧ w'.cell? ⟨w.heap.size + 1, 0, none⟩ = some (.int .u32 (q : Int)) ∧ w'.cell? ⟨z0A, 0, none⟩ = some (.int .u32 (bg : Int)) ∧ w'.cell? ⟨z0B, 0, none⟩ = some (.int .u32 (fo : Int)))) (by kernel_rfl) (KD.out _ (blw_drew (Below.refl _ _))) (fun hHeld => ?_)
  refine tk_at (i := 0) (d := some 23) (v := ?_) rfl rfl (by kernel_rfl) (by kernel_rfl) (by kernel_rfl) (fun _ _ _ h => h) (Or.inl ⟨by rfl, ?_⟩) (by assumption) ?_
  rotate_left
  · (intro w hSw; (try dsimp only at hSw); go_simp; try (with_reducible rfl))
  simp only [Act.put, List.setIfInBounds_toArray, List.set_cons_zero, List.set_cons_succ]
  refine tk_at (i := 1) (d := some 24) (v := ?_) rfl rfl (by kernel_rfl) (by kernel_rfl) (by kernel_rfl) (fun _ _ _ h => h) (Or.inl ⟨by rfl, ?_⟩) (by assumption) ?_
  rotate_left
  · (intro w hSw; (try dsimp only at hSw); go_simp; try (with_reducible rfl))
  simp only [Act.put, List.setIfInBounds_toArray, List.set_cons_zero, List.set_cons_succ]
  refine tk_at (i := 2) (d := some 25) (v := ?_) rfl rfl (by kernel_rfl) (by kernel_rfl) (by kernel_rfl) (fun _ _ _ h => h) (Or.inl ⟨by rfl, ?_⟩) (by assumption) ?_
  rotate_left
  · (intro w hSw; (try dsimp only at hSw); go_simp; try (with_reducible rfl))
  simp only [Act.put, List.setIfInBounds_toArray, List.set_cons_zero, List.set_cons_succ]
  refine tk_at (i := 5) (d := some 28) (v := ?_) rfl rfl (by kernel_rfl) (by kernel_rfl) (by kernel_rfl) (fun _ _ _ h => h) (Or.inl ⟨by rfl, ?_⟩) (by assumption) ?_
  rotate_left
  · (intro w hSw; (try dsimp only at hSw); go_simp; try (with_reducible rfl))
  simp only [Act.put, List.setIfInBounds_toArray, List.set_cons_zero, List.set_cons_succ]
  refine tk_at (i := 6) (d := some 29) (v := ?_) rfl rfl (by kernel_rfl) (by kernel_rfl) (by kernel_rfl) (fun _ _ _ h => h) (Or.inl ⟨by rfl, ?_⟩) (by assumption) ?_
  rotate_left
  · (intro w hSw; (try dsimp only at hSw); go_simp; try (with_reducible rfl))
  simp only [Act.put, List.setIfInBounds_toArray, List.set_cons_zero, List.set_cons_succ]
  refine wpAnyH_ready (rs := [3]) (by kernel_rfl) (by simp) ?_
  refine AllReadyH.cons rfl (fun K hK => ?_) AllReadyH.nil
  go_simp
  refine (of_b _ _).mono ?_
  rintro e w2 ⟨rfl, hBd⟩
  have B2 := hid (belowCat (blw_drew (Below.refl wCB.heap.size wCB)) hBd)
  clear hBd
  go_wp2_with fail
  refine hK.out _ _ (KD.out _ B2.out) (fun hHeld => ?_)
  clear hK K
  try simp only [Act.put, List.setIfInBounds_toArray, List.set_cons_zero, List.set_cons_succ]
  refine wpAnyH_ready (rs := [4]) (by kernel_rfl) (by simp) ?_
  refine AllReadyH.cons rfl (fun K hK => ?_) AllReadyH.nil
  go_simp
  refine (HL1.out _).mono ?_
  rintro e w3 ⟨rfl, hBd⟩
  have B3 := hid (belowCat B2.out hBd)
  clear hBd
  go_wp2_with fail
  refine hK.out _ _ (KD.out _ B3.out) (fun hHeld => ?_)
  clear hK K
  try simp only [Act.put, List.setIfInBounds_toArray, List.set_cons_zero, List.set_cons_succ]
  refine wpAnyH_ready (rs := [7]) (by kernel_rfl) (by simp) ?_
  refine AllReadyH.cons rfl (fun K hK => ?_) AllReadyH.nil
  go_simp
  refine (HSE.out _).mono ?_
  rintro e w4 ⟨rfl, hBd⟩
  have B4 := hid (belowCat B3.out hBd)
  clear hBd
  have Q2 := hid (bk B4.out X2.out)
  have hq1 := cell_s1 Q2.out
  have hq2 := frozen_of_heap (i := 0) Q2.out
  go_wp2_with fail
  refine hK.out _ _ (KD.out _ B4.out) (fun hHeld => ?_)
  clear hK K
  try simp only [Act.put, List.setIfInBounds_toArray, List.set_cons_zero, List.set_cons_succ]
  refine wpAnyH_ready (rs := [8]) (by kernel_rfl) (by simp) ?_
  refine AllReadyH.cons rfl (fun K hK => ?_) AllReadyH.nil
  go_simp
  go_wp2_with fail
  refine hK.out _ _ (KS.out _ _ (KD.out _ B4.out)) (fun hHeld => ?_)
  clear hK K
  try simp only [Act.put, List.setIfInBounds_toArray, List.set_cons_zero, List.set_cons_succ]
  refine wpAnyH_done (by kernel_rfl) ?_ _
  clear hHeld
  clear hq1 hq2
  have Y0 := hid (show (w4.setCell ⟨w.heap.size + 1 + 1, 0, none⟩ (.int .u32 (x : Int))).heap[w.heap.size]? = some (plO ⟨f, n, s, l⟩) from (Below.heap_setCell _ _ _ _ (by show w.heap.size ≠ w.heap.size + 1 + 1; omega)).trans (bk B4.out X0.out))
  have Y1 := hid (show (w4.setCell ⟨w.heap.size + 1 + 1, 0, none⟩ (.int .u32 (x : Int))).heap[w.heap.size + 1]? = some (sb q) from (Below.heap_setCell _ _ _ _ (by show w.heap.size + 1 ≠ w.heap.size + 1 + 1; omega)).trans (bk B4.out X1.out))
  have Y2 := hid (show (w4.setCell ⟨w.heap.size + 1 + 1, 0, none⟩ (.int .u32 (x : Int))).heap[w.heap.size + 1 + 1]? = some (sb x) from vset1 Q2.out)
  have Y3 := hid (show (w4.setCell ⟨w.heap.size + 1 + 1, 0, none⟩ (.int .u32 (x : Int))).heap[w.heap.size + 1 + 1 + 1]? = some (sb 0) from (Below.heap_setCell _ _ _ _ (by show w.heap.size + 1 + 1 + 1 ≠ w.heap.size + 1 + 1; omega)).trans (bk B4.out X3.out))
  have BY := hid (show Below w.heap.size w (w4.setCell ⟨w.heap.size + 1 + 1, 0, none⟩ (.int .u32 (x : Int))) from (belowCat BX.out B4.out).setCell (by show w.heap.size ≤ w.heap.size + 1 + 1; omega) _)
  clear B2 B3 Q2 KD KS X0 X1 X2 X3 XA XB BX ZX HL1 HSE B4
  generalize (w4.setCell ⟨w.heap.size + 1 + 1, 0, none⟩ (.int .u32 (x : Int))) = w5 at *
  have KE := hid (show ∀ w' : World, Below w5.heap.size w5 w' → (w'.cell? ⟨w.heap.size, 0, none⟩ = some (.int .u32 f) ∧ w'.cell? ⟨w.heap.size, 1, none⟩ = some (.int .u32 n) ∧ w'.cell? ⟨w.heap.size, 2, none⟩ = some (.int .i64 s) ∧ w'.cell? ⟨w.heap.size, 3, none⟩ = some (.int .u32 l)) ∧ w'.cell? ⟨w.heap.size + 1, 0, none⟩ = some (.int .u32 (q : Int)) ∧ w'.cell? ⟨w.heap.size + 1 + 1, 0, none⟩ = some (.int .u32 (x : Int)) from fun w' hb => ⟨cell_pl (p := ⟨f, n, s, l⟩) (bk hb Y0.out), cell_s1 (bk hb Y1.out), cell_s1 (bk hb Y2.out)⟩)
  go_wp2_with fail
  refine wp_region_held_drew (S := (fun w' => (w'.cell? ⟨w.heap.size, 0, none⟩ = some (.int .u32 f) ∧ w'.cell? ⟨w.heap.size, 1, none⟩ = some (.int .u32 n) ∧ w'.cell? ⟨w.heap.size, 2, none⟩ = some (.int .i64 s) ∧ w'.cell? ⟨w.heap.size, 3, none⟩ = some (.int .u32 l)) ∧ w'.cell? ⟨w.heap.size + 1, 0, none⟩ = some (.int .u32 (q : Int)) ∧ w'.cell? ⟨w.heap.size + 1 + 1, 0, none⟩ = some (.int .u32 (x : Int)))) (by kernel_rfl) (KE.out _ (blw_drew (Below.refl _ _))) (fun hHeld => ?_)
  refine tk_at (i := 0) (d := some 31) (v := ?_) rfl rfl (by kernel_rfl) (by kernel_rfl) (by kernel_rfl) (fun _ _ _ h => h) (Or.inl ⟨by rfl, ?_⟩) (by assumption) ?_
  rotate_left
  · (intro w hSw; (try dsimp only at hSw); go_simp; try (with_reducible rfl))
  simp only [Act.put, List.setIfInBounds_toArray, List.set_cons_zero, List.set_cons_succ]
  refine tk_at (i := 1) (d := some 32) (v := ?_) rfl rfl (by kernel_rfl) (by kernel_rfl) (by kernel_rfl) (fun _ _ _ h => h) (Or.inl ⟨by rfl, ?_⟩) (by assumption) ?_
  rotate_left
  · (intro w hSw; (try dsimp only at hSw); go_simp; try (with_reducible rfl))
  simp only [Act.put, List.setIfInBounds_toArray, List.set_cons_zero, List.set_cons_succ]
  refine tk_at (i := 2) (d := some 33) (v := ?_) rfl rfl (by kernel_rfl) (by kernel_rfl) (by kernel_rfl) (fun _ _ _ h => h) (Or.inl ⟨by rfl, ?_⟩) (by assumption) ?_
  rotate_left
  · (intro w hSw; (try dsimp only at hSw); go_simp; try (with_reducible rfl))
  simp only [Act.put, List.setIfInBounds_toArray, List.set_cons_zero, List.set_cons_succ]
  refine tk_at (i := 3) (d := some 34) (v := ?_) rfl rfl (by kernel_rfl) (by kernel_rfl) (by kernel_rfl) (fun _ _ _ h => h) (Or.inl ⟨by rfl, ?_⟩) (by assumption) ?_
  rotate_left
  · (intro w hSw; (try dsimp only at hSw); go_simp; try (with_reducible rfl))
  simp only [Act.put, List.setIfInBounds_toArray, List.set_cons_zero, List.set_cons_succ]
  refine wpAnyH_ready (rs := [4]) (by kernel_rfl) (by simp) ?_
  refine AllReadyH.cons rfl (fun K hK => ?_) AllReadyH.nil
  go_simp
  refine (of_b _ _).mono ?_
  rintro e w6 ⟨rfl, hBd⟩
  have B6 := hid (belowCat (blw_drew (Below.refl w5.heap.size w5)) hBd)
  clear hBd
  go_wp2_with fail
  refine hK.out _ _ (KE.out _ B6.out) (fun hHeld => ?_)
  clear hK K
  try simp only [Act.put, List.setIfInBounds_toArray, List.set_cons_zero, List.set_cons_succ]
  refine wpAnyH_ready (rs := [5]) (by kernel_rfl) (by simp) ?_
  refine AllReadyH.cons rfl (fun K hK => ?_) AllReadyH.nil
  go_simp
  refine (HL2.out _).mono ?_
  rintro e w7 ⟨rfl, hBd⟩
  have B7 := hid (belowCat B6.out hBd)
  clear hBd
  go_wp2_with fail
  refine hK.out _ _ (KE.out _ B7.out) (fun hHeld => ?_)
  clear hK K
  try simp only [Act.put, List.setIfInBounds_toArray, List.set_cons_zero, List.set_cons_succ]
  refine wpAnyH_ready (rs := [6]) (by kernel_rfl) (by simp) ?_
  refine AllReadyH.cons rfl (fun K hK => ?_) AllReadyH.nil
  go_simp
  refine (HNO.out _).mono ?_
  rintro e w8 ⟨rfl, hBd⟩
  have B8 := hid (belowCat B7.out hBd)
  clear hBd
  have Q2 := hid (bk B8.out Y2.out)
  have hq1 := cell_s1 Q2.out
  have hq2 := frozen_of_heap (i := 0) Q2.out
  go_wp2_with fail
  refine hK.out _ _ (KE.out _ B8.out) (fun hHeld => ?_)
  clear hK K
  try simp only [Act.put, List.setIfInBounds_toArray, List.set_cons_zero, List.set_cons_succ]
  refine wpAnyH_ready (rs := [7]) (by kernel_rfl) (by simp) ?_
  refine AllReadyH.cons rfl (fun K hK => ?_) AllReadyH.nil
  go_simp
  clear hq1 hq2
  have R2 := hid (vset1 (a := .int .u32 (x : Int)) Q2.out)
  have R3 := hid ((Below.heap_setCell w8 ⟨w.heap.size + 1 + 1, 0, none⟩ (.int .u32 (x : Int)) (w.heap.size + 1 + 1 + 1) (by show w.heap.size + 1 + 1 + 1 ≠ w.heap.size + 1 + 1; omega)).trans (bk B8.out Y3.out))
  have hq1 := cell_s1 R3.out
  have hq2 := frozen_of_heap (i := 0) R3.out
  go_wp2_with fail
  refine hK.out _ _ (⟨⟨cell_off (KE.out _ B8.out).1.1 (by omega), cell_off (KE.out _ B8.out).1.2.1 (by omega), cell_off (KE.out _ B8.out).1.2.2.1 (by omega), cell_off (KE.out _ B8.out).1.2.2.2 (by omega)⟩, cell_off (KE.out _ B8.out).2.1 (by omega), cell_s1 R2.out⟩) (fun hHeld => ?_)
  clear hK K
  try simp only [Act.put, List.setIfInBounds_toArray, List.set_cons_zero, List.set_cons_succ]
  refine wpAnyH_ready (rs := [8]) (by kernel_rfl) (by simp) ?_
  refine AllReadyH.cons rfl (fun K hK => ?_) AllReadyH.nil
  go_simp
  go_wp2_with fail
  refine hK.out _ _ (⟨⟨cell_off (cell_off (KE.out _ B8.out).1.1 (by omega)) (by omega), cell_off (cell_off (KE.out _ B8.out).1.2.1 (by omega)) (by omega), cell_off (cell_off (KE.out _ B8.out).1.2.2.1 (by omega)) (by omega), cell_off (cell_off (KE.out _ B8.out).1.2.2.2 (by omega)) (by omega)⟩, cell_off (cell_off (KE.out _ B8.out).2.1 (by omega)) (by omega), cell_off (cell_s1 R2.out) (by omega)⟩) (fun hHeld => ?_)
  clear hK K
  try simp only [Act.put, List.setIfInBounds_toArray, List.set_cons_zero, List.set_cons_succ]
  refine wpAnyH_done (by kernel_rfl) ?_ _
  clear hHeld
  go_wp2
  have hb8 := vset1 (a := .int .u32 (mk c3 : Nat)) R3.out
  have d1 := cell_of_heap (i := 0) hb8 rfl
  have d0 : ((w8.setCell ⟨w.heap.size + 1 + 1, 0, none⟩ (.int .u32 (x : Int))).setCell ⟨w.heap.size + 1 + 1 + 1, 0, none⟩ (.int .u32 (mk c3 : Nat))).cell? ⟨w.heap.size + 1 + 1, 0, none⟩ = some (.int .u32 (x : Int)) := cell_off (cell_s1 R2.out) (by omega)
  exact bodyPost_ret (v := .tuple #[sec (x : Nat), sec (mk c3 : Nat)]) (by simp only [results, Tryd.results50]; simp [go_sem, d0, d1]) rfl ⟨rfl, ((belowCat BY.out B8.out).setCell (by show w.heap.size ≤ w.heap.size + 1 + 1; omega) _).setCell (by show w.heap.size ≤ w.heap.size + 1 + 1 + 1; omega) _⟩

def plsL : List Value := pls.flatMap fun p => [.int .u32 p.f, .int .u32 p.n, .int .i64 p.s, .int .u32 p.l]
/-- the variable places as the program's text lays it -/
def Pv (w : World) : Prop := ∀ i (h : i < plsL.length), w.cell? ⟨0, i, none⟩ = some plsL[i]
theorem Pv.below {w w' : World} (t : Pv w) (h : Below w.heap.size w w') : Pv w' := fun i hi => cell_later h (t i hi)
theorem pls_len : plsL.length = 16 := by decide
theorem Pv.pos {w : World} (t : Pv w) : 0 < w.heap.size := lt_of_cell (t 0 (by decide))
theorem Pv.step {w w' : World} {F F' : Nat → Prop} (t : Pv w) (s : Step w F w' F') (hn : ¬ F 0) : Pv w' := fun i hi => s.cell (t i hi) hn
theorem Pv.load {w : World} (t : Pv w) : (loadCells ⟨0, 0, none⟩ 16).run Tryd.prog w = .ok plsL.toArray w := by
  have := run_loadCells_list (P := Tryd.prog) (w := w) ⟨0, 0, none⟩ plsL (fun j v hj => by
    have hadd : (⟨0, 0, none⟩ : Addr).add j = ⟨0, j, none⟩ := by unfold Addr.add; split <;> simp_all
    rw [hadd]
    obtain ⟨h, e⟩ := List.getElem?_eq_some_iff.1 hj
    rw [t j h, e])
  rwa [pls_len] at this
theorem Pv.la {w : World} (t : Pv w) : (Instr.loadAt 90 (.pointer (some ⟨0, 0, none⟩))).run Tryd.prog w = .ok (.agg plsL.toArray) w := by
  have h1 : (isAgg 90).run Tryd.prog w = .ok true w := Tryd.isAgg90 w
  have h2 : (sizeOf 90).run Tryd.prog w = .ok 16 w := Tryd.sizeOf90 w
  have h3 := t.load
  simp only [Instr.loadAt, Instr.sureAddr, loadVar, Sem.run_bind, h1, h2, h3, Result.andThen, if_true, Sem.run_pure]
theorem pls_part (k : Nat) (hk : k < 4) : List.take 4 (List.drop (k * 4) plsL) = [.int .u32 (plA k).f, .int .u32 (plA k).n, .int .i64 (plA k).s, .int .u32 (plA k).l] := by
  have : k = 0 ∨ k = 1 ∨ k = 2 ∨ k = 3 := by omega
  rcases this with rfl | rfl | rfl | rfl <;> rfl
theorem run_place (k : Nat) (w : World) (hk : k < 4) : (Instr.index 90 (.agg plsL.toArray) (.int .i64 (k : Int))).run Tryd.prog w = .ok (plV (plA k)) w := by
  have h0 : 0 ≤ (k : Int) ∧ (k : Int) < 4 := by omega
  have h1 := pls_part k hk
  simp [Instr.index, run_underlying Tryd.underlying90, asIntOf, h0, part, Tryd.isAgg89, Tryd.sizeOf89, h1, Result.andThen, hk]

set_option maxHeartbeats 6400000 in
set_option maxRecDepth 20000 in
theorem unspread_any (h : Hn) (F : Nat → Prop) (A : Ars) (P K n B H : Nat) (w : World) (a : Ar w h F A) (hP : P + n ≤ B) (hK : K + n ≤ B) (hB : B + 4 * n ≤ H) (hH : H + 4 * n ≤ A.top) (hn : n ≤ 12288) (hes : A.es.length ≤ 300000000) (t : Pv w) (hnf : ¬ F 0) :
    Calls Tryd.prog 27 #[arPtr h, .int .i64 (P : Int), .int .i64 (K : Int), .int .i64 (n : Int), .int .i64 (B : Int), .int .i64 (H : Int)] w fun e w' => e = .returned (.tuple #[]) ∧ ∃ F', Ar w' h F' (spI A P K B H (fun i => A.word (P + i)) (fun i => A.word (K + i)) n) ∧ Step w F w' F' := by
  have hb1 := a.ok.1
  have hb2 := a.ok.2.1
  have HA := hid a
  have HT := hid t
  have HNG := hid hnf
  have HES := hid hes
  have HBD := hid (And.intro hP (And.intro hK (And.intro hB (And.intro hH (And.intro hb1 hb2)))))
  clear a t hnf hes hP hK hB hH hb1 hb2
  go_enter Tryd.func27, Tryd.ntmps27
  go_wp2_with fail
  go_loopw [21] (fun c wr => ∃ (i : Nat) (Fi : Nat → Prop), i ≤ n ∧ c = .int .i64 (i : Int) ∧ Ar wr h Fi (spI A P K B H (fun i => A.word (P + i)) (fun i => A.word (K + i)) i) ∧ Step w F wr Fi ∧ Pv wr ∧ ¬ Fi 0) (fun c _ => n - (intOf c).toNat)
  case atStart => exact ⟨0, F, Nat.zero_le _, rfl, HA.out, Step.refl _ _, HT.out, HNG.out⟩
  case round =>
    obtain ⟨i, Fi, hi, rfl, ai, si, ti, gi⟩ := hrel
    have AI := hid ai
    have SI := hid si
    have TI := hid ti
    have GI := hid gi
    clear ai si ti gi
    by_cases hlt : i < n
    · have hbd := HBD.out
      have hw0 : (spI A P K B H (fun i => A.word (P + i)) (fun i => A.word (K + i)) i).word (P + i) = A.word (P + i) := spI_word A P K B H _ _ i (by omega) (by omega) _ (by omega) (by omega)
      have hw1 : (spI A P K B H (fun i => A.word (P + i)) (fun i => A.word (K + i)) i).word (K + i) = A.word (K + i) := spI_word A P K B H _ _ i (by omega) (by omega) _ (by omega) (by omega)
      have htp : (spI A P K B H (fun i => A.word (P + i)) (fun i => A.word (K + i)) i).top = A.top := spI_top ..
      have hel : (spI A P K B H (fun i => A.word (P + i)) (fun i => A.word (K + i)) i).es.length = A.es.length + 10 * i := by rw [spI_es, List.length_append, evI_len]
      have HSU := hid (show spI A P K B H (fun i => A.word (P + i)) (fun i => A.word (K + i)) (i + 1) = spJ (((spI A P K B H (fun i => A.word (P + i)) (fun i => A.word (K + i)) i).loadN (P + i)).loadN (K + i)) B H (4 * i) (A.word (P + i) % 2097152) (A.word (K + i)) 4 from rfl)
      have HX := hid (Ars.word_lt HA.out.ok (P + i))
      have HKL := hid (Ars.word_lt HA.out.ok (K + i))
      obtain ⟨Bk, hBk⟩ : ∃ D, spI A P K B H (fun i => A.word (P + i)) (fun i => A.word (K + i)) i = D := ⟨_, rfl⟩
      rw [hBk] at AI hw0 hw1 htp hel HSU
      obtain ⟨x, hx⟩ : ∃ x, A.word (P + i) = x := ⟨_, rfl⟩
      obtain ⟨kk, hkk⟩ : ∃ x, A.word (K + i) = x := ⟨_, rfl⟩
      rw [hx] at hw0 HSU HX
      rw [hkk] at hw1 HSU HKL
      clear hBk hx hkk
      have HEL := hid (show Bk.es.length ≤ 300200000 by have := HES.out; omega)
      have HTP := hid htp
      have HL1 := hid (unld_at (A := Bk) (L := P) (i := i) (by omega))
      have HL2 := hid (unld_at (A := Bk.loadN (P + i)) (L := K) (i := i) (by show _ < Bk.top; omega))
      have hw1' : (Bk.loadN (P + i)).word (K + i) = kk := hw1
      rw [hw0] at HL1
      rw [hw1'] at HL2
      have HCA := hid (fun w' => and21 x ▸ and_b x 2097151 w' HX.out (by decide))
      have hqx : x % 2097152 < 2097152 := Nat.mod_lt _ (by decide)
      obtain ⟨q, hq⟩ : ∃ q, x % 2097152 = q := ⟨_, rfl⟩
      rw [hq] at HCA HSU hqx
      clear hw0 hw1 hw1' htp hel hq
      have HBI := hid (show P + i < 4194304 ∧ K + i < 4194304 by omega)
      clear hbd
      have hbi1 : P + i < 4194304 := HBI.out.1
      have hbi2 : K + i < 4194304 := HBI.out.2
      go_wp2_with fail
      refine (ar_load h Fi Bk ((P : Int) + (i : Int)) _ AI.out (by have := HBI.out; omega) (by have := HEL.out; omega)).mono ?_
      rintro e w1 ⟨rfl, F1, a1, s1⟩
      rw [HL1.out.1]
      rw [HL1.out.2] at a1
      have A1 := hid a1
      have S1 := hid (SI.out.trans s1)
      have T1 := hid (TI.out.step s1 GI.out)
      have G1 := hid (s1.out GI.out TI.out.pos)
      clear a1 s1
      go_wp2_with fail
      refine (of_b _ _).mono ?_
      rintro e w2 ⟨rfl, hB2⟩
      have A2 := hid (A1.out.below hB2)
      have S2 := hid (S1.out.trans (Step.ofBelow hB2))
      have T2 := hid (T1.out.below hB2)
      clear hB2 A1 S1 T1
      go_wp2_with fail
      refine (HCA.out _).mono ?_
      rintro e w3 ⟨rfl, hB3⟩
      have A3 := hid ((A2.out.below hB3).alloc (sb q))
      have S3 := hid ((S2.out.trans (Step.ofBelow hB3)).alloc (sb q))
      have T3 := hid ((T2.out.below hB3).below ((by repeat (first | exact Below.refl _ _ | refine blw_alloc ?_ | refine blw_drew ?_ | assumption)) : Below w3.heap.size w3 (w3.alloc (sb q))))
      have Y3 := hid (show (w3.alloc (sb q)).heap[w3.heap.size]? = some (sb q) ∧ ¬ F1 w3.heap.size from ⟨heap_alloc_at _ _, fun x => absurd ((A2.out.below hB3).lt _ x) (Nat.lt_irrefl _)⟩)
      clear hB3 A2 S2 T2
      go_wp2_with fail
      refine (ar_load h F1 (Bk.loadN (P + i)) ((K : Int) + (i : Int)) _ A3.out (by have := HBI.out; omega) (by show (Bk.es ++ _).length ≤ _; rw [List.length_append]; have := HEL.out; simp; omega)).mono ?_
      rintro e w4 ⟨rfl, F4, a4, s4⟩
      rw [HL2.out.1]
      rw [HL2.out.2] at a4
      have A4 := hid (a4.alloc (sb kk))
      have S4 := hid ((S3.out.trans s4).alloc (sb kk))
      have T4 := hid ((T3.out.step s4 (G1.out)).below ((by repeat (first | exact Below.refl _ _ | refine blw_alloc ?_ | refine blw_drew ?_ | assumption)) : Below w4.heap.size w4 (w4.alloc (sb kk))))
      have Y4 := hid (show (w4.alloc (sb kk)).heap[w4.heap.size]? = some (sb kk) ∧ ¬ F4 w4.heap.size from ⟨heap_alloc_at _ _, fun x => absurd (a4.lt _ x) (Nat.lt_irrefl _)⟩)
      have X4 := hid (show (w4.alloc (sb kk)).heap[w3.heap.size]? = some (sb q) ∧ ¬ F4 w3.heap.size from ⟨bk ((by repeat (first | exact Below.refl _ _ | refine blw_alloc ?_ | refine blw_drew ?_ | assumption)) : Below w4.heap.size w4 (w4.alloc (sb kk))) (s4.heap Y3.out.1 Y3.out.2), s4.out Y3.out.2 (lt_of_heap Y3.out.1)⟩)
      have G4 := hid (s4.out G1.out T3.out.pos)
      clear a4 s4 A3 S3 T3 Y3 G1
      dsimp only
      iterate 10 go_step
      have HB1 := hid (show ((Bk.loadN (P + i)).loadN (K + i)).top = A.top ∧ ((Bk.loadN (P + i)).loadN (K + i)).es.length ≤ 300200002 from ⟨HTP.out, by show ((Bk.es ++ _) ++ _).length ≤ _; rw [List.length_append, List.length_append]; have := HEL.out; simp; omega⟩)
      obtain ⟨B1, hB1⟩ : ∃ D, (Bk.loadN (P + i)).loadN (K + i) = D := ⟨_, rfl⟩
      rw [hB1] at A4 HB1 HSU
      clear hB1 HCA HL1 HL2 HX AI SI TI GI HEL HTP hbi1 hbi2
      generalize (w4.alloc (.cells #[.int .u32 (kk : Int)] 32)) = w5 at *
      obtain ⟨y3, hy3⟩ : ∃ y, w3.heap.size = y := ⟨_, rfl⟩
      obtain ⟨y4, hy4⟩ : ∃ y, w4.heap.size = y := ⟨_, rfl⟩
      rw [hy3] at X4 ⊢
      rw [hy4] at Y4 ⊢
      clear hy3 hy4
      iterate 3 go_step
      simp only [Oper.wp, execOp, Sem.run_bind]
      erw [T4.out.la]
      simp only [Result.andThen, Sem.run_pure, Oper.upon_value, Act.put, List.setIfInBounds_toArray, List.set_cons_zero, List.set_cons_succ]
      go_wp2_with fail
      go_loopw [37] (fun c wq => ∃ (j : Nat) (Fj : Nat → Prop), j ≤ 4 ∧ c = .int .i64 (j : Int) ∧ Ar wq h Fj (spJ B1 B H (4 * i) q kk j) ∧ Step w F wq Fj ∧ (wq.heap[y3]? = some (sb q) ∧ ¬ Fj y3) ∧ (wq.heap[y4]? = some (sb kk) ∧ ¬ Fj y4) ∧ Pv wq ∧ ¬ Fj 0) (fun c _ => 4 - (intOf c).toNat)
      case atStart => exact ⟨0, F4, by decide, rfl, A4.out, S4.out, X4.out, Y4.out, T4.out, G4.out⟩
      case round =>
        clear A4 S4 X4 Y4 T4 G4
        obtain ⟨j, Fj, hj, rfl, aj, sj, xj, yj, tj, gj⟩ := hrel
        have AJ := hid aj
        have SJ := hid sj
        have XJ := hid xj
        have YJ := hid yj
        have TJ := hid tj
        have GJ := hid gj
        clear aj sj xj yj tj gj
        by_cases hjl : j < 4
        · have hix := run_place j wr hjl
          obtain ⟨l1, l2, l3, l4⟩ := pl_lt j hjl
          have HWR := hid (fun w' => write_any (plA j) q w' (by omega) l1 l2 l3 l4)
          have HBT := hid (bt_lt (plA j) q l4 (by omega))
          have HND := hid (fun w' => and_b kk (mk ((plA j).is q)) w' HKL.out (mk_lt _))
          have HNL := hid (andW_lt (b := mk ((plA j).is q)) HKL.out)
          have HSJ := hid (show spJ B1 B H (4 * i) q kk (j + 1) = ((spJ B1 B H (4 * i) q kk j).storeN (B + (4 * i + j)) ((plA j).bt q)).storeN (H + (4 * i + j)) (andW kk (mk ((plA j).is q))) from rfl)
          have htj : (spJ B1 B H (4 * i) q kk j).top = A.top := (spJ_top ..).trans HB1.out.1
          have hej : (spJ B1 B H (4 * i) q kk j).es.length ≤ 300200100 := by rw [spJ_es, List.length_append, evJ_len]; have := HB1.out.2; omega
          obtain ⟨Bj, hBj⟩ : ∃ D, spJ B1 B H (4 * i) q kk j = D := ⟨_, rfl⟩
          obtain ⟨p, hp⟩ : ∃ p, plA j = p := ⟨_, rfl⟩
          obtain ⟨bt, hbt⟩ : ∃ b, p.bt q = b := ⟨_, rfl⟩
          obtain ⟨ms, hms⟩ : ∃ b, mk (p.is q) = b := ⟨_, rfl⟩
          obtain ⟨an, han⟩ : ∃ b, andW kk ms = b := ⟨_, rfl⟩
          rw [hBj] at AJ HSJ htj hej
          rw [hp] at hix HWR HBT HND HNL HSJ
          rw [hbt] at HWR HBT HSJ
          rw [hms] at HWR HND HNL HSJ
          rw [han] at HND HNL HSJ
          have hbd := HBD.out
          have hbx : B + (4 * i + j) < Bj.top := by omega
          have hhx : H + (4 * i + j) < (Bj.storeN (B + (4 * i + j)) bt).top := by show _ < Bj.top; omega
          have HS1 := hid (unst_at (A := Bj) (L := B) (i := 4 * i + j) (v := bt) hbx)
          have HS2 := hid (unst_at (A := Bj.storeN (B + (4 * i + j)) bt) (L := H) (i := 4 * i + j) (v := an) hhx)
          have HEJ := hid hej
          have hbi1 : B + (4 * i + j) < 4194304 := by omega
          have hbi2 : H + (4 * i + j) < 4194304 := by omega
          have HCB := hid (show (B : Int) + (4 * (i : Int) + (j : Int)) = (B : Int) + ((4 * i + j : Nat) : Int) by omega)
          have HCH := hid (show (H : Int) + (4 * (i : Int) + (j : Int)) = (H : Int) + ((4 * i + j : Nat) : Int) by omega)
          clear hBj hp hbt hms han hbd hbx hhx hej htj l1 l2 l3 l4
          have c3 : (wr.alloc (.cells #[.int .u32 p.f, .int .u32 p.n, .int .i64 p.s, .int .u32 p.l] 89)).cell? ⟨y3, 0, none⟩ = some (.int .u32 (q : Int)) := keepA (cell_s1 XJ.out.1)
          go_wp2_with fail
          refine (HWR.out _).mono ?_
          rintro e w6 ⟨rfl, hB6⟩
          have hBx : Below wr.heap.size wr w6 := belowCat ((Below.refl wr.heap.size wr).alloc (Nat.le_refl _) (.cells #[.int .u32 p.f, .int .u32 p.n, .int .i64 p.s, .int .u32 p.l] 89)) hB6
          have hBy : Below w6.heap.size w6 ((w6.alloc (sb bt)).alloc (sb ms)) := (by repeat (first | exact Below.refl _ _ | refine blw_alloc ?_ | refine blw_drew ?_ | assumption))
          have hBz := belowCat hBx hBy
          have A7 := hid (AJ.out.below hBz)
          have S7 := hid (SJ.out.trans (Step.ofBelow hBz))
          have X7 := hid (bk hBz XJ.out.1)
          have Y7 := hid (bk hBz YJ.out.1)
          have T7 := hid (TJ.out.below hBz)
          have Z7 := hid (show ((w6.alloc (sb bt)).alloc (sb ms)).heap[w6.heap.size + 1]? = some (sb ms) from by have := heap_alloc_at (w6.alloc (sb bt)) (sb ms); rwa [World.size_alloc] at this)
          have NZ := hid (show ¬ Fj (w6.heap.size + 1) from fun x => by have h1 := AJ.out.lt _ x; have h2 := hBx.size; omega)
          clear hB6 hBx hBy hBz c3 hix HWR
          go_wp2_with fail
          rw [HCB.out]
          refine (ar_store h Fj Bj _ bt _ A7.out (by omega) HBT.out (by have := HEJ.out; omega)).mono ?_
          rintro e w8 ⟨rfl, F8, a8, s8⟩
          rw [HS1.out] at a8
          have A8 := hid a8
          have S8 := hid (S7.out.trans s8)
          have X8 := hid (And.intro (s8.heap X7.out XJ.out.2) (s8.out XJ.out.2 (lt_of_heap X7.out)))
          have Y8 := hid (And.intro (s8.heap Y7.out YJ.out.2) (s8.out YJ.out.2 (lt_of_heap Y7.out)))
          have T8 := hid (T7.out.step s8 GJ.out)
          have G8 := hid (s8.out GJ.out T7.out.pos)
          have c4 := cell_s1 Y8.out.1
          have c5 := cell_s1 (s8.heap Z7.out NZ.out)
          clear a8 s8 A7 S7 X7 Y7 T7 Z7 NZ
          go_wp2_with fail
          refine (HND.out _).mono ?_
          rintro e w9 ⟨rfl, hB9⟩
          have A9 := hid (A8.out.below hB9)
          have S9 := hid (S8.out.trans (Step.ofBelow hB9))
          have X9 := hid (bk hB9 X8.out.1)
          have Y9 := hid (bk hB9 Y8.out.1)
          have T9 := hid (T8.out.below hB9)
          clear hB9 c4 c5 A8 S8 T8
          go_wp2_with fail
          rw [HCH.out]
          refine (ar_store h F8 _ _ an _ A9.out (by omega) HNL.out (by rw [Ars.storeN_eslen]; have := HEJ.out; omega)).mono ?_
          rintro e w10 ⟨rfl, F10, a10, s10⟩
          rw [HS2.out] at a10
          have A10 := hid a10
          have S10 := hid (S9.out.trans s10)
          have X10 := hid (And.intro (s10.heap X9.out X8.out.2) (s10.out X8.out.2 (lt_of_heap X9.out)))
          have Y10 := hid (And.intro (s10.heap Y9.out Y8.out.2) (s10.out Y8.out.2 (lt_of_heap Y9.out)))
          have T10 := hid (T9.out.step s10 G8.out)
          have G10 := hid (s10.out G8.out T9.out.pos)
          clear a10 s10 A9 S9 X9 Y9 T9
          go_wp2
          go_roundw
          case rel => exact ⟨j + 1, F10, by omega, by go_num, by rw [HSJ.out]; exact A10.out, S10.out, X10.out, Y10.out, T10.out, G10.out⟩
          case measure => simp [intOf]; omega
        · have hj4 : j = 4 := by omega
          subst hj4
          clear hjl
          go_wp2
          go_roundw
          case rel => exact ⟨i + 1, Fj, by omega, by go_num, by rw [HSU.out]; exact AJ.out, SJ.out, TJ.out, GJ.out⟩
          case measure => simp [intOf]; omega
    · have hin : i = n := by omega
      subst hin
      go_wp2
      go_end0
      exact ⟨rfl, Fi, AI.out, SI.out⟩
end Go.Proofs.YtjcnkigadlmpgaaDoor
