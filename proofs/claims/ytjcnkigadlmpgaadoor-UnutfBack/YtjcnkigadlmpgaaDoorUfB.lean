/- Contracts of package utf's follow and begin, over this seat's translation. Conditions: the words' bounds. -/
import Derived.Test.YtjcnkigadlmpgaaDoorUfA
namespace Go.Proofs.YtjcnkigadlmpgaaDoor
open Go.RowKit
set_option linter.unusedVariables false

theorem us_set {w : World} {z g j : Nat} {v : Value} {s : Us} (h : w.cell? ⟨z, 0, none⟩ = some (.int .u32 s.pt) ∧ w.cell? ⟨z, 1, none⟩ = some (.int .u32 s.mo) ∧ w.cell? ⟨z, 2, none⟩ = some (.int .u32 s.lo) ∧ w.cell? ⟨z, 3, none⟩ = some (.int .u32 s.hi)) (hne : z ≠ g) :
    (w.setCell ⟨g, j, none⟩ v).cell? ⟨z, 0, none⟩ = some (.int .u32 s.pt) ∧ (w.setCell ⟨g, j, none⟩ v).cell? ⟨z, 1, none⟩ = some (.int .u32 s.mo) ∧ (w.setCell ⟨g, j, none⟩ v).cell? ⟨z, 2, none⟩ = some (.int .u32 s.lo) ∧ (w.setCell ⟨g, j, none⟩ v).cell? ⟨z, 3, none⟩ = some (.int .u32 s.hi) := by
  have hb : (w.setCell ⟨g, j, none⟩ v).heap[z]? = w.heap[z]? := Below.heap_setCell _ _ _ _ hne
  have e : ∀ i, (w.setCell ⟨g, j, none⟩ v).cell? ⟨z, i, none⟩ = w.cell? ⟨z, i, none⟩ := fun i => World.cell?_of_block hb
  rw [e, e, e, e]; exact h
theorem vset4_off {w : World} {z g : Nat} {a b c d : Value} {o : Obj} (h : w.heap[z]? = some o) (hne : z ≠ g) : ((((w.setCell ⟨g, 0, none⟩ a).setCell ⟨g, 1, none⟩ b).setCell ⟨g, 2, none⟩ c).setCell ⟨g, 3, none⟩ d).heap[z]? = some o :=
  (Below.heap_setCell _ _ _ _ hne).trans ((Below.heap_setCell _ _ _ _ hne).trans ((Below.heap_setCell _ _ _ _ hne).trans ((Below.heap_setCell _ _ _ _ hne).trans h)))
theorem below_set4 {w0 w : World} {g : Nat} {a b c d : Value} (h : Below w0.heap.size w0 w) (hg : w0.heap.size ≤ g) : Below w0.heap.size w0 ((((w.setCell ⟨g, 0, none⟩ a).setCell ⟨g, 1, none⟩ b).setCell ⟨g, 2, none⟩ c).setCell ⟨g, 3, none⟩ d) :=
  (((h.setCell hg _).setCell hg _).setCell hg _).setCell hg _
theorem cell_off {w : World} {z i g j : Nat} {u v : Value} (h : w.cell? ⟨z, i, none⟩ = some u) (hne : z ≠ g) : (w.setCell ⟨g, j, none⟩ v).cell? ⟨z, i, none⟩ = some u :=
  (World.cell?_of_block (w := w) (w' := w.setCell ⟨g, j, none⟩ v) (a := ⟨z, i, none⟩) (Below.heap_setCell _ _ _ _ hne)).trans h
theorem shl_6 (a : Nat) (w : World) (ha : a < 4294967296) : Calls Tryd.prog 80 #[sec a, .int .i64 6] w fun e w' => e = .returned (sec ((a * 64 % 4294967296 : Nat) : Int)) ∧ Below w.heap.size w w' := shl_b a 6 w ha
theorem flw_ok {s : Us} {b : Nat} (hb : b < 4294967296) : (flw s b).ok := us_okay (orW_lt (Nat.mod_lt _ (by decide)) (andW_lt hb)) (subW_lt _ _) (by decide) (by decide)

set_option maxHeartbeats 6400000 in
theorem follow_any (s : Us) (b : Nat) (w : World) (hs : s.ok) (hb : b < 4294967296) :
    Calls Tryd.prog 65 #[usV s, sec b] w fun e w' => e = .returned (.tuple #[usV (flw s b), sec (mk (btw b s.lo s.hi) : Nat)]) ∧ Below w.heap.size w w' := by
  have HC1 := hid (fun w => shl_6 s.pt w hs.p)
  have HC2 := hid (fun w => and_b b 63 w hb (by decide))
  have HC3 := hid (fun w => or_b (s.pt * 64 % 4294967296) (andW b 63) w (Nat.mod_lt _ (by decide)) (andW_lt hb))
  have HC4 := hid (fun w => sub_b s.mo 1 w hs.m (by decide))
  have HC5 := hid (fun w => between_any b s.lo s.hi w hb hs.l hs.h)
  obtain ⟨n1, hn1⟩ : ∃ x, s.pt * 64 % 4294967296 = x := ⟨_, rfl⟩
  obtain ⟨n2, hn2⟩ : ∃ x, andW b 63 = x := ⟨_, rfl⟩
  obtain ⟨n3, hn3⟩ : ∃ x, orW n1 n2 = x := ⟨_, rfl⟩
  obtain ⟨n4, hn4⟩ : ∃ x, subW s.mo 1 = x := ⟨_, rfl⟩
  obtain ⟨n5, hn5⟩ : ∃ x, mk (btw b s.lo s.hi) = x := ⟨_, rfl⟩
  have HFL := hid (show flw s b = us n3 n4 128 191 by unfold flw; rw [hn1, hn2, hn3, hn4])
  rw [HFL.out]
  rw [hn1] at HC1 HC3
  rw [hn2] at HC2 HC3
  rw [hn3] at HC3
  rw [hn4] at HC4
  rw [hn5] at HC5 ⊢
  clear hn1 hn2 hn3 hn4 hn5 hs hb HFL
  go_enter Tryd.func65, Tryd.ntmps65
  go_wp2_with fail
  have H0 := hid (show ((((w.alloc (usO s)).alloc (sb b)).alloc (usO us00)).alloc (sb 0)).heap[w.heap.size]? = some (usO s) from (by simp only [hp_get, World.size_alloc]; repeat (first | rw [if_pos trivial] | rw [if_pos rfl] | rw [if_neg (by omega)])))
  have H1 := hid (show ((((w.alloc (usO s)).alloc (sb b)).alloc (usO us00)).alloc (sb 0)).heap[w.heap.size + 1]? = some (sb b) from (by simp only [hp_get, World.size_alloc]; repeat (first | rw [if_pos trivial] | rw [if_pos rfl] | rw [if_neg (by omega)])))
  have H2 := hid (show ((((w.alloc (usO s)).alloc (sb b)).alloc (usO us00)).alloc (sb 0)).heap[w.heap.size + 1 + 1]? = some (usO us00) from (by simp only [hp_get, World.size_alloc]; repeat (first | rw [if_pos trivial] | rw [if_pos rfl] | rw [if_neg (by omega)])))
  have H3 := hid (show ((((w.alloc (usO s)).alloc (sb b)).alloc (usO us00)).alloc (sb 0)).heap[w.heap.size + 1 + 1 + 1]? = some (sb 0) from (by simp only [hp_get, World.size_alloc]; repeat (first | rw [if_pos trivial] | rw [if_pos rfl] | rw [if_neg (by omega)])))
  have HB := hid (show Below w.heap.size w ((((w.alloc (usO s)).alloc (sb b)).alloc (usO us00)).alloc (sb 0)) from (by repeat (first | exact Below.refl _ _ | refine blw_alloc ?_ | refine blw_drew ?_ | assumption)))
  rw [show (Obj.cells #[.int .u32 0, .int .u32 0, .int .u32 0, .int .u32 0] 82) = usO us00 from rfl]
  generalize (((w.alloc (usO s)).alloc (sb b)).alloc (usO us00)).alloc (sb 0) = w1 at *
  have HW := hid (show w.heap.size + 1 + 1 ≤ w1.heap.size from Nat.le_of_lt (lt_of_heap H2.out))
  have KB := hid (show ∀ w' : World, Below (w.heap.size + 1 + 1) w1 w' → w'.cell? ⟨w.heap.size + 1, 0, none⟩ = some (.int .u32 (b : Int)) ∧ (w'.cell? ⟨w.heap.size, 0, none⟩ = some (.int .u32 s.pt) ∧ w'.cell? ⟨w.heap.size, 1, none⟩ = some (.int .u32 s.mo) ∧ w'.cell? ⟨w.heap.size, 2, none⟩ = some (.int .u32 s.lo) ∧ w'.cell? ⟨w.heap.size, 3, none⟩ = some (.int .u32 s.hi)) from fun w' hb =>
    ⟨cell_s1 ((hb.block _ (by omega)).trans H1.out), cell_us ((hb.block _ (by omega)).trans H0.out)⟩)
  have KB1 := hid (fun (w' : World) (hb : Below w1.heap.size w1 w') => KB.out w' (hb.mono HW.out))
  refine wp_region_held_drew (S := (fun w' => w'.cell? ⟨w.heap.size + 1, 0, none⟩ = some (.int .u32 (b : Int)) ∧ (w'.cell? ⟨w.heap.size, 0, none⟩ = some (.int .u32 s.pt) ∧ w'.cell? ⟨w.heap.size, 1, none⟩ = some (.int .u32 s.mo) ∧ w'.cell? ⟨w.heap.size, 2, none⟩ = some (.int .u32 s.lo) ∧ w'.cell? ⟨w.heap.size, 3, none⟩ = some (.int .u32 s.hi)))) (by kernel_rfl) (KB1.out _ (blw_drew (Below.refl _ _))) (fun hHeld => ?_)
  refine tk_at (i := 0) (d := some 7) (v := ?_) rfl rfl (by kernel_rfl) (by kernel_rfl) (by kernel_rfl) (fun _ _ _ h => h) (Or.inl ⟨by rfl, ?_⟩) (by assumption) ?_
  rotate_left
  · (intro w hSw; (try dsimp only at hSw); go_simp; try (with_reducible rfl))
  simp only [Act.put, List.setIfInBounds_toArray, List.set_cons_zero, List.set_cons_succ]
  refine tk_at (i := 1) (d := some 8) (v := ?_) rfl rfl (by kernel_rfl) (by kernel_rfl) (by kernel_rfl) (fun _ _ _ h => h) (Or.inl ⟨by rfl, ?_⟩) (by assumption) ?_
  rotate_left
  · (intro w hSw; (try dsimp only at hSw); go_simp; try (with_reducible rfl))
  simp only [Act.put, List.setIfInBounds_toArray, List.set_cons_zero, List.set_cons_succ]
  refine tk_at (i := 3) (d := some 10) (v := ?_) rfl rfl (by kernel_rfl) (by kernel_rfl) (by kernel_rfl) (fun _ _ _ h => h) (Or.inl ⟨by rfl, ?_⟩) (by assumption) ?_
  rotate_left
  · (intro w hSw; (try dsimp only at hSw); go_simp; try (with_reducible rfl))
  simp only [Act.put, List.setIfInBounds_toArray, List.set_cons_zero, List.set_cons_succ]
  refine tk_at (i := 7) (d := some 14) (v := ?_) rfl rfl (by kernel_rfl) (by kernel_rfl) (by kernel_rfl) (fun _ _ _ h => h) (Or.inl ⟨by rfl, ?_⟩) (by assumption) ?_
  rotate_left
  · (intro w hSw; (try dsimp only at hSw); go_simp; try (with_reducible rfl))
  simp only [Act.put, List.setIfInBounds_toArray, List.set_cons_zero, List.set_cons_succ]
  refine tk_at (i := 8) (d := some 15) (v := ?_) rfl rfl (by kernel_rfl) (by kernel_rfl) (by kernel_rfl) (fun _ _ _ h => h) (Or.inl ⟨by rfl, ?_⟩) (by assumption) ?_
  rotate_left
  · (intro w hSw; (try dsimp only at hSw); go_simp; try (with_reducible rfl))
  simp only [Act.put, List.setIfInBounds_toArray, List.set_cons_zero, List.set_cons_succ]
  clear hHeld
  refine wpAnyH_inv0 (fun aC0 lsC aC wC => ∃ (kC : Nat) (b14 b15 : Bool) (pv0 x2 x4 x5 x6 x9 x10 x11 x12 x13 : Value), kC < 10 ∧ lsC = #[true, true, decide (1 ≤ kC), true, decide (2 ≤ kC), decide (3 ≤ kC), decide (4 ≤ kC), true, true, decide (5 ≤ kC), decide (6 ≤ kC), decide (7 ≤ kC), decide (8 ≤ kC), decide (9 ≤ kC), b14, b15] ∧ aC = { aC0 with tmps := ((((((((((aC0.tmps.setIfInBounds 9 x2).setIfInBounds 11 x4).setIfInBounds 12 x5).setIfInBounds 13 x6).setIfInBounds 16 x9).setIfInBounds 17 x10).setIfInBounds 18 x11).setIfInBounds 19 x12).setIfInBounds 20 x13).setIfInBounds 6 pv0) } ∧ (1 ≤ kC → x2 = sec (n1 : Nat)) ∧ (2 ≤ kC → x4 = sec ((63 : Nat) : Int)) ∧ (3 ≤ kC → x5 = sec (n2 : Nat)) ∧ (4 ≤ kC → x6 = sec (n3 : Nat)) ∧ (5 ≤ kC → x9 = sec ((1 : Nat) : Int)) ∧ (6 ≤ kC → x10 = sec (n4 : Nat)) ∧ (7 ≤ kC → x11 = sec ((128 : Nat) : Int)) ∧ (8 ≤ kC → x12 = sec ((191 : Nat) : Int)) ∧ (9 ≤ kC → x13 = usV (us n3 n4 128 191)) ∧ Below w1.heap.size w1 wC ∧ OwnV w1 wC b14 b15 pv0 #[.int .u32 0, .int .u32 0, .int .u32 0, .int .u32 0] (usC (us n3 n4 128 191)) 82 ∧ (b14 || !b15) = true ∧ True) ?_ _ _ _ (by decide +kernel) (fun aS => ⟨0, false, false, aS.tmps.getD 6 undef, aS.tmps.getD 9 undef, aS.tmps.getD 11 undef, aS.tmps.getD 12 undef, aS.tmps.getD 13 undef, aS.tmps.getD 16 undef, aS.tmps.getD 17 undef, aS.tmps.getD 18 undef, aS.tmps.getD 19 undef, aS.tmps.getD 20 undef, by decide, by kernel_rfl, by simp only [set_self], fun h => absurd h (by decide), fun h => absurd h (by decide), fun h => absurd h (by decide), fun h => absurd h (by decide), fun h => absurd h (by decide), fun h => absurd h (by decide), fun h => absurd h (by decide), fun h => absurd h (by decide), fun h => absurd h (by decide), blw_drew (Below.refl _ _), OwnV.non, rfl, trivial⟩)
  intro lsC aC wC ⟨kC, b14, b15, pv0, x2, x4, x5, x6, x9, x10, x11, x12, x13, hk, hl, ha, hx2, hx4, hx5, hx6, hx9, hx10, hx11, hx12, hx13, hBw, hw0, hc0, _⟩
  subst hl ha
  have Hhx2 := hid hx2
  have Hhx4 := hid hx4
  have Hhx5 := hid hx5
  have Hhx6 := hid hx6
  have Hhx9 := hid hx9
  have Hhx10 := hid hx10
  have Hhx11 := hid hx11
  have Hhx12 := hid hx12
  have Hhx13 := hid hx13
  have HhBw := hid hBw
  have Hhw0 := hid hw0
  have Hhc0 := hid hc0
  clear hx2 hx4 hx5 hx6 hx9 hx10 hx11 hx12 hx13 hBw hw0 hc0
  simp only [List.setIfInBounds_toArray, List.set_cons_zero, List.set_cons_succ]
  refine ⟨fun hr => ?_, fun i hi => ?_⟩
  rotate_left
  · have hcase : (i = 2 ∧ kC = 0) ∨ (i = 4 ∧ kC = 1) ∨ (i = 5 ∧ kC = 2) ∨ (i = 6 ∧ kC = 3) ∨ (i = 9 ∧ kC = 4) ∨ (i = 10 ∧ kC = 5) ∨ (i = 11 ∧ kC = 6) ∨ (i = 12 ∧ kC = 7) ∨ (i = 13 ∧ kC = 8) ∨ (i = 14 ∧ b14 = false) ∨ (i = 15 ∧ b15 = false ∧ b14 = true ∧ kC = 9) := by
      refine of_decide_eq_true ((List.all_eq_true (p := fun i => decide ((i = 2 ∧ kC = 0) ∨ (i = 4 ∧ kC = 1) ∨ (i = 5 ∧ kC = 2) ∨ (i = 6 ∧ kC = 3) ∨ (i = 9 ∧ kC = 4) ∨ (i = 10 ∧ kC = 5) ∨ (i = 11 ∧ kC = 6) ∨ (i = 12 ∧ kC = 7) ∨ (i = 13 ∧ kC = 8) ∨ (i = 14 ∧ b14 = false) ∨ (i = 15 ∧ b15 = false ∧ b14 = true ∧ kC = 9)))).1 ?_ i hi)
      clear Hhx2 Hhx4 Hhx5 Hhx6 Hhx9 Hhx10 Hhx11 Hhx12 Hhx13 HhBw Hhw0 Hhc0 hi
      revert b14 b15
      revert kC
      decide +kernel
    clear hi
    rcases hcase with ⟨rfl, rfl⟩ | ⟨rfl, rfl⟩ | ⟨rfl, rfl⟩ | ⟨rfl, rfl⟩ | ⟨rfl, rfl⟩ | ⟨rfl, rfl⟩ | ⟨rfl, rfl⟩ | ⟨rfl, rfl⟩ | ⟨rfl, rfl⟩ | ⟨rfl, rfl⟩ | ⟨rfl, rfl, rfl, rfl⟩
    · refine wpOp_shut rfl (fun K hK => ?_)
      go_simp
      refine (HC1.out _).mono ?_
      rintro e wa ⟨rfl, hBa⟩
      have HBa := hid hBa
      clear hBa
      go_wp2_with fail
      have hB3 := belowCat HhBw.out HBa.out
      exact hK.out _ _ ⟨KB1.out _ hB3, 1, b14, b15, _, _, _, _, _, _, _, _, _, _, by first | exact hk | decide, by kernel_rfl, rfl, fun _ => rfl, fun h => absurd h (by decide), fun h => absurd h (by decide), fun h => absurd h (by decide), fun h => absurd h (by decide), fun h => absurd h (by decide), fun h => absurd h (by decide), fun h => absurd h (by decide), fun h => absurd h (by decide), hB3, (Hhw0.out.below HBa.out), (by first | exact Hhc0.out | rfl), trivial⟩
    · obtain rfl := Hhx2.out (by decide)
      refine wpOp_shut rfl (fun K hK => ?_)
      go_simp
      refine (of_b _ _).mono ?_
      rintro e wa ⟨rfl, hBa⟩
      have HBa := hid hBa
      clear hBa
      go_wp2_with fail
      have hB3 := belowCat HhBw.out HBa.out
      exact hK.out _ _ ⟨KB1.out _ hB3, 2, b14, b15, _, _, _, _, _, _, _, _, _, _, by first | exact hk | decide, by kernel_rfl, rfl, fun _ => rfl, fun _ => rfl, fun h => absurd h (by decide), fun h => absurd h (by decide), fun h => absurd h (by decide), fun h => absurd h (by decide), fun h => absurd h (by decide), fun h => absurd h (by decide), fun h => absurd h (by decide), hB3, (Hhw0.out.below HBa.out), (by first | exact Hhc0.out | rfl), trivial⟩
    · obtain rfl := Hhx2.out (by decide)
      obtain rfl := Hhx4.out (by decide)
      refine wpOp_shut rfl (fun K hK => ?_)
      go_simp
      refine (HC2.out _).mono ?_
      rintro e wa ⟨rfl, hBa⟩
      have HBa := hid hBa
      clear hBa
      go_wp2_with fail
      have hB3 := belowCat HhBw.out HBa.out
      exact hK.out _ _ ⟨KB1.out _ hB3, 3, b14, b15, _, _, _, _, _, _, _, _, _, _, by first | exact hk | decide, by kernel_rfl, rfl, fun _ => rfl, fun _ => rfl, fun _ => rfl, fun h => absurd h (by decide), fun h => absurd h (by decide), fun h => absurd h (by decide), fun h => absurd h (by decide), fun h => absurd h (by decide), fun h => absurd h (by decide), hB3, (Hhw0.out.below HBa.out), (by first | exact Hhc0.out | rfl), trivial⟩
    · obtain rfl := Hhx2.out (by decide)
      obtain rfl := Hhx4.out (by decide)
      obtain rfl := Hhx5.out (by decide)
      refine wpOp_shut rfl (fun K hK => ?_)
      go_simp
      refine (HC3.out _).mono ?_
      rintro e wa ⟨rfl, hBa⟩
      have HBa := hid hBa
      clear hBa
      go_wp2_with fail
      have hB3 := belowCat HhBw.out HBa.out
      exact hK.out _ _ ⟨KB1.out _ hB3, 4, b14, b15, _, _, _, _, _, _, _, _, _, _, by first | exact hk | decide, by kernel_rfl, rfl, fun _ => rfl, fun _ => rfl, fun _ => rfl, fun _ => rfl, fun h => absurd h (by decide), fun h => absurd h (by decide), fun h => absurd h (by decide), fun h => absurd h (by decide), fun h => absurd h (by decide), hB3, (Hhw0.out.below HBa.out), (by first | exact Hhc0.out | rfl), trivial⟩
    · obtain rfl := Hhx2.out (by decide)
      obtain rfl := Hhx4.out (by decide)
      obtain rfl := Hhx5.out (by decide)
      obtain rfl := Hhx6.out (by decide)
      refine wpOp_shut rfl (fun K hK => ?_)
      go_simp
      refine (of_b _ _).mono ?_
      rintro e wa ⟨rfl, hBa⟩
      have HBa := hid hBa
      clear hBa
      go_wp2_with fail
      have hB3 := belowCat HhBw.out HBa.out
      exact hK.out _ _ ⟨KB1.out _ hB3, 5, b14, b15, _, _, _, _, _, _, _, _, _, _, by first | exact hk | decide, by kernel_rfl, rfl, fun _ => rfl, fun _ => rfl, fun _ => rfl, fun _ => rfl, fun _ => rfl, fun h => absurd h (by decide), fun h => absurd h (by decide), fun h => absurd h (by decide), fun h => absurd h (by decide), hB3, (Hhw0.out.below HBa.out), (by first | exact Hhc0.out | rfl), trivial⟩
    · obtain rfl := Hhx2.out (by decide)
      obtain rfl := Hhx4.out (by decide)
      obtain rfl := Hhx5.out (by decide)
      obtain rfl := Hhx6.out (by decide)
      obtain rfl := Hhx9.out (by decide)
      refine wpOp_shut rfl (fun K hK => ?_)
      go_simp
      refine (HC4.out _).mono ?_
      rintro e wa ⟨rfl, hBa⟩
      have HBa := hid hBa
      clear hBa
      go_wp2_with fail
      have hB3 := belowCat HhBw.out HBa.out
      exact hK.out _ _ ⟨KB1.out _ hB3, 6, b14, b15, _, _, _, _, _, _, _, _, _, _, by first | exact hk | decide, by kernel_rfl, rfl, fun _ => rfl, fun _ => rfl, fun _ => rfl, fun _ => rfl, fun _ => rfl, fun _ => rfl, fun h => absurd h (by decide), fun h => absurd h (by decide), fun h => absurd h (by decide), hB3, (Hhw0.out.below HBa.out), (by first | exact Hhc0.out | rfl), trivial⟩
    · obtain rfl := Hhx2.out (by decide)
      obtain rfl := Hhx4.out (by decide)
      obtain rfl := Hhx5.out (by decide)
      obtain rfl := Hhx6.out (by decide)
      obtain rfl := Hhx9.out (by decide)
      obtain rfl := Hhx10.out (by decide)
      refine wpOp_shut rfl (fun K hK => ?_)
      go_simp
      refine (of_b _ _).mono ?_
      rintro e wa ⟨rfl, hBa⟩
      have HBa := hid hBa
      clear hBa
      go_wp2_with fail
      have hB3 := belowCat HhBw.out HBa.out
      exact hK.out _ _ ⟨KB1.out _ hB3, 7, b14, b15, _, _, _, _, _, _, _, _, _, _, by first | exact hk | decide, by kernel_rfl, rfl, fun _ => rfl, fun _ => rfl, fun _ => rfl, fun _ => rfl, fun _ => rfl, fun _ => rfl, fun _ => rfl, fun h => absurd h (by decide), fun h => absurd h (by decide), hB3, (Hhw0.out.below HBa.out), (by first | exact Hhc0.out | rfl), trivial⟩
    · obtain rfl := Hhx2.out (by decide)
      obtain rfl := Hhx4.out (by decide)
      obtain rfl := Hhx5.out (by decide)
      obtain rfl := Hhx6.out (by decide)
      obtain rfl := Hhx9.out (by decide)
      obtain rfl := Hhx10.out (by decide)
      obtain rfl := Hhx11.out (by decide)
      refine wpOp_shut rfl (fun K hK => ?_)
      go_simp
      refine (of_b _ _).mono ?_
      rintro e wa ⟨rfl, hBa⟩
      have HBa := hid hBa
      clear hBa
      go_wp2_with fail
      have hB3 := belowCat HhBw.out HBa.out
      exact hK.out _ _ ⟨KB1.out _ hB3, 8, b14, b15, _, _, _, _, _, _, _, _, _, _, by first | exact hk | decide, by kernel_rfl, rfl, fun _ => rfl, fun _ => rfl, fun _ => rfl, fun _ => rfl, fun _ => rfl, fun _ => rfl, fun _ => rfl, fun _ => rfl, fun h => absurd h (by decide), hB3, (Hhw0.out.below HBa.out), (by first | exact Hhc0.out | rfl), trivial⟩
    · obtain rfl := Hhx2.out (by decide)
      obtain rfl := Hhx4.out (by decide)
      obtain rfl := Hhx5.out (by decide)
      obtain rfl := Hhx6.out (by decide)
      obtain rfl := Hhx9.out (by decide)
      obtain rfl := Hhx10.out (by decide)
      obtain rfl := Hhx11.out (by decide)
      obtain rfl := Hhx12.out (by decide)
      refine wpOp_shut rfl (fun K hK => ?_)
      go_simp
      go_wp2_with fail
      exact hK.out _ _ ⟨KB1.out _ HhBw.out, 9, b14, b15, _, _, _, _, _, _, _, _, _, _, by first | exact hk | decide, by kernel_rfl, rfl, fun _ => rfl, fun _ => rfl, fun _ => rfl, fun _ => rfl, fun _ => rfl, fun _ => rfl, fun _ => rfl, fun _ => rfl, fun _ => rfl, HhBw.out, Hhw0.out, (by first | exact Hhc0.out | rfl), trivial⟩
    · obtain rfl : b15 = false := by have := Hhc0.out; revert this; cases b15 <;> simp
      refine wpOp_shut rfl (fun K hK => ?_)
      go_simp
      go_wp2_with fail
      have hBa := (Below.refl wC.heap.size wC).alloc (Nat.le_refl _) (.cells #[.int .u32 0, .int .u32 0, .int .u32 0, .int .u32 0] 82 (0, 0))
      have hB3 := belowCat HhBw.out hBa
      exact hK.out _ _ ⟨KB1.out _ hB3, kC, true, false, _, _, _, _, _, _, _, _, _, _, by first | exact hk | decide, by kernel_rfl, rfl, Hhx2.out, Hhx4.out, Hhx5.out, Hhx6.out, Hhx9.out, Hhx10.out, Hhx11.out, Hhx12.out, Hhx13.out, hB3, (OwnV.new HhBw.out), (by first | exact Hhc0.out | rfl), trivial⟩
    · obtain ⟨z, rfl, hz1, hz2⟩ := Hhw0.out rfl
      obtain rfl := Hhx2.out (by decide)
      obtain rfl := Hhx4.out (by decide)
      obtain rfl := Hhx5.out (by decide)
      obtain rfl := Hhx6.out (by decide)
      obtain rfl := Hhx9.out (by decide)
      obtain rfl := Hhx10.out (by decide)
      obtain rfl := Hhx11.out (by decide)
      obtain rfl := Hhx12.out (by decide)
      obtain rfl := Hhx13.out (by decide)
      have c0 := cell_of_heap (i := 0) hz2 rfl
      have c1 := cell_of_heap (i := 1) hz2 rfl
      have c2 := cell_of_heap (i := 2) hz2 rfl
      have c3 := cell_of_heap (i := 3) hz2 rfl
      have g0 := frozen_of_heap (i := 0) hz2
      have g1 := frozen_of_heap (i := 1) hz2
      have g2 := frozen_of_heap (i := 2) hz2
      have g3 := frozen_of_heap (i := 3) hz2
      have HZ := hid (And.intro hz1 hz2)
      clear hz1 hz2
      refine wpOp_shut rfl (fun K hK => ?_)
      go_simp
      go_wp2_with fail
      exact hK.out _ _ ⟨KB1.out _ ((((HhBw.out.setCell (p := ⟨z, 0, none⟩) HZ.out.1 _).setCell (p := ⟨z, 1, none⟩) HZ.out.1 _).setCell (p := ⟨z, 2, none⟩) HZ.out.1 _).setCell (p := ⟨z, 3, none⟩) HZ.out.1 _), 9, true, true, _, _, _, _, _, _, _, _, _, _, by first | exact hk | decide, by kernel_rfl, rfl, fun _ => rfl, fun _ => rfl, fun _ => rfl, fun _ => rfl, fun _ => rfl, fun _ => rfl, fun _ => rfl, fun _ => rfl, fun _ => rfl, ((((HhBw.out.setCell (p := ⟨z, 0, none⟩) HZ.out.1 _).setCell (p := ⟨z, 1, none⟩) HZ.out.1 _).setCell (p := ⟨z, 2, none⟩) HZ.out.1 _).setCell (p := ⟨z, 3, none⟩) HZ.out.1 _), (fun _ => ⟨z, rfl, HZ.out.1, vset4 HZ.out.2⟩), (by first | exact Hhc0.out | rfl), trivial⟩
  have hall : (b14 && b15 && decide (kC = 9)) = true := by
    clear Hhx2 Hhx4 Hhx5 Hhx6 Hhx9 Hhx10 Hhx11 Hhx12 Hhx13 HhBw Hhw0 Hhc0
    revert b14 b15
    revert kC
    decide +kernel
  simp only [Bool.and_eq_true, decide_eq_true_eq] at hall
  obtain ⟨⟨rfl, rfl⟩, rfl⟩ := hall
  obtain ⟨z0, hpz0, hy01, hy02⟩ := Hhw0.out rfl
  subst hpz0
  have HZ0 := hid (show w1.heap.size ≤ z0 ∧ wC.heap[z0]? = some (.cells (usC (us n3 n4 128 191)) 82 (0, 0)) from (by first | exact And.intro hy01 hy02 | simpa using And.intro hy01 hy02))
  clear hy01 hy02
  obtain rfl := Hhx2.out (by decide)
  obtain rfl := Hhx4.out (by decide)
  obtain rfl := Hhx5.out (by decide)
  obtain rfl := Hhx6.out (by decide)
  obtain rfl := Hhx9.out (by decide)
  obtain rfl := Hhx10.out (by decide)
  obtain rfl := Hhx11.out (by decide)
  obtain rfl := Hhx12.out (by decide)
  obtain rfl := Hhx13.out (by decide)
  have HR := hid HhBw.out
  clear Hhx2 Hhx4 Hhx5 Hhx6 Hhx9 Hhx10 Hhx11 Hhx12 Hhx13 HhBw Hhw0 Hhc0 hr hk
  (try dsimp only)
  have R2 := hid ((HR.out.block _ (lt_of_heap H2.out)).trans H2.out)
  have R3 := hid ((HR.out.block _ (lt_of_heap H3.out)).trans H3.out)
  have KC := hid (fun (w' : World) (hb : Below wC.heap.size wC w') => KB1.out w' (belowCat HR.out hb))
  have KZ := hid (fun (w' : World) (hb : Below wC.heap.size wC w') => cell_us (s := us n3 n4 128 191) ((hb.block _ (lt_of_heap HZ0.out.2)).trans HZ0.out.2))
  have HZN := hid (show z0 ≠ w.heap.size + 1 + 1 ∧ z0 ≠ w.heap.size + 1 + 1 + 1 from by
    have h3 := lt_of_heap H3.out
    have hz := HZ0.out.1
    exact ⟨fun e => by omega, fun e => by omega⟩)
  go_wp2_with fail
  refine wp_region_held_drew (S := (fun w' => (w'.cell? ⟨w.heap.size + 1, 0, none⟩ = some (.int .u32 (b : Int)) ∧ (w'.cell? ⟨w.heap.size, 0, none⟩ = some (.int .u32 s.pt) ∧ w'.cell? ⟨w.heap.size, 1, none⟩ = some (.int .u32 s.mo) ∧ w'.cell? ⟨w.heap.size, 2, none⟩ = some (.int .u32 s.lo) ∧ w'.cell? ⟨w.heap.size, 3, none⟩ = some (.int .u32 s.hi))) ∧ (w'.cell? ⟨z0, 0, none⟩ = some (.int .u32 (us n3 n4 128 191).pt) ∧ w'.cell? ⟨z0, 1, none⟩ = some (.int .u32 (us n3 n4 128 191).mo) ∧ w'.cell? ⟨z0, 2, none⟩ = some (.int .u32 (us n3 n4 128 191).lo) ∧ w'.cell? ⟨z0, 3, none⟩ = some (.int .u32 (us n3 n4 128 191).hi)))) (by kernel_rfl) (And.intro (KC.out _ (blw_drew (Below.refl _ _))) (KZ.out _ (blw_drew (Below.refl _ _)))) (fun hHeld => ?_)
  refine tk_at (i := 0) (d := some 21) (v := ?_) rfl rfl (by kernel_rfl) (by kernel_rfl) (by kernel_rfl) (fun _ _ _ h => h) (Or.inl ⟨by rfl, ?_⟩) (by assumption) ?_
  rotate_left
  · (intro w hSw; (try dsimp only at hSw); go_simp; try (with_reducible rfl))
  simp only [Act.put, List.setIfInBounds_toArray, List.set_cons_zero, List.set_cons_succ]
  refine tk_at (i := 1) (d := some 22) (v := ?_) rfl rfl (by kernel_rfl) (by kernel_rfl) (by kernel_rfl) (fun _ _ _ h => h) (Or.inl ⟨by rfl, ?_⟩) (by assumption) ?_
  rotate_left
  · (intro w hSw; (try dsimp only at hSw); go_simp; try (with_reducible rfl))
  simp only [Act.put, List.setIfInBounds_toArray, List.set_cons_zero, List.set_cons_succ]
  refine tk_at (i := 2) (d := some 23) (v := ?_) rfl rfl (by kernel_rfl) (by kernel_rfl) (by kernel_rfl) (fun _ _ _ h => h) (Or.inl ⟨by rfl, ?_⟩) (by assumption) ?_
  rotate_left
  · (intro w hSw; (try dsimp only at hSw); go_simp; try (with_reducible rfl))
  simp only [Act.put, List.setIfInBounds_toArray, List.set_cons_zero, List.set_cons_succ]
  refine tk_at (i := 3) (d := some 24) (v := ?_) rfl rfl (by kernel_rfl) (by kernel_rfl) (by kernel_rfl) (fun _ _ _ h => h) (Or.inl ⟨by rfl, ?_⟩) (by assumption) ?_
  rotate_left
  · (intro w hSw; (try dsimp only at hSw); go_simp; try (with_reducible rfl))
  simp only [Act.put, List.setIfInBounds_toArray, List.set_cons_zero, List.set_cons_succ]
  refine tk_at (i := 4) (d := some 25) (v := ?_) rfl rfl (by kernel_rfl) (by kernel_rfl) (by kernel_rfl) (fun _ _ _ h => h) (Or.inl ⟨by rfl, ?_⟩) (by assumption) ?_
  rotate_left
  · (intro w hSw; (try dsimp only at hSw); go_simp; try (with_reducible rfl))
  simp only [Act.put, List.setIfInBounds_toArray, List.set_cons_zero, List.set_cons_succ]
  refine tk_at (i := 5) (d := some 26) (v := ?_) rfl rfl (by kernel_rfl) (by kernel_rfl) (by kernel_rfl) (fun _ _ _ h => h) (Or.inl ⟨by rfl, ?_⟩) (by assumption) ?_
  rotate_left
  · (intro w hSw; (try dsimp only at hSw); go_simp; try (with_reducible rfl))
  simp only [Act.put, List.setIfInBounds_toArray, List.set_cons_zero, List.set_cons_succ]
  refine wpAnyH_ready (rs := [6]) (by kernel_rfl) (by simp) ?_
  refine AllReadyH.cons rfl (fun K hK => ?_) AllReadyH.nil
  go_simp
  refine (HC5.out _).mono ?_
  rintro e w2 ⟨rfl, hBd⟩
  have B2 := hid (belowCat (blw_drew (Below.refl _ _)) hBd)
  clear hBd
  have Q2 := hid ((B2.out.block _ (lt_of_heap R2.out)).trans R2.out)
  have Q3 := hid ((B2.out.block _ (lt_of_heap R3.out)).trans R3.out)
  have B12 := hid (belowCat HR.out B2.out)
  obtain ⟨q0, q1, q2, q3⟩ := cell_us Q2.out
  have f0 := frozen_of_heap (i := 0) Q2.out
  have f1 := frozen_of_heap (i := 1) Q2.out
  have f2 := frozen_of_heap (i := 2) Q2.out
  have f3 := frozen_of_heap (i := 3) Q2.out
  go_wp2_with fail
  refine hK.out _ _ (And.intro (KC.out _ B2.out) (KZ.out _ B2.out)) (fun hHeld => ?_)
  clear hK K
  try simp only [Act.put, List.setIfInBounds_toArray, List.set_cons_zero, List.set_cons_succ]
  refine wpAnyH_ready (rs := [7]) (by kernel_rfl) (by simp) ?_
  refine AllReadyH.cons rfl (fun K hK => ?_) AllReadyH.nil
  go_simp
  clear q0 q1 q2 q3 f0 f1 f2 f3
  go_wp2_with fail
  refine hK.out _ _ (And.intro (KB.out _ (((((B12.out.mono HW.out).setCell (Nat.le_refl _) _).setCell (Nat.le_refl _) _).setCell (Nat.le_refl _) _).setCell (Nat.le_refl _) _)) (us_set (us_set (us_set (us_set (KZ.out _ B2.out) HZN.out.1) HZN.out.1) HZN.out.1) HZN.out.1)) (fun hHeld => ?_)
  clear hK K
  try simp only [Act.put, List.setIfInBounds_toArray, List.set_cons_zero, List.set_cons_succ]
  have U2 := hid (vset4 (a := .int .u32 (us n3 n4 128 191).pt) (b := .int .u32 (us n3 n4 128 191).mo) (c := .int .u32 (us n3 n4 128 191).lo) (d := .int .u32 (us n3 n4 128 191).hi) Q2.out)
  have U3 := hid (vset4_off (a := .int .u32 (us n3 n4 128 191).pt) (b := .int .u32 (us n3 n4 128 191).mo) (c := .int .u32 (us n3 n4 128 191).lo) (d := .int .u32 (us n3 n4 128 191).hi) Q3.out (show w.heap.size + 1 + 1 + 1 ≠ w.heap.size + 1 + 1 by omega))
  have UB := hid (below_set4 (a := .int .u32 (us n3 n4 128 191).pt) (b := .int .u32 (us n3 n4 128 191).mo) (c := .int .u32 (us n3 n4 128 191).lo) (d := .int .u32 (us n3 n4 128 191).hi) (belowCat HB.out B12.out) (show w.heap.size ≤ w.heap.size + 1 + 1 by omega))
  clear Q2 Q3 B12 B2 R2 R3
  generalize ((((w2.setCell ⟨w.heap.size + 1 + 1, 0, none⟩ (.int .u32 (us n3 n4 128 191).pt)).setCell ⟨w.heap.size + 1 + 1, 1, none⟩ (.int .u32 (us n3 n4 128 191).mo)).setCell ⟨w.heap.size + 1 + 1, 2, none⟩ (.int .u32 (us n3 n4 128 191).lo)).setCell ⟨w.heap.size + 1 + 1, 3, none⟩ (.int .u32 (us n3 n4 128 191).hi)) = w7 at U2 U3 UB hHeld ⊢
  have HH := hid hHeld
  have k8 := cell_s1 U3.out
  have g8 := frozen_of_heap (i := 0) U3.out
  refine wpAnyH_ready (rs := [8]) (by kernel_rfl) (by simp) ?_
  refine AllReadyH.cons rfl (fun K hK => ?_) AllReadyH.nil
  go_simp
  go_wp2_with fail
  refine hK.out _ _ (And.intro (And.intro (cell_off HH.out.1.1 (by show w.heap.size + 1 ≠ w.heap.size + 1 + 1 + 1; omega)) (us_set HH.out.1.2 (by show w.heap.size ≠ w.heap.size + 1 + 1 + 1; omega))) (us_set HH.out.2 HZN.out.2)) (fun hHeld => ?_)
  clear hK K
  try simp only [Act.put, List.setIfInBounds_toArray, List.set_cons_zero, List.set_cons_succ]
  refine wpAnyH_done (by kernel_rfl) ?_ _
  clear hHeld
  clear k8 g8
  go_wp2
  have hb9 := (Below.heap_setCell w7 ⟨w.heap.size + 1 + 1 + 1, 0, none⟩ (.int .u32 (n5 : Int)) _ (show w.heap.size + 1 + 1 ≠ w.heap.size + 1 + 1 + 1 by omega)).trans U2.out
  have hb10 := heap_setCell_at _ _ 0 _ _ _ (.int .u32 (n5 : Int)) U3.out
  obtain ⟨d0, d1, d2, d3⟩ := cell_us (s := us n3 n4 128 191) hb9
  have d4 := cell_of_heap (i := 0) hb10 rfl
  exact bodyPost_ret (v := .tuple #[usV (us n3 n4 128 191), sec (n5 : Int)]) (by simp only [results, Tryd.results65]; simp [go_sem, d0, d1, d2, d3, d4]) rfl ⟨rfl, UB.out.setCell (by show w.heap.size ≤ w.heap.size + 1 + 1 + 1; omega) _⟩
end Go.Proofs.YtjcnkigadlmpgaaDoor
