/- Package hangul's small words (number, divide, times), over this seat's translation. Conditions: the words' bounds. -/
import Derived.Test.YtnablmiocbijgaaHgP
import Derived.Test.YtnablmiocbijgaaLo
import Derived.Test.YtnablmiocbijgaaIv
import Derived.Deep.RegionHeld3
import Derived.Deep.LoopGhost
import Derived.Deep.CutRange
import Derived.BigQuiet
import Derived.Deep.QuietTactic
namespace Go.Proofs.Ytnablmiocbijgaa
open Go.RowKit
set_option linter.unusedVariables false

theorem cell_sb {w : World} {g : Nat} {v : Int} (h : w.heap[g]? = some (sb v)) : w.cell? ⟨g, 0, none⟩ = some (.int .u32 v) := cell_of_heap h rfl
theorem hp_drew (w : World) : w.drew.heap = w.heap := rfl
theorem hpB {w w' : World} {g : Nat} {o : Obj} (hb : Below w.heap.size w w') (h : w.heap[g]? = some o) : w'.heap[g]? = some o := (hb.block g (lt_of_heap h)).trans h
theorem blw_set {a w : World} {p : Addr} (u : Value) (h : Below a.heap.size a w) (hp : a.heap.size ≤ p.block) : Below a.heap.size a (w.setCell p u) := h.setCell hp u

theorem cell_off {w : World} {g i z j : Nat} {v u : Value} (h : w.cell? ⟨z, j, none⟩ = some u) (hne : z ≠ g) : (w.setCell ⟨g, i, none⟩ v).cell? ⟨z, j, none⟩ = some u :=
  (World.cell?_of_block (Below.heap_setCell _ _ _ _ hne)).trans h
theorem frozen_off {w : World} {g i z j : Nat} {v : Value} {b : Bool} (h : w.frozen? ⟨z, j, none⟩ = b) (hne : z ≠ g) : (w.setCell ⟨g, i, none⟩ v).frozen? ⟨z, j, none⟩ = b :=
  (World.frozen?_of_block (Below.heap_setCell _ _ _ _ hne)).trans h
theorem put_at {w : World} {a : Nat} {u x : Int} (h : w.heap[a]? = some (sb x)) : (w.setCell ⟨a, 0, none⟩ (.int .u32 u)).heap[a]? = some (sb u) := heap_setCell_at _ _ 0 _ _ _ _ h
theorem put_off {w : World} {a b : Nat} {u : Value} {o : Obj} (h : w.heap[b]? = some o) (hne : b ≠ a) : (w.setCell ⟨a, 0, none⟩ u).heap[b]? = some o := (Below.heap_setCell _ _ _ _ hne).trans h

set_option maxHeartbeats 3200000 in
theorem number_any (x f n : Nat) (w : World) (hx : x < 4294967296) (hf : f < 4294967296) (hn : n < 4294967296) :
    Calls Try.prog 26 #[sec x, u32 f, u32 n] w fun e w' => e = .returned (.tuple #[sec (subW x f : Nat), sec (mk (decide (subW x f < n)) : Nat)]) ∧ Below w.heap.size w w' := by
  go_enter Try.func26, Try.ntmps26
  go_upto_region 1 with fail
  have H0 := hid (show (((w.alloc (sb x)).alloc (sb 0)).alloc (sb 0)).heap[w.heap.size]? = some (sb x) from (by simp only [hp_get, World.size_alloc]; repeat (first | rw [if_pos trivial] | rw [if_pos rfl] | rw [if_neg (by omega)])))
  have H1 := hid (show (((w.alloc (sb x)).alloc (sb 0)).alloc (sb 0)).heap[w.heap.size + 1]? = some (sb 0) from (by simp only [hp_get, World.size_alloc]; repeat (first | rw [if_pos trivial] | rw [if_pos rfl] | rw [if_neg (by omega)])))
  have H2 := hid (show (((w.alloc (sb x)).alloc (sb 0)).alloc (sb 0)).heap[w.heap.size + 1 + 1]? = some (sb 0) from (by simp only [hp_get, World.size_alloc]; repeat (first | rw [if_pos trivial] | rw [if_pos rfl] | rw [if_neg (by omega)])))
  have HB := hid (show Below w.heap.size w (((w.alloc (sb x)).alloc (sb 0)).alloc (sb 0)) from (by repeat (first | exact Below.refl _ _ | refine blw_alloc ?_ | refine blw_drew ?_ | assumption)))
  generalize ((w.alloc (sb x)).alloc (sb 0)).alloc (sb 0) = w2 at *
  obtain ⟨N, hN⟩ : ∃ N, w.heap.size = N := ⟨_, rfl⟩
  have HN := hid hN
  rw [hN] at H0 H1 H2 ⊢
  clear hN
  have KB := hid (show ∀ w' : World, Below w2.heap.size w2 w' → w'.cell? ⟨N, 0, none⟩ = some (.int .u32 (x : Int)) from fun w' hb => cell_sb (hpB hb H0.out))
  go_cut [8] from 9 to 17 (fun q wx => ∃ z, w2.heap.size ≤ z ∧ q = .pointer (some ⟨z, 0, none⟩) ∧ wx.heap[z]? = some (sb (subW x f : Nat)) ∧ Below w2.heap.size w2 wx)
  case first =>
    refine wp_region_held_drew (S := (fun w' => w'.cell? ⟨N, 0, none⟩ = some (.int .u32 (x : Int)))) (by kernel_rfl) (KB.out _ (blw_drew (Below.refl _ _))) (fun hHeld => ?_)
    refine tk_at (i := 0) (d := some 9) (v := ?_) rfl rfl (by kernel_rfl) (by kernel_rfl) (by kernel_rfl) (fun _ _ _ h => h) (Or.inl ⟨by rfl, ?_⟩) (by assumption) ?_
    rotate_left
    · (intro w hSw; (try dsimp only at hSw); go_simp; try (with_reducible rfl))
    simp only [Act.put, List.setIfInBounds_toArray, List.set_cons_zero, List.set_cons_succ]
    refine tk_at (i := 1) (d := some 10) (v := ?_) rfl rfl (by kernel_rfl) (by kernel_rfl) (by kernel_rfl) (fun _ _ _ h => h) (Or.inl ⟨by rfl, ?_⟩) (by assumption) ?_
    rotate_left
    · (intro w hSw; (try dsimp only at hSw); go_simp; try (with_reducible rfl))
    simp only [Act.put, List.setIfInBounds_toArray, List.set_cons_zero, List.set_cons_succ]
    clear hHeld
    refine wpAnyH_inv0 (fun aC0 lsC aC wC => ∃ (b2 b3 b4 b5 : Bool) (pp x11 x12   : Value), lsC = #[true, true, b2, b3, b4, b5] ∧ aC = { aC0 with tmps := (((aC0.tmps.setIfInBounds 11 x11).setIfInBounds 12 x12).setIfInBounds 8 pp) } ∧ (b2 = true → x11 = sec (f : Int)) ∧ (b3 = true → x12 = sec (subW x f : Nat)) ∧ Below w2.heap.size w2 wC ∧ Own1 w2 wC b4 b5 pp (subW x f) ∧ (b4 || !b5) = true) ?_ _ _ _ (by decide +kernel) (fun aS => ⟨false, false, false, false, aS.tmps.getD 8 undef, aS.tmps.getD 11 undef, aS.tmps.getD 12 undef, by kernel_rfl, by simp only [set_self], fun h => (by cases h), fun h => (by cases h), blw_drew (Below.refl _ _), Own1.none, rfl⟩)
    intro lsC aC wC ⟨b2, b3, b4, b5, pp, x11, x12, hl, ha, hx11, hx12, hBw, hpp, hcc⟩
    subst hl ha
    have Hx11 := hid hx11
    have Hx12 := hid hx12
    have HBW := hid hBw
    have HPP := hid hpp
    have HCC := hid hcc
    clear hx11 hx12 hBw hpp hcc
    simp only [List.setIfInBounds_toArray, List.set_cons_zero, List.set_cons_succ]
    refine ⟨fun hr => ?_, fun i hi => ?_⟩
    · have hall : (b2 && b3 && b4 && b5) = true := by
        clear Hx11 Hx12 HBW HPP HCC
        revert b2 b3 b4 b5
        decide +kernel
      simp only [Bool.and_eq_true] at hall
      obtain ⟨⟨⟨rfl, rfl⟩, rfl⟩, rfl⟩ := hall
      obtain ⟨z, rfl, hz1, hz2⟩ := HPP.out rfl
      obtain rfl := Hx11.out rfl
      obtain rfl := Hx12.out rfl
      have HR := hid (And.intro hz1 (And.intro hz2 HBW.out))
      clear hz1 hz2 Hx11 Hx12 HBW HPP HCC hr
      (try dsimp only)
      go_wp2_with fail
      go_meet
      case rel => exact ⟨z, HR.out.1, rfl, HR.out.2.1, HR.out.2.2⟩
    · have hcase : (i = 2 ∧ b2 = false) ∨ (i = 3 ∧ b3 = false ∧ b2 = true) ∨ (i = 4 ∧ b4 = false) ∨ (i = 5 ∧ b5 = false ∧ b4 = true ∧ b3 = true) := by
        refine of_decide_eq_true ((List.all_eq_true (p := fun i => decide ((i = 2 ∧ b2 = false) ∨ (i = 3 ∧ b3 = false ∧ b2 = true) ∨ (i = 4 ∧ b4 = false) ∨ (i = 5 ∧ b5 = false ∧ b4 = true ∧ b3 = true)))).1 ?_ i hi)
        clear Hx11 Hx12 HBW HPP HCC hi
        revert b2 b3 b4 b5
        decide +kernel
      clear hi
      rcases hcase with ⟨rfl, rfl⟩ | ⟨rfl, rfl, rfl⟩ | ⟨rfl, rfl⟩ | ⟨rfl, rfl, rfl, rfl⟩
      · refine wpOp_shut rfl (fun K hK => ?_)
        go_simp
        refine (of_b _ _).mono ?_
        rintro e wa ⟨rfl, hBa⟩
        have HBa := hid hBa
        clear hBa
        go_wp2_with fail
        have hB3 := belowCat HBW.out HBa.out
        exact hK.out _ _ ⟨KB.out _ hB3, true, b3, b4, b5, _, _, _, by kernel_rfl, rfl, fun _ => rfl, Hx12.out, hB3, HPP.out.below HBa.out, HCC.out⟩
      · obtain rfl := Hx11.out rfl
        refine wpOp_shut rfl (fun K hK => ?_)
        go_simp
        refine (sub_b x f _ hx hf).mono ?_
        rintro e wa ⟨rfl, hBa⟩
        have HBa := hid hBa
        clear hBa
        go_wp2_with fail
        have hB3 := belowCat HBW.out HBa.out
        exact hK.out _ _ ⟨KB.out _ hB3, true, true, b4, b5, _, _, _, by kernel_rfl, rfl, fun _ => rfl, fun _ => rfl, hB3, HPP.out.below HBa.out, HCC.out⟩
      · obtain rfl : b5 = false := by have := HCC.out; revert this; cases b5 <;> simp
        refine wpOp_shut rfl (fun K hK => ?_)
        go_simp
        go_wp2_with fail
        have hBa := (Below.refl wC.heap.size wC).alloc (Nat.le_refl _) (.cells #[.int .u32 0] 28 (0, 0))
        have hB3 := belowCat HBW.out hBa
        exact hK.out _ _ ⟨KB.out _ hB3, b2, b3, true, false, _, _, _, by kernel_rfl, rfl, Hx11.out, Hx12.out, hB3, Own1.new HBW.out, rfl⟩
      · obtain ⟨z, rfl, hz1, hz2⟩ := HPP.out rfl
        obtain rfl := Hx12.out rfl
        have c0 := cell_of_heap (i := 0) hz2 rfl
        have g0 := frozen_of_heap (i := 0) hz2
        have HZ := hid (And.intro hz1 hz2)
        clear hz1 hz2
        refine wpOp_shut rfl (fun K hK => ?_)
        go_simp
        go_wp2_with fail
        have hB3 := HBW.out.setCell (p := ⟨z, 0, none⟩) HZ.out.1 (.int .u32 ((subW x f : Nat) : Int))
        exact hK.out _ _ ⟨KB.out _ hB3, b2, true, true, true, _, _, _, by kernel_rfl, rfl, Hx11.out, fun _ => rfl, hB3, fun _ => ⟨z, rfl, HZ.out.1, own_put HZ.out.2⟩, rfl⟩
  case rest =>
    obtain ⟨z, hz, rfl, hbz, hBc⟩ := hcut
    have HZ := hid hbz
    have G1 := hid (hpB hBc H1.out)
    have G2 := hid (hpB hBc H2.out)
    have GB := hid (belowCat HB.out hBc)
    have hs := hid (subW_lt x f)
    have HNZ := hid (show N + 1 + 1 < z from Nat.lt_of_lt_of_le (lt_of_heap H2.out) hz)
    have KC := hid (show ∀ w' : World, Below wc.heap.size wc w' → w'.cell? ⟨z, 0, none⟩ = some (.int .u32 (subW x f : Nat)) from fun w' hb => cell_sb (hpB hb HZ.out))
    clear hbz hBc H0 H1 H2 HB KB
    go_upto_region 2 with fail
    refine wp_region_held_drew (S := (fun w' => w'.cell? ⟨z, 0, none⟩ = some (.int .u32 (subW x f : Nat)))) (by kernel_rfl) (KC.out _ (blw_drew (Below.refl _ _))) (fun hHeld => ?_)
    refine tk_at (i := 0) (d := some 13) (v := ?_) rfl rfl (by kernel_rfl) (by kernel_rfl) (by kernel_rfl) (fun _ _ _ h => h) (Or.inl ⟨by rfl, ?_⟩) (by assumption) ?_
    rotate_left
    · (intro w hSw; (try dsimp only at hSw); go_simp; try (with_reducible rfl))
    simp only [Act.put, List.setIfInBounds_toArray, List.set_cons_zero, List.set_cons_succ]
    refine tk_at (i := 1) (d := some 14) (v := ?_) rfl rfl (by kernel_rfl) (by kernel_rfl) (by kernel_rfl) (fun _ _ _ h => h) (Or.inl ⟨by rfl, ?_⟩) (by assumption) ?_
    rotate_left
    · (intro w hSw; (try dsimp only at hSw); go_simp; try (with_reducible rfl))
    simp only [Act.put, List.setIfInBounds_toArray, List.set_cons_zero, List.set_cons_succ]
    refine tk_at (i := 2) (d := some 15) (v := ?_) rfl rfl (by kernel_rfl) (by kernel_rfl) (by kernel_rfl) (fun _ _ _ h => h) (Or.inl ⟨by rfl, ?_⟩) (by assumption) ?_
    rotate_left
    · (intro w hSw; (try dsimp only at hSw); go_simp; try (with_reducible rfl))
    simp only [Act.put, List.setIfInBounds_toArray, List.set_cons_zero, List.set_cons_succ]
    refine wpAnyH_ready (rs := [3]) (by kernel_rfl) (by simp) ?_
    refine AllReadyH.cons rfl (fun K hK => ?_) AllReadyH.nil
    go_simp
    refine (of_b _ _).mono ?_
    rintro e w4 ⟨rfl, hB4⟩
    have HB4 := hid (belowCat (blw_drew (Below.refl _ _)) hB4)
    clear hB4
    go_wp2_with fail
    refine hK.out _ _ (KC.out _ HB4.out) (fun hHeld => ?_)
    clear hK K
    try simp only [Act.put, List.setIfInBounds_toArray, List.set_cons_zero, List.set_cons_succ]
    refine wpAnyH_ready (rs := [4]) (by kernel_rfl) (by simp) ?_
    refine AllReadyH.cons rfl (fun K hK => ?_) AllReadyH.nil
    go_simp
    refine (lt_any (subW x f) n _ hs.out hn).mono ?_
    rintro e w5 ⟨rfl, hB5⟩
    have HB5 := hid (belowCat HB4.out hB5)
    have J1 := hid (hpB HB5.out G1.out)
    have J2 := hid (hpB HB5.out G2.out)
    have f1 := frozen_of_heap (i := 0) J1.out
    have c1 := cell_sb J1.out
    have f2 := frozen_of_heap (i := 0) J2.out
    have c2 := cell_sb J2.out
    clear hB5
    go_wp2_with fail
    refine hK.out _ _ (KC.out _ HB5.out) (fun hHeld => ?_)
    clear hK K
    try simp only [Act.put, List.setIfInBounds_toArray, List.set_cons_zero, List.set_cons_succ]
    refine wpAnyH_ready (rs := [5]) (by kernel_rfl) (by simp) ?_
    refine AllReadyH.cons rfl (fun K hK => ?_) AllReadyH.nil
    go_simp
    go_wp2_with fail
    refine hK.out _ _ (cell_off hHeld (by have := HNZ.out; omega)) (fun hHeld => ?_)
    clear hK K
    try simp only [Act.put, List.setIfInBounds_toArray, List.set_cons_zero, List.set_cons_succ]
    refine wpAnyH_ready (rs := [6]) (by kernel_rfl) (by simp) ?_
    refine AllReadyH.cons rfl (fun K hK => ?_) AllReadyH.nil
    go_simp
    have c2 := cell_off (g := N + 1) (i := 0) (v := .int .u32 (subW x f : Nat)) c2 (by omega)
    have f2 := frozen_off (g := N + 1) (i := 0) (v := .int .u32 (subW x f : Nat)) f2 (by omega)
    go_wp2_with fail
    refine hK.out _ _ (cell_off hHeld (by have := HNZ.out; omega)) (fun hHeld => ?_)
    clear hK K
    try simp only [Act.put, List.setIfInBounds_toArray, List.set_cons_zero, List.set_cons_succ]
    refine wpAnyH_done (by kernel_rfl) ?_ _
    clear hHeld
    have d1 := cell_sb (put_off (u := .int .u32 (mk (decide (subW x f < n)) : Nat)) (put_at (u := (subW x f : Nat)) J1.out) (show N + 1 ≠ N + 1 + 1 by omega))
    have d2 := cell_sb (put_at (u := (mk (decide (subW x f < n)) : Nat)) (put_off (u := .int .u32 (subW x f : Nat)) J2.out (show N + 1 + 1 ≠ N + 1 by omega)))
    clear f1 c1 f2 c2
    go_wp2
    exact bodyPost_ret (v := .tuple #[sec (subW x f : Nat), sec (mk (decide (subW x f < n)) : Nat)]) (by simp only [results, Try.results26]; simp [go_sem, d1, d2]) rfl
      ⟨rfl, blw_set _ (blw_set _ (belowCat GB.out HB5.out) (by have := HN.out; show w.heap.size ≤ N + 1; omega)) (by have := HN.out; show w.heap.size ≤ N + 1 + 1; omega)⟩
end Go.Proofs.Ytnablmiocbijgaa
