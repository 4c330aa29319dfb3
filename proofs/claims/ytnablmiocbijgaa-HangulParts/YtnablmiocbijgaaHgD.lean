/- Package hangul's split and Parts, over this seat's translation. Conditions: the words' bounds. -/
import Derived.Test.YtnablmiocbijgaaHgB
import Derived.Test.YtnablmiocbijgaaHgC
namespace Go.Proofs.Ytnablmiocbijgaa
open Go.RowKit
set_option linter.unusedVariables false

/-- four words of results, one behind the other -/
structure R4 (w : World) (N : Nat) (a b c d : Int) : Prop where
  h1 : w.heap[N + 1]? = some (sb a)
  h2 : w.heap[N + 1 + 1]? = some (sb b)
  h3 : w.heap[N + 1 + 1 + 1]? = some (sb c)
  h4 : w.heap[N + 1 + 1 + 1 + 1]? = some (sb d)
theorem R4.below {w w' : World} {N : Nat} {a b c d : Int} (r : R4 w N a b c d) (hb : Below w.heap.size w w') : R4 w' N a b c d := ⟨hpB hb r.h1, hpB hb r.h2, hpB hb r.h3, hpB hb r.h4⟩
theorem R4.put1 {w : World} {N : Nat} {a b c d : Int} (u : Int) (r : R4 w N a b c d) : R4 (w.setCell ⟨N + 1, 0, none⟩ (.int .u32 u)) N u b c d := ⟨put_at r.h1, put_off r.h2 (by omega), put_off r.h3 (by omega), put_off r.h4 (by omega)⟩
theorem R4.put2 {w : World} {N : Nat} {a b c d : Int} (u : Int) (r : R4 w N a b c d) : R4 (w.setCell ⟨N + 1 + 1, 0, none⟩ (.int .u32 u)) N a u c d := ⟨put_off r.h1 (by omega), put_at r.h2, put_off r.h3 (by omega), put_off r.h4 (by omega)⟩
theorem R4.put3 {w : World} {N : Nat} {a b c d : Int} (u : Int) (r : R4 w N a b c d) : R4 (w.setCell ⟨N + 1 + 1 + 1, 0, none⟩ (.int .u32 u)) N a b u d := ⟨put_off r.h1 (by omega), put_off r.h2 (by omega), put_at r.h3, put_off r.h4 (by omega)⟩
theorem R4.put4 {w : World} {N : Nat} {a b c d : Int} (u : Int) (r : R4 w N a b c d) : R4 (w.setCell ⟨N + 1 + 1 + 1 + 1, 0, none⟩ (.int .u32 u)) N a b c u := ⟨put_off r.h1 (by omega), put_off r.h2 (by omega), put_off r.h3 (by omega), put_at r.h4⟩
theorem R4.cells {w : World} {N : Nat} {a b c d : Int} (r : R4 w N a b c d) : w.cell? ⟨N + 1, 0, none⟩ = some (.int .u32 a) ∧ w.cell? ⟨N + 1 + 1, 0, none⟩ = some (.int .u32 b) ∧ w.cell? ⟨N + 1 + 1 + 1, 0, none⟩ = some (.int .u32 c) ∧ w.cell? ⟨N + 1 + 1 + 1 + 1, 0, none⟩ = some (.int .u32 d) := ⟨cell_sb r.h1, cell_sb r.h2, cell_sb r.h3, cell_sb r.h4⟩
theorem fz_sb {w : World} {g : Nat} {v : Int} (h : w.heap[g]? = some (sb v)) : w.frozen? ⟨g, 0, none⟩ = false := frozen_of_heap h

/-- the numbers of a syllable's parts -/
structure Spl (p a b c : Nat) : Prop where
  la : a < 4294967296
  lb : b < 4294967296
  lc : c < 4294967296
  yes : syl p = true → a = (p - 44032) / 588 ∧ b = (p - 44032) % 588 / 28 ∧ c = (p - 44032) % 28
theorem spl_of (p : Nat) (hp : p < 4294967296) : Spl p (dvR 588 5 (0, subW p 44032)).1 (dvR 28 5 (0, (dvR 588 5 (0, subW p 44032)).2)).1 (dvR 28 5 (0, (dvR 588 5 (0, subW p 44032)).2)).2 := by
  have h1 := dvR_lt 588 5 (0, subW p 44032) (by omega) (Nat.zero_lt_succ _) (subW_lt _ _)
  have h2 := dvR_lt 28 5 (0, (dvR 588 5 (0, subW p 44032)).2) (by omega) (Nat.zero_lt_succ _) h1.2
  refine ⟨h1.1, h2.1, h2.2, fun hs => ?_⟩
  simp only [syl, Bool.and_eq_true, decide_eq_true_eq] at hs
  have e := num_at p 44032 hp hs.1
  rw [e]
  have e1 := dvR_said 588 (by omega) 5 0 (p - 44032) (by omega) (by omega) (by omega) (by omega)
  simp only [Nat.mul_zero, Nat.zero_add] at e1
  rw [e1]
  have e2 := dvR_said 28 (by omega) 5 0 ((p - 44032) % 588) (by omega) (by omega) (by omega) (by omega)
  simp only [Nat.mul_zero, Nat.zero_add] at e2
  rw [e2]
  refine ⟨rfl, rfl, ?_⟩
  omega
theorem syl_num (p : Nat) (hp : p < 4294967296) : decide (subW p 44032 < 11172) = syl p := by
  rw [num_is p 44032 11172 hp (by omega)]
  unfold syl
  congr 1
  exact decide_eq_decide.2 (by omega)
set_option maxRecDepth 20000 in
set_option maxHeartbeats 6400000 in
theorem split_any (p : Nat) (w : World) (hp : p < 4294967296) :
    Calls Try.prog 16 #[sec p] w fun e w' => ∃ a b c : Nat, e = .returned (.tuple #[sec a, sec b, sec c, sec (mk (syl p) : Nat)]) ∧ Spl p a b c ∧ Below w.heap.size w w' := by
  have HSP := hid (spl_of p hp)
  have HIS := hid (syl_num p hp)
  go_enter Try.func16, Try.ntmps16
  go_wp2_with fail
  have H0 := hid (show (((((w.alloc (sb p)).alloc (sb 0)).alloc (sb 0)).alloc (sb 0)).alloc (sb 0)).heap[w.heap.size]? = some (sb p) from (by simp only [hp_get, World.size_alloc]; repeat (first | rw [if_pos trivial] | rw [if_pos rfl] | rw [if_neg (by omega)])))
  have HR := hid (show R4 (((((w.alloc (sb p)).alloc (sb 0)).alloc (sb 0)).alloc (sb 0)).alloc (sb 0)) w.heap.size 0 0 0 0 from ⟨(by simp only [hp_get, World.size_alloc]; repeat (first | rw [if_pos trivial] | rw [if_pos rfl] | rw [if_neg (by omega)])), (by simp only [hp_get, World.size_alloc]; repeat (first | rw [if_pos trivial] | rw [if_pos rfl] | rw [if_neg (by omega)])), (by simp only [hp_get, World.size_alloc]; repeat (first | rw [if_pos trivial] | rw [if_pos rfl] | rw [if_neg (by omega)])), (by simp only [hp_get, World.size_alloc]; repeat (first | rw [if_pos trivial] | rw [if_pos rfl] | rw [if_neg (by omega)]))⟩)
  have HB := hid (show Below w.heap.size w (((((w.alloc (sb p)).alloc (sb 0)).alloc (sb 0)).alloc (sb 0)).alloc (sb 0)) from (by repeat (first | exact Below.refl _ _ | refine blw_alloc ?_ | refine blw_drew ?_ | assumption)))
  generalize ((((w.alloc (sb p)).alloc (sb 0)).alloc (sb 0)).alloc (sb 0)).alloc (sb 0) = w2 at *
  obtain ⟨N, hN⟩ : ∃ N, w.heap.size = N := ⟨_, rfl⟩
  have HN := hid hN
  rw [hN] at H0 HR ⊢
  clear hN
  refine (number_any p 44032 11172 _ hp (by decide) (by decide)).mono ?_
  rintro e w3 ⟨rfl, hB3⟩
  rw [HIS.out]
  clear HIS
  have R3 := hid (HR.out.below hB3)
  have B3 := hid (belowCat HB.out hB3)
  have hs := hid (subW_lt p 44032)
  obtain ⟨at_, hat⟩ : ∃ x, subW p 44032 = x := ⟨_, rfl⟩
  rw [hat] at HSP hs ⊢
  clear hB3 H0 HR HB hat
  have c4 := cell_sb R3.out.h4
  have f4 := fz_sb R3.out.h4
  have hlt : N + 1 + 1 + 1 + 1 < w3.heap.size := lt_of_heap R3.out.h4
  go_wp2_with fail
  have hA := hid (blw_set (p := ⟨N + 1 + 1 + 1 + 1, 0, none⟩) (.int .u32 (mk (syl p) : Nat)) B3.out (by have := HN.out; show w.heap.size ≤ N + 1 + 1 + 1 + 1; omega))
  have R4' := hid ((R3.out.put4 (mk (syl p) : Nat)).below ((Below.refl _ _).alloc (Nat.le_refl _) (sb (at_ : Nat))))
  refine (divide_any at_ 588 _ hs.out (by decide)).mono ?_
  rintro e w4 ⟨rfl, hB4⟩
  have R4 := hid (R4'.out.below hB4)
  have B4 := hid (belowCat (blw_alloc hA.out) hB4)
  have hq := hid (dvR_lt 588 5 (0, at_) (by omega) (Nat.zero_lt_succ _) hs.out)
  obtain ⟨q, hqe⟩ : ∃ q, dvR 588 5 (0, at_) = q := ⟨_, rfl⟩
  rw [hqe] at HSP hq ⊢
  clear hA R4' R3 B3 hB4 hqe c4 f4 hlt hs
  have c1 := cell_sb R4.out.h1
  have f1 := fz_sb R4.out.h1
  have hlt : N + 1 < w4.heap.size := lt_of_heap R4.out.h1
  go_wp2_with fail
  have hA := hid (blw_set (p := ⟨N + 1, 0, none⟩) (.int .u32 (q.1 : Nat)) B4.out (by have := HN.out; show w.heap.size ≤ N + 1; omega))
  have R5' := hid ((R4.out.put1 (q.1 : Nat)).below ((Below.refl _ _).alloc (Nat.le_refl _) (sb (q.2 : Nat))))
  refine (divide_any q.2 28 _ hq.out.2 (by decide)).mono ?_
  rintro e w5 ⟨rfl, hB5⟩
  have R5 := hid (R5'.out.below hB5)
  have B5 := hid (belowCat (blw_alloc hA.out) hB5)
  have hr := hid (dvR_lt 28 5 (0, q.2) (by omega) (Nat.zero_lt_succ _) hq.out.2)
  obtain ⟨r, hre⟩ : ∃ r, dvR 28 5 (0, q.2) = r := ⟨_, rfl⟩
  rw [hre] at HSP hr ⊢
  clear hA R5' R4 B4 hB5 hre c1 f1 hlt hq hr
  have c2 := cell_sb R5.out.h2
  have f2 := fz_sb R5.out.h2
  have c3 := cell_sb (R5.out.put2 (r.1 : Nat)).h3
  have f3 := fz_sb (R5.out.put2 (r.1 : Nat)).h3
  go_upto_region 4 with fail
  have R6 := hid ((R5.out.put2 (r.1 : Nat)).put3 (r.2 : Nat))
  have B6 := hid (blw_set (p := ⟨N + 1 + 1 + 1, 0, none⟩) (.int .u32 (r.2 : Nat)) (blw_set (p := ⟨N + 1 + 1, 0, none⟩) (.int .u32 (r.1 : Nat)) B5.out (by have := HN.out; show w.heap.size ≤ N + 1 + 1; omega)) (by have := HN.out; show w.heap.size ≤ N + 1 + 1 + 1; omega))
  clear c2 f2 c3 f3 R5 B5
  generalize (w5.setCell ⟨N + 1 + 1, 0, none⟩ (.int .u32 (r.1 : Nat))).setCell ⟨N + 1 + 1 + 1, 0, none⟩ (.int .u32 (r.2 : Nat)) = w6 at *
  refine wp_region_held_drew (S := (fun w' => w'.cell? ⟨N + 1, 0, none⟩ = some (.int .u32 (q.1 : Nat)) ∧ w'.cell? ⟨N + 1 + 1, 0, none⟩ = some (.int .u32 (r.1 : Nat)) ∧ w'.cell? ⟨N + 1 + 1 + 1, 0, none⟩ = some (.int .u32 (r.2 : Nat)) ∧ w'.cell? ⟨N + 1 + 1 + 1 + 1, 0, none⟩ = some (.int .u32 (mk (syl p) : Nat)))) (by kernel_rfl) (R6.out.cells) (fun hHeld => ?_)
  refine tk_at (i := 0) (d := some 23) (v := ?_) rfl rfl (by kernel_rfl) (by kernel_rfl) (by kernel_rfl) (fun _ _ _ h => h) (Or.inl ⟨by rfl, ?_⟩) (by assumption) ?_
  rotate_left
  · (intro w hSw; (try dsimp only at hSw); go_simp; try (with_reducible rfl))
  simp only [Act.put, List.setIfInBounds_toArray, List.set_cons_zero, List.set_cons_succ]
  refine tk_at (i := 1) (d := some 24) (v := ?_) rfl rfl (by kernel_rfl) (by kernel_rfl) (by kernel_rfl) (fun _ _ _ h => h) (Or.inl ⟨by rfl, ?_⟩) (by assumption) ?_
  rotate_left
  · (intro w hSw; (try dsimp only at hSw); go_simp; try (with_reducible rfl))
  simp only [Act.put, List.setIfInBounds_toArray, List.set_cons_zero, List.set_cons_succ]
  refine tk_at (i := 2) (d := some 25) (v := ?_) rfl rfl (by kernel_rfl) (by kernel_rfl) (by kernel_rfl) (fun _ _ _ h => h) (Or.inl ⟨by rfl, ?_⟩) (by assumption) ?_
  rotate_left
  · (intro w hSw; (try dsimp only at hSw); go_simp; try (with_reducible rfl))
  simp only [Act.put, List.setIfInBounds_toArray, List.set_cons_zero, List.set_cons_succ]
  refine tk_at (i := 3) (d := some 26) (v := ?_) rfl rfl (by kernel_rfl) (by kernel_rfl) (by kernel_rfl) (fun _ _ _ h => h) (Or.inl ⟨by rfl, ?_⟩) (by assumption) ?_
  rotate_left
  · (intro w hSw; (try dsimp only at hSw); go_simp; try (with_reducible rfl))
  simp only [Act.put, List.setIfInBounds_toArray, List.set_cons_zero, List.set_cons_succ]
  have RX := hid (R6.out.below (blw_drew (Below.refl _ w6)))
  have BX := hid (blw_drew B6.out)
  obtain ⟨x0, hx0⟩ : ∃ y, w6.drew = y := ⟨_, rfl⟩
  clear hHeld
  rw [hx0] at RX BX ⊢
  clear hx0
  have c := cell_sb RX.out.h1
  have f := fz_sb RX.out.h1
  refine wpAnyH_ready (rs := [4]) (by kernel_rfl) (by simp) ?_
  refine AllReadyH.cons rfl (fun K hK => ?_) AllReadyH.nil
  go_simp
  go_wp2_with fail
  refine hK.out _ _ ((RX.out.put1 (q.1 : Nat)).cells) (fun hHeld => ?_)
  clear hK K
  try simp only [Act.put, List.setIfInBounds_toArray, List.set_cons_zero, List.set_cons_succ]
  clear hHeld
  have RY := hid (RX.out.put1 (q.1 : Nat))
  have BY := hid (blw_set (p := ⟨N + 1, 0, none⟩) (.int .u32 (q.1 : Nat)) BX.out (by have := HN.out; show w.heap.size ≤ N + 1; omega))
  clear RX BX c f
  generalize x0.setCell ⟨N + 1, 0, none⟩ (.int .u32 (q.1 : Nat)) = x1 at *
  have RX := RY
  have BX := BY
  clear RY BY
  have c := cell_sb RX.out.h2
  have f := fz_sb RX.out.h2
  refine wpAnyH_ready (rs := [5]) (by kernel_rfl) (by simp) ?_
  refine AllReadyH.cons rfl (fun K hK => ?_) AllReadyH.nil
  go_simp
  go_wp2_with fail
  refine hK.out _ _ ((RX.out.put2 (r.1 : Nat)).cells) (fun hHeld => ?_)
  clear hK K
  try simp only [Act.put, List.setIfInBounds_toArray, List.set_cons_zero, List.set_cons_succ]
  clear hHeld
  have RY := hid (RX.out.put2 (r.1 : Nat))
  have BY := hid (blw_set (p := ⟨N + 1 + 1, 0, none⟩) (.int .u32 (r.1 : Nat)) BX.out (by have := HN.out; show w.heap.size ≤ N + 1 + 1; omega))
  clear RX BX c f
  generalize x1.setCell ⟨N + 1 + 1, 0, none⟩ (.int .u32 (r.1 : Nat)) = x2 at *
  have RX := RY
  have BX := BY
  clear RY BY
  have c := cell_sb RX.out.h3
  have f := fz_sb RX.out.h3
  refine wpAnyH_ready (rs := [6]) (by kernel_rfl) (by simp) ?_
  refine AllReadyH.cons rfl (fun K hK => ?_) AllReadyH.nil
  go_simp
  go_wp2_with fail
  refine hK.out _ _ ((RX.out.put3 (r.2 : Nat)).cells) (fun hHeld => ?_)
  clear hK K
  try simp only [Act.put, List.setIfInBounds_toArray, List.set_cons_zero, List.set_cons_succ]
  clear hHeld
  have RY := hid (RX.out.put3 (r.2 : Nat))
  have BY := hid (blw_set (p := ⟨N + 1 + 1 + 1, 0, none⟩) (.int .u32 (r.2 : Nat)) BX.out (by have := HN.out; show w.heap.size ≤ N + 1 + 1 + 1; omega))
  clear RX BX c f
  generalize x2.setCell ⟨N + 1 + 1 + 1, 0, none⟩ (.int .u32 (r.2 : Nat)) = x3 at *
  have RX := RY
  have BX := BY
  clear RY BY
  have c := cell_sb RX.out.h4
  have f := fz_sb RX.out.h4
  refine wpAnyH_ready (rs := [7]) (by kernel_rfl) (by simp) ?_
  refine AllReadyH.cons rfl (fun K hK => ?_) AllReadyH.nil
  go_simp
  go_wp2_with fail
  refine hK.out _ _ ((RX.out.put4 (mk (syl p) : Nat)).cells) (fun hHeld => ?_)
  clear hK K
  try simp only [Act.put, List.setIfInBounds_toArray, List.set_cons_zero, List.set_cons_succ]
  have RY := hid (RX.out.put4 (mk (syl p) : Nat))
  have BY := hid (blw_set (p := ⟨N + 1 + 1 + 1 + 1, 0, none⟩) (.int .u32 (mk (syl p) : Nat)) BX.out (by have := HN.out; show w.heap.size ≤ N + 1 + 1 + 1 + 1; omega))
  clear RX BX c f
  generalize x3.setCell ⟨N + 1 + 1 + 1 + 1, 0, none⟩ (.int .u32 (mk (syl p) : Nat)) = x4 at *
  have RX := RY
  have BX := BY
  clear RY BY
  refine wpAnyH_done (by kernel_rfl) ?_ _
  clear hHeld
  obtain ⟨d1, d2, d3, d4⟩ := RX.out.cells
  go_wp2
  exact bodyPost_ret (v := .tuple #[sec (q.1 : Nat), sec (r.1 : Nat), sec (r.2 : Nat), sec (mk (syl p) : Nat)]) (by simp only [results, Try.results16]; simp [go_sem, d1, d2, d3, d4]) rfl
    ⟨q.1, r.1, r.2, rfl, HSP.out, BX.out⟩
end Go.Proofs.Ytnablmiocbijgaa
