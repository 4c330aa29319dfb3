/- The contracts of package chart's weightOf, runOf and namedOf, over this seat's translation. Conditions: the words' sizes; what the library's variables hold is some number, some errors. -/
import Derived.Test.YtgalmlelnolodaaGreatDoorChI
namespace Go.Proofs.YtgalmlelnolodaaGreatDoor
open Go.RowKit
set_option linter.unusedVariables false

abbrev wtZ : Array Value := #[.int .u32 0, .int .u32 0, .int .u32 0]
abbrev nmZ : Array Value := #[.string ⟨#[]⟩, .int .u32 0, .int .u32 0]
def nmC (i : It) : Array Value := (i.r ++ [Value.int .u32 (i.a : Int), Value.int .u32 (i.b : Int)]).toArray
theorem wtOf_no {ws : List ByteArray} (h : ws.length ≠ 3) : wtOf ws = none := by unfold wtOf; rw [if_neg h]
theorem ruOf_no {ws : List ByteArray} (h : ws.length ≠ 3) : ruOf ws = none := by unfold ruOf; rw [if_neg h]
theorem nmOf_no {ws : List ByteArray} (h : ws.length ≠ 3) : nmOf ws = none := by unfold nmOf; rw [if_neg h]
theorem wtOf_3 {ws : List ByteArray} (h : ws.length = 3) : wtOf ws = (spV (bs (wd ws 0)) (bs (wd ws 1))).bind fun p => (clV (bs (wd ws 2))).map fun n => ⟨p.1, p.2, [.int .u32 (n : Nat)]⟩ := by
  unfold wtOf
  rw [if_pos h]
  cases spV (bs (wd ws 0)) (bs (wd ws 1)) <;> cases clV (bs (wd ws 2)) <;> rfl
theorem ruOf_3 {ws : List ByteArray} (h : ws.length = 3) : ruOf ws = (spV (bs (wd ws 0)) (bs (wd ws 1))).bind fun p => (ptV (bs (wd ws 2))).map fun n => ⟨p.1, p.2, [.int .u32 (n : Nat)]⟩ := by
  unfold ruOf
  rw [if_pos h]
  cases spV (bs (wd ws 0)) (bs (wd ws 1)) <;> cases ptV (bs (wd ws 2)) <;> rfl
theorem nmOf_3 {ws : List ByteArray} (h : ws.length = 3) : nmOf ws = if nmV 10 (bs (wd ws 0)) = true then (spV (bs (wd ws 1)) (bs (wd ws 2))).map fun p => ⟨p.1, p.2, [.string (wd ws 0)]⟩ else none := by
  unfold nmOf
  rw [if_pos h]
  cases nmV 10 (bs (wd ws 0)) <;> cases spV (bs (wd ws 1)) (bs (wd ws 2)) <;> rfl
set_option maxHeartbeats 3200000 in
theorem weightOf_any (x : Nat) (ws : List ByteArray) (cap : Nat) (w : World) (v : Vr w) (hx : ∀ j, j < ws.length → w.cell? ⟨x, j, none⟩ = some (.string (wd ws j))) (hz : ∀ j, (wd ws j).size ≤ 4000000000) (hl : ws.length ≤ 4000000000) :
    Calls Tryz.prog 66 #[.slice (some ⟨x, 0, none⟩) ws.length cap] w fun e w' => e = itR wtZ rgC (wtOf ws) ∧ Below w.heap.size w w' := by
  have R0 := hid (Rg.start (Z := wtZ) (T := 104) v hx)
  by_cases hN : ws.length = 3
  · have hE := wtOf_3 hN
    obtain ⟨O, hO⟩ : ∃ O, spV (bs (wd ws 0)) (bs (wd ws 1)) = O := ⟨_, rfl⟩
    obtain ⟨a, ha⟩ : ∃ a, (O.getD (0, 0)).1 = a := ⟨_, rfl⟩
    obtain ⟨b, hb⟩ : ∃ b, (O.getD (0, 0)).2 = b := ⟨_, rfl⟩
    obtain ⟨k, hk⟩ : ∃ k, O.isSome = k := ⟨_, rfl⟩
    have HSP := hid (show ∀ w, Calls Tryz.prog 88 #[.string (wd ws 0), .string (wd ws 1)] w fun e w' => e = .returned (.tuple #[.agg #[.int .u32 (a : Int), .int .u32 (b : Int)], .bool k]) ∧ Below w.heap.size w w' from fun w => (spanOf_any _ _ w (hz 0) (hz 1)).mono fun e w' h => ⟨by rw [h.1, hO, ← ha, ← hb, ← hk], h.2⟩)
    have HOE := hid (show O = if k = true then some (a, b) else none by cases O with | none => subst hk; rfl | some p => subst hk ha hb; rfl)
    obtain ⟨N, hNu⟩ : ∃ N, clV (bs (wd ws 2)) = N := ⟨_, rfl⟩
    rw [hO, HOE.out, hNu] at hE
    have HE := hid hE
    have HN := hid hNu
    have HZ := hid hz
    have n0 : 0 < ws.length := by omega
    have m0 : (0 : Int) < (ws.length : Int) := by omega
    have n1 : 1 < ws.length := by omega
    have m1 : (1 : Int) < (ws.length : Int) := by omega
    have n2 : 2 < ws.length := by omega
    have m2 : (2 : Int) < (ws.length : Int) := by omega
    have eN : ((ws.length : Int) != 3) = false := by simp [hN]
    clear hE hO hNu hz hN hx v ha hb hk HOE
    rw [HE.out]
    go_enter Tryz.func66, Tryz.ntmps66
    go_upto_region 3 with fail
    obtain ⟨W, hW⟩ : ∃ W, w.alloc (.cells wtZ 104) = W := ⟨_, rfl⟩
    rw [hW] at R0
    simp only [wtZ] at hW
    rw [hW]
    clear hW
    have KB := hid (show ∀ w', Below W.heap.size W w' → w'.cell? ⟨x, 0, none⟩ = some (.string (wd ws 0)) ∧ w'.cell? ⟨x, 1, none⟩ = some (.string (wd ws 1)) from fun w' hb => ⟨cell_later hb (R0.out.row 0 n0), cell_later hb (R0.out.row 1 n1)⟩)
    go_cut [4, 5] from 8 to 38 (fun p o wx => o = .bool k ∧ ∃ z, p = .pointer (some ⟨z, 0, none⟩) ∧ W.heap.size ≤ z ∧ wx.heap[z]? = some (.cells #[.int .u32 (a : Int), .int .u32 (b : Int)] 47 (0, 0)) ∧ Below W.heap.size W wx)
    case first =>
      refine wp_region_held_drew (S := (fun w' => w'.cell? ⟨x, 0, none⟩ = some (.string (wd ws 0)) ∧ w'.cell? ⟨x, 1, none⟩ = some (.string (wd ws 1)))) (by kernel_rfl) (KB.out _ (blw_drew (Below.refl _ _))) (fun hHeld => ?_)
      refine tk_at (i := 0) (d := some 13) (v := ?_) rfl rfl (by kernel_rfl) (by kernel_rfl) (by kernel_rfl) (fun _ _ _ h => h) (Or.inl ⟨by rfl, ?_⟩) (by assumption) ?_
      rotate_left
      · (intro w hSw; (try dsimp only at hSw); go_simp; try (with_reducible rfl))
      simp only [Act.put, List.setIfInBounds_toArray, List.set_cons_zero, List.set_cons_succ]
      refine tk_at (i := 1) (d := some 14) (v := ?_) rfl rfl (by kernel_rfl) (by kernel_rfl) (by kernel_rfl) (fun _ _ _ h => h) (Or.inl ⟨by rfl, ?_⟩) (by assumption) ?_
      rotate_left
      · (intro w hSw; (try dsimp only at hSw); go_simp; try (with_reducible rfl))
      simp only [Act.put, List.setIfInBounds_toArray, List.set_cons_zero, List.set_cons_succ]
      refine tk_at (i := 2) (d := some 15) (v := ?_) rfl rfl (by kernel_rfl) (by kernel_rfl) (by kernel_rfl) (fun _ _ _ h => h) (Or.inl ⟨by rfl, ?_⟩) (by assumption) ?_
      rotate_left
      · (intro w hSw; (try dsimp only at hSw); go_simp; try (with_reducible rfl))
      simp only [Act.put, List.setIfInBounds_toArray, List.set_cons_zero, List.set_cons_succ]
      refine tk_at (i := 3) (d := some 16) (v := ?_) rfl rfl (by kernel_rfl) (by kernel_rfl) (by kernel_rfl) (fun _ _ _ h => h) (Or.inl ⟨by rfl, ?_⟩) (by assumption) ?_
      rotate_left
      · (intro w hSw; (try dsimp only at hSw); go_simp; try (with_reducible rfl))
      simp only [Act.put, List.setIfInBounds_toArray, List.set_cons_zero, List.set_cons_succ]
      refine tk_at (i := 4) (d := some 17) (v := ?_) rfl rfl (by kernel_rfl) (by kernel_rfl) (by kernel_rfl) (fun _ _ _ h => h) (Or.inl ⟨by rfl, ?_⟩) (by assumption) ?_
      rotate_left
      · (intro w hSw; (try dsimp only at hSw); go_simp; try (with_reducible rfl))
      simp only [Act.put, List.setIfInBounds_toArray, List.set_cons_zero, List.set_cons_succ]
      refine tk_at (i := 5) (d := some 18) (v := ?_) rfl rfl (by kernel_rfl) (by kernel_rfl) (by kernel_rfl) (fun _ _ _ h => h) (Or.inl ⟨by rfl, ?_⟩) (by assumption) ?_
      rotate_left
      · (intro w hSw; (try dsimp only at hSw); go_simp; try (with_reducible rfl))
      simp only [Act.put, List.setIfInBounds_toArray, List.set_cons_zero, List.set_cons_succ]
      clear hHeld
      clear n0 m0 n1 m1 n2 m2 eN hl
      refine wpAnyH_inv0 (fun aC0 lsC aC wC => ∃ (b6 b7 b8 b9 b10 b11 b12 : Bool) (pp x6 x7 x8 x9 x12 : Value), lsC = #[true, true, true, true, true, true, b6, b7, b8, b9, b10, b11, b12] ∧ aC = { aC0 with tmps := ((((((aC0.tmps.setIfInBounds 19 x6).setIfInBounds 12 x7).setIfInBounds 20 x8).setIfInBounds 21 x9).setIfInBounds 5 x12).setIfInBounds 4 pp) } ∧ (b6 = true → x6 = .tuple #[.agg #[.int .u32 (a : Int), .int .u32 (b : Int)], .bool k]) ∧ (b7 = true → x7 = .tuple #[.agg #[.int .u32 (a : Int), .int .u32 (b : Int)], .bool k]) ∧ (b8 = true → x8 = .agg #[.int .u32 (a : Int), .int .u32 (b : Int)]) ∧ (b9 = true → x9 = .bool k) ∧ (b12 = true → x12 = .bool k) ∧ Below W.heap.size W wC ∧ OwnC W wC b10 b11 pp #[.int .u32 0, .int .u32 0] #[.int .u32 (a : Int), .int .u32 (b : Int)] 47 ∧ (b10 || !b11) = true) ?_ _ _ _ (by decide +kernel) (fun aS => ⟨false, false, false, false, false, false, false, aS.tmps.getD 4 undef, aS.tmps.getD 19 undef, aS.tmps.getD 12 undef, aS.tmps.getD 20 undef, aS.tmps.getD 21 undef, aS.tmps.getD 5 undef, by kernel_rfl, by simp only [set_self], fun h => (by cases h), fun h => (by cases h), fun h => (by cases h), fun h => (by cases h), fun h => (by cases h), blw_drew (Below.refl _ _), OwnC.none, rfl⟩)
      intro lsC aC wC ⟨b6, b7, b8, b9, b10, b11, b12, pp, x6, x7, x8, x9, x12, hl, ha, hx6, hx7, hx8, hx9, hx12, hBw, hpp, hcc⟩
      subst hl ha
      have Hx6 := hid hx6
      have Hx7 := hid hx7
      have Hx8 := hid hx8
      have Hx9 := hid hx9
      have Hx12 := hid hx12
      have HBW := hid hBw
      have HPP := hid hpp
      have HCC := hid hcc
      clear hx6 hx7 hx8 hx9 hx12 hBw hpp hcc
      simp only [List.setIfInBounds_toArray, List.set_cons_zero, List.set_cons_succ]
      refine ⟨fun hr => ?_, fun i hi => ?_⟩
      · have hall : (b6 && b7 && b8 && b9 && b10 && b11 && b12) = true := by
          clear Hx6 Hx7 Hx8 Hx9 Hx12 HBW HPP HCC
          revert b6 b7 b8 b9 b10 b11 b12
          decide +kernel
        simp only [Bool.and_eq_true] at hall
        obtain ⟨⟨⟨⟨⟨⟨rfl, rfl⟩, rfl⟩, rfl⟩, rfl⟩, rfl⟩, rfl⟩ := hall
        obtain ⟨z, rfl, hz1, hz2⟩ := HPP.out rfl
        obtain rfl := Hx6.out rfl
        obtain rfl := Hx7.out rfl
        obtain rfl := Hx8.out rfl
        obtain rfl := Hx9.out rfl
        obtain rfl := Hx12.out rfl
        have HR := hid (And.intro hz1 (And.intro hz2 HBW.out))
        clear hz1 hz2 Hx6 Hx7 Hx8 Hx9 Hx12 HBW HPP HCC hr
        (try dsimp only)
        go_wp2_with fail
        go_meet
        case rel => exact ⟨rfl, z, rfl, HR.out.1, HR.out.2.1, HR.out.2.2⟩
      · have hcase : (i = 6 ∧ b6 = false) ∨ (i = 7 ∧ b7 = false ∧ b6 = true) ∨ (i = 8 ∧ b8 = false ∧ b7 = true) ∨ (i = 9 ∧ b9 = false ∧ b7 = true) ∨ (i = 12 ∧ b12 = false ∧ b9 = true ∧ b11 = true) ∨ (i = 10 ∧ b10 = false) ∨ (i = 11 ∧ b11 = false ∧ b10 = true ∧ b8 = true) := by
          refine of_decide_eq_true ((List.all_eq_true (p := fun i => decide ((i = 6 ∧ b6 = false) ∨ (i = 7 ∧ b7 = false ∧ b6 = true) ∨ (i = 8 ∧ b8 = false ∧ b7 = true) ∨ (i = 9 ∧ b9 = false ∧ b7 = true) ∨ (i = 12 ∧ b12 = false ∧ b9 = true ∧ b11 = true) ∨ (i = 10 ∧ b10 = false) ∨ (i = 11 ∧ b11 = false ∧ b10 = true ∧ b8 = true)))).1 ?_ i hi)
          clear Hx6 Hx7 Hx8 Hx9 Hx12 HBW HPP HCC hi
          revert b6 b7 b8 b9 b10 b11 b12
          decide +kernel
        clear hi
        rcases hcase with ⟨rfl, rfl⟩ | ⟨rfl, rfl, rfl⟩ | ⟨rfl, rfl, rfl⟩ | ⟨rfl, rfl, rfl⟩ | ⟨rfl, rfl, rfl, rfl⟩ | ⟨rfl, rfl⟩ | ⟨rfl, rfl, rfl, rfl⟩
        · refine wpOp_shut rfl (fun K hK => ?_)
          go_simp
          refine (HSP.out _).mono ?_
          rintro e wa ⟨rfl, hBa⟩
          have HBa := hid hBa
          clear hBa
          go_wp2_with fail
          have hB3 := belowCat HBW.out HBa.out
          exact hK.out _ _ ⟨KB.out _ hB3, true, b7, b8, b9, b10, b11, b12, _, _, _, _, _, _, by kernel_rfl, rfl, fun _ => rfl, Hx7.out, Hx8.out, Hx9.out, Hx12.out, hB3, HPP.out.below HBa.out, HCC.out⟩
        · obtain rfl := Hx6.out rfl
          refine wpOp_shut rfl (fun K hK => ?_)
          go_simp
          go_wp2_with fail
          exact hK.out _ _ ⟨KB.out _ HBW.out, true, true, b8, b9, b10, b11, b12, _, _, _, _, _, _, by kernel_rfl, rfl, fun _ => rfl, fun _ => rfl, Hx8.out, Hx9.out, Hx12.out, HBW.out, HPP.out, HCC.out⟩
        · obtain rfl := Hx7.out rfl
          refine wpOp_shut rfl (fun K hK => ?_)
          go_simp
          go_wp2_with fail
          exact hK.out _ _ ⟨KB.out _ HBW.out, b6, true, true, b9, b10, b11, b12, _, _, _, _, _, _, by kernel_rfl, rfl, Hx6.out, fun _ => rfl, fun _ => rfl, Hx9.out, Hx12.out, HBW.out, HPP.out, HCC.out⟩
        · obtain rfl := Hx7.out rfl
          refine wpOp_shut rfl (fun K hK => ?_)
          go_simp
          go_wp2_with fail
          exact hK.out _ _ ⟨KB.out _ HBW.out, b6, true, b8, true, b10, b11, b12, _, _, _, _, _, _, by kernel_rfl, rfl, Hx6.out, fun _ => rfl, Hx8.out, fun _ => rfl, Hx12.out, HBW.out, HPP.out, HCC.out⟩
        · obtain rfl := Hx9.out rfl
          refine wpOp_shut rfl (fun K hK => ?_)
          go_simp
          go_wp2_with fail
          exact hK.out _ _ ⟨KB.out _ HBW.out, b6, b7, b8, true, b10, true, true, _, _, _, _, _, _, by kernel_rfl, rfl, Hx6.out, Hx7.out, Hx8.out, fun _ => rfl, fun _ => rfl, HBW.out, HPP.out, HCC.out⟩
        · obtain rfl : b11 = false := by have := HCC.out; revert this; cases b11 <;> simp
          refine wpOp_shut rfl (fun K hK => ?_)
          go_simp
          go_wp2_with fail
          have hBa := (Below.refl wC.heap.size wC).alloc (Nat.le_refl _) (.cells #[.int .u32 0, .int .u32 0] 47 (0, 0))
          have hB3 := belowCat HBW.out hBa
          exact hK.out _ _ ⟨KB.out _ hB3, b6, b7, b8, b9, true, false, b12, _, _, _, _, _, _, by kernel_rfl, rfl, Hx6.out, Hx7.out, Hx8.out, Hx9.out, Hx12.out, hB3, OwnC.new HBW.out, rfl⟩
        · obtain ⟨z, rfl, hz1, hz2⟩ := HPP.out rfl
          obtain rfl := Hx8.out rfl
          have c0 := cell_of_heap (i := 0) hz2 rfl
          have c1 := cell_of_heap (i := 1) hz2 rfl
          have g0 := frozen_of_heap (i := 0) hz2
          have g1 := frozen_of_heap (i := 1) hz2
          have HZ := hid (And.intro hz1 hz2)
          clear hz1 hz2
          refine wpOp_shut rfl (fun K hK => ?_)
          go_simp
          go_wp2_with fail
          exact hK.out _ _ ⟨KB.out _ ((HBW.out.setCell (p := ⟨z, 0, none⟩) HZ.out.1 _).setCell (p := ⟨z, 1, none⟩) HZ.out.1 _), b6, b7, true, b9, true, true, b12, _, _, _, _, _, _, by kernel_rfl, rfl, Hx6.out, Hx7.out, fun _ => rfl, Hx9.out, Hx12.out, ((HBW.out.setCell (p := ⟨z, 0, none⟩) HZ.out.1 _).setCell (p := ⟨z, 1, none⟩) HZ.out.1 _), fun _ => ⟨z, rfl, HZ.out.1, set2 HZ.out.2⟩, rfl⟩
    case rest =>
      obtain ⟨rfl, z, rfl, hz1, hz2, hB⟩ := hcut
      have R1 := hid (R0.out.below hB)
      have HZB := hid (And.intro hz2 (show z ≠ w.heap.size from fun e => by have := lt_of_heap R0.out.res; omega))
      clear hz1 hz2 hB KB R0
      have c2 := R1.out.row 2 n2
      go_wp2_with fail
      refine (classOf_any (wd ws 2) _ R1.out.vr (HZ.out 2)).mono ?_
      rintro e w2 ⟨rfl, hB2⟩
      rw [HN.out]
      have R2 := hid (R1.out.below hB2)
      have HZ2 := hid ((hB2.block _ (lt_of_heap HZB.out.1)).trans HZB.out.1)
      clear hB2 c2
      cases k with
      | false =>
        have k0 : w2.cell? ⟨w.heap.size, 0, none⟩ = some (.int .u32 0) := cell_of_heap R2.out.res rfl
        have k1 : w2.cell? ⟨w.heap.size, 1, none⟩ = some (.int .u32 0) := cell_of_heap R2.out.res rfl
        have k2 : w2.cell? ⟨w.heap.size, 2, none⟩ = some (.int .u32 0) := cell_of_heap R2.out.res rfl
        have f0 := frozen_of_heap (i := 0) R2.out.res
        have f1 := frozen_of_heap (i := 1) R2.out.res
        have f2 := frozen_of_heap (i := 2) R2.out.res
        go_wp2
        have dd := set3 (a := .int .u32 0) (b := .int .u32 0) (c := .int .u32 0) R2.out.res
        have d0 : (((w2.setCell ⟨w.heap.size, 0, none⟩ (.int .u32 0)).setCell ⟨w.heap.size, 1, none⟩ (.int .u32 0)).setCell ⟨w.heap.size, 2, none⟩ (.int .u32 0)).cell? ⟨w.heap.size, 0, none⟩ = some (.int .u32 0) := cell_of_heap dd rfl
        have d1 : (((w2.setCell ⟨w.heap.size, 0, none⟩ (.int .u32 0)).setCell ⟨w.heap.size, 1, none⟩ (.int .u32 0)).setCell ⟨w.heap.size, 2, none⟩ (.int .u32 0)).cell? ⟨w.heap.size, 1, none⟩ = some (.int .u32 0) := cell_of_heap dd rfl
        have d2 : (((w2.setCell ⟨w.heap.size, 0, none⟩ (.int .u32 0)).setCell ⟨w.heap.size, 1, none⟩ (.int .u32 0)).setCell ⟨w.heap.size, 2, none⟩ (.int .u32 0)).cell? ⟨w.heap.size, 2, none⟩ = some (.int .u32 0) := cell_of_heap dd rfl
        exact bodyPost_ret (v := .tuple #[.agg #[.int .u32 0, .int .u32 0, .int .u32 0], .bool false]) (by simp only [results, Tryz.results66]; simp [go_sem, d0, d1, d2]) rfl ⟨rfl, (((R2.out.bel.setCell (p := ⟨w.heap.size, 0, none⟩) (Nat.le_refl _) _).setCell (p := ⟨w.heap.size, 1, none⟩) (Nat.le_refl _) _).setCell (p := ⟨w.heap.size, 2, none⟩) (Nat.le_refl _) _)⟩
      | true =>
        cases N with
        | none =>
          have k0 : w2.cell? ⟨w.heap.size, 0, none⟩ = some (.int .u32 0) := cell_of_heap R2.out.res rfl
          have k1 : w2.cell? ⟨w.heap.size, 1, none⟩ = some (.int .u32 0) := cell_of_heap R2.out.res rfl
          have k2 : w2.cell? ⟨w.heap.size, 2, none⟩ = some (.int .u32 0) := cell_of_heap R2.out.res rfl
          have f0 := frozen_of_heap (i := 0) R2.out.res
          have f1 := frozen_of_heap (i := 1) R2.out.res
          have f2 := frozen_of_heap (i := 2) R2.out.res
          go_wp2
          have dd := set3 (a := .int .u32 0) (b := .int .u32 0) (c := .int .u32 0) R2.out.res
          have d0 : (((w2.setCell ⟨w.heap.size, 0, none⟩ (.int .u32 0)).setCell ⟨w.heap.size, 1, none⟩ (.int .u32 0)).setCell ⟨w.heap.size, 2, none⟩ (.int .u32 0)).cell? ⟨w.heap.size, 0, none⟩ = some (.int .u32 0) := cell_of_heap dd rfl
          have d1 : (((w2.setCell ⟨w.heap.size, 0, none⟩ (.int .u32 0)).setCell ⟨w.heap.size, 1, none⟩ (.int .u32 0)).setCell ⟨w.heap.size, 2, none⟩ (.int .u32 0)).cell? ⟨w.heap.size, 1, none⟩ = some (.int .u32 0) := cell_of_heap dd rfl
          have d2 : (((w2.setCell ⟨w.heap.size, 0, none⟩ (.int .u32 0)).setCell ⟨w.heap.size, 1, none⟩ (.int .u32 0)).setCell ⟨w.heap.size, 2, none⟩ (.int .u32 0)).cell? ⟨w.heap.size, 2, none⟩ = some (.int .u32 0) := cell_of_heap dd rfl
          exact bodyPost_ret (v := .tuple #[.agg #[.int .u32 0, .int .u32 0, .int .u32 0], .bool false]) (by simp only [results, Tryz.results66]; simp [go_sem, d0, d1, d2]) rfl ⟨rfl, (((R2.out.bel.setCell (p := ⟨w.heap.size, 0, none⟩) (Nat.le_refl _) _).setCell (p := ⟨w.heap.size, 1, none⟩) (Nat.le_refl _) _).setCell (p := ⟨w.heap.size, 2, none⟩) (Nat.le_refl _) _)⟩
        | some n =>
          have y0 : w2.cell? ⟨z, 0, none⟩ = some (.int .u32 (a : Int)) := cell_of_heap HZ2.out rfl
          have y1 : w2.cell? ⟨z, 1, none⟩ = some (.int .u32 (b : Int)) := cell_of_heap HZ2.out rfl
          have k0 : w2.cell? ⟨w.heap.size, 0, none⟩ = some (.int .u32 0) := cell_of_heap R2.out.res rfl
          have k1 : w2.cell? ⟨w.heap.size, 1, none⟩ = some (.int .u32 0) := cell_of_heap R2.out.res rfl
          have k2 : w2.cell? ⟨w.heap.size, 2, none⟩ = some (.int .u32 0) := cell_of_heap R2.out.res rfl
          have f0 := frozen_of_heap (i := 0) R2.out.res
          have f1 := frozen_of_heap (i := 1) R2.out.res
          have f2 := frozen_of_heap (i := 2) R2.out.res
          go_wp2
          have dd := set3 (a := .int .u32 (a : Int)) (b := .int .u32 (b : Int)) (c := .int .u32 (n : Int)) R2.out.res
          have d0 : (((w2.setCell ⟨w.heap.size, 0, none⟩ (.int .u32 (a : Int))).setCell ⟨w.heap.size, 1, none⟩ (.int .u32 (b : Int))).setCell ⟨w.heap.size, 2, none⟩ (.int .u32 (n : Int))).cell? ⟨w.heap.size, 0, none⟩ = some (.int .u32 (a : Int)) := cell_of_heap dd rfl
          have d1 : (((w2.setCell ⟨w.heap.size, 0, none⟩ (.int .u32 (a : Int))).setCell ⟨w.heap.size, 1, none⟩ (.int .u32 (b : Int))).setCell ⟨w.heap.size, 2, none⟩ (.int .u32 (n : Int))).cell? ⟨w.heap.size, 1, none⟩ = some (.int .u32 (b : Int)) := cell_of_heap dd rfl
          have d2 : (((w2.setCell ⟨w.heap.size, 0, none⟩ (.int .u32 (a : Int))).setCell ⟨w.heap.size, 1, none⟩ (.int .u32 (b : Int))).setCell ⟨w.heap.size, 2, none⟩ (.int .u32 (n : Int))).cell? ⟨w.heap.size, 2, none⟩ = some (.int .u32 (n : Int)) := cell_of_heap dd rfl
          exact bodyPost_ret (v := .tuple #[.agg #[.int .u32 (a : Int), .int .u32 (b : Int), .int .u32 (n : Int)], .bool true]) (by simp only [results, Tryz.results66]; simp [go_sem, d0, d1, d2]) rfl ⟨rfl, (((R2.out.bel.setCell (p := ⟨w.heap.size, 0, none⟩) (Nat.le_refl _) _).setCell (p := ⟨w.heap.size, 1, none⟩) (Nat.le_refl _) _).setCell (p := ⟨w.heap.size, 2, none⟩) (Nat.le_refl _) _)⟩
  · rw [wtOf_no hN]
    have eN : ((ws.length : Int) == 3) = false := by simp; omega
    clear hN hx
    have c0 : (w.alloc (.cells wtZ 104)).cell? ⟨w.heap.size, 0, none⟩ = some (.int .u32 0) := cell_of_heap R0.out.res rfl
    have c1 : (w.alloc (.cells wtZ 104)).cell? ⟨w.heap.size, 1, none⟩ = some (.int .u32 0) := cell_of_heap R0.out.res rfl
    have c2 : (w.alloc (.cells wtZ 104)).cell? ⟨w.heap.size, 2, none⟩ = some (.int .u32 0) := cell_of_heap R0.out.res rfl
    have K := hid ((And.intro c0 (And.intro c1 c2)))
    clear c0 c1 c2
    go_enter Tryz.func66, Tryz.ntmps66
    go_wp2
    obtain ⟨c0, c1, c2⟩ := K.out
    exact bodyPost_ret (v := .tuple #[.agg wtZ, .bool false]) (by simp only [results, Tryz.results66]; simp [go_sem, c0, c1, c2]) rfl ⟨rfl, R0.out.bel⟩
set_option maxHeartbeats 3200000 in
theorem runOf_any (x : Nat) (ws : List ByteArray) (cap : Nat) (w : World) (v : Vr w) (hx : ∀ j, j < ws.length → w.cell? ⟨x, j, none⟩ = some (.string (wd ws j))) (hz : ∀ j, (wd ws j).size ≤ 4000000000) (hl : ws.length ≤ 4000000000) :
    Calls Tryz.prog 72 #[.slice (some ⟨x, 0, none⟩) ws.length cap] w fun e w' => e = itR wtZ rgC (ruOf ws) ∧ Below w.heap.size w w' := by
  have R0 := hid (Rg.start (Z := wtZ) (T := 101) v hx)
  by_cases hN : ws.length = 3
  · have hE := ruOf_3 hN
    obtain ⟨O, hO⟩ : ∃ O, spV (bs (wd ws 0)) (bs (wd ws 1)) = O := ⟨_, rfl⟩
    obtain ⟨a, ha⟩ : ∃ a, (O.getD (0, 0)).1 = a := ⟨_, rfl⟩
    obtain ⟨b, hb⟩ : ∃ b, (O.getD (0, 0)).2 = b := ⟨_, rfl⟩
    obtain ⟨k, hk⟩ : ∃ k, O.isSome = k := ⟨_, rfl⟩
    have HSP := hid (show ∀ w, Calls Tryz.prog 88 #[.string (wd ws 0), .string (wd ws 1)] w fun e w' => e = .returned (.tuple #[.agg #[.int .u32 (a : Int), .int .u32 (b : Int)], .bool k]) ∧ Below w.heap.size w w' from fun w => (spanOf_any _ _ w (hz 0) (hz 1)).mono fun e w' h => ⟨by rw [h.1, hO, ← ha, ← hb, ← hk], h.2⟩)
    have HOE := hid (show O = if k = true then some (a, b) else none by cases O with | none => subst hk; rfl | some p => subst hk ha hb; rfl)
    obtain ⟨N, hNu⟩ : ∃ N, ptV (bs (wd ws 2)) = N := ⟨_, rfl⟩
    rw [hO, HOE.out, hNu] at hE
    have HE := hid hE
    have HN := hid hNu
    have HZ := hid hz
    have n0 : 0 < ws.length := by omega
    have m0 : (0 : Int) < (ws.length : Int) := by omega
    have n1 : 1 < ws.length := by omega
    have m1 : (1 : Int) < (ws.length : Int) := by omega
    have n2 : 2 < ws.length := by omega
    have m2 : (2 : Int) < (ws.length : Int) := by omega
    have eN : ((ws.length : Int) != 3) = false := by simp [hN]
    clear hE hO hNu hz hN hx v ha hb hk HOE
    rw [HE.out]
    go_enter Tryz.func72, Tryz.ntmps72
    go_upto_region 3 with fail
    obtain ⟨W, hW⟩ : ∃ W, w.alloc (.cells wtZ 101) = W := ⟨_, rfl⟩
    rw [hW] at R0
    simp only [wtZ] at hW
    rw [hW]
    clear hW
    have KB := hid (show ∀ w', Below W.heap.size W w' → w'.cell? ⟨x, 0, none⟩ = some (.string (wd ws 0)) ∧ w'.cell? ⟨x, 1, none⟩ = some (.string (wd ws 1)) from fun w' hb => ⟨cell_later hb (R0.out.row 0 n0), cell_later hb (R0.out.row 1 n1)⟩)
    go_cut [4, 5] from 8 to 38 (fun p o wx => o = .bool k ∧ ∃ z, p = .pointer (some ⟨z, 0, none⟩) ∧ W.heap.size ≤ z ∧ wx.heap[z]? = some (.cells #[.int .u32 (a : Int), .int .u32 (b : Int)] 47 (0, 0)) ∧ Below W.heap.size W wx)
    case first =>
      refine wp_region_held_drew (S := (fun w' => w'.cell? ⟨x, 0, none⟩ = some (.string (wd ws 0)) ∧ w'.cell? ⟨x, 1, none⟩ = some (.string (wd ws 1)))) (by kernel_rfl) (KB.out _ (blw_drew (Below.refl _ _))) (fun hHeld => ?_)
      refine tk_at (i := 0) (d := some 13) (v := ?_) rfl rfl (by kernel_rfl) (by kernel_rfl) (by kernel_rfl) (fun _ _ _ h => h) (Or.inl ⟨by rfl, ?_⟩) (by assumption) ?_
      rotate_left
      · (intro w hSw; (try dsimp only at hSw); go_simp; try (with_reducible rfl))
      simp only [Act.put, List.setIfInBounds_toArray, List.set_cons_zero, List.set_cons_succ]
      refine tk_at (i := 1) (d := some 14) (v := ?_) rfl rfl (by kernel_rfl) (by kernel_rfl) (by kernel_rfl) (fun _ _ _ h => h) (Or.inl ⟨by rfl, ?_⟩) (by assumption) ?_
      rotate_left
      · (intro w hSw; (try dsimp only at hSw); go_simp; try (with_reducible rfl))
      simp only [Act.put, List.setIfInBounds_toArray, List.set_cons_zero, List.set_cons_succ]
      refine tk_at (i := 2) (d := some 15) (v := ?_) rfl rfl (by kernel_rfl) (by kernel_rfl) (by kernel_rfl) (fun _ _ _ h => h) (Or.inl ⟨by rfl, ?_⟩) (by assumption) ?_
      rotate_left
      · (intro w hSw; (try dsimp only at hSw); go_simp; try (with_reducible rfl))
      simp only [Act.put, List.setIfInBounds_toArray, List.set_cons_zero, List.set_cons_succ]
      refine tk_at (i := 3) (d := some 16) (v := ?_) rfl rfl (by kernel_rfl) (by kernel_rfl) (by kernel_rfl) (fun _ _ _ h => h) (Or.inl ⟨by rfl, ?_⟩) (by assumption) ?_
      rotate_left
      · (intro w hSw; (try dsimp only at hSw); go_simp; try (with_reducible rfl))
      simp only [Act.put, List.setIfInBounds_toArray, List.set_cons_zero, List.set_cons_succ]
      refine tk_at (i := 4) (d := some 17) (v := ?_) rfl rfl (by kernel_rfl) (by kernel_rfl) (by kernel_rfl) (fun _ _ _ h => h) (Or.inl ⟨by rfl, ?_⟩) (by assumption) ?_
      rotate_left
      · (intro w hSw; (try dsimp only at hSw); go_simp; try (with_reducible rfl))
      simp only [Act.put, List.setIfInBounds_toArray, List.set_cons_zero, List.set_cons_succ]
      refine tk_at (i := 5) (d := some 18) (v := ?_) rfl rfl (by kernel_rfl) (by kernel_rfl) (by kernel_rfl) (fun _ _ _ h => h) (Or.inl ⟨by rfl, ?_⟩) (by assumption) ?_
      rotate_left
      · (intro w hSw; (try dsimp only at hSw); go_simp; try (with_reducible rfl))
      simp only [Act.put, List.setIfInBounds_toArray, List.set_cons_zero, List.set_cons_succ]
      clear hHeld
      clear n0 m0 n1 m1 n2 m2 eN hl
      refine wpAnyH_inv0 (fun aC0 lsC aC wC => ∃ (b6 b7 b8 b9 b10 b11 b12 : Bool) (pp x6 x7 x8 x9 x12 : Value), lsC = #[true, true, true, true, true, true, b6, b7, b8, b9, b10, b11, b12] ∧ aC = { aC0 with tmps := ((((((aC0.tmps.setIfInBounds 19 x6).setIfInBounds 12 x7).setIfInBounds 20 x8).setIfInBounds 21 x9).setIfInBounds 5 x12).setIfInBounds 4 pp) } ∧ (b6 = true → x6 = .tuple #[.agg #[.int .u32 (a : Int), .int .u32 (b : Int)], .bool k]) ∧ (b7 = true → x7 = .tuple #[.agg #[.int .u32 (a : Int), .int .u32 (b : Int)], .bool k]) ∧ (b8 = true → x8 = .agg #[.int .u32 (a : Int), .int .u32 (b : Int)]) ∧ (b9 = true → x9 = .bool k) ∧ (b12 = true → x12 = .bool k) ∧ Below W.heap.size W wC ∧ OwnC W wC b10 b11 pp #[.int .u32 0, .int .u32 0] #[.int .u32 (a : Int), .int .u32 (b : Int)] 47 ∧ (b10 || !b11) = true) ?_ _ _ _ (by decide +kernel) (fun aS => ⟨false, false, false, false, false, false, false, aS.tmps.getD 4 undef, aS.tmps.getD 19 undef, aS.tmps.getD 12 undef, aS.tmps.getD 20 undef, aS.tmps.getD 21 undef, aS.tmps.getD 5 undef, by kernel_rfl, by simp only [set_self], fun h => (by cases h), fun h => (by cases h), fun h => (by cases h), fun h => (by cases h), fun h => (by cases h), blw_drew (Below.refl _ _), OwnC.none, rfl⟩)
      intro lsC aC wC ⟨b6, b7, b8, b9, b10, b11, b12, pp, x6, x7, x8, x9, x12, hl, ha, hx6, hx7, hx8, hx9, hx12, hBw, hpp, hcc⟩
      subst hl ha
      have Hx6 := hid hx6
      have Hx7 := hid hx7
      have Hx8 := hid hx8
      have Hx9 := hid hx9
      have Hx12 := hid hx12
      have HBW := hid hBw
      have HPP := hid hpp
      have HCC := hid hcc
      clear hx6 hx7 hx8 hx9 hx12 hBw hpp hcc
      simp only [List.setIfInBounds_toArray, List.set_cons_zero, List.set_cons_succ]
      refine ⟨fun hr => ?_, fun i hi => ?_⟩
      · have hall : (b6 && b7 && b8 && b9 && b10 && b11 && b12) = true := by
          clear Hx6 Hx7 Hx8 Hx9 Hx12 HBW HPP HCC
          revert b6 b7 b8 b9 b10 b11 b12
          decide +kernel
        simp only [Bool.and_eq_true] at hall
        obtain ⟨⟨⟨⟨⟨⟨rfl, rfl⟩, rfl⟩, rfl⟩, rfl⟩, rfl⟩, rfl⟩ := hall
        obtain ⟨z, rfl, hz1, hz2⟩ := HPP.out rfl
        obtain rfl := Hx6.out rfl
        obtain rfl := Hx7.out rfl
        obtain rfl := Hx8.out rfl
        obtain rfl := Hx9.out rfl
        obtain rfl := Hx12.out rfl
        have HR := hid (And.intro hz1 (And.intro hz2 HBW.out))
        clear hz1 hz2 Hx6 Hx7 Hx8 Hx9 Hx12 HBW HPP HCC hr
        (try dsimp only)
        go_wp2_with fail
        go_meet
        case rel => exact ⟨rfl, z, rfl, HR.out.1, HR.out.2.1, HR.out.2.2⟩
      · have hcase : (i = 6 ∧ b6 = false) ∨ (i = 7 ∧ b7 = false ∧ b6 = true) ∨ (i = 8 ∧ b8 = false ∧ b7 = true) ∨ (i = 9 ∧ b9 = false ∧ b7 = true) ∨ (i = 12 ∧ b12 = false ∧ b9 = true ∧ b11 = true) ∨ (i = 10 ∧ b10 = false) ∨ (i = 11 ∧ b11 = false ∧ b10 = true ∧ b8 = true) := by
          refine of_decide_eq_true ((List.all_eq_true (p := fun i => decide ((i = 6 ∧ b6 = false) ∨ (i = 7 ∧ b7 = false ∧ b6 = true) ∨ (i = 8 ∧ b8 = false ∧ b7 = true) ∨ (i = 9 ∧ b9 = false ∧ b7 = true) ∨ (i = 12 ∧ b12 = false ∧ b9 = true ∧ b11 = true) ∨ (i = 10 ∧ b10 = false) ∨ (i = 11 ∧ b11 = false ∧ b10 = true ∧ b8 = true)))).1 ?_ i hi)
          clear Hx6 Hx7 Hx8 Hx9 Hx12 HBW HPP HCC hi
          revert b6 b7 b8 b9 b10 b11 b12
          decide +kernel
        clear hi
        rcases hcase with ⟨rfl, rfl⟩ | ⟨rfl, rfl, rfl⟩ | ⟨rfl, rfl, rfl⟩ | ⟨rfl, rfl, rfl⟩ | ⟨rfl, rfl, rfl, rfl⟩ | ⟨rfl, rfl⟩ | ⟨rfl, rfl, rfl, rfl⟩
        · refine wpOp_shut rfl (fun K hK => ?_)
          go_simp
          refine (HSP.out _).mono ?_
          rintro e wa ⟨rfl, hBa⟩
          have HBa := hid hBa
          clear hBa
          go_wp2_with fail
          have hB3 := belowCat HBW.out HBa.out
          exact hK.out _ _ ⟨KB.out _ hB3, true, b7, b8, b9, b10, b11, b12, _, _, _, _, _, _, by kernel_rfl, rfl, fun _ => rfl, Hx7.out, Hx8.out, Hx9.out, Hx12.out, hB3, HPP.out.below HBa.out, HCC.out⟩
        · obtain rfl := Hx6.out rfl
          refine wpOp_shut rfl (fun K hK => ?_)
          go_simp
          go_wp2_with fail
          exact hK.out _ _ ⟨KB.out _ HBW.out, true, true, b8, b9, b10, b11, b12, _, _, _, _, _, _, by kernel_rfl, rfl, fun _ => rfl, fun _ => rfl, Hx8.out, Hx9.out, Hx12.out, HBW.out, HPP.out, HCC.out⟩
        · obtain rfl := Hx7.out rfl
          refine wpOp_shut rfl (fun K hK => ?_)
          go_simp
          go_wp2_with fail
          exact hK.out _ _ ⟨KB.out _ HBW.out, b6, true, true, b9, b10, b11, b12, _, _, _, _, _, _, by kernel_rfl, rfl, Hx6.out, fun _ => rfl, fun _ => rfl, Hx9.out, Hx12.out, HBW.out, HPP.out, HCC.out⟩
        · obtain rfl := Hx7.out rfl
          refine wpOp_shut rfl (fun K hK => ?_)
          go_simp
          go_wp2_with fail
          exact hK.out _ _ ⟨KB.out _ HBW.out, b6, true, b8, true, b10, b11, b12, _, _, _, _, _, _, by kernel_rfl, rfl, Hx6.out, fun _ => rfl, Hx8.out, fun _ => rfl, Hx12.out, HBW.out, HPP.out, HCC.out⟩
        · obtain rfl := Hx9.out rfl
          refine wpOp_shut rfl (fun K hK => ?_)
          go_simp
          go_wp2_with fail
          exact hK.out _ _ ⟨KB.out _ HBW.out, b6, b7, b8, true, b10, true, true, _, _, _, _, _, _, by kernel_rfl, rfl, Hx6.out, Hx7.out, Hx8.out, fun _ => rfl, fun _ => rfl, HBW.out, HPP.out, HCC.out⟩
        · obtain rfl : b11 = false := by have := HCC.out; revert this; cases b11 <;> simp
          refine wpOp_shut rfl (fun K hK => ?_)
          go_simp
          go_wp2_with fail
          have hBa := (Below.refl wC.heap.size wC).alloc (Nat.le_refl _) (.cells #[.int .u32 0, .int .u32 0] 47 (0, 0))
          have hB3 := belowCat HBW.out hBa
          exact hK.out _ _ ⟨KB.out _ hB3, b6, b7, b8, b9, true, false, b12, _, _, _, _, _, _, by kernel_rfl, rfl, Hx6.out, Hx7.out, Hx8.out, Hx9.out, Hx12.out, hB3, OwnC.new HBW.out, rfl⟩
        · obtain ⟨z, rfl, hz1, hz2⟩ := HPP.out rfl
          obtain rfl := Hx8.out rfl
          have c0 := cell_of_heap (i := 0) hz2 rfl
          have c1 := cell_of_heap (i := 1) hz2 rfl
          have g0 := frozen_of_heap (i := 0) hz2
          have g1 := frozen_of_heap (i := 1) hz2
          have HZ := hid (And.intro hz1 hz2)
          clear hz1 hz2
          refine wpOp_shut rfl (fun K hK => ?_)
          go_simp
          go_wp2_with fail
          exact hK.out _ _ ⟨KB.out _ ((HBW.out.setCell (p := ⟨z, 0, none⟩) HZ.out.1 _).setCell (p := ⟨z, 1, none⟩) HZ.out.1 _), b6, b7, true, b9, true, true, b12, _, _, _, _, _, _, by kernel_rfl, rfl, Hx6.out, Hx7.out, fun _ => rfl, Hx9.out, Hx12.out, ((HBW.out.setCell (p := ⟨z, 0, none⟩) HZ.out.1 _).setCell (p := ⟨z, 1, none⟩) HZ.out.1 _), fun _ => ⟨z, rfl, HZ.out.1, set2 HZ.out.2⟩, rfl⟩
    case rest =>
      obtain ⟨rfl, z, rfl, hz1, hz2, hB⟩ := hcut
      have R1 := hid (R0.out.below hB)
      have HZB := hid (And.intro hz2 (show z ≠ w.heap.size from fun e => by have := lt_of_heap R0.out.res; omega))
      clear hz1 hz2 hB KB R0
      have c2 := R1.out.row 2 n2
      go_wp2_with fail
      refine (pointOf_any (wd ws 2) _ (HZ.out 2)).mono ?_
      rintro e w2 ⟨rfl, hB2⟩
      rw [HN.out]
      have R2 := hid (R1.out.below hB2)
      have HZ2 := hid ((hB2.block _ (lt_of_heap HZB.out.1)).trans HZB.out.1)
      clear hB2 c2
      cases k with
      | false =>
        have k0 : w2.cell? ⟨w.heap.size, 0, none⟩ = some (.int .u32 0) := cell_of_heap R2.out.res rfl
        have k1 : w2.cell? ⟨w.heap.size, 1, none⟩ = some (.int .u32 0) := cell_of_heap R2.out.res rfl
        have k2 : w2.cell? ⟨w.heap.size, 2, none⟩ = some (.int .u32 0) := cell_of_heap R2.out.res rfl
        have f0 := frozen_of_heap (i := 0) R2.out.res
        have f1 := frozen_of_heap (i := 1) R2.out.res
        have f2 := frozen_of_heap (i := 2) R2.out.res
        go_wp2
        have dd := set3 (a := .int .u32 0) (b := .int .u32 0) (c := .int .u32 0) R2.out.res
        have d0 : (((w2.setCell ⟨w.heap.size, 0, none⟩ (.int .u32 0)).setCell ⟨w.heap.size, 1, none⟩ (.int .u32 0)).setCell ⟨w.heap.size, 2, none⟩ (.int .u32 0)).cell? ⟨w.heap.size, 0, none⟩ = some (.int .u32 0) := cell_of_heap dd rfl
        have d1 : (((w2.setCell ⟨w.heap.size, 0, none⟩ (.int .u32 0)).setCell ⟨w.heap.size, 1, none⟩ (.int .u32 0)).setCell ⟨w.heap.size, 2, none⟩ (.int .u32 0)).cell? ⟨w.heap.size, 1, none⟩ = some (.int .u32 0) := cell_of_heap dd rfl
        have d2 : (((w2.setCell ⟨w.heap.size, 0, none⟩ (.int .u32 0)).setCell ⟨w.heap.size, 1, none⟩ (.int .u32 0)).setCell ⟨w.heap.size, 2, none⟩ (.int .u32 0)).cell? ⟨w.heap.size, 2, none⟩ = some (.int .u32 0) := cell_of_heap dd rfl
        exact bodyPost_ret (v := .tuple #[.agg #[.int .u32 0, .int .u32 0, .int .u32 0], .bool false]) (by simp only [results, Tryz.results72]; simp [go_sem, d0, d1, d2]) rfl ⟨rfl, (((R2.out.bel.setCell (p := ⟨w.heap.size, 0, none⟩) (Nat.le_refl _) _).setCell (p := ⟨w.heap.size, 1, none⟩) (Nat.le_refl _) _).setCell (p := ⟨w.heap.size, 2, none⟩) (Nat.le_refl _) _)⟩
      | true =>
        cases N with
        | none =>
          have k0 : w2.cell? ⟨w.heap.size, 0, none⟩ = some (.int .u32 0) := cell_of_heap R2.out.res rfl
          have k1 : w2.cell? ⟨w.heap.size, 1, none⟩ = some (.int .u32 0) := cell_of_heap R2.out.res rfl
          have k2 : w2.cell? ⟨w.heap.size, 2, none⟩ = some (.int .u32 0) := cell_of_heap R2.out.res rfl
          have f0 := frozen_of_heap (i := 0) R2.out.res
          have f1 := frozen_of_heap (i := 1) R2.out.res
          have f2 := frozen_of_heap (i := 2) R2.out.res
          go_wp2
          have dd := set3 (a := .int .u32 0) (b := .int .u32 0) (c := .int .u32 0) R2.out.res
          have d0 : (((w2.setCell ⟨w.heap.size, 0, none⟩ (.int .u32 0)).setCell ⟨w.heap.size, 1, none⟩ (.int .u32 0)).setCell ⟨w.heap.size, 2, none⟩ (.int .u32 0)).cell? ⟨w.heap.size, 0, none⟩ = some (.int .u32 0) := cell_of_heap dd rfl
          have d1 : (((w2.setCell ⟨w.heap.size, 0, none⟩ (.int .u32 0)).setCell ⟨w.heap.size, 1, none⟩ (.int .u32 0)).setCell ⟨w.heap.size, 2, none⟩ (.int .u32 0)).cell? ⟨w.heap.size, 1, none⟩ = some (.int .u32 0) := cell_of_heap dd rfl
          have d2 : (((w2.setCell ⟨w.heap.size, 0, none⟩ (.int .u32 0)).setCell ⟨w.heap.size, 1, none⟩ (.int .u32 0)).setCell ⟨w.heap.size, 2, none⟩ (.int .u32 0)).cell? ⟨w.heap.size, 2, none⟩ = some (.int .u32 0) := cell_of_heap dd rfl
          exact bodyPost_ret (v := .tuple #[.agg #[.int .u32 0, .int .u32 0, .int .u32 0], .bool false]) (by simp only [results, Tryz.results72]; simp [go_sem, d0, d1, d2]) rfl ⟨rfl, (((R2.out.bel.setCell (p := ⟨w.heap.size, 0, none⟩) (Nat.le_refl _) _).setCell (p := ⟨w.heap.size, 1, none⟩) (Nat.le_refl _) _).setCell (p := ⟨w.heap.size, 2, none⟩) (Nat.le_refl _) _)⟩
        | some n =>
          have y0 : w2.cell? ⟨z, 0, none⟩ = some (.int .u32 (a : Int)) := cell_of_heap HZ2.out rfl
          have y1 : w2.cell? ⟨z, 1, none⟩ = some (.int .u32 (b : Int)) := cell_of_heap HZ2.out rfl
          have k0 : w2.cell? ⟨w.heap.size, 0, none⟩ = some (.int .u32 0) := cell_of_heap R2.out.res rfl
          have k1 : w2.cell? ⟨w.heap.size, 1, none⟩ = some (.int .u32 0) := cell_of_heap R2.out.res rfl
          have k2 : w2.cell? ⟨w.heap.size, 2, none⟩ = some (.int .u32 0) := cell_of_heap R2.out.res rfl
          have f0 := frozen_of_heap (i := 0) R2.out.res
          have f1 := frozen_of_heap (i := 1) R2.out.res
          have f2 := frozen_of_heap (i := 2) R2.out.res
          go_wp2
          have dd := set3 (a := .int .u32 (a : Int)) (b := .int .u32 (b : Int)) (c := .int .u32 (n : Int)) R2.out.res
          have d0 : (((w2.setCell ⟨w.heap.size, 0, none⟩ (.int .u32 (a : Int))).setCell ⟨w.heap.size, 1, none⟩ (.int .u32 (b : Int))).setCell ⟨w.heap.size, 2, none⟩ (.int .u32 (n : Int))).cell? ⟨w.heap.size, 0, none⟩ = some (.int .u32 (a : Int)) := cell_of_heap dd rfl
          have d1 : (((w2.setCell ⟨w.heap.size, 0, none⟩ (.int .u32 (a : Int))).setCell ⟨w.heap.size, 1, none⟩ (.int .u32 (b : Int))).setCell ⟨w.heap.size, 2, none⟩ (.int .u32 (n : Int))).cell? ⟨w.heap.size, 1, none⟩ = some (.int .u32 (b : Int)) := cell_of_heap dd rfl
          have d2 : (((w2.setCell ⟨w.heap.size, 0, none⟩ (.int .u32 (a : Int))).setCell ⟨w.heap.size, 1, none⟩ (.int .u32 (b : Int))).setCell ⟨w.heap.size, 2, none⟩ (.int .u32 (n : Int))).cell? ⟨w.heap.size, 2, none⟩ = some (.int .u32 (n : Int)) := cell_of_heap dd rfl
          exact bodyPost_ret (v := .tuple #[.agg #[.int .u32 (a : Int), .int .u32 (b : Int), .int .u32 (n : Int)], .bool true]) (by simp only [results, Tryz.results72]; simp [go_sem, d0, d1, d2]) rfl ⟨rfl, (((R2.out.bel.setCell (p := ⟨w.heap.size, 0, none⟩) (Nat.le_refl _) _).setCell (p := ⟨w.heap.size, 1, none⟩) (Nat.le_refl _) _).setCell (p := ⟨w.heap.size, 2, none⟩) (Nat.le_refl _) _)⟩
  · rw [ruOf_no hN]
    have eN : ((ws.length : Int) == 3) = false := by simp; omega
    clear hN hx
    have c0 : (w.alloc (.cells wtZ 101)).cell? ⟨w.heap.size, 0, none⟩ = some (.int .u32 0) := cell_of_heap R0.out.res rfl
    have c1 : (w.alloc (.cells wtZ 101)).cell? ⟨w.heap.size, 1, none⟩ = some (.int .u32 0) := cell_of_heap R0.out.res rfl
    have c2 : (w.alloc (.cells wtZ 101)).cell? ⟨w.heap.size, 2, none⟩ = some (.int .u32 0) := cell_of_heap R0.out.res rfl
    have K := hid ((And.intro c0 (And.intro c1 c2)))
    clear c0 c1 c2
    go_enter Tryz.func72, Tryz.ntmps72
    go_wp2
    obtain ⟨c0, c1, c2⟩ := K.out
    exact bodyPost_ret (v := .tuple #[.agg wtZ, .bool false]) (by simp only [results, Tryz.results72]; simp [go_sem, c0, c1, c2]) rfl ⟨rfl, R0.out.bel⟩
set_option maxHeartbeats 3200000 in
theorem namedOf_any (x : Nat) (ws : List ByteArray) (cap : Nat) (w : World) (v : Vr w) (hx : ∀ j, j < ws.length → w.cell? ⟨x, j, none⟩ = some (.string (wd ws j))) (hz : ∀ j, (wd ws j).size ≤ 4000000000) (hl : ws.length ≤ 4000000000) :
    Calls Tryz.prog 75 #[.slice (some ⟨x, 0, none⟩) ws.length cap] w fun e w' => e = itR nmZ nmC (nmOf ws) ∧ Below w.heap.size w w' := by
  have R0 := hid (Rg.start (Z := nmZ) (T := 110) v hx)
  by_cases hN : ws.length = 3
  · have hE := nmOf_3 hN
    obtain ⟨O, hO⟩ : ∃ O, spV (bs (wd ws 1)) (bs (wd ws 2)) = O := ⟨_, rfl⟩
    obtain ⟨a, ha⟩ : ∃ a, (O.getD (0, 0)).1 = a := ⟨_, rfl⟩
    obtain ⟨b, hb⟩ : ∃ b, (O.getD (0, 0)).2 = b := ⟨_, rfl⟩
    obtain ⟨k, hk⟩ : ∃ k, O.isSome = k := ⟨_, rfl⟩
    have HSP := hid (show ∀ w, Calls Tryz.prog 88 #[.string (wd ws 1), .string (wd ws 2)] w fun e w' => e = .returned (.tuple #[.agg #[.int .u32 (a : Int), .int .u32 (b : Int)], .bool k]) ∧ Below w.heap.size w w' from fun w => (spanOf_any _ _ w (hz 1) (hz 2)).mono fun e w' h => ⟨by rw [h.1, hO, ← ha, ← hb, ← hk], h.2⟩)
    have HOE := hid (show O = if k = true then some (a, b) else none by cases O with | none => subst hk; rfl | some p => subst hk ha hb; rfl)
    obtain ⟨B0, hB0⟩ : ∃ B, nmV 10 (bs (wd ws 0)) = B := ⟨_, rfl⟩
    rw [hO, HOE.out, hB0] at hE
    have HE := hid hE
    have H0 := hid hB0
    have HZ := hid hz
    have n0 : 0 < ws.length := by omega
    have m0 : (0 : Int) < (ws.length : Int) := by omega
    have n1 : 1 < ws.length := by omega
    have m1 : (1 : Int) < (ws.length : Int) := by omega
    have n2 : 2 < ws.length := by omega
    have m2 : (2 : Int) < (ws.length : Int) := by omega
    have eN : ((ws.length : Int) != 3) = false := by simp [hN]
    clear hE hO hB0 hz hN hx v ha hb hk HOE
    rw [HE.out]
    have q0 := R0.out.row 0 n0
    simp only [nmZ] at q0
    cases B0 with
    | false =>
      have c0 : (w.alloc (.cells nmZ 110)).cell? ⟨w.heap.size, 0, none⟩ = some (.string ⟨#[]⟩) := cell_of_heap R0.out.res rfl
      have c1 : (w.alloc (.cells nmZ 110)).cell? ⟨w.heap.size, 1, none⟩ = some (.int .u32 0) := cell_of_heap R0.out.res rfl
      have c2 : (w.alloc (.cells nmZ 110)).cell? ⟨w.heap.size, 2, none⟩ = some (.int .u32 0) := cell_of_heap R0.out.res rfl
      have K := hid ((And.intro c0 (And.intro c1 c2)))
      clear c0 c1 c2
      go_enter Tryz.func75, Tryz.ntmps75
      go_wp2_with fail
      refine (isName_any (wd ws 0) 10 _ (HZ.out 0) (by decide)).mono ?_
      rintro e w' ⟨rfl, hw⟩
      subst w'
      rw [H0.out]
      go_wp2
      obtain ⟨c0, c1, c2⟩ := K.out
      exact bodyPost_ret (v := .tuple #[.agg nmZ, .bool false]) (by simp only [results, Tryz.results75]; simp [go_sem, c0, c1, c2]) rfl ⟨rfl, R0.out.bel⟩
    | true =>
      go_enter Tryz.func75, Tryz.ntmps75
      go_wp2_with fail
      refine (isName_any (wd ws 0) 10 _ (HZ.out 0) (by decide)).mono ?_
      rintro e w' ⟨rfl, hw⟩
      subst w'
      rw [H0.out]
      go_upto_region 3 with fail
      clear q0
      obtain ⟨W, hW⟩ : ∃ W, w.alloc (.cells nmZ 110) = W := ⟨_, rfl⟩
      rw [hW] at R0
      simp only [nmZ] at hW
      rw [hW]
      clear hW
      have KB := hid (show ∀ w', Below W.heap.size W w' → w'.cell? ⟨x, 1, none⟩ = some (.string (wd ws 1)) ∧ w'.cell? ⟨x, 2, none⟩ = some (.string (wd ws 2)) from fun w' hb => ⟨cell_later hb (R0.out.row 1 n1), cell_later hb (R0.out.row 2 n2)⟩)
      go_cut [4, 5] from 6 to 35 (fun p o wx => o = .bool k ∧ ∃ z, p = .pointer (some ⟨z, 0, none⟩) ∧ W.heap.size ≤ z ∧ wx.heap[z]? = some (.cells #[.int .u32 (a : Int), .int .u32 (b : Int)] 47 (0, 0)) ∧ Below W.heap.size W wx)
      case first =>
        refine wp_region_held_drew (S := (fun w' => w'.cell? ⟨x, 1, none⟩ = some (.string (wd ws 1)) ∧ w'.cell? ⟨x, 2, none⟩ = some (.string (wd ws 2)))) (by kernel_rfl) (KB.out _ (blw_drew (Below.refl _ _))) (fun hHeld => ?_)
        refine tk_at (i := 0) (d := some 18) (v := ?_) rfl rfl (by kernel_rfl) (by kernel_rfl) (by kernel_rfl) (fun _ _ _ h => h) (Or.inl ⟨by rfl, ?_⟩) (by assumption) ?_
        rotate_left
        · (intro w hSw; (try dsimp only at hSw); go_simp; try (with_reducible rfl))
        simp only [Act.put, List.setIfInBounds_toArray, List.set_cons_zero, List.set_cons_succ]
        refine tk_at (i := 1) (d := some 19) (v := ?_) rfl rfl (by kernel_rfl) (by kernel_rfl) (by kernel_rfl) (fun _ _ _ h => h) (Or.inl ⟨by rfl, ?_⟩) (by assumption) ?_
        rotate_left
        · (intro w hSw; (try dsimp only at hSw); go_simp; try (with_reducible rfl))
        simp only [Act.put, List.setIfInBounds_toArray, List.set_cons_zero, List.set_cons_succ]
        refine tk_at (i := 2) (d := some 20) (v := ?_) rfl rfl (by kernel_rfl) (by kernel_rfl) (by kernel_rfl) (fun _ _ _ h => h) (Or.inl ⟨by rfl, ?_⟩) (by assumption) ?_
        rotate_left
        · (intro w hSw; (try dsimp only at hSw); go_simp; try (with_reducible rfl))
        simp only [Act.put, List.setIfInBounds_toArray, List.set_cons_zero, List.set_cons_succ]
        refine tk_at (i := 3) (d := some 21) (v := ?_) rfl rfl (by kernel_rfl) (by kernel_rfl) (by kernel_rfl) (fun _ _ _ h => h) (Or.inl ⟨by rfl, ?_⟩) (by assumption) ?_
        rotate_left
        · (intro w hSw; (try dsimp only at hSw); go_simp; try (with_reducible rfl))
        simp only [Act.put, List.setIfInBounds_toArray, List.set_cons_zero, List.set_cons_succ]
        refine tk_at (i := 4) (d := some 22) (v := ?_) rfl rfl (by kernel_rfl) (by kernel_rfl) (by kernel_rfl) (fun _ _ _ h => h) (Or.inl ⟨by rfl, ?_⟩) (by assumption) ?_
        rotate_left
        · (intro w hSw; (try dsimp only at hSw); go_simp; try (with_reducible rfl))
        simp only [Act.put, List.setIfInBounds_toArray, List.set_cons_zero, List.set_cons_succ]
        refine tk_at (i := 5) (d := some 23) (v := ?_) rfl rfl (by kernel_rfl) (by kernel_rfl) (by kernel_rfl) (fun _ _ _ h => h) (Or.inl ⟨by rfl, ?_⟩) (by assumption) ?_
        rotate_left
        · (intro w hSw; (try dsimp only at hSw); go_simp; try (with_reducible rfl))
        simp only [Act.put, List.setIfInBounds_toArray, List.set_cons_zero, List.set_cons_succ]
        clear hHeld
        clear n0 m0 n1 m1 n2 m2 eN hl
        refine wpAnyH_inv0 (fun aC0 lsC aC wC => ∃ (b6 b7 b8 b9 b10 b11 b12 : Bool) (pp x6 x7 x8 x9 x12 : Value), lsC = #[true, true, true, true, true, true, b6, b7, b8, b9, b10, b11, b12] ∧ aC = { aC0 with tmps := ((((((aC0.tmps.setIfInBounds 24 x6).setIfInBounds 17 x7).setIfInBounds 25 x8).setIfInBounds 26 x9).setIfInBounds 5 x12).setIfInBounds 4 pp) } ∧ (b6 = true → x6 = .tuple #[.agg #[.int .u32 (a : Int), .int .u32 (b : Int)], .bool k]) ∧ (b7 = true → x7 = .tuple #[.agg #[.int .u32 (a : Int), .int .u32 (b : Int)], .bool k]) ∧ (b8 = true → x8 = .agg #[.int .u32 (a : Int), .int .u32 (b : Int)]) ∧ (b9 = true → x9 = .bool k) ∧ (b12 = true → x12 = .bool k) ∧ Below W.heap.size W wC ∧ OwnC W wC b10 b11 pp #[.int .u32 0, .int .u32 0] #[.int .u32 (a : Int), .int .u32 (b : Int)] 47 ∧ (b10 || !b11) = true) ?_ _ _ _ (by decide +kernel) (fun aS => ⟨false, false, false, false, false, false, false, aS.tmps.getD 4 undef, aS.tmps.getD 24 undef, aS.tmps.getD 17 undef, aS.tmps.getD 25 undef, aS.tmps.getD 26 undef, aS.tmps.getD 5 undef, by kernel_rfl, by simp only [set_self], fun h => (by cases h), fun h => (by cases h), fun h => (by cases h), fun h => (by cases h), fun h => (by cases h), blw_drew (Below.refl _ _), OwnC.none, rfl⟩)
        intro lsC aC wC ⟨b6, b7, b8, b9, b10, b11, b12, pp, x6, x7, x8, x9, x12, hl, ha, hx6, hx7, hx8, hx9, hx12, hBw, hpp, hcc⟩
        subst hl ha
        have Hx6 := hid hx6
        have Hx7 := hid hx7
        have Hx8 := hid hx8
        have Hx9 := hid hx9
        have Hx12 := hid hx12
        have HBW := hid hBw
        have HPP := hid hpp
        have HCC := hid hcc
        clear hx6 hx7 hx8 hx9 hx12 hBw hpp hcc
        simp only [List.setIfInBounds_toArray, List.set_cons_zero, List.set_cons_succ]
        refine ⟨fun hr => ?_, fun i hi => ?_⟩
        · have hall : (b6 && b7 && b8 && b9 && b10 && b11 && b12) = true := by
            clear Hx6 Hx7 Hx8 Hx9 Hx12 HBW HPP HCC
            revert b6 b7 b8 b9 b10 b11 b12
            decide +kernel
          simp only [Bool.and_eq_true] at hall
          obtain ⟨⟨⟨⟨⟨⟨rfl, rfl⟩, rfl⟩, rfl⟩, rfl⟩, rfl⟩, rfl⟩ := hall
          obtain ⟨z, rfl, hz1, hz2⟩ := HPP.out rfl
          obtain rfl := Hx6.out rfl
          obtain rfl := Hx7.out rfl
          obtain rfl := Hx8.out rfl
          obtain rfl := Hx9.out rfl
          obtain rfl := Hx12.out rfl
          have HR := hid (And.intro hz1 (And.intro hz2 HBW.out))
          clear hz1 hz2 Hx6 Hx7 Hx8 Hx9 Hx12 HBW HPP HCC hr
          (try dsimp only)
          go_wp2_with fail
          go_meet
          case rel => exact ⟨rfl, z, rfl, HR.out.1, HR.out.2.1, HR.out.2.2⟩
        · have hcase : (i = 6 ∧ b6 = false) ∨ (i = 7 ∧ b7 = false ∧ b6 = true) ∨ (i = 8 ∧ b8 = false ∧ b7 = true) ∨ (i = 9 ∧ b9 = false ∧ b7 = true) ∨ (i = 12 ∧ b12 = false ∧ b9 = true ∧ b11 = true) ∨ (i = 10 ∧ b10 = false) ∨ (i = 11 ∧ b11 = false ∧ b10 = true ∧ b8 = true) := by
            refine of_decide_eq_true ((List.all_eq_true (p := fun i => decide ((i = 6 ∧ b6 = false) ∨ (i = 7 ∧ b7 = false ∧ b6 = true) ∨ (i = 8 ∧ b8 = false ∧ b7 = true) ∨ (i = 9 ∧ b9 = false ∧ b7 = true) ∨ (i = 12 ∧ b12 = false ∧ b9 = true ∧ b11 = true) ∨ (i = 10 ∧ b10 = false) ∨ (i = 11 ∧ b11 = false ∧ b10 = true ∧ b8 = true)))).1 ?_ i hi)
            clear Hx6 Hx7 Hx8 Hx9 Hx12 HBW HPP HCC hi
            revert b6 b7 b8 b9 b10 b11 b12
            decide +kernel
          clear hi
          rcases hcase with ⟨rfl, rfl⟩ | ⟨rfl, rfl, rfl⟩ | ⟨rfl, rfl, rfl⟩ | ⟨rfl, rfl, rfl⟩ | ⟨rfl, rfl, rfl, rfl⟩ | ⟨rfl, rfl⟩ | ⟨rfl, rfl, rfl, rfl⟩
          · refine wpOp_shut rfl (fun K hK => ?_)
            go_simp
            refine (HSP.out _).mono ?_
            rintro e wa ⟨rfl, hBa⟩
            have HBa := hid hBa
            clear hBa
            go_wp2_with fail
            have hB3 := belowCat HBW.out HBa.out
            exact hK.out _ _ ⟨KB.out _ hB3, true, b7, b8, b9, b10, b11, b12, _, _, _, _, _, _, by kernel_rfl, rfl, fun _ => rfl, Hx7.out, Hx8.out, Hx9.out, Hx12.out, hB3, HPP.out.below HBa.out, HCC.out⟩
          · obtain rfl := Hx6.out rfl
            refine wpOp_shut rfl (fun K hK => ?_)
            go_simp
            go_wp2_with fail
            exact hK.out _ _ ⟨KB.out _ HBW.out, true, true, b8, b9, b10, b11, b12, _, _, _, _, _, _, by kernel_rfl, rfl, fun _ => rfl, fun _ => rfl, Hx8.out, Hx9.out, Hx12.out, HBW.out, HPP.out, HCC.out⟩
          · obtain rfl := Hx7.out rfl
            refine wpOp_shut rfl (fun K hK => ?_)
            go_simp
            go_wp2_with fail
            exact hK.out _ _ ⟨KB.out _ HBW.out, b6, true, true, b9, b10, b11, b12, _, _, _, _, _, _, by kernel_rfl, rfl, Hx6.out, fun _ => rfl, fun _ => rfl, Hx9.out, Hx12.out, HBW.out, HPP.out, HCC.out⟩
          · obtain rfl := Hx7.out rfl
            refine wpOp_shut rfl (fun K hK => ?_)
            go_simp
            go_wp2_with fail
            exact hK.out _ _ ⟨KB.out _ HBW.out, b6, true, b8, true, b10, b11, b12, _, _, _, _, _, _, by kernel_rfl, rfl, Hx6.out, fun _ => rfl, Hx8.out, fun _ => rfl, Hx12.out, HBW.out, HPP.out, HCC.out⟩
          · obtain rfl := Hx9.out rfl
            refine wpOp_shut rfl (fun K hK => ?_)
            go_simp
            go_wp2_with fail
            exact hK.out _ _ ⟨KB.out _ HBW.out, b6, b7, b8, true, b10, true, true, _, _, _, _, _, _, by kernel_rfl, rfl, Hx6.out, Hx7.out, Hx8.out, fun _ => rfl, fun _ => rfl, HBW.out, HPP.out, HCC.out⟩
          · obtain rfl : b11 = false := by have := HCC.out; revert this; cases b11 <;> simp
            refine wpOp_shut rfl (fun K hK => ?_)
            go_simp
            go_wp2_with fail
            have hBa := (Below.refl wC.heap.size wC).alloc (Nat.le_refl _) (.cells #[.int .u32 0, .int .u32 0] 47 (0, 0))
            have hB3 := belowCat HBW.out hBa
            exact hK.out _ _ ⟨KB.out _ hB3, b6, b7, b8, b9, true, false, b12, _, _, _, _, _, _, by kernel_rfl, rfl, Hx6.out, Hx7.out, Hx8.out, Hx9.out, Hx12.out, hB3, OwnC.new HBW.out, rfl⟩
          · obtain ⟨z, rfl, hz1, hz2⟩ := HPP.out rfl
            obtain rfl := Hx8.out rfl
            have c0 := cell_of_heap (i := 0) hz2 rfl
            have c1 := cell_of_heap (i := 1) hz2 rfl
            have g0 := frozen_of_heap (i := 0) hz2
            have g1 := frozen_of_heap (i := 1) hz2
            have HZ := hid (And.intro hz1 hz2)
            clear hz1 hz2
            refine wpOp_shut rfl (fun K hK => ?_)
            go_simp
            go_wp2_with fail
            exact hK.out _ _ ⟨KB.out _ ((HBW.out.setCell (p := ⟨z, 0, none⟩) HZ.out.1 _).setCell (p := ⟨z, 1, none⟩) HZ.out.1 _), b6, b7, true, b9, true, true, b12, _, _, _, _, _, _, by kernel_rfl, rfl, Hx6.out, Hx7.out, fun _ => rfl, Hx9.out, Hx12.out, ((HBW.out.setCell (p := ⟨z, 0, none⟩) HZ.out.1 _).setCell (p := ⟨z, 1, none⟩) HZ.out.1 _), fun _ => ⟨z, rfl, HZ.out.1, set2 HZ.out.2⟩, rfl⟩
      case rest =>
        obtain ⟨rfl, z, rfl, hz1, hz2, hB⟩ := hcut
        have R1 := hid (R0.out.below hB)
        have HZB := hid (And.intro hz2 (show z ≠ w.heap.size from fun e => by have := lt_of_heap R0.out.res; omega))
        clear hz1 hz2 hB KB R0
        cases k with
        | false =>
          have k0 : wc.cell? ⟨w.heap.size, 0, none⟩ = some (.string ⟨#[]⟩) := cell_of_heap R1.out.res rfl
          have k1 : wc.cell? ⟨w.heap.size, 1, none⟩ = some (.int .u32 0) := cell_of_heap R1.out.res rfl
          have k2 : wc.cell? ⟨w.heap.size, 2, none⟩ = some (.int .u32 0) := cell_of_heap R1.out.res rfl
          have f0 := frozen_of_heap (i := 0) R1.out.res
          have f1 := frozen_of_heap (i := 1) R1.out.res
          have f2 := frozen_of_heap (i := 2) R1.out.res
          go_wp2
          have dd := set3 (a := .string ⟨#[]⟩) (b := .int .u32 0) (c := .int .u32 0) R1.out.res
          have d0 : (((wc.setCell ⟨w.heap.size, 0, none⟩ (.string ⟨#[]⟩)).setCell ⟨w.heap.size, 1, none⟩ (.int .u32 0)).setCell ⟨w.heap.size, 2, none⟩ (.int .u32 0)).cell? ⟨w.heap.size, 0, none⟩ = some (.string ⟨#[]⟩) := cell_of_heap dd rfl
          have d1 : (((wc.setCell ⟨w.heap.size, 0, none⟩ (.string ⟨#[]⟩)).setCell ⟨w.heap.size, 1, none⟩ (.int .u32 0)).setCell ⟨w.heap.size, 2, none⟩ (.int .u32 0)).cell? ⟨w.heap.size, 1, none⟩ = some (.int .u32 0) := cell_of_heap dd rfl
          have d2 : (((wc.setCell ⟨w.heap.size, 0, none⟩ (.string ⟨#[]⟩)).setCell ⟨w.heap.size, 1, none⟩ (.int .u32 0)).setCell ⟨w.heap.size, 2, none⟩ (.int .u32 0)).cell? ⟨w.heap.size, 2, none⟩ = some (.int .u32 0) := cell_of_heap dd rfl
          exact bodyPost_ret (v := .tuple #[.agg #[.string ⟨#[]⟩, .int .u32 0, .int .u32 0], .bool false]) (by simp only [results, Tryz.results75]; simp [go_sem, d0, d1, d2]) rfl ⟨rfl, (((R1.out.bel.setCell (p := ⟨w.heap.size, 0, none⟩) (Nat.le_refl _) _).setCell (p := ⟨w.heap.size, 1, none⟩) (Nat.le_refl _) _).setCell (p := ⟨w.heap.size, 2, none⟩) (Nat.le_refl _) _)⟩
        | true =>
          have KS := hid (show ∀ w', Below wc.heap.size wc w' → (fun w' => w'.cell? ⟨x, 0, none⟩ = some (.string (wd ws 0)) ∧ w'.cell? ⟨z, 0, none⟩ = some (.int .u32 (a : Int)) ∧ w'.cell? ⟨z, 1, none⟩ = some (.int .u32 (b : Int))) w' from fun w' hb => ⟨cell_later hb (R1.out.row 0 n0), cell_later hb (cell_of_heap HZB.out.1 rfl), cell_later hb (cell_of_heap HZB.out.1 rfl)⟩)
          go_upto_region 6 with fail
          refine wp_region_held_drew (S := (fun w' => w'.cell? ⟨x, 0, none⟩ = some (.string (wd ws 0)) ∧ w'.cell? ⟨z, 0, none⟩ = some (.int .u32 (a : Int)) ∧ w'.cell? ⟨z, 1, none⟩ = some (.int .u32 (b : Int)))) (by kernel_rfl) (KS.out _ (blw_drew (Below.refl _ _))) (fun hHeld => ?_)
          refine tk_at (i := 0) (d := some 30) (v := ?_) rfl rfl (by kernel_rfl) (by kernel_rfl) (by kernel_rfl) (fun _ _ _ h => h) (Or.inl ⟨by rfl, ?_⟩) (by assumption) ?_
          rotate_left
          · (intro w hSw; (try dsimp only at hSw); go_simp; try (with_reducible rfl))
          simp only [Act.put, List.setIfInBounds_toArray, List.set_cons_zero, List.set_cons_succ]
          refine tk_at (i := 1) (d := some 31) (v := ?_) rfl rfl (by kernel_rfl) (by kernel_rfl) (by kernel_rfl) (fun _ _ _ h => h) (Or.inl ⟨by rfl, ?_⟩) (by assumption) ?_
          rotate_left
          · (intro w hSw; (try dsimp only at hSw); go_simp; try (with_reducible rfl))
          simp only [Act.put, List.setIfInBounds_toArray, List.set_cons_zero, List.set_cons_succ]
          refine tk_at (i := 2) (d := some 32) (v := ?_) rfl rfl (by kernel_rfl) (by kernel_rfl) (by kernel_rfl) (fun _ _ _ h => h) (Or.inl ⟨by rfl, ?_⟩) (by assumption) ?_
          rotate_left
          · (intro w hSw; (try dsimp only at hSw); go_simp; try (with_reducible rfl))
          simp only [Act.put, List.setIfInBounds_toArray, List.set_cons_zero, List.set_cons_succ]
          refine tk_at (i := 4) (d := some 34) (v := ?_) rfl rfl (by kernel_rfl) (by kernel_rfl) (by kernel_rfl) (fun _ _ _ h => h) (Or.inl ⟨by rfl, ?_⟩) (by assumption) ?_
          rotate_left
          · (intro w hSw; (try dsimp only at hSw); go_simp; try (with_reducible rfl))
          simp only [Act.put, List.setIfInBounds_toArray, List.set_cons_zero, List.set_cons_succ]
          refine wpAnyH_ready (rs := [3]) (by kernel_rfl) (by simp) ?_
          refine AllReadyH.cons rfl (fun K hK => ?_) AllReadyH.nil
          go_simp
          refine (clone_any (wd ws 0) _ (HZ.out 0)).mono ?_
          rintro e w4 ⟨rfl, hBd⟩
          have D4 := hid (belowCat (blw_drew (Below.refl _ _)) hBd)
          clear hBd
          have R4 := hid (R1.out.below D4.out)
          have k0 : w4.cell? ⟨w.heap.size, 0, none⟩ = some (.string ⟨#[]⟩) := cell_of_heap R4.out.res rfl
          have k1 : w4.cell? ⟨w.heap.size, 1, none⟩ = some (.int .u32 0) := cell_of_heap R4.out.res rfl
          have k2 : w4.cell? ⟨w.heap.size, 2, none⟩ = some (.int .u32 0) := cell_of_heap R4.out.res rfl
          have f0 := frozen_of_heap (i := 0) R4.out.res
          have f1 := frozen_of_heap (i := 1) R4.out.res
          have f2 := frozen_of_heap (i := 2) R4.out.res
          go_wp2_with fail
          refine hK.out _ _ (KS.out _ D4.out) (fun hHeld => ?_)
          clear hK K
          try simp only [Act.put, List.setIfInBounds_toArray, List.set_cons_zero, List.set_cons_succ]
          refine wpAnyH_ready (rs := [5]) (by kernel_rfl) (by simp) ?_
          refine AllReadyH.cons rfl (fun K hK => ?_) AllReadyH.nil
          go_simp
          go_wp2_with fail
          refine hK.out _ _ (KS.out _ D4.out) (fun hHeld => ?_)
          clear hK K
          try simp only [Act.put, List.setIfInBounds_toArray, List.set_cons_zero, List.set_cons_succ]
          refine wpAnyH_ready (rs := [6]) (by kernel_rfl) (by simp) ?_
          refine AllReadyH.cons rfl (fun K hK => ?_) AllReadyH.nil
          go_simp
          go_wp2_with fail
          refine hK.out _ _ (⟨cell_ne3 (KS.out _ D4.out).1 (show x ≠ w.heap.size from Nat.ne_of_lt (R1.out.xb n0)), cell_ne3 (KS.out _ D4.out).2.1 HZB.out.2, cell_ne3 (KS.out _ D4.out).2.2 HZB.out.2⟩) (fun hHeld => ?_)
          clear hK K
          try simp only [Act.put, List.setIfInBounds_toArray, List.set_cons_zero, List.set_cons_succ]
          refine wpAnyH_ready (rs := [7]) (by kernel_rfl) (by simp) ?_
          refine AllReadyH.cons rfl (fun K hK => ?_) AllReadyH.nil
          go_simp
          go_wp2_with fail
          refine hK.out _ _ (⟨cell_ne3 (KS.out _ D4.out).1 (show x ≠ w.heap.size from Nat.ne_of_lt (R1.out.xb n0)), cell_ne3 (KS.out _ D4.out).2.1 HZB.out.2, cell_ne3 (KS.out _ D4.out).2.2 HZB.out.2⟩) (fun hHeld => ?_)
          clear hK K
          try simp only [Act.put, List.setIfInBounds_toArray, List.set_cons_zero, List.set_cons_succ]
          refine wpAnyH_done (by kernel_rfl) ?_ _
          clear hHeld
          clear k0 k1 k2 f0 f1 f2
          go_wp2
          have dd := set3 (a := .string (wd ws 0)) (b := .int .u32 (a : Int)) (c := .int .u32 (b : Int)) R4.out.res
          have d0 : (((w4.setCell ⟨w.heap.size, 0, none⟩ (.string (wd ws 0))).setCell ⟨w.heap.size, 1, none⟩ (.int .u32 (a : Int))).setCell ⟨w.heap.size, 2, none⟩ (.int .u32 (b : Int))).cell? ⟨w.heap.size, 0, none⟩ = some (.string (wd ws 0)) := cell_of_heap dd rfl
          have d1 : (((w4.setCell ⟨w.heap.size, 0, none⟩ (.string (wd ws 0))).setCell ⟨w.heap.size, 1, none⟩ (.int .u32 (a : Int))).setCell ⟨w.heap.size, 2, none⟩ (.int .u32 (b : Int))).cell? ⟨w.heap.size, 1, none⟩ = some (.int .u32 (a : Int)) := cell_of_heap dd rfl
          have d2 : (((w4.setCell ⟨w.heap.size, 0, none⟩ (.string (wd ws 0))).setCell ⟨w.heap.size, 1, none⟩ (.int .u32 (a : Int))).setCell ⟨w.heap.size, 2, none⟩ (.int .u32 (b : Int))).cell? ⟨w.heap.size, 2, none⟩ = some (.int .u32 (b : Int)) := cell_of_heap dd rfl
          exact bodyPost_ret (v := .tuple #[.agg #[.string (wd ws 0), .int .u32 (a : Int), .int .u32 (b : Int)], .bool true]) (by simp only [results, Tryz.results75]; simp [go_sem, d0, d1, d2]) rfl ⟨rfl, (((R4.out.bel.setCell (p := ⟨w.heap.size, 0, none⟩) (Nat.le_refl _) _).setCell (p := ⟨w.heap.size, 1, none⟩) (Nat.le_refl _) _).setCell (p := ⟨w.heap.size, 2, none⟩) (Nat.le_refl _) _)⟩
  · rw [nmOf_no hN]
    have eN : ((ws.length : Int) != 3) = true := by simp; omega
    clear hN hx
    have c0 : (w.alloc (.cells nmZ 110)).cell? ⟨w.heap.size, 0, none⟩ = some (.string ⟨#[]⟩) := cell_of_heap R0.out.res rfl
    have c1 : (w.alloc (.cells nmZ 110)).cell? ⟨w.heap.size, 1, none⟩ = some (.int .u32 0) := cell_of_heap R0.out.res rfl
    have c2 : (w.alloc (.cells nmZ 110)).cell? ⟨w.heap.size, 2, none⟩ = some (.int .u32 0) := cell_of_heap R0.out.res rfl
    have K := hid ((And.intro c0 (And.intro c1 c2)))
    clear c0 c1 c2
    go_enter Tryz.func75, Tryz.ntmps75
    go_wp2
    obtain ⟨c0, c1, c2⟩ := K.out
    exact bodyPost_ret (v := .tuple #[.agg nmZ, .bool false]) (by simp only [results, Tryz.results75]; simp [go_sem, c0, c1, c2]) rfl ⟨rfl, R0.out.bel⟩
end Go.Proofs.YtgalmlelnolodaaGreatDoor
