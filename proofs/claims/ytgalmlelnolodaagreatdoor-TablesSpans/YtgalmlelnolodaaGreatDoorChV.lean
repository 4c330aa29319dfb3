/- The contract of the document's Classes, over this seat's translation. Conditions: a text's size. -/
import Derived.Test.YtgalmlelnolodaaGreatDoorChVp
import Derived.BigQuiet
namespace Go.Proofs.YtgalmlelnolodaaGreatDoor
open Go.RowKit
set_option linter.unusedVariables false

set_option maxRecDepth 2000 in
set_option maxHeartbeats 3200000 in
theorem rclasses_any (s : ByteArray) (w : World) (hs : s.size ≤ 1000000) :
    Calls Tryz.prog 32 #[.string s] w fun e w' => ∃ (ad : Option Addr) (cap at_ : Nat) (its : List It),
      e = .returned (.tuple #[.slice ad its.length cap, .int .i64 (at_ : Int)]) ∧ rsV wtOf upW (lwV s) (lwV s).length = (its, at_) ∧ w'.ownsRow w.heap.size 104 3 (.slice ad its.length cap) its.length (rowC rgC its) ∧ Below w.heap.size w w' := by
  obtain ⟨i0, hi, hz0, hz1, hz2⟩ := info_parts infoWeight
  have HL := hid (rlines_any s w hs)
  have HLN := hid (lwV_cap s)
  have HWZ := hid (lwV_words s)
  obtain ⟨L, hL⟩ : ∃ L, lwV s = L := ⟨_, rfl⟩
  rw [hL] at HL HLN HWZ ⊢
  obtain ⟨N, hN⟩ : ∃ N, L.length = N := ⟨_, rfl⟩
  rw [hN] at HL HLN ⊢
  have HN := hid hN
  have hN6 : N ≤ 1000001 := by have := HLN.out; omega
  have HZ := hid (show ∀ i j, (wd (L.getD i []) j).size ≤ 4000000000 from fun i j => Nat.le_trans (HWZ.out i j) (by omega))
  clear HWZ HLN hL hN hs
  go_enter Tryz.func32, Tryz.ntmps32
  go_wp2_with fail
  refine HL.out.mono ?_
  rintro e w1 ⟨ad1, cap1, vs, rfl, hol, hB1⟩
  have OL := hid hol
  have B1 := hid hB1
  clear hol hB1 HL
  go_wp2_with fail
  go_loopw [4, 6] (fun o i wr => ∃ (k cap : Nat) (ad : Option Addr) (its : List It), k ≤ N ∧ i = .int .i64 (k : Int) ∧ o = .slice ad k cap ∧ rsV wtOf upW L k = (its, 0) ∧ wr.ownsRow w1.heap.size 104 3 (.slice ad k cap) k (rowC rgC its) ∧ Below w1.heap.size w1 wr) (fun _ i _ => N - (intOf i).toNat)
  case atStart => exact ⟨0, 0, none, [], Nat.zero_le _, rfl, rfl, rfl, World.ownsRow_nil _ _ _ _, Below.refl _ _⟩
  case round =>
    obtain ⟨k, cap, ad, its, hk, rfl, rfl, hr, hown, hB⟩ := hrel
    have HR := hid hr
    have HO := hid hown
    have HB := hid hB
    by_cases hlt : k < N
    · obtain ⟨g, q, rc, rfl, hg, hq⟩ := (OL.out.below hB).at HN.out.symm k (by rw [HN.out]; exact hlt)
      have HZK := hid (HZ.out k)
      obtain ⟨R, hRR⟩ : ∃ R, L.getD k [] = R := ⟨_, rfl⟩
      have HRR := hid hRR
      rw [hRR] at hg hq HZK
      clear hr hown hB hRR
      by_cases h3 : R.length = 3
      · have hE := wtOf_3 h3
        rw [h3] at hg hq
        have k0 := hq 0 (by decide)
        have k1 := hq 1 (by decide)
        have k2 := hq 2 (by decide)
        obtain ⟨r0, h0⟩ : ∃ r, wd R 0 = r := ⟨_, rfl⟩
        obtain ⟨r1, h1⟩ : ∃ r, wd R 1 = r := ⟨_, rfl⟩
        obtain ⟨r2, h2⟩ : ∃ r, wd R 2 = r := ⟨_, rfl⟩
        rw [h0] at k0
        rw [h1] at k1
        rw [h2] at k2
        have HS0 := hid (show r0.size ≤ 4000000000 from by rw [← h0]; exact HZK.out 0)
        have HS1 := hid (show r1.size ≤ 4000000000 from by rw [← h1]; exact HZK.out 1)
        have HS2 := hid (show r2.size ≤ 4000000000 from by rw [← h2]; exact HZK.out 2)
        rw [h0, h1, h2] at hE
        obtain ⟨O, hO⟩ : ∃ O, spV (bs r0) (bs r1) = O := ⟨_, rfl⟩
        obtain ⟨a, ha⟩ : ∃ a, (O.getD (0, 0)).1 = a := ⟨_, rfl⟩
        obtain ⟨b, hb⟩ : ∃ b, (O.getD (0, 0)).2 = b := ⟨_, rfl⟩
        obtain ⟨u, hu⟩ : ∃ u, O.isSome = u := ⟨_, rfl⟩
        have HSP := hid (show ∀ w, Calls Tryz.prog 58 #[.string r0, .string r1] w fun e w' => e = .returned (.tuple #[.agg #[.int .u32 (a : Int), .int .u32 (b : Int)], .bool u]) ∧ Below w.heap.size w w' from fun w => (rspan_any _ _ w HS0.out HS1.out).mono fun e w' h => ⟨by rw [h.1, hO, ← ha, ← hb, ← hu], h.2⟩)
        have hOE : O = if u = true then some (a, b) else none := by cases O with | none => subst hu; rfl | some p => subst hu ha hb; rfl
        rw [hO, hOE] at hE
        have HE := hid hE
        have e3 : (((3 : Nat) : Int) != 3) = false := by decide
        have K3 := hid (show ∀ w', Below wr.heap.size wr w' → w'.cell? ⟨g, k, none⟩ = some (.slice (some ⟨q, 0, none⟩) 3 rc) ∧ w'.cell? ⟨q, 2, none⟩ = some (.string r2) from fun w' hb' => ⟨cell_later hb' hg, cell_later hb' k2⟩)
        have KB := hid (show ∀ w', Below wr.heap.size wr w' → w'.cell? ⟨g, k, none⟩ = some (.slice (some ⟨q, 0, none⟩) 3 rc) ∧ w'.cell? ⟨q, 0, none⟩ = some (.string r0) ∧ w'.cell? ⟨q, 1, none⟩ = some (.string r1) from fun w' hb' => ⟨cell_later hb' hg, cell_later hb' k0, cell_later hb' k1⟩)
        clear hE hO hOE ha hb hu h0 h1 h2 h3 hq k0 k1 k2
        go_upto_region 8 with fail
        clear hg
        go_cut [7, 8] from 26 to 41 (fun p o wx => o = .bool u ∧ ∃ z, p = .pointer (some ⟨z, 0, none⟩) ∧ wr.heap.size ≤ z ∧ wx.heap[z]? = some (.cells #[.int .u32 (a : Int), .int .u32 (b : Int)] 47 (0, 0)) ∧ Below wr.heap.size wr wx)
        case first =>
          refine wp_region_held_drew (S := (fun w' => w'.cell? ⟨g, k, none⟩ = some (.slice (some ⟨q, 0, none⟩) 3 rc) ∧ w'.cell? ⟨q, 0, none⟩ = some (.string r0) ∧ w'.cell? ⟨q, 1, none⟩ = some (.string r1))) (by kernel_rfl) (KB.out _ (blw_drew (Below.refl _ _))) (fun hHeld => ?_)
          refine tk_at (i := 0) (d := some 27) (v := ?_) rfl rfl (by kernel_rfl) (by kernel_rfl) (by kernel_rfl) (fun _ _ _ h => h) (Or.inl ⟨by rfl, ?_⟩) (by assumption) ?_
          rotate_left
          · (intro w hSw; (try dsimp only at hSw); go_simp; try (with_reducible rfl))
          simp only [Act.put, List.setIfInBounds_toArray, List.set_cons_zero, List.set_cons_succ]
          refine tk_at (i := 1) (d := some 28) (v := ?_) rfl rfl (by kernel_rfl) (by kernel_rfl) (by kernel_rfl) (fun _ _ _ h => h) (Or.inl ⟨by rfl, ?_⟩) (by assumption) ?_
          rotate_left
          · (intro w hSw; (try dsimp only at hSw); go_simp; try (with_reducible rfl))
          simp only [Act.put, List.setIfInBounds_toArray, List.set_cons_zero, List.set_cons_succ]
          refine tk_at (i := 2) (d := some 29) (v := ?_) rfl rfl (by kernel_rfl) (by kernel_rfl) (by kernel_rfl) (fun _ _ _ h => h) (Or.inl ⟨by rfl, ?_⟩) (by assumption) ?_
          rotate_left
          · (intro w hSw; (try dsimp only at hSw); go_simp; try (with_reducible rfl))
          simp only [Act.put, List.setIfInBounds_toArray, List.set_cons_zero, List.set_cons_succ]
          refine tk_at (i := 3) (d := some 30) (v := ?_) rfl rfl (by kernel_rfl) (by kernel_rfl) (by kernel_rfl) (fun _ _ _ h => h) (Or.inl ⟨by rfl, ?_⟩) (by assumption) ?_
          rotate_left
          · (intro w hSw; (try dsimp only at hSw); go_simp; try (with_reducible rfl))
          simp only [Act.put, List.setIfInBounds_toArray, List.set_cons_zero, List.set_cons_succ]
          refine tk_at (i := 4) (d := some 31) (v := ?_) rfl rfl (by kernel_rfl) (by kernel_rfl) (by kernel_rfl) (fun _ _ _ h => h) (Or.inl ⟨by rfl, ?_⟩) (by assumption) ?_
          rotate_left
          · (intro w hSw; (try dsimp only at hSw); go_simp; try (with_reducible rfl))
          simp only [Act.put, List.setIfInBounds_toArray, List.set_cons_zero, List.set_cons_succ]
          refine tk_at (i := 5) (d := some 32) (v := ?_) rfl rfl (by kernel_rfl) (by kernel_rfl) (by kernel_rfl) (fun _ _ _ h => h) (Or.inl ⟨by rfl, ?_⟩) (by assumption) ?_
          rotate_left
          · (intro w hSw; (try dsimp only at hSw); go_simp; try (with_reducible rfl))
          simp only [Act.put, List.setIfInBounds_toArray, List.set_cons_zero, List.set_cons_succ]
          refine tk_at (i := 6) (d := some 33) (v := ?_) rfl rfl (by kernel_rfl) (by kernel_rfl) (by kernel_rfl) (fun _ _ _ h => h) (Or.inl ⟨by rfl, ?_⟩) (by assumption) ?_
          rotate_left
          · (intro w hSw; (try dsimp only at hSw); go_simp; try (with_reducible rfl))
          simp only [Act.put, List.setIfInBounds_toArray, List.set_cons_zero, List.set_cons_succ]
          refine tk_at (i := 7) (d := some 34) (v := ?_) rfl rfl (by kernel_rfl) (by kernel_rfl) (by kernel_rfl) (fun _ _ _ h => h) (Or.inl ⟨by rfl, ?_⟩) (by assumption) ?_
          rotate_left
          · (intro w hSw; (try dsimp only at hSw); go_simp; try (with_reducible rfl))
          simp only [Act.put, List.setIfInBounds_toArray, List.set_cons_zero, List.set_cons_succ]
          refine tk_at (i := 8) (d := some 35) (v := ?_) rfl rfl (by kernel_rfl) (by kernel_rfl) (by kernel_rfl) (fun _ _ _ h => h) (Or.inl ⟨by rfl, ?_⟩) (by assumption) ?_
          rotate_left
          · (intro w hSw; (try dsimp only at hSw); go_simp; try (with_reducible rfl))
          simp only [Act.put, List.setIfInBounds_toArray, List.set_cons_zero, List.set_cons_succ]
          refine tk_at (i := 9) (d := some 36) (v := ?_) rfl rfl (by kernel_rfl) (by kernel_rfl) (by kernel_rfl) (fun _ _ _ h => h) (Or.inl ⟨by rfl, ?_⟩) (by assumption) ?_
          rotate_left
          · (intro w hSw; (try dsimp only at hSw); go_simp; try (with_reducible rfl))
          simp only [Act.put, List.setIfInBounds_toArray, List.set_cons_zero, List.set_cons_succ]
          refine tk_at (i := 10) (d := some 37) (v := ?_) rfl rfl (by kernel_rfl) (by kernel_rfl) (by kernel_rfl) (fun _ _ _ h => h) (Or.inl ⟨by rfl, ?_⟩) (by assumption) ?_
          rotate_left
          · (intro w hSw; (try dsimp only at hSw); go_simp; try (with_reducible rfl))
          simp only [Act.put, List.setIfInBounds_toArray, List.set_cons_zero, List.set_cons_succ]
          refine tk_at (i := 11) (d := some 38) (v := ?_) rfl rfl (by kernel_rfl) (by kernel_rfl) (by kernel_rfl) (fun _ _ _ h => h) (Or.inl ⟨by rfl, ?_⟩) (by assumption) ?_
          rotate_left
          · (intro w hSw; (try dsimp only at hSw); go_simp; try (with_reducible rfl))
          simp only [Act.put, List.setIfInBounds_toArray, List.set_cons_zero, List.set_cons_succ]
          clear hHeld
          refine wpAnyH_inv0 (fun aC0 lsC aC wC => ∃ (b12 b13 b14 b15 b16 b17 b18 : Bool) (pp x12 x13 x14 x15 x18 : Value), lsC = #[true, true, true, true, true, true, true, true, true, true, true, true, b12, b13, b14, b15, b16, b17, b18] ∧ aC = { aC0 with tmps := ((((((aC0.tmps.setIfInBounds 39 x12).setIfInBounds 26 x13).setIfInBounds 40 x14).setIfInBounds 41 x15).setIfInBounds 8 x18).setIfInBounds 7 pp) } ∧ (b12 = true → x12 = .tuple #[.agg #[.int .u32 (a : Int), .int .u32 (b : Int)], .bool u]) ∧ (b13 = true → x13 = .tuple #[.agg #[.int .u32 (a : Int), .int .u32 (b : Int)], .bool u]) ∧ (b14 = true → x14 = .agg #[.int .u32 (a : Int), .int .u32 (b : Int)]) ∧ (b15 = true → x15 = .bool u) ∧ (b18 = true → x18 = .bool u) ∧ Below wr.heap.size wr wC ∧ OwnC wr wC b16 b17 pp #[.int .u32 0, .int .u32 0] #[.int .u32 (a : Int), .int .u32 (b : Int)] 47 ∧ (b16 || !b17) = true) ?_ _ _ _ (by decide +kernel) (fun aS => ⟨false, false, false, false, false, false, false, aS.tmps.getD 7 undef, aS.tmps.getD 39 undef, aS.tmps.getD 26 undef, aS.tmps.getD 40 undef, aS.tmps.getD 41 undef, aS.tmps.getD 8 undef, by kernel_rfl, by simp only [set_self], fun h => (by cases h), fun h => (by cases h), fun h => (by cases h), fun h => (by cases h), fun h => (by cases h), blw_drew (Below.refl _ _), OwnC.none, rfl⟩)
          intro lsC aC wC ⟨b12, b13, b14, b15, b16, b17, b18, pp, x12, x13, x14, x15, x18, hl, ha, hx12, hx13, hx14, hx15, hx18, hBw, hpp, hcc⟩
          subst hl ha
          have Hx12 := hid hx12
          have Hx13 := hid hx13
          have Hx14 := hid hx14
          have Hx15 := hid hx15
          have Hx18 := hid hx18
          have HBW := hid hBw
          have HPP := hid hpp
          have HCC := hid hcc
          clear hx12 hx13 hx14 hx15 hx18 hBw hpp hcc
          simp only [List.setIfInBounds_toArray, List.set_cons_zero, List.set_cons_succ]
          refine ⟨fun hr => ?_, fun i hi => ?_⟩
          · have hall : (b12 && b13 && b14 && b15 && b16 && b17 && b18) = true := by
              clear Hx12 Hx13 Hx14 Hx15 Hx18 HBW HPP HCC
              revert b12 b13 b14 b15 b16 b17 b18
              decide +kernel
            simp only [Bool.and_eq_true] at hall
            obtain ⟨⟨⟨⟨⟨⟨rfl, rfl⟩, rfl⟩, rfl⟩, rfl⟩, rfl⟩, rfl⟩ := hall
            obtain ⟨z, rfl, hz1, hz2⟩ := HPP.out rfl
            obtain rfl := Hx12.out rfl
            obtain rfl := Hx13.out rfl
            obtain rfl := Hx14.out rfl
            obtain rfl := Hx15.out rfl
            obtain rfl := Hx18.out rfl
            have HR := hid (And.intro hz1 (And.intro hz2 HBW.out))
            clear hz1 hz2 Hx12 Hx13 Hx14 Hx15 Hx18 HBW HPP HCC hr
            (try dsimp only)
            go_wp2_with fail
            go_meet
            case rel => exact ⟨rfl, z, rfl, HR.out.1, HR.out.2.1, HR.out.2.2⟩
          · have hcase : (i = 12 ∧ b12 = false) ∨ (i = 13 ∧ b13 = false ∧ b12 = true) ∨ (i = 14 ∧ b14 = false ∧ b13 = true) ∨ (i = 15 ∧ b15 = false ∧ b13 = true) ∨ (i = 18 ∧ b18 = false ∧ b15 = true ∧ b17 = true) ∨ (i = 16 ∧ b16 = false) ∨ (i = 17 ∧ b17 = false ∧ b16 = true ∧ b14 = true) := by
              refine of_decide_eq_true ((List.all_eq_true (p := fun i => decide ((i = 12 ∧ b12 = false) ∨ (i = 13 ∧ b13 = false ∧ b12 = true) ∨ (i = 14 ∧ b14 = false ∧ b13 = true) ∨ (i = 15 ∧ b15 = false ∧ b13 = true) ∨ (i = 18 ∧ b18 = false ∧ b15 = true ∧ b17 = true) ∨ (i = 16 ∧ b16 = false) ∨ (i = 17 ∧ b17 = false ∧ b16 = true ∧ b14 = true)))).1 ?_ i hi)
              clear Hx12 Hx13 Hx14 Hx15 Hx18 HBW HPP HCC hi
              revert b12 b13 b14 b15 b16 b17 b18
              decide +kernel
            clear hi
            rcases hcase with ⟨rfl, rfl⟩ | ⟨rfl, rfl, rfl⟩ | ⟨rfl, rfl, rfl⟩ | ⟨rfl, rfl, rfl⟩ | ⟨rfl, rfl, rfl, rfl⟩ | ⟨rfl, rfl⟩ | ⟨rfl, rfl, rfl, rfl⟩
            · refine wpOp_shut rfl (fun K hK => ?_)
              go_simp
              refine (HSP.out _).mono ?_
              rintro e wa ⟨rfl, hBa⟩
              have HBa := hid hBa
              clear hBa
              go_wp2_with fail
              have hB3 := belowCat HBW.out HBa.out
              exact hK.out _ _ ⟨KB.out _ hB3, true, b13, b14, b15, b16, b17, b18, _, _, _, _, _, _, by kernel_rfl, rfl, fun _ => rfl, Hx13.out, Hx14.out, Hx15.out, Hx18.out, hB3, HPP.out.below HBa.out, HCC.out⟩
            · obtain rfl := Hx12.out rfl
              refine wpOp_shut rfl (fun K hK => ?_)
              go_simp
              go_wp2_with fail
              exact hK.out _ _ ⟨KB.out _ HBW.out, true, true, b14, b15, b16, b17, b18, _, _, _, _, _, _, by kernel_rfl, rfl, fun _ => rfl, fun _ => rfl, Hx14.out, Hx15.out, Hx18.out, HBW.out, HPP.out, HCC.out⟩
            · obtain rfl := Hx13.out rfl
              refine wpOp_shut rfl (fun K hK => ?_)
              go_simp
              go_wp2_with fail
              exact hK.out _ _ ⟨KB.out _ HBW.out, b12, true, true, b15, b16, b17, b18, _, _, _, _, _, _, by kernel_rfl, rfl, Hx12.out, fun _ => rfl, fun _ => rfl, Hx15.out, Hx18.out, HBW.out, HPP.out, HCC.out⟩
            · obtain rfl := Hx13.out rfl
              refine wpOp_shut rfl (fun K hK => ?_)
              go_simp
              go_wp2_with fail
              exact hK.out _ _ ⟨KB.out _ HBW.out, b12, true, b14, true, b16, b17, b18, _, _, _, _, _, _, by kernel_rfl, rfl, Hx12.out, fun _ => rfl, Hx14.out, fun _ => rfl, Hx18.out, HBW.out, HPP.out, HCC.out⟩
            · obtain rfl := Hx15.out rfl
              refine wpOp_shut rfl (fun K hK => ?_)
              go_simp
              go_wp2_with fail
              exact hK.out _ _ ⟨KB.out _ HBW.out, b12, b13, b14, true, b16, true, true, _, _, _, _, _, _, by kernel_rfl, rfl, Hx12.out, Hx13.out, Hx14.out, fun _ => rfl, fun _ => rfl, HBW.out, HPP.out, HCC.out⟩
            · obtain rfl : b17 = false := by have := HCC.out; revert this; cases b17 <;> simp
              refine wpOp_shut rfl (fun K hK => ?_)
              go_simp
              go_wp2_with fail
              have hBa := (Below.refl wC.heap.size wC).alloc (Nat.le_refl _) (.cells #[.int .u32 0, .int .u32 0] 47 (0, 0))
              have hB3 := belowCat HBW.out hBa
              exact hK.out _ _ ⟨KB.out _ hB3, b12, b13, b14, b15, true, false, b18, _, _, _, _, _, _, by kernel_rfl, rfl, Hx12.out, Hx13.out, Hx14.out, Hx15.out, Hx18.out, hB3, OwnC.new HBW.out, rfl⟩
            · obtain ⟨z, rfl, hz1, hz2⟩ := HPP.out rfl
              obtain rfl := Hx14.out rfl
              have c0 := cell_of_heap (i := 0) hz2 rfl
              have c1 := cell_of_heap (i := 1) hz2 rfl
              have g0 := frozen_of_heap (i := 0) hz2
              have g1 := frozen_of_heap (i := 1) hz2
              have HZ := hid (And.intro hz1 hz2)
              clear hz1 hz2
              refine wpOp_shut rfl (fun K hK => ?_)
              go_simp
              go_wp2_with fail
              exact hK.out _ _ ⟨KB.out _ ((HBW.out.setCell (p := ⟨z, 0, none⟩) HZ.out.1 _).setCell (p := ⟨z, 1, none⟩) HZ.out.1 _), b12, b13, true, b15, true, true, b18, _, _, _, _, _, _, by kernel_rfl, rfl, Hx12.out, Hx13.out, fun _ => rfl, Hx15.out, Hx18.out, ((HBW.out.setCell (p := ⟨z, 0, none⟩) HZ.out.1 _).setCell (p := ⟨z, 1, none⟩) HZ.out.1 _), fun _ => ⟨z, rfl, HZ.out.1, set2 HZ.out.2⟩, rfl⟩
        case rest =>
          obtain ⟨rfl, z, rfl, hz1, hz2, hBc⟩ := hcut
          have KC := hid (K3.out _ hBc)
          have HZC := hid hz2
          have BC := hid (belowCat HB.out hBc)
          have HOC := hid (owns_below HO.out hBc)
          have kg := KC.out.1
          have kq := KC.out.2
          clear hz1 hz2 hBc KB K3 HSP
          obtain ⟨Q, hQ⟩ : ∃ Q, clV (bs r2) = Q := ⟨_, rfl⟩
          have HQ := hid hQ
          have HNU := hid (show ∀ w, Calls Tryz.prog 60 #[.string r2] w fun e w' => e = .returned (.int .i64 ((Q.getD 0 : Nat) : Int)) ∧ Below w.heap.size w w' from fun w => (number_any r2 w HS2.out).mono fun e w' h => ⟨by rw [h.1, hQ], by rw [h.2]; exact Below.refl _ _⟩)
          rw [hQ] at HE
          clear hQ
          go_wp2_with fail
          refine (HNU.out _).mono ?_
          rintro e w5 ⟨rfl, hB5⟩
          have B5 := hid (belowCat BC.out hB5)
          have HO5 := hid (owns_below HOC.out hB5)
          have HZ5 := hid ((hB5.block _ (lt_of_heap HZC.out)).trans HZC.out)
          clear hB5 kg kq HOC HZC KC HNU
          cases Q with
          | none =>
            have HE2 := hid (rsV_end (rsV_none HR.out (by rw [HRR.out, HE.out]; cases u <;> rfl)) (show k + 1 ≤ N by omega))
            rw [show (((none : Option Nat).getD 0 : Nat) : Int) = 0 from rfl]
            cases u with
            | false =>
              go_wp2_with fail
              go_quiet (fail)
              go_wp2
              exact bodyPost_ret (v := .tuple #[.slice none 0 0, .int .i64 ((k + 1 : Nat) : Int)]) (by simp [results, Tryz.results32, go_sem]) rfl
                ⟨none, 0, k + 1, [], rfl, HE2.out, World.ownsRow_nil _ _ _ _, by repeat (first | exact belowCat B1.out (belowDN B5.out _) | refine blw_drew ?_ | refine blw_alloc ?_)⟩
            | true =>
              go_wp2_with fail
              go_quiet (fail)
              go_wp2
              exact bodyPost_ret (v := .tuple #[.slice none 0 0, .int .i64 ((k + 1 : Nat) : Int)]) (by simp [results, Tryz.results32, go_sem]) rfl
                ⟨none, 0, k + 1, [], rfl, HE2.out, World.ownsRow_nil _ _ _ _, by repeat (first | exact belowCat B1.out (belowDN B5.out _) | refine blw_drew ?_ | refine blw_alloc ?_)⟩
          | some n =>
            have e0 : ((n : Int) == 0) = false := by have := clV_pos HQ.out; simp; omega
            rw [show (((some n : Option Nat).getD 0 : Nat) : Int) = (n : Int) from rfl]
            have hn2 : n ≤ 1114111 := Nat.le_trans (clV_le HQ.out) (by decide)
            cases u with
            | false =>
              have HE2 := hid (rsV_end (rsV_none HR.out (by rw [HRR.out, HE.out]; rfl)) (show k + 1 ≤ N by omega))
              go_wp2_with fail
              go_quiet (fail)
              go_wp2
              exact bodyPost_ret (v := .tuple #[.slice none 0 0, .int .i64 ((k + 1 : Nat) : Int)]) (by simp [results, Tryz.results32, go_sem]) rfl
                ⟨none, 0, k + 1, [], rfl, HE2.out, World.ownsRow_nil _ _ _ _, by repeat (first | exact belowCat B1.out (belowDN B5.out _) | refine blw_drew ?_ | refine blw_alloc ?_)⟩
            | true =>
              have HSO := hid (show wtOf (L.getD k []) = some ⟨a, b, [.int .u32 (n : Int)]⟩ from by rw [HRR.out, HE.out]; rfl)
              by_cases hk0 : 0 < k
              · obtain ⟨m, hm⟩ : ∃ m, k = m + 1 := ⟨k - 1, by omega⟩
                have hil := rsV_len HR.out
                have hpm := rsV_some HR.out (its[its.length - 1]'(by omega)) (List.getElem_mem (by omega))
                have hfl := fitV_last (bh := upW) (x := ⟨a, b, [.int .u32 (n : Int)]⟩) (show 0 < its.length by omega)
                obtain ⟨g2, hg2, _, _, hgc⟩ := owns_cell HO5.out hk0
                subst hg2
                have hsz : ∀ i ∈ its, (rgC i).size = 3 := fun i hi => by obtain ⟨j, _, hj⟩ := rsV_some HR.out i hi; exact wtC_size hj
                have hrow := rowC_at hsz (k := m) (j := 1) (by omega) (by decide)
                have h2 : ∀ (x y : Nat) (hx : x < its.length) (hy : y < its.length), x = y → its[x] = its[y] := fun x y _ _ e => by subst e; rfl
                rw [h2 m (its.length - 1) (by omega) (by omega) (by omega)] at hrow
                obtain ⟨p, hp⟩ : ∃ p, its[its.length - 1]'(by omega) = p := ⟨_, rfl⟩
                rw [hp] at hpm hfl hrow
                obtain ⟨_, _, hpo⟩ := hpm
                obtain ⟨pa, pb, pr⟩ := p
                obtain ⟨hpa, hpb, pn, hpn, hpr⟩ := wtOf_r hpo
                simp only at hpa hpb hpr
                subst hpr
                have cp : w5.cell? ⟨g2, m * 3 + 1, none⟩ = some (.int .u32 (pb : Int)) := hgc _ _ hrow
                have cz : w5.cell? ⟨z, 0, none⟩ = some (.int .u32 (a : Int)) := cell_of_heap HZ5.out rfl
                have hwm : IntKind.i64.wrap (m : Int) = (m : Int) := by rw [IntKind.wrap_i64]; omega
                have hq0 : (m : Int) < (m : Int) + 1 := by omega
                have hq1 : (0 : Int) < (m : Int) + 1 := by omega
                have HFL := hid hfl
                have HMN := hid (show m + 1 + 1 ≤ N from by omega)
                have hm6 : m ≤ 1000000 := by omega
                subst hm
                clear hil hpm hfl hgc hsz hrow h2 hp hpo hpa hpn hk hk0 hlt
                by_cases hF : pb < a
                · have hFF : ((a : Int) ≤ (pb : Int)) = False := eq_false (by omega)
                  have HE3 := hid (rsV_next HR.out HSO.out (by rw [HFL.out]; exact decide_eq_true hF))
                  clear hF
                  go_wp2_with fail
                  go_quiet (fail)
                  have BQ := hid (belowDN B5.out nq)
                  have HOQ := hid (show (w5.drewN nq).ownsRow w1.heap.size 104 3 (.slice (some ⟨g2, 0, none⟩) (m + 1) cap) (m + 1) (rowC rgC its) from HO5.out)
                  have HZQ := hid (show (w5.drewN nq).heap[z]? = some (.cells #[.int .u32 (a : Int), .int .u32 (b : Int)] 47 (0, 0)) from HZ5.out)
                  obtain ⟨wq, hwq⟩ : ∃ y, w5.drewN nq = y := ⟨_, rfl⟩
                  rw [hwq] at BQ HOQ HZQ ⊢
                  clear hwq B5 HO5 HZ5
                  have c0 : wq.cell? ⟨z, 0, none⟩ = some (.int .u32 (a : Int)) := cell_of_heap HZQ.out rfl
                  have c1 : wq.cell? ⟨z, 1, none⟩ = some (.int .u32 (b : Int)) := cell_of_heap HZQ.out rfl
                  have HOC := hid (show (wq.alloc (.cells #[.int .u32 (a : Int), .int .u32 (b : Int), .int .u32 (n : Int)] 104)).ownsRow w1.heap.size 104 3 (.slice (some ⟨g2, 0, none⟩) (m + 1) cap) (m + 1) (rowC rgC its) from owns_below HOQ.out ((Below.refl _ _).alloc (Nat.le_refl _) _))
                  have BC7 := hid (show Below w1.heap.size w1 (wq.alloc (.cells #[.int .u32 (a : Int), .int .u32 (b : Int), .int .u32 (n : Int)] 104)) from blw_alloc BQ.out)
                  have HOB := hid (show ∀ j, (Value.slice (some ⟨g2, 0, none⟩) (m + 1) cap).ownBlock = some j → w1.heap.size ≤ j from fun j hj => (HOC.out.lt j hj).1)
                  go_wp2_with (at_builtin; refine wpList_append_lies _ rfl (.tmp 73) (.tmp 78) 25 rfl w1.heap.size 104 i0 _ 3 12 Tryz.underlying25 hi hz0 hz1 hz2 rfl (by decide) (.slice (some ⟨g2, 0, none⟩) (m + 1) cap) (m + 1) (rowC rgC its) rfl HOC.out ⟨wq.heap.size, 0, none⟩ 1 1 [.int .u32 (a : Int), .int .u32 (b : Int), .int .u32 (n : Int)] rfl rfl ?c1 ?c2 (by decide) ?c3 ?c4 ?c5 _ rfl ?_)
                  case c1 => exact World.news_of_block (heap_alloc_at _ _)
                  case c2 => intro u hu; simp only [List.mem_cons, List.not_mem_nil, or_false] at hu; rcases hu with rfl | rfl | rfl <;> rfl
                  case c3 => unfold maxLen; omega
                  case c4 => omega
                  case c5 => exact BC7.out.size
                  intro g7 cap7 w7 hown' hgrow hat hlt2
                  have HO7 := hid (show w7.ownsRow w1.heap.size 104 3 (.slice (some ⟨g7, 0, none⟩) (m + 1 + 1) cap7) (m + 1 + 1) (rowC rgC (its ++ [⟨a, b, [.int .u32 (n : Int)]⟩])) from by rw [rowC_snoc]; exact hown')
                  have B7 := hid (BC7.out.grown hgrow BC7.out.size HOB.out)
                  clear hown' hgrow hat hlt2 c0 c1 hn2 e0 e3
                  (try clear hFF hwm hq0 hq1)
                  go_wp2
                  go_roundw
                  case rel => exact ⟨m + 1 + 1, cap7, some ⟨g7, 0, none⟩, its ++ [⟨a, b, [.int .u32 (n : Int)]⟩], HMN.out, by go_num, rfl, HE3.out, HO7.out, B7.out⟩
                  case measure => have := HMN.out; simp [intOf]; omega
                · have hFF : (a : Int) ≤ (pb : Int) := by omega
                  have HE3 := hid (rsV_end (rsV_bad HR.out HSO.out (by rw [HFL.out]; exact decide_eq_false hF)) HMN.out)
                  clear hF
                  go_wp2_with fail
                  go_quiet (fail)
                  go_wp2
                  exact bodyPost_ret (v := .tuple #[.slice none 0 0, .int .i64 ((m + 1 + 1 : Nat) : Int)]) (by simp [results, Tryz.results32, go_sem]) rfl
                    ⟨none, 0, m + 1 + 1, [], rfl, HE3.out, World.ownsRow_nil _ _ _ _, by repeat (first | exact belowCat B1.out (belowDN B5.out _) | refine blw_drew ?_ | refine blw_alloc ?_)⟩
              · obtain rfl : k = 0 := by omega
                have HE3 := hid (rsV_next HR.out HSO.out (by rw [List.length_eq_zero_iff.1 (rsV_len HR.out)]; rfl))
                have HMN := hid (show 0 + 1 ≤ N from by omega)
                clear hk hk0
                go_wp2_with fail
                go_quiet (fail)
                have BQ := hid (belowDN B5.out nq)
                have HOQ := hid (show (w5.drewN nq).ownsRow w1.heap.size 104 3 (.slice ad 0 cap) 0 (rowC rgC its) from HO5.out)
                have HZQ := hid (show (w5.drewN nq).heap[z]? = some (.cells #[.int .u32 (a : Int), .int .u32 (b : Int)] 47 (0, 0)) from HZ5.out)
                obtain ⟨wq, hwq⟩ : ∃ y, w5.drewN nq = y := ⟨_, rfl⟩
                rw [hwq] at BQ HOQ HZQ ⊢
                clear hwq B5 HO5 HZ5
                have c0 : wq.cell? ⟨z, 0, none⟩ = some (.int .u32 (a : Int)) := cell_of_heap HZQ.out rfl
                have c1 : wq.cell? ⟨z, 1, none⟩ = some (.int .u32 (b : Int)) := cell_of_heap HZQ.out rfl
                have HOC := hid (show (wq.alloc (.cells #[.int .u32 (a : Int), .int .u32 (b : Int), .int .u32 (n : Int)] 104)).ownsRow w1.heap.size 104 3 (.slice ad 0 cap) 0 (rowC rgC its) from owns_below HOQ.out ((Below.refl _ _).alloc (Nat.le_refl _) _))
                have BC7 := hid (show Below w1.heap.size w1 (wq.alloc (.cells #[.int .u32 (a : Int), .int .u32 (b : Int), .int .u32 (n : Int)] 104)) from blw_alloc BQ.out)
                have HOB := hid (show ∀ j, (Value.slice ad 0 cap).ownBlock = some j → w1.heap.size ≤ j from fun j hj => (HOC.out.lt j hj).1)
                go_wp2_with (at_builtin; refine wpList_append_lies _ rfl (.tmp 73) (.tmp 78) 25 rfl w1.heap.size 104 i0 _ 3 12 Tryz.underlying25 hi hz0 hz1 hz2 rfl (by decide) (.slice ad 0 cap) 0 (rowC rgC its) rfl HOC.out ⟨wq.heap.size, 0, none⟩ 1 1 [.int .u32 (a : Int), .int .u32 (b : Int), .int .u32 (n : Int)] rfl rfl ?c1 ?c2 (by decide) ?c3 ?c4 ?c5 _ rfl ?_)
                case c1 => exact World.news_of_block (heap_alloc_at _ _)
                case c2 => intro u hu; simp only [List.mem_cons, List.not_mem_nil, or_false] at hu; rcases hu with rfl | rfl | rfl <;> rfl
                case c3 => unfold maxLen; omega
                case c4 => omega
                case c5 => exact BC7.out.size
                intro g7 cap7 w7 hown' hgrow hat hlt2
                have HO7 := hid (show w7.ownsRow w1.heap.size 104 3 (.slice (some ⟨g7, 0, none⟩) (0 + 1) cap7) (0 + 1) (rowC rgC (its ++ [⟨a, b, [.int .u32 (n : Int)]⟩])) from by rw [rowC_snoc]; exact hown')
                have B7 := hid (BC7.out.grown hgrow BC7.out.size HOB.out)
                clear hown' hgrow hat hlt2 c0 c1 hn2 e0 e3
                (try clear hFF hwm hq0 hq1)
                go_wp2
                go_roundw
                case rel => exact ⟨0 + 1, cap7, some ⟨g7, 0, none⟩, its ++ [⟨a, b, [.int .u32 (n : Int)]⟩], HMN.out, by go_num, rfl, HE3.out, HO7.out, B7.out⟩
                case measure => have := HMN.out; simp [intOf]; omega
      · have e3 : ((R.length : Int) != 3) = true := by simp; omega
        have HE := hid (rsV_end (rsV_none HR.out (by rw [HRR.out]; exact wtOf_no h3)) (show k + 1 ≤ N by omega))
        clear h3 hq
        go_wp2
        exact bodyPost_ret (v := .tuple #[.slice none 0 0, .int .i64 ((k + 1 : Nat) : Int)]) (by simp [results, Tryz.results32, go_sem]) rfl
          ⟨none, 0, k + 1, [], rfl, HE.out, World.ownsRow_nil _ _ _ _, by repeat (first | exact belowCat B1.out HB.out | refine blw_drew ?_ | refine blw_alloc ?_)⟩
    · have hke : k = N := by omega
      subst hke
      have hil := rsV_len HR.out
      have HIL := hid hil
      clear hr hown hB hil
      go_wp2
      exact bodyPost_ret (v := .tuple #[.slice ad k cap, .int .i64 0]) (by simp [results, Tryz.results32, go_sem]) rfl
        ⟨ad, cap, 0, its, by rw [HIL.out]; rfl, HR.out, by rw [HIL.out]; exact owns_base HO.out B1.out.size, belowCat B1.out HB.out⟩
end Go.Proofs.YtgalmlelnolodaaGreatDoor
