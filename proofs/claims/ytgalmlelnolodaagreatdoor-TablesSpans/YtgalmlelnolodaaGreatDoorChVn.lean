/- The contract of the document's Sets, over this seat's translation. Conditions: a text's size. -/
import Derived.Test.YtgalmlelnolodaaGreatDoorChWr
import Derived.Test.YtgalmlelnolodaaGreatDoorChVr
import Derived.BigQuiet
namespace Go.Proofs.YtgalmlelnolodaaGreatDoor
open Go.RowKit
set_option linter.unusedVariables false

theorem OutS.blocks {w : World} {lo base g q n rc : Nat} {cap : Nat} {L : List (List ByteArray)} {vs : List Value} (o : OutS w lo base (.slice (some ⟨g, 0, none⟩) n cap) L vs) (hn : n = L.length) (i : Nat) (h : i < L.length) {v : Nat} (hc : w.cell? ⟨g, i, none⟩ = some (.slice (some ⟨q, 0, none⟩) v rc)) :
    (∃ cs, w.heap[g]? = some (.cells cs 45 (0, 0))) ∧ ∃ cs, w.heap[q]? = some (.cells cs 9 (0, 0)) := by
  subst hn
  obtain ⟨g', h1, _, _, h2⟩ := owns_cell o.own (by omega)
  cases h1
  obtain ⟨r, h3, q', rc', cs, rfl, _, h5, h6⟩ := o.row i h
  have := (h2 i _ h3).symm.trans hc
  cases this
  exact ⟨rowB o.own rfl, cs, h5⟩
set_option maxRecDepth 2000 in
set_option maxHeartbeats 3200000 in
theorem rsets_any (s : ByteArray) (w : World) (hs : s.size ≤ 1000000) :
    Calls Tryz.prog 35 #[.string s] w fun e w' => ∃ (ad : Option Addr) (cap at_ : Nat) (its : List It),
      e = .returned (.tuple #[.slice ad its.length cap, .int .i64 (at_ : Int)]) ∧ rsV nmOf anyW (lwV s) (lwV s).length = (its, at_) ∧ w'.ownsRow w.heap.size 110 3 (.slice ad its.length cap) its.length (rowC nmC its) ∧ Below w.heap.size w w' := by
  obtain ⟨i0, hi, hz0, hz1, hz2⟩ := info_parts infoNamed
  have HL := hid (rlines_any s w hs)
  have HLN := hid (lwV_cap s)
  have HWZ := hid (lwV_words s)
  obtain ⟨L, hL⟩ : ∃ L, lwV s = L := ⟨_, rfl⟩
  rw [hL] at HL HLN HWZ ⊢
  obtain ⟨N, hN⟩ : ∃ N, L.length = N := ⟨_, rfl⟩
  rw [hN] at HL HLN ⊢
  have HN := hid hN
  have hN6 : N ≤ 1000001 := by have := HLN.out; omega
  have HZ := hid (show ∀ i j, (wd (L.getD i []) j).size ≤ 4000000000 from fun i j => Nat.le_trans (HWZ.out i j) (by omega))
  clear HWZ HLN hL hN hs
  go_enter Tryz.func35, Tryz.ntmps35
  go_wp2_with fail
  refine HL.out.mono ?_
  rintro e w1 ⟨ad1, cap1, vs, rfl, hol, hB1⟩
  have OL := hid hol
  have B1 := hid hB1
  clear hol hB1 HL
  go_wp2_with fail
  go_loopw [4, 6] (fun o i wr => ∃ (k cap : Nat) (ad : Option Addr) (its : List It), k ≤ N ∧ i = .int .i64 (k : Int) ∧ o = .slice ad k cap ∧ rsV nmOf anyW L k = (its, 0) ∧ wr.ownsRow w1.heap.size 110 3 (.slice ad k cap) k (rowC nmC its) ∧ Below w1.heap.size w1 wr) (fun _ i _ => N - (intOf i).toNat)
  case atStart => exact ⟨0, 0, none, [], Nat.zero_le _, rfl, rfl, rfl, World.ownsRow_nil _ _ _ _, Below.refl _ _⟩
  case round =>
    obtain ⟨k, cap, ad, its, hk, rfl, rfl, hr, hown, hB⟩ := hrel
    have HR := hid hr
    have HO := hid hown
    have HB := hid hB
    by_cases hlt : k < N
    · obtain ⟨g, q, rc, rfl, hg, hq⟩ := (OL.out.below hB).at HN.out.symm k (by rw [HN.out]; exact hlt)
      have HZK := hid (HZ.out k)
      obtain ⟨R, hRR⟩ : ∃ R, L.getD k [] = R := ⟨_, rfl⟩
      have HRR := hid hRR
      rw [hRR] at hg hq HZK
      clear hr hown hB hRR
      obtain ⟨⟨csg, hbg⟩, csq, hbq⟩ := (OL.out.below HB.out).blocks HN.out.symm k (by rw [HN.out]; exact hlt) hg
      have HBG := hid hbg
      have HBQ := hid hbq
      clear hbg hbq
      have HAL := hid (fun (r : ByteArray) (w : World) (h : r.size ≤ 4000000000) => all_any r 65 90 1 10 w h (by decide) (by decide) (by decide) (by decide))
      by_cases h3 : R.length = 3
      · have hE := nmOf_3 h3
        rw [h3] at hg hq
        have k0 := hq 0 (by decide)
        have k1 := hq 1 (by decide)
        have k2 := hq 2 (by decide)
        obtain ⟨r0, h0⟩ : ∃ r, wd R 0 = r := ⟨_, rfl⟩
        obtain ⟨r1, h1⟩ : ∃ r, wd R 1 = r := ⟨_, rfl⟩
        obtain ⟨r2, h2⟩ : ∃ r, wd R 2 = r := ⟨_, rfl⟩
        rw [h0] at k0
        rw [h1] at k1
        rw [h2] at k2
        have HS0 := hid (show r0.size ≤ 4000000000 from by rw [← h0]; exact HZK.out 0)
        have HS1 := hid (show r1.size ≤ 4000000000 from by rw [← h1]; exact HZK.out 1)
        have HS2 := hid (show r2.size ≤ 4000000000 from by rw [← h2]; exact HZK.out 2)
        rw [h0, h1, h2] at hE
        have hnm : (alV 65 90 (bs r0) && decide (1 ≤ r0.size ∧ r0.size ≤ 10)) = nmV 10 (bs r0) := by unfold nmV; rw [bs_len, Bool.and_comm]
        obtain ⟨M, hM⟩ : ∃ M, nmV 10 (bs r0) = M := ⟨_, rfl⟩
        rw [hM] at hE hnm
        have HA0 := hid (show ∀ w, Calls Tryz.prog 59 #[.string r0, .int .u8 65, .int .u8 90, .int .i64 1, .int .i64 10] w fun e w' => e = .returned (.bool M) ∧ w' = w from fun w => (HAL.out r0 w HS0.out).mono fun e w' h => ⟨by rw [h.1, hnm], h.2⟩)
        have HE := hid hE
        have e3 : (((3 : Nat) : Int) != 3) = false := by decide
        clear hE h0 h1 h2 h3 hq hnm hM HAL
        cases M with
        | false =>
          have HE2 := hid (rsV_end (rsV_none HR.out (by rw [HRR.out, HE.out]; rfl)) (show k + 1 ≤ N by omega))
          go_wp2_with fail
          refine (HA0.out _).mono ?_
          rintro e w' ⟨rfl, rfl⟩
          go_wp2
          exact bodyPost_ret (v := .tuple #[.slice none 0 0, .int .i64 ((k + 1 : Nat) : Int)]) (by simp [results, Tryz.results35, go_sem]) rfl
            ⟨none, 0, k + 1, [], rfl, HE2.out, World.ownsRow_nil _ _ _ _, by repeat (first | exact belowCat B1.out HB.out | refine blw_drew ?_ | refine blw_alloc ?_)⟩
        | true =>
          obtain ⟨O, hO⟩ : ∃ O, spV (bs r1) (bs r2) = O := ⟨_, rfl⟩
          obtain ⟨a, ha⟩ : ∃ a, (O.getD (0, 0)).1 = a := ⟨_, rfl⟩
          obtain ⟨b, hb⟩ : ∃ b, (O.getD (0, 0)).2 = b := ⟨_, rfl⟩
          obtain ⟨u, hu⟩ : ∃ u, O.isSome = u := ⟨_, rfl⟩
          have HSP := hid (show ∀ w, Calls Tryz.prog 58 #[.string r1, .string r2] w fun e w' => e = .returned (.tuple #[.agg #[.int .u32 (a : Int), .int .u32 (b : Int)], .bool u]) ∧ Below w.heap.size w w' from fun w => (rspan_any _ _ w HS1.out HS2.out).mono fun e w' h => ⟨by rw [h.1, hO, ← ha, ← hb, ← hu], h.2⟩)
          have hOE : O = if u = true then some (a, b) else none := by cases O with | none => subst hu; rfl | some p => subst hu ha hb; rfl
          have hE := HE.out
          rw [hO, hOE] at hE
          have HE := hid hE
          have K3 := hid (show ∀ w', Below wr.heap.size wr w' → w'.cell? ⟨g, k, none⟩ = some (.slice (some ⟨q, 0, none⟩) 3 rc) ∧ w'.cell? ⟨q, 0, none⟩ = some (.string r0) from fun w' hb' => ⟨cell_later hb' hg, cell_later hb' k0⟩)
          have KB := hid (show ∀ w', Below wr.heap.size wr w' → w'.cell? ⟨g, k, none⟩ = some (.slice (some ⟨q, 0, none⟩) 3 rc) ∧ w'.cell? ⟨q, 1, none⟩ = some (.string r1) ∧ w'.cell? ⟨q, 2, none⟩ = some (.string r2) from fun w' hb' => ⟨cell_later hb' hg, cell_later hb' k1, cell_later hb' k2⟩)
          clear hE hO hOE ha hb hu
          go_wp2_with fail
          refine (HA0.out _).mono ?_
          rintro e w' ⟨rfl, rfl⟩
          go_upto_region 8 with fail
          clear hg k0 k1 k2
          go_cut [7, 8] from 35 to 50 (fun p o wx => o = .bool u ∧ ∃ z, p = .pointer (some ⟨z, 0, none⟩) ∧ w'.heap.size ≤ z ∧ wx.heap[z]? = some (.cells #[.int .u32 (a : Int), .int .u32 (b : Int)] 47 (0, 0)) ∧ Below w'.heap.size w' wx)
          case first =>
            refine wp_region_held_drew (S := (fun w' => w'.cell? ⟨g, k, none⟩ = some (.slice (some ⟨q, 0, none⟩) 3 rc) ∧ w'.cell? ⟨q, 1, none⟩ = some (.string r1) ∧ w'.cell? ⟨q, 2, none⟩ = some (.string r2))) (by kernel_rfl) (KB.out _ (blw_drew (Below.refl _ _))) (fun hHeld => ?_)
            refine tk_at (i := 0) (d := some 36) (v := ?_) rfl rfl (by kernel_rfl) (by kernel_rfl) (by kernel_rfl) (fun _ _ _ h => h) (Or.inl ⟨by rfl, ?_⟩) (by assumption) ?_
            rotate_left
            · (intro w hSw; (try dsimp only at hSw); go_simp; try (with_reducible rfl))
            simp only [Act.put, List.setIfInBounds_toArray, List.set_cons_zero, List.set_cons_succ]
            refine tk_at (i := 1) (d := some 37) (v := ?_) rfl rfl (by kernel_rfl) (by kernel_rfl) (by kernel_rfl) (fun _ _ _ h => h) (Or.inl ⟨by rfl, ?_⟩) (by assumption) ?_
            rotate_left
            · (intro w hSw; (try dsimp only at hSw); go_simp; try (with_reducible rfl))
            simp only [Act.put, List.setIfInBounds_toArray, List.set_cons_zero, List.set_cons_succ]
            refine tk_at (i := 2) (d := some 38) (v := ?_) rfl rfl (by kernel_rfl) (by kernel_rfl) (by kernel_rfl) (fun _ _ _ h => h) (Or.inl ⟨by rfl, ?_⟩) (by assumption) ?_
            rotate_left
            · (intro w hSw; (try dsimp only at hSw); go_simp; try (with_reducible rfl))
            simp only [Act.put, List.setIfInBounds_toArray, List.set_cons_zero, List.set_cons_succ]
            refine tk_at (i := 3) (d := some 39) (v := ?_) rfl rfl (by kernel_rfl) (by kernel_rfl) (by kernel_rfl) (fun _ _ _ h => h) (Or.inl ⟨by rfl, ?_⟩) (by assumption) ?_
            rotate_left
            · (intro w hSw; (try dsimp only at hSw); go_simp; try (with_reducible rfl))
            simp only [Act.put, List.setIfInBounds_toArray, List.set_cons_zero, List.set_cons_succ]
            refine tk_at (i := 4) (d := some 40) (v := ?_) rfl rfl (by kernel_rfl) (by kernel_rfl) (by kernel_rfl) (fun _ _ _ h => h) (Or.inl ⟨by rfl, ?_⟩) (by assumption) ?_
            rotate_left
            · (intro w hSw; (try dsimp only at hSw); go_simp; try (with_reducible rfl))
            simp only [Act.put, List.setIfInBounds_toArray, List.set_cons_zero, List.set_cons_succ]
            refine tk_at (i := 5) (d := some 41) (v := ?_) rfl rfl (by kernel_rfl) (by kernel_rfl) (by kernel_rfl) (fun _ _ _ h => h) (Or.inl ⟨by rfl, ?_⟩) (by assumption) ?_
            rotate_left
            · (intro w hSw; (try dsimp only at hSw); go_simp; try (with_reducible rfl))
            simp only [Act.put, List.setIfInBounds_toArray, List.set_cons_zero, List.set_cons_succ]
            refine tk_at (i := 6) (d := some 42) (v := ?_) rfl rfl (by kernel_rfl) (by kernel_rfl) (by kernel_rfl) (fun _ _ _ h => h) (Or.inl ⟨by rfl, ?_⟩) (by assumption) ?_
            rotate_left
            · (intro w hSw; (try dsimp only at hSw); go_simp; try (with_reducible rfl))
            simp only [Act.put, List.setIfInBounds_toArray, List.set_cons_zero, List.set_cons_succ]
            refine tk_at (i := 7) (d := some 43) (v := ?_) rfl rfl (by kernel_rfl) (by kernel_rfl) (by kernel_rfl) (fun _ _ _ h => h) (Or.inl ⟨by rfl, ?_⟩) (by assumption) ?_
            rotate_left
            · (intro w hSw; (try dsimp only at hSw); go_simp; try (with_reducible rfl))
            simp only [Act.put, List.setIfInBounds_toArray, List.set_cons_zero, List.set_cons_succ]
            refine tk_at (i := 8) (d := some 44) (v := ?_) rfl rfl (by kernel_rfl) (by kernel_rfl) (by kernel_rfl) (fun _ _ _ h => h) (Or.inl ⟨by rfl, ?_⟩) (by assumption) ?_
            rotate_left
            · (intro w hSw; (try dsimp only at hSw); go_simp; try (with_reducible rfl))
            simp only [Act.put, List.setIfInBounds_toArray, List.set_cons_zero, List.set_cons_succ]
            refine tk_at (i := 9) (d := some 45) (v := ?_) rfl rfl (by kernel_rfl) (by kernel_rfl) (by kernel_rfl) (fun _ _ _ h => h) (Or.inl ⟨by rfl, ?_⟩) (by assumption) ?_
            rotate_left
            · (intro w hSw; (try dsimp only at hSw); go_simp; try (with_reducible rfl))
            simp only [Act.put, List.setIfInBounds_toArray, List.set_cons_zero, List.set_cons_succ]
            refine tk_at (i := 10) (d := some 46) (v := ?_) rfl rfl (by kernel_rfl) (by kernel_rfl) (by kernel_rfl) (fun _ _ _ h => h) (Or.inl ⟨by rfl, ?_⟩) (by assumption) ?_
            rotate_left
            · (intro w hSw; (try dsimp only at hSw); go_simp; try (with_reducible rfl))
            simp only [Act.put, List.setIfInBounds_toArray, List.set_cons_zero, List.set_cons_succ]
            refine tk_at (i := 11) (d := some 47) (v := ?_) rfl rfl (by kernel_rfl) (by kernel_rfl) (by kernel_rfl) (fun _ _ _ h => h) (Or.inl ⟨by rfl, ?_⟩) (by assumption) ?_
            rotate_left
            · (intro w hSw; (try dsimp only at hSw); go_simp; try (with_reducible rfl))
            simp only [Act.put, List.setIfInBounds_toArray, List.set_cons_zero, List.set_cons_succ]
            clear hHeld
            refine wpAnyH_inv0 (fun aC0 lsC aC wC => ∃ (b12 b13 b14 b15 b16 b17 b18 : Bool) (pp x12 x13 x14 x15 x18 : Value), lsC = #[true, true, true, true, true, true, true, true, true, true, true, true, b12, b13, b14, b15, b16, b17, b18] ∧ aC = { aC0 with tmps := ((((((aC0.tmps.setIfInBounds 48 x12).setIfInBounds 35 x13).setIfInBounds 49 x14).setIfInBounds 50 x15).setIfInBounds 8 x18).setIfInBounds 7 pp) } ∧ (b12 = true → x12 = .tuple #[.agg #[.int .u32 (a : Int), .int .u32 (b : Int)], .bool u]) ∧ (b13 = true → x13 = .tuple #[.agg #[.int .u32 (a : Int), .int .u32 (b : Int)], .bool u]) ∧ (b14 = true → x14 = .agg #[.int .u32 (a : Int), .int .u32 (b : Int)]) ∧ (b15 = true → x15 = .bool u) ∧ (b18 = true → x18 = .bool u) ∧ Below w'.heap.size w' wC ∧ OwnC w' wC b16 b17 pp #[.int .u32 0, .int .u32 0] #[.int .u32 (a : Int), .int .u32 (b : Int)] 47 ∧ (b16 || !b17) = true) ?_ _ _ _ (by decide +kernel) (fun aS => ⟨false, false, false, false, false, false, false, aS.tmps.getD 7 undef, aS.tmps.getD 48 undef, aS.tmps.getD 35 undef, aS.tmps.getD 49 undef, aS.tmps.getD 50 undef, aS.tmps.getD 8 undef, by kernel_rfl, by simp only [set_self], fun h => (by cases h), fun h => (by cases h), fun h => (by cases h), fun h => (by cases h), fun h => (by cases h), blw_drew (Below.refl _ _), OwnC.none, rfl⟩)
            intro lsC aC wC ⟨b12, b13, b14, b15, b16, b17, b18, pp, x12, x13, x14, x15, x18, hl, ha, hx12, hx13, hx14, hx15, hx18, hBw, hpp, hcc⟩
            subst hl ha
            have Hx12 := hid hx12
            have Hx13 := hid hx13
            have Hx14 := hid hx14
            have Hx15 := hid hx15
            have Hx18 := hid hx18
            have HBW := hid hBw
            have HPP := hid hpp
            have HCC := hid hcc
            clear hx12 hx13 hx14 hx15 hx18 hBw hpp hcc
            simp only [List.setIfInBounds_toArray, List.set_cons_zero, List.set_cons_succ]
            refine ⟨fun hr => ?_, fun i hi => ?_⟩
            · have hall : (b12 && b13 && b14 && b15 && b16 && b17 && b18) = true := by
                clear Hx12 Hx13 Hx14 Hx15 Hx18 HBW HPP HCC
                revert b12 b13 b14 b15 b16 b17 b18
                decide +kernel
              simp only [Bool.and_eq_true] at hall
              obtain ⟨⟨⟨⟨⟨⟨rfl, rfl⟩, rfl⟩, rfl⟩, rfl⟩, rfl⟩, rfl⟩ := hall
              obtain ⟨z, rfl, hz1, hz2⟩ := HPP.out rfl
              obtain rfl := Hx12.out rfl
              obtain rfl := Hx13.out rfl
              obtain rfl := Hx14.out rfl
              obtain rfl := Hx15.out rfl
              obtain rfl := Hx18.out rfl
              have HR := hid (And.intro hz1 (And.intro hz2 HBW.out))
              clear hz1 hz2 Hx12 Hx13 Hx14 Hx15 Hx18 HBW HPP HCC hr
              (try dsimp only)
              go_wp2_with fail
              go_meet
              case rel => exact ⟨rfl, z, rfl, HR.out.1, HR.out.2.1, HR.out.2.2⟩
            · have hcase : (i = 12 ∧ b12 = false) ∨ (i = 13 ∧ b13 = false ∧ b12 = true) ∨ (i = 14 ∧ b14 = false ∧ b13 = true) ∨ (i = 15 ∧ b15 = false ∧ b13 = true) ∨ (i = 18 ∧ b18 = false ∧ b15 = true ∧ b17 = true) ∨ (i = 16 ∧ b16 = false) ∨ (i = 17 ∧ b17 = false ∧ b16 = true ∧ b14 = true) := by
                refine of_decide_eq_true ((List.all_eq_true (p := fun i => decide ((i = 12 ∧ b12 = false) ∨ (i = 13 ∧ b13 = false ∧ b12 = true) ∨ (i = 14 ∧ b14 = false ∧ b13 = true) ∨ (i = 15 ∧ b15 = false ∧ b13 = true) ∨ (i = 18 ∧ b18 = false ∧ b15 = true ∧ b17 = true) ∨ (i = 16 ∧ b16 = false) ∨ (i = 17 ∧ b17 = false ∧ b16 = true ∧ b14 = true)))).1 ?_ i hi)
                clear Hx12 Hx13 Hx14 Hx15 Hx18 HBW HPP HCC hi
                revert b12 b13 b14 b15 b16 b17 b18
                decide +kernel
              clear hi
              rcases hcase with ⟨rfl, rfl⟩ | ⟨rfl, rfl, rfl⟩ | ⟨rfl, rfl, rfl⟩ | ⟨rfl, rfl, rfl⟩ | ⟨rfl, rfl, rfl, rfl⟩ | ⟨rfl, rfl⟩ | ⟨rfl, rfl, rfl, rfl⟩
              · refine wpOp_shut rfl (fun K hK => ?_)
                go_simp
                refine (HSP.out _).mono ?_
                rintro e wa ⟨rfl, hBa⟩
                have HBa := hid hBa
                clear hBa
                go_wp2_with fail
                have hB3 := belowCat HBW.out HBa.out
                exact hK.out _ _ ⟨KB.out _ hB3, true, b13, b14, b15, b16, b17, b18, _, _, _, _, _, _, by kernel_rfl, rfl, fun _ => rfl, Hx13.out, Hx14.out, Hx15.out, Hx18.out, hB3, HPP.out.below HBa.out, HCC.out⟩
              · obtain rfl := Hx12.out rfl
                refine wpOp_shut rfl (fun K hK => ?_)
                go_simp
                go_wp2_with fail
                exact hK.out _ _ ⟨KB.out _ HBW.out, true, true, b14, b15, b16, b17, b18, _, _, _, _, _, _, by kernel_rfl, rfl, fun _ => rfl, fun _ => rfl, Hx14.out, Hx15.out, Hx18.out, HBW.out, HPP.out, HCC.out⟩
              · obtain rfl := Hx13.out rfl
                refine wpOp_shut rfl (fun K hK => ?_)
                go_simp
                go_wp2_with fail
                exact hK.out _ _ ⟨KB.out _ HBW.out, b12, true, true, b15, b16, b17, b18, _, _, _, _, _, _, by kernel_rfl, rfl, Hx12.out, fun _ => rfl, fun _ => rfl, Hx15.out, Hx18.out, HBW.out, HPP.out, HCC.out⟩
              · obtain rfl := Hx13.out rfl
                refine wpOp_shut rfl (fun K hK => ?_)
                go_simp
                go_wp2_with fail
                exact hK.out _ _ ⟨KB.out _ HBW.out, b12, true, b14, true, b16, b17, b18, _, _, _, _, _, _, by kernel_rfl, rfl, Hx12.out, fun _ => rfl, Hx14.out, fun _ => rfl, Hx18.out, HBW.out, HPP.out, HCC.out⟩
              · obtain rfl := Hx15.out rfl
                refine wpOp_shut rfl (fun K hK => ?_)
                go_simp
                go_wp2_with fail
                exact hK.out _ _ ⟨KB.out _ HBW.out, b12, b13, b14, true, b16, true, true, _, _, _, _, _, _, by kernel_rfl, rfl, Hx12.out, Hx13.out, Hx14.out, fun _ => rfl, fun _ => rfl, HBW.out, HPP.out, HCC.out⟩
              · obtain rfl : b17 = false := by have := HCC.out; revert this; cases b17 <;> simp
                refine wpOp_shut rfl (fun K hK => ?_)
                go_simp
                go_wp2_with fail
                have hBa := (Below.refl wC.heap.size wC).alloc (Nat.le_refl _) (.cells #[.int .u32 0, .int .u32 0] 47 (0, 0))
                have hB3 := belowCat HBW.out hBa
                exact hK.out _ _ ⟨KB.out _ hB3, b12, b13, b14, b15, true, false, b18, _, _, _, _, _, _, by kernel_rfl, rfl, Hx12.out, Hx13.out, Hx14.out, Hx15.out, Hx18.out, hB3, OwnC.new HBW.out, rfl⟩
              · obtain ⟨z, rfl, hz1, hz2⟩ := HPP.out rfl
                obtain rfl := Hx14.out rfl
                have c0 := cell_of_heap (i := 0) hz2 rfl
                have c1 := cell_of_heap (i := 1) hz2 rfl
                have g0 := frozen_of_heap (i := 0) hz2
                have g1 := frozen_of_heap (i := 1) hz2
                have HZ := hid (And.intro hz1 hz2)
                clear hz1 hz2
                refine wpOp_shut rfl (fun K hK => ?_)
                go_simp
                go_wp2_with fail
                exact hK.out _ _ ⟨KB.out _ ((HBW.out.setCell (p := ⟨z, 0, none⟩) HZ.out.1 _).setCell (p := ⟨z, 1, none⟩) HZ.out.1 _), b12, b13, true, b15, true, true, b18, _, _, _, _, _, _, by kernel_rfl, rfl, Hx12.out, Hx13.out, fun _ => rfl, Hx15.out, Hx18.out, ((HBW.out.setCell (p := ⟨z, 0, none⟩) HZ.out.1 _).setCell (p := ⟨z, 1, none⟩) HZ.out.1 _), fun _ => ⟨z, rfl, HZ.out.1, set2 HZ.out.2⟩, rfl⟩
          case rest =>
            obtain ⟨rfl, z, rfl, hz1, hz2, hBc⟩ := hcut
            have KC := hid (K3.out _ hBc)
            have HZC := hid hz2
            have BC := hid (belowCat HB.out hBc)
            have HOC := hid (owns_below HO.out hBc)
            have HBC := hid hBc
            clear hz1 hz2 hBc KB K3 HSP HA0
            cases u with
            | false =>
              have HE2 := hid (rsV_end (rsV_none HR.out (by rw [HRR.out, HE.out]; rfl)) (show k + 1 ≤ N by omega))
              go_wp2
              exact bodyPost_ret (v := .tuple #[.slice none 0 0, .int .i64 ((k + 1 : Nat) : Int)]) (by simp [results, Tryz.results35, go_sem]) rfl
                ⟨none, 0, k + 1, [], rfl, HE2.out, World.ownsRow_nil _ _ _ _, by repeat (first | exact belowCat B1.out BC.out | refine blw_drew ?_ | refine blw_alloc ?_)⟩
            | true =>
              have HSO := hid (show nmOf (L.getD k []) = some ⟨a, b, [.string r0]⟩ from by rw [HRR.out, HE.out]; rfl)
              have HE3 := hid (rsV_next HR.out HSO.out (show fitV anyW its _ = true from by unfold fitV anyW; cases its.getLast? <;> rfl))
              have kg := KC.out.1
              have kq := KC.out.2
              have c0 : wc.cell? ⟨z, 0, none⟩ = some (.int .u32 (a : Int)) := cell_of_heap HZC.out rfl
              have c1 : wc.cell? ⟨z, 1, none⟩ = some (.int .u32 (b : Int)) := cell_of_heap HZC.out rfl
              have KS := hid (show ∀ w', Below wc.heap.size wc w' → (fun w' => w'.cell? ⟨g, k, none⟩ = some (.slice (some ⟨q, 0, none⟩) 3 rc) ∧ w'.cell? ⟨q, 0, none⟩ = some (.string r0) ∧ w'.cell? ⟨z, 0, none⟩ = some (.int .u32 (a : Int)) ∧ w'.cell? ⟨z, 1, none⟩ = some (.int .u32 (b : Int))) w' from fun w' hb' => ⟨cell_later hb' kg, cell_later hb' kq, cell_later hb' c0, cell_later hb' c1⟩)
              have bD : Below wc.heap.size wc (wc.drew.alloc (.cells #[.string r0, .int .u32 (a : Int), .int .u32 (b : Int)] 110)) := blw_alloc (blw_drew (Below.refl _ _))
              have HBD := hid (show Below w1.heap.size w1 (wc.drew.alloc (.cells #[.string r0, .int .u32 (a : Int), .int .u32 (b : Int)] 110)) from belowCat BC.out bD)
              have HOD := hid (show (wc.drew.alloc (.cells #[.string r0, .int .u32 (a : Int), .int .u32 (b : Int)] 110)).ownsRow w1.heap.size 110 3 (.slice ad k cap) k (rowC nmC its) from owns_below HOC.out bD)
              have HOB := hid (show ∀ j, (Value.slice ad k cap).ownBlock = some j → w1.heap.size ≤ j from fun j hj => (HOC.out.lt j hj).1)
              have hbg : (wc.drew.alloc (.cells #[.string r0, .int .u32 (a : Int), .int .u32 (b : Int)] 110)).heap[g]? = some (.cells csg 45 (0, 0)) := ((belowCat HBC.out bD).block _ (lt_of_heap HBG.out)).trans HBG.out
              have hbq : (wc.drew.alloc (.cells #[.string r0, .int .u32 (a : Int), .int .u32 (b : Int)] 110)).heap[q]? = some (.cells csq 9 (0, 0)) := ((belowCat HBC.out bD).block _ (lt_of_heap HBQ.out)).trans HBQ.out
              have hbz : (wc.drew.alloc (.cells #[.string r0, .int .u32 (a : Int), .int .u32 (b : Int)] 110)).heap[z]? = some (.cells #[.int .u32 (a : Int), .int .u32 (b : Int)] 47 (0, 0)) := (bD.block _ (lt_of_heap HZC.out)).trans HZC.out
              have HKP := hid (show ∀ w7, (wc.drew.alloc (.cells #[.string r0, .int .u32 (a : Int), .int .u32 (b : Int)] 110)).grownBy w7 (Value.slice ad k cap).ownBlock → (fun w' => w'.cell? ⟨g, k, none⟩ = some (.slice (some ⟨q, 0, none⟩) 3 rc) ∧ w'.cell? ⟨q, 0, none⟩ = some (.string r0) ∧ w'.cell? ⟨z, 0, none⟩ = some (.int .u32 (a : Int)) ∧ w'.cell? ⟨z, 1, none⟩ = some (.int .u32 (b : Int))) w7 from fun w7 hg7 => by
                have h1 : w7.cell? ⟨g, k, none⟩ = (wc.drew.alloc (.cells #[.string r0, .int .u32 (a : Int), .int .u32 (b : Int)] 110)).cell? ⟨g, k, none⟩ := World.cell?_of_block (hg7.block g (lt_of_heap hbg) (fun e => rowNe HOD.out hbg (by decide) e.symm))
                have h2 : w7.cell? ⟨q, 0, none⟩ = (wc.drew.alloc (.cells #[.string r0, .int .u32 (a : Int), .int .u32 (b : Int)] 110)).cell? ⟨q, 0, none⟩ := World.cell?_of_block (hg7.block q (lt_of_heap hbq) (fun e => rowNe HOD.out hbq (by decide) e.symm))
                have h3 : w7.cell? ⟨z, 0, none⟩ = (wc.drew.alloc (.cells #[.string r0, .int .u32 (a : Int), .int .u32 (b : Int)] 110)).cell? ⟨z, 0, none⟩ := World.cell?_of_block (hg7.block z (lt_of_heap hbz) (fun e => rowNe HOD.out hbz (by decide) e.symm))
                have h4 : w7.cell? ⟨z, 1, none⟩ = (wc.drew.alloc (.cells #[.string r0, .int .u32 (a : Int), .int .u32 (b : Int)] 110)).cell? ⟨z, 1, none⟩ := World.cell?_of_block (hg7.block z (lt_of_heap hbz) (fun e => rowNe HOD.out hbz (by decide) e.symm))
                have hs := KS.out _ bD
                exact ⟨h1.trans hs.1, h2.trans hs.2.1, h3.trans hs.2.2.1, h4.trans hs.2.2.2⟩)
              clear kg kq c0 c1 bD hbg hbq hbz
              go_wp2_with fail
              refine wp_region_held_drew (S := (fun w' => w'.cell? ⟨g, k, none⟩ = some (.slice (some ⟨q, 0, none⟩) 3 rc) ∧ w'.cell? ⟨q, 0, none⟩ = some (.string r0) ∧ w'.cell? ⟨z, 0, none⟩ = some (.int .u32 (a : Int)) ∧ w'.cell? ⟨z, 1, none⟩ = some (.int .u32 (b : Int)))) (by kernel_rfl) (KS.out _ (blw_drew (Below.refl _ _))) (fun hHeld => ?_)
              refine tk_at (i := 0) (d := some 55) (v := ?_) rfl rfl (by kernel_rfl) (by kernel_rfl) (by kernel_rfl) (fun _ _ _ h => h) (Or.inl ⟨by rfl, ?_⟩) (by assumption) ?_
              rotate_left
              · (intro w hSw; (try dsimp only at hSw); go_simp; try (with_reducible rfl))
              simp only [Act.put, List.setIfInBounds_toArray, List.set_cons_zero, List.set_cons_succ]
              refine tk_at (i := 1) (d := some 56) (v := ?_) rfl rfl (by kernel_rfl) (by kernel_rfl) (by kernel_rfl) (fun _ _ _ h => h) (Or.inl ⟨by rfl, ?_⟩) (by assumption) ?_
              rotate_left
              · (intro w hSw; (try dsimp only at hSw); go_simp; try (with_reducible rfl))
              simp only [Act.put, List.setIfInBounds_toArray, List.set_cons_zero, List.set_cons_succ]
              refine tk_at (i := 2) (d := some 57) (v := ?_) rfl rfl (by kernel_rfl) (by kernel_rfl) (by kernel_rfl) (fun _ _ _ h => h) (Or.inl ⟨by rfl, ?_⟩) (by assumption) ?_
              rotate_left
              · (intro w hSw; (try dsimp only at hSw); go_simp; try (with_reducible rfl))
              simp only [Act.put, List.setIfInBounds_toArray, List.set_cons_zero, List.set_cons_succ]
              refine tk_at (i := 3) (d := some 58) (v := ?_) rfl rfl (by kernel_rfl) (by kernel_rfl) (by kernel_rfl) (fun _ _ _ h => h) (Or.inl ⟨by rfl, ?_⟩) (by assumption) ?_
              rotate_left
              · (intro w hSw; (try dsimp only at hSw); go_simp; try (with_reducible rfl))
              simp only [Act.put, List.setIfInBounds_toArray, List.set_cons_zero, List.set_cons_succ]
              refine tk_at (i := 4) (d := some 59) (v := ?_) rfl rfl (by kernel_rfl) (by kernel_rfl) (by kernel_rfl) (fun _ _ _ h => h) (Or.inl ⟨by rfl, ?_⟩) (by assumption) ?_
              rotate_left
              · (intro w hSw; (try dsimp only at hSw); go_simp; try (with_reducible rfl))
              simp only [Act.put, List.setIfInBounds_toArray, List.set_cons_zero, List.set_cons_succ]
              refine tk_at (i := 5) (d := some 60) (v := ?_) rfl rfl (by kernel_rfl) (by kernel_rfl) (by kernel_rfl) (fun _ _ _ h => h) (Or.inl ⟨by rfl, ?_⟩) (by assumption) ?_
              rotate_left
              · (intro w hSw; (try dsimp only at hSw); go_simp; try (with_reducible rfl))
              simp only [Act.put, List.setIfInBounds_toArray, List.set_cons_zero, List.set_cons_succ]
              refine tk_at (i := 6) (d := some 61) (v := ?_) rfl rfl (by kernel_rfl) (by kernel_rfl) (by kernel_rfl) (fun _ _ _ h => h) (Or.inl ⟨by rfl, ?_⟩) (by assumption) ?_
              rotate_left
              · (intro w hSw; (try dsimp only at hSw); go_simp; try (with_reducible rfl))
              simp only [Act.put, List.setIfInBounds_toArray, List.set_cons_zero, List.set_cons_succ]
              refine tk_at (i := 7) (d := some 62) (v := ?_) rfl rfl (by kernel_rfl) (by kernel_rfl) (by kernel_rfl) (fun _ _ _ h => h) (Or.inl ⟨by rfl, ?_⟩) (by assumption) ?_
              rotate_left
              · (intro w hSw; (try dsimp only at hSw); go_simp; try (with_reducible rfl))
              simp only [Act.put, List.setIfInBounds_toArray, List.set_cons_zero, List.set_cons_succ]
              refine tk_at (i := 8) (d := some 63) (v := ?_) rfl rfl (by kernel_rfl) (by kernel_rfl) (by kernel_rfl) (fun _ _ _ h => h) (Or.inl ⟨by rfl, ?_⟩) (by assumption) ?_
              rotate_left
              · (intro w hSw; (try dsimp only at hSw); go_simp; try (with_reducible rfl))
              simp only [Act.put, List.setIfInBounds_toArray, List.set_cons_zero, List.set_cons_succ]
              refine wpAnyH_ready (rs := [9]) (by kernel_rfl) (by simp) ?_
              refine AllReadyH.cons rfl (fun K hK => ?_) AllReadyH.nil
              go_simp
              go_wp2_with fail
              refine hK.out _ _ (KS.out _ (blw_alloc (blw_drew (Below.refl _ _)))) (fun hHeld => ?_)
              clear hK K
              try simp only [Act.put, List.setIfInBounds_toArray, List.set_cons_zero, List.set_cons_succ]
              refine wpAnyH_ready (rs := [10]) (by kernel_rfl) (by simp) ?_
              refine AllReadyH.cons rfl (fun K hK => ?_) AllReadyH.nil
              refine step_append_lies _ rfl (.tmp 55) (.tmp 64) 28 rfl w1.heap.size 110 i0 _ 3 24 Tryz.underlying28 hi hz0 hz1 hz2 rfl (by decide) (.slice ad k cap) k (rowC nmC its) rfl HOD.out _ 1 1 [.string r0, .int .u32 (a : Int), .int .u32 (b : Int)] rfl rfl (World.news_of_block (heap_alloc_at _ _)) (by intro y hy; simp only [List.mem_cons, List.not_mem_nil, or_false] at hy; rcases hy with rfl | rfl | rfl <;> rfl) (by decide) (by unfold maxLen; omega) (by omega) HBD.out.size _ rfl ?_
              intro g7 cap7 w7 hown' hgrow hat hlt2
              have HO7 := hid (show w7.ownsRow w1.heap.size 110 3 (.slice (some ⟨g7, 0, none⟩) (k + 1) cap7) (k + 1) (rowC nmC (its ++ [⟨a, b, [.string r0]⟩])) from by rw [rowC_snoc]; exact hown')
              have B7 := hid (HBD.out.grown hgrow HBD.out.size HOB.out)
              have HK7 := hid (HKP.out w7 hgrow)
              clear hown' hgrow hat hlt2
              refine hK.out _ _ HK7.out (fun hHeld => ?_)
              clear hK K
              try simp only [Act.put, List.setIfInBounds_toArray]
              refine wpAnyH_ready (rs := [11]) (by kernel_rfl) (by simp) ?_
              refine AllReadyH.cons rfl (fun K hK => ?_) AllReadyH.nil
              go_simp
              go_wp2_with fail
              refine hK.out _ _ (HK7.out) (fun hHeld => ?_)
              clear hK K
              try simp only [Act.put, List.setIfInBounds_toArray, List.set_cons_zero, List.set_cons_succ]
              refine wpAnyH_done (by kernel_rfl) ?_ _
              clear hHeld
              go_wp2
              go_roundw
              case rel => exact ⟨k + 1, cap7, some ⟨g7, 0, none⟩, its ++ [⟨a, b, [.string r0]⟩], by omega, by go_num, rfl, HE3.out, HO7.out, B7.out⟩
              case measure => simp [intOf]; omega
      · have e3 : ((R.length : Int) != 3) = true := by simp; omega
        have HE := hid (rsV_end (rsV_none HR.out (by rw [HRR.out]; exact nmOf_no h3)) (show k + 1 ≤ N by omega))
        clear h3 hq HAL
        go_wp2
        exact bodyPost_ret (v := .tuple #[.slice none 0 0, .int .i64 ((k + 1 : Nat) : Int)]) (by simp [results, Tryz.results35, go_sem]) rfl
          ⟨none, 0, k + 1, [], rfl, HE.out, World.ownsRow_nil _ _ _ _, by repeat (first | exact belowCat B1.out HB.out | refine blw_drew ?_ | refine blw_alloc ?_)⟩
    · have hke : k = N := by omega
      subst hke
      have hil := rsV_len HR.out
      have HIL := hid hil
      clear hr hown hB hil
      go_wp2
      exact bodyPost_ret (v := .tuple #[.slice ad k cap, .int .i64 0]) (by simp [results, Tryz.results35, go_sem]) rfl
        ⟨ad, cap, 0, its, by rw [HIL.out]; rfl, HR.out, by rw [HIL.out]; exact owns_base HO.out B1.out.size, belowCat B1.out HB.out⟩
end Go.Proofs.YtgalmlelnolodaaGreatDoor
