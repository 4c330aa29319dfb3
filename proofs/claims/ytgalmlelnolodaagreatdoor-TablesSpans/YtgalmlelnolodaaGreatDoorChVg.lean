/- The contract of the document's Ranges, over this seat's translation. Conditions: a text's size. -/
import Derived.Test.YtgalmlelnolodaaGreatDoorChVn
import Derived.BigQuiet
namespace Go.Proofs.YtgalmlelnolodaaGreatDoor
open Go.RowKit
set_option linter.unusedVariables false

theorem rg_bad {L : List (List ByteArray)} {R : List ByteArray} {its : List It} {k N a b : Nat} {r : List Value} {u C F : Bool} (hr : rsV rgOf upW L k = (its, 0)) (hR : L.getD k [] = R)
    (hE : rgOf R = (if u = true then some (a, b) else none).bind fun p => if C = true then some ⟨p.1, p.2, r⟩ else none) (hF : fitV upW its ⟨a, b, r⟩ = F) (h : (u && (F && C)) = false) (hk : k + 1 ≤ N) : rsV rgOf upW L N = ([], k + 1) := by
  cases u with
  | false => exact rsV_end (rsV_none hr (by rw [hR, hE]; rfl)) hk
  | true =>
    cases C with
    | false => exact rsV_end (rsV_none hr (by rw [hR, hE]; rfl)) hk
    | true =>
      cases F with
      | true => cases h
      | false => exact rsV_end (rsV_bad hr (by rw [hR, hE]; rfl) hF) hk
theorem six_no : ∀ u F C M J E : Bool, (u && (F && (C && M))) = false → (u && (F && (C && M && J && E))) = false := by decide
theorem six_no2 : ∀ J E : Bool, (J && E) = false → (true && (true && (true && true && J && E))) = false := by decide
theorem ext_bs {s : ByteArray} {i : Nat} (h : i < s.size) : bs (s.extract i (i + 1)) = [s[i].toNat] := by
  have hex : (s.extract i (i + 1)).data.toList = [s[i]] := by
    have h2 : i < s.data.toList.length := by rw [← Lib.size_eq]; exact h
    rw [Lib.extract_data, Nat.add_sub_cancel_left, List.drop_eq_getElem_cons h2]
    rfl
  unfold bs; rw [hex]; rfl
theorem ext_all {s : ByteArray} {i lo hi : Nat} (h : i < s.size) : (alV lo hi (bs (s.extract i (i + 1))) && decide (1 ≤ (s.extract i (i + 1)).size ∧ (s.extract i (i + 1)).size ≤ 1)) = decide (lo ≤ s[i].toNat ∧ s[i].toNat ≤ hi) := by
  rw [← bs_len, ext_bs h]
  simp [alV]
set_option maxRecDepth 2000 in
set_option maxHeartbeats 25600000 in
theorem rranges_any (s : ByteArray) (w : World) (hs : s.size ≤ 1000000) :
    Calls Tryz.prog 31 #[.string s] w fun e w' => ∃ (ad : Option Addr) (cap at_ : Nat) (its : List It),
      e = .returned (.tuple #[.slice ad its.length cap, .int .i64 (at_ : Int)]) ∧ rsV rgOf upW (lwV s) (lwV s).length = (its, at_) ∧ w'.ownsRow w.heap.size 49 6 (.slice ad its.length cap) its.length (rowC rgC its) ∧ Below w.heap.size w w' := by
  obtain ⟨i0, hi, hz0, hz1, hz2⟩ := info_parts infoRange
  have HL := hid (rlines_any s w hs)
  have HLN := hid (lwV_cap s)
  have HWZ := hid (lwV_words s)
  obtain ⟨L, hL⟩ : ∃ L, lwV s = L := ⟨_, rfl⟩
  rw [hL] at HL HLN HWZ ⊢
  obtain ⟨N, hN⟩ : ∃ N, L.length = N := ⟨_, rfl⟩
  rw [hN] at HL HLN ⊢
  have HN := hid hN
  have hN6 : N ≤ 1000001 := by have := HLN.out; omega
  have HZ := hid (show ∀ i j, (wd (L.getD i []) j).size ≤ 4000000000 from fun i j => Nat.le_trans (HWZ.out i j) (by omega))
  clear HWZ HLN hL hN hs
  go_enter Tryz.func31, Tryz.ntmps31
  go_wp2_with fail
  refine HL.out.mono ?_
  rintro e w1 ⟨ad1, cap1, vs, rfl, hol, hB1⟩
  have OL := hid hol
  have B1 := hid hB1
  clear hol hB1 HL
  go_wp2_with fail
  go_loopw [4, 6] (fun o i wr => ∃ (k cap : Nat) (ad : Option Addr) (its : List It), k ≤ N ∧ i = .int .i64 (k : Int) ∧ o = .slice ad k cap ∧ rsV rgOf upW L k = (its, 0) ∧ wr.ownsRow w1.heap.size 49 6 (.slice ad k cap) k (rowC rgC its) ∧ Below w1.heap.size w1 wr) (fun _ i _ => N - (intOf i).toNat)
  case atStart => exact ⟨0, 0, none, [], Nat.zero_le _, rfl, rfl, rfl, World.ownsRow_nil _ _ _ _, Below.refl _ _⟩
  case round =>
    obtain ⟨k, cap, ad, its, hk, rfl, rfl, hr, hown, hB⟩ := hrel
    have HR := hid hr
    have HO := hid hown
    have HB := hid hB
    by_cases hlt : k < N
    · obtain ⟨g, q, rc, rfl, hg, hq⟩ := (OL.out.below hB).at HN.out.symm k (by rw [HN.out]; exact hlt)
      have HZK := hid (HZ.out k)
      obtain ⟨R, hRR⟩ : ∃ R, L.getD k [] = R := ⟨_, rfl⟩
      have HRR := hid hRR
      rw [hRR] at hg hq HZK
      clear hr hown hB hRR
      obtain ⟨⟨csg, hbg⟩, csq, hbq⟩ := (OL.out.below HB.out).blocks HN.out.symm k (by rw [HN.out]; exact hlt) hg
      have HBQ := hid hbq
      clear hbg hbq
      by_cases h6 : R.length = 6
      · have hE := rgOf_6 h6
        rw [h6] at hg hq
        have k0 := hq 0 (by decide)
        have k1 := hq 1 (by decide)
        have k2 := hq 2 (by decide)
        have k3 := hq 3 (by decide)
        have k4 := hq 4 (by decide)
        have k5 := hq 5 (by decide)
        obtain ⟨r0, h0⟩ : ∃ r, wd R 0 = r := ⟨_, rfl⟩
        obtain ⟨r1, h1⟩ : ∃ r, wd R 1 = r := ⟨_, rfl⟩
        obtain ⟨r2, h2⟩ : ∃ r, wd R 2 = r := ⟨_, rfl⟩
        obtain ⟨r3, h3⟩ : ∃ r, wd R 3 = r := ⟨_, rfl⟩
        obtain ⟨r4, h4⟩ : ∃ r, wd R 4 = r := ⟨_, rfl⟩
        obtain ⟨r5, h5⟩ : ∃ r, wd R 5 = r := ⟨_, rfl⟩
        rw [h0] at k0
        rw [h1] at k1
        rw [h2] at k2
        rw [h3] at k3
        rw [h4] at k4
        rw [h5] at k5
        have HS0 := hid (show r0.size ≤ 4000000000 from by rw [← h0]; exact HZK.out 0)
        have HS1 := hid (show r1.size ≤ 4000000000 from by rw [← h1]; exact HZK.out 1)
        have HS2 := hid (show r2.size ≤ 4000000000 from by rw [← h2]; exact HZK.out 2)
        have HS3 := hid (show r3.size ≤ 4000000000 from by rw [← h3]; exact HZK.out 3)
        have HS4 := hid (show r4.size ≤ 4000000000 from by rw [← h4]; exact HZK.out 4)
        have HS5 := hid (show r5.size ≤ 4000000000 from by rw [← h5]; exact HZK.out 5)
        rw [h0, h1, h2, h3, h4, h5] at hE
        obtain ⟨O, hO⟩ : ∃ O, spV (bs r0) (bs r1) = O := ⟨_, rfl⟩
        obtain ⟨a, ha⟩ : ∃ a, (O.getD (0, 0)).1 = a := ⟨_, rfl⟩
        obtain ⟨b, hb⟩ : ∃ b, (O.getD (0, 0)).2 = b := ⟨_, rfl⟩
        obtain ⟨u, hu⟩ : ∃ u, O.isSome = u := ⟨_, rfl⟩
        have HSP := hid (show ∀ w, Calls Tryz.prog 58 #[.string r0, .string r1] w fun e w' => e = .returned (.tuple #[.agg #[.int .u32 (a : Int), .int .u32 (b : Int)], .bool u]) ∧ Below w.heap.size w w' from fun w => (rspan_any _ _ w HS0.out HS1.out).mono fun e w' h => ⟨by rw [h.1, hO, ← ha, ← hb, ← hu], h.2⟩)
        have hOE : O = if u = true then some (a, b) else none := by cases O with | none => subst hu; rfl | some p => subst hu ha hb; rfl
        obtain ⟨CT, hct⟩ : ∃ B, ctV (bs r2) = B := ⟨_, rfl⟩
        obtain ⟨NM, hnm⟩ : ∃ B, nmV 3 (bs r3) = B := ⟨_, rfl⟩
        obtain ⟨J, hj⟩ : ∃ B, jnV r4 = B := ⟨_, rfl⟩
        obtain ⟨E, he⟩ : ∃ B, edV r5 = B := ⟨_, rfl⟩
        obtain ⟨b5, hb5⟩ : ∃ B, (r5.toList == [110, 101, 119]) = B := ⟨_, rfl⟩
        rw [hO, hOE, hct, hnm, hj, he, hb5] at hE
        have HE := hid hE
        have HCT := hid hct
        have HJ := hid hj
        have HED := hid he
        have HB5 := hid hb5
        have HAN := hid (show ∀ w, Calls Tryz.prog 59 #[.string r3, .int .u8 65, .int .u8 90, .int .i64 1, .int .i64 3] w fun e w' => e = .returned (.bool NM) ∧ w' = w from fun w => (all_any r3 65 90 1 3 w HS3.out (by decide) (by decide) (by decide) (by decide)).mono fun e w' h => ⟨by rw [h.1, ← hnm]; unfold nmV; rw [bs_len, Bool.and_comm], h.2⟩)
        have e6 : (((6 : Nat) : Int) != 6) = false := by decide
        have K3 := hid (show ∀ w', Below wr.heap.size wr w' → w'.cell? ⟨q, 2, none⟩ = some (.string r2) ∧ w'.cell? ⟨q, 3, none⟩ = some (.string r3) ∧ w'.cell? ⟨q, 4, none⟩ = some (.string r4) ∧ w'.cell? ⟨q, 5, none⟩ = some (.string r5) from fun w' hb' => ⟨cell_later hb' k2, cell_later hb' k3, cell_later hb' k4, cell_later hb' k5⟩)
        have KB := hid (show ∀ w', Below wr.heap.size wr w' → w'.cell? ⟨q, 0, none⟩ = some (.string r0) ∧ w'.cell? ⟨q, 1, none⟩ = some (.string r1) from fun w' hb' => ⟨cell_later hb' k0, cell_later hb' k1⟩)
        clear hE hO hOE ha hb hu h0 h1 h2 h3 h4 h5 hq k0 k1 k2 k3 k4 k5 hct hnm hj he hb5
        go_upto_region 9 with fail
        clear hg
        go_cut [8, 9] from 27 to 36 (fun p o wx => o = .bool u ∧ ∃ z, p = .pointer (some ⟨z, 0, none⟩) ∧ wr.heap.size ≤ z ∧ wx.heap[z]? = some (.cells #[.int .u32 (a : Int), .int .u32 (b : Int)] 47 (0, 0)) ∧ Below wr.heap.size wr wx)
        case first =>
          refine wp_region_held_drew (S := (fun w' => w'.cell? ⟨q, 0, none⟩ = some (.string r0) ∧ w'.cell? ⟨q, 1, none⟩ = some (.string r1))) (by kernel_rfl) (KB.out _ (blw_drew (Below.refl _ _))) (fun hHeld => ?_)
          refine tk_at (i := 0) (d := some 28) (v := ?_) rfl rfl (by kernel_rfl) (by kernel_rfl) (by kernel_rfl) (fun _ _ _ h => h) (Or.inl ⟨by rfl, ?_⟩) (by assumption) ?_
          rotate_left
          · (intro w hSw; (try dsimp only at hSw); go_simp; try (with_reducible rfl))
          simp only [Act.put, List.setIfInBounds_toArray, List.set_cons_zero, List.set_cons_succ]
          refine tk_at (i := 1) (d := some 29) (v := ?_) rfl rfl (by kernel_rfl) (by kernel_rfl) (by kernel_rfl) (fun _ _ _ h => h) (Or.inl ⟨by rfl, ?_⟩) (by assumption) ?_
          rotate_left
          · (intro w hSw; (try dsimp only at hSw); go_simp; try (with_reducible rfl))
          simp only [Act.put, List.setIfInBounds_toArray, List.set_cons_zero, List.set_cons_succ]
          refine tk_at (i := 2) (d := some 30) (v := ?_) rfl rfl (by kernel_rfl) (by kernel_rfl) (by kernel_rfl) (fun _ _ _ h => h) (Or.inl ⟨by rfl, ?_⟩) (by assumption) ?_
          rotate_left
          · (intro w hSw; (try dsimp only at hSw); go_simp; try (with_reducible rfl))
          simp only [Act.put, List.setIfInBounds_toArray, List.set_cons_zero, List.set_cons_succ]
          refine tk_at (i := 3) (d := some 31) (v := ?_) rfl rfl (by kernel_rfl) (by kernel_rfl) (by kernel_rfl) (fun _ _ _ h => h) (Or.inl ⟨by rfl, ?_⟩) (by assumption) ?_
          rotate_left
          · (intro w hSw; (try dsimp only at hSw); go_simp; try (with_reducible rfl))
          simp only [Act.put, List.setIfInBounds_toArray, List.set_cons_zero, List.set_cons_succ]
          refine tk_at (i := 4) (d := some 32) (v := ?_) rfl rfl (by kernel_rfl) (by kernel_rfl) (by kernel_rfl) (fun _ _ _ h => h) (Or.inl ⟨by rfl, ?_⟩) (by assumption) ?_
          rotate_left
          · (intro w hSw; (try dsimp only at hSw); go_simp; try (with_reducible rfl))
          simp only [Act.put, List.setIfInBounds_toArray, List.set_cons_zero, List.set_cons_succ]
          refine tk_at (i := 5) (d := some 33) (v := ?_) rfl rfl (by kernel_rfl) (by kernel_rfl) (by kernel_rfl) (fun _ _ _ h => h) (Or.inl ⟨by rfl, ?_⟩) (by assumption) ?_
          rotate_left
          · (intro w hSw; (try dsimp only at hSw); go_simp; try (with_reducible rfl))
          simp only [Act.put, List.setIfInBounds_toArray, List.set_cons_zero, List.set_cons_succ]
          clear hHeld
          refine wpAnyH_inv0 (fun aC0 lsC aC wC => ∃ (b6 b7 b8 b9 b10 b11 b12 : Bool) (pp x6 x7 x8 x9 x12 : Value), lsC = #[true, true, true, true, true, true, b6, b7, b8, b9, b10, b11, b12] ∧ aC = { aC0 with tmps := ((((((aC0.tmps.setIfInBounds 34 x6).setIfInBounds 27 x7).setIfInBounds 35 x8).setIfInBounds 36 x9).setIfInBounds 9 x12).setIfInBounds 8 pp) } ∧ (b6 = true → x6 = .tuple #[.agg #[.int .u32 (a : Int), .int .u32 (b : Int)], .bool u]) ∧ (b7 = true → x7 = .tuple #[.agg #[.int .u32 (a : Int), .int .u32 (b : Int)], .bool u]) ∧ (b8 = true → x8 = .agg #[.int .u32 (a : Int), .int .u32 (b : Int)]) ∧ (b9 = true → x9 = .bool u) ∧ (b12 = true → x12 = .bool u) ∧ Below wr.heap.size wr wC ∧ OwnC wr wC b10 b11 pp #[.int .u32 0, .int .u32 0] #[.int .u32 (a : Int), .int .u32 (b : Int)] 47 ∧ (b10 || !b11) = true) ?_ _ _ _ (by decide +kernel) (fun aS => ⟨false, false, false, false, false, false, false, aS.tmps.getD 8 undef, aS.tmps.getD 34 undef, aS.tmps.getD 27 undef, aS.tmps.getD 35 undef, aS.tmps.getD 36 undef, aS.tmps.getD 9 undef, by kernel_rfl, by simp only [set_self], fun h => (by cases h), fun h => (by cases h), fun h => (by cases h), fun h => (by cases h), fun h => (by cases h), blw_drew (Below.refl _ _), OwnC.none, rfl⟩)
          intro lsC aC wC ⟨b6, b7, b8, b9, b10, b11, b12, pp, x6, x7, x8, x9, x12, hl, ha, hx6, hx7, hx8, hx9, hx12, hBw, hpp, hcc⟩
          subst hl ha
          have Hx6 := hid hx6
          have Hx7 := hid hx7
          have Hx8 := hid hx8
          have Hx9 := hid hx9
          have Hx12 := hid hx12
          have HBW := hid hBw
          have HPP := hid hpp
          have HCC := hid hcc
          clear hx6 hx7 hx8 hx9 hx12 hBw hpp hcc
          simp only [List.setIfInBounds_toArray, List.set_cons_zero, List.set_cons_succ]
          refine ⟨fun hr => ?_, fun i hi => ?_⟩
          · have hall : (b6 && b7 && b8 && b9 && b10 && b11 && b12) = true := by
              clear Hx6 Hx7 Hx8 Hx9 Hx12 HBW HPP HCC
              revert b6 b7 b8 b9 b10 b11 b12
              decide +kernel
            simp only [Bool.and_eq_true] at hall
            obtain ⟨⟨⟨⟨⟨⟨rfl, rfl⟩, rfl⟩, rfl⟩, rfl⟩, rfl⟩, rfl⟩ := hall
            obtain ⟨z, rfl, hz1, hz2⟩ := HPP.out rfl
            obtain rfl := Hx6.out rfl
            obtain rfl := Hx7.out rfl
            obtain rfl := Hx8.out rfl
            obtain rfl := Hx9.out rfl
            obtain rfl := Hx12.out rfl
            have HR := hid (And.intro hz1 (And.intro hz2 HBW.out))
            clear hz1 hz2 Hx6 Hx7 Hx8 Hx9 Hx12 HBW HPP HCC hr
            (try dsimp only)
            go_wp2_with fail
            go_meet
            case rel => exact ⟨rfl, z, rfl, HR.out.1, HR.out.2.1, HR.out.2.2⟩
          · have hcase : (i = 6 ∧ b6 = false) ∨ (i = 7 ∧ b7 = false ∧ b6 = true) ∨ (i = 8 ∧ b8 = false ∧ b7 = true) ∨ (i = 9 ∧ b9 = false ∧ b7 = true) ∨ (i = 12 ∧ b12 = false ∧ b9 = true ∧ b11 = true) ∨ (i = 10 ∧ b10 = false) ∨ (i = 11 ∧ b11 = false ∧ b10 = true ∧ b8 = true) := by
              refine of_decide_eq_true ((List.all_eq_true (p := fun i => decide ((i = 6 ∧ b6 = false) ∨ (i = 7 ∧ b7 = false ∧ b6 = true) ∨ (i = 8 ∧ b8 = false ∧ b7 = true) ∨ (i = 9 ∧ b9 = false ∧ b7 = true) ∨ (i = 12 ∧ b12 = false ∧ b9 = true ∧ b11 = true) ∨ (i = 10 ∧ b10 = false) ∨ (i = 11 ∧ b11 = false ∧ b10 = true ∧ b8 = true)))).1 ?_ i hi)
              clear Hx6 Hx7 Hx8 Hx9 Hx12 HBW HPP HCC hi
              revert b6 b7 b8 b9 b10 b11 b12
              decide +kernel
            clear hi
            rcases hcase with ⟨rfl, rfl⟩ | ⟨rfl, rfl, rfl⟩ | ⟨rfl, rfl, rfl⟩ | ⟨rfl, rfl, rfl⟩ | ⟨rfl, rfl, rfl, rfl⟩ | ⟨rfl, rfl⟩ | ⟨rfl, rfl, rfl, rfl⟩
            · refine wpOp_shut rfl (fun K hK => ?_)
              go_simp
              refine (HSP.out _).mono ?_
              rintro e wa ⟨rfl, hBa⟩
              have HBa := hid hBa
              clear hBa
              go_wp2_with fail
              have hB3 := belowCat HBW.out HBa.out
              exact hK.out _ _ ⟨KB.out _ hB3, true, b7, b8, b9, b10, b11, b12, _, _, _, _, _, _, by kernel_rfl, rfl, fun _ => rfl, Hx7.out, Hx8.out, Hx9.out, Hx12.out, hB3, HPP.out.below HBa.out, HCC.out⟩
            · obtain rfl := Hx6.out rfl
              refine wpOp_shut rfl (fun K hK => ?_)
              go_simp
              go_wp2_with fail
              exact hK.out _ _ ⟨KB.out _ HBW.out, true, true, b8, b9, b10, b11, b12, _, _, _, _, _, _, by kernel_rfl, rfl, fun _ => rfl, fun _ => rfl, Hx8.out, Hx9.out, Hx12.out, HBW.out, HPP.out, HCC.out⟩
            · obtain rfl := Hx7.out rfl
              refine wpOp_shut rfl (fun K hK => ?_)
              go_simp
              go_wp2_with fail
              exact hK.out _ _ ⟨KB.out _ HBW.out, b6, true, true, b9, b10, b11, b12, _, _, _, _, _, _, by kernel_rfl, rfl, Hx6.out, fun _ => rfl, fun _ => rfl, Hx9.out, Hx12.out, HBW.out, HPP.out, HCC.out⟩
            · obtain rfl := Hx7.out rfl
              refine wpOp_shut rfl (fun K hK => ?_)
              go_simp
              go_wp2_with fail
              exact hK.out _ _ ⟨KB.out _ HBW.out, b6, true, b8, true, b10, b11, b12, _, _, _, _, _, _, by kernel_rfl, rfl, Hx6.out, fun _ => rfl, Hx8.out, fun _ => rfl, Hx12.out, HBW.out, HPP.out, HCC.out⟩
            · obtain rfl := Hx9.out rfl
              refine wpOp_shut rfl (fun K hK => ?_)
              go_simp
              go_wp2_with fail
              exact hK.out _ _ ⟨KB.out _ HBW.out, b6, b7, b8, true, b10, true, true, _, _, _, _, _, _, by kernel_rfl, rfl, Hx6.out, Hx7.out, Hx8.out, fun _ => rfl, fun _ => rfl, HBW.out, HPP.out, HCC.out⟩
            · obtain rfl : b11 = false := by have := HCC.out; revert this; cases b11 <;> simp
              refine wpOp_shut rfl (fun K hK => ?_)
              go_simp
              go_wp2_with fail
              have hBa := (Below.refl wC.heap.size wC).alloc (Nat.le_refl _) (.cells #[.int .u32 0, .int .u32 0] 47 (0, 0))
              have hB3 := belowCat HBW.out hBa
              exact hK.out _ _ ⟨KB.out _ hB3, b6, b7, b8, b9, true, false, b12, _, _, _, _, _, _, by kernel_rfl, rfl, Hx6.out, Hx7.out, Hx8.out, Hx9.out, Hx12.out, hB3, OwnC.new HBW.out, rfl⟩
            · obtain ⟨z, rfl, hz1, hz2⟩ := HPP.out rfl
              obtain rfl := Hx8.out rfl
              have c0 := cell_of_heap (i := 0) hz2 rfl
              have c1 := cell_of_heap (i := 1) hz2 rfl
              have g0 := frozen_of_heap (i := 0) hz2
              have g1 := frozen_of_heap (i := 1) hz2
              have HZ := hid (And.intro hz1 hz2)
              clear hz1 hz2
              refine wpOp_shut rfl (fun K hK => ?_)
              go_simp
              go_wp2_with fail
              exact hK.out _ _ ⟨KB.out _ ((HBW.out.setCell (p := ⟨z, 0, none⟩) HZ.out.1 _).setCell (p := ⟨z, 1, none⟩) HZ.out.1 _), b6, b7, true, b9, true, true, b12, _, _, _, _, _, _, by kernel_rfl, rfl, Hx6.out, Hx7.out, fun _ => rfl, Hx9.out, Hx12.out, ((HBW.out.setCell (p := ⟨z, 0, none⟩) HZ.out.1 _).setCell (p := ⟨z, 1, none⟩) HZ.out.1 _), fun _ => ⟨z, rfl, HZ.out.1, set2 HZ.out.2⟩, rfl⟩
        case rest =>
          obtain ⟨rfl, z, rfl, hz1, hz2, hBc⟩ := hcut
          obtain ⟨w5, rfl⟩ : ∃ y, y = wc := ⟨_, rfl⟩
          have KC := hid (K3.out _ hBc)
          have HZC := hid hz2
          have BC := hid (belowCat HB.out hBc)
          have HOC := hid (owns_below HO.out hBc)
          have HBC := hid hBc
          clear hz1 hz2 hBc KB K3 HSP
          obtain ⟨F, hF⟩ : ∃ F, fitV upW its ⟨a, b, [.string r2, .string r3, .string r4, .bool b5]⟩ = F := ⟨_, rfl⟩
          have HF := hid hF
          clear hF
          go_upto_region 10 with fail
          go_cut [84] from 37 to 84 (fun x wx => x = .bool (!(u && (F && (CT && NM)))) ∧ Below w5.heap.size w5 wx)
          case first =>
            have kq2 := KC.out.1
            have kq3 := KC.out.2.1
            cases u with
            | false =>
              go_quiet (fail)
              go_wp2_with fail
              go_meet
              case rel => exact ⟨rfl, belowDN (Below.refl _ _) nq⟩
            | true =>
              have HAL := hid (fun (r : ByteArray) (lo hi : Nat) (w : World) (h : r.size ≤ 4000000000) (h1 : lo < 256) (h2 : hi < 256) => all_any r lo hi 1 1 w h h1 h2 (by decide) (by decide))
              by_cases hk0 : 0 < k
              · obtain ⟨m, hm⟩ : ∃ m, k = m + 1 := ⟨k - 1, by omega⟩
                have hil := rsV_len HR.out
                have hpm := rsV_some HR.out (its[its.length - 1]'(by omega)) (List.getElem_mem (by omega))
                have hfl := fitV_last (bh := upW) (x := ⟨a, b, [.string r2, .string r3, .string r4, .bool b5]⟩) (show 0 < its.length by omega)
                rw [HF.out] at hfl
                obtain ⟨g2, hg2, _, _, hgc⟩ := owns_cell HOC.out hk0
                subst hg2
                have hsz : ∀ i ∈ its, (rgC i).size = 6 := fun i hi => by obtain ⟨j, _, hj⟩ := rsV_some HR.out i hi; exact rgC_size hj
                have hrow := rowC_at hsz (k := m) (j := 1) (by omega) (by decide)
                have h2 : ∀ (x y : Nat) (hx : x < its.length) (hy : y < its.length), x = y → its[x] = its[y] := fun x y _ _ e => by subst e; rfl
                rw [h2 m (its.length - 1) (by omega) (by omega) (by omega)] at hrow
                obtain ⟨p, hp⟩ : ∃ p, its[its.length - 1]'(by omega) = p := ⟨_, rfl⟩
                rw [hp] at hpm hfl hrow
                obtain ⟨_, _, hpo⟩ := hpm
                obtain ⟨pa, pb, pr⟩ := p
                obtain ⟨hpa, hpb, p2, p3, p4, p5, hpr⟩ := rgOf_r hpo
                simp only at hpa hpb hpr
                subst hpr
                have cp : w5.cell? ⟨g2, m * 6 + 1, none⟩ = some (.int .u32 (pb : Int)) := hgc _ _ hrow
                have cz : w5.cell? ⟨z, 0, none⟩ = some (.int .u32 (a : Int)) := cell_of_heap HZC.out rfl
                have hwm : IntKind.i64.wrap (m : Int) = (m : Int) := by rw [IntKind.wrap_i64]; omega
                have hq0 : (m : Int) < (m : Int) + 1 := by omega
                have hq1 : (0 : Int) < (m : Int) + 1 := by omega
                have hFd : F = decide (pb < a) := hfl
                have HFD := hid hFd
                have hm6 : m ≤ 1000000 := by omega
                subst hm
                clear hil hpm hfl hgc hsz hrow h2 hp hpo hpa hpb hFd hk hk0 hlt
                by_cases hF : pb < a
                · have hFF : ((a : Int) ≤ (pb : Int)) = False := eq_false (by omega)
                  obtain rfl : F = true := by rw [HFD.out]; exact decide_eq_true hF
                  clear hF HFD
                  by_cases hn2 : r2.size = 2
                  · have g0 : 0 < r2.size := by omega
                    have g1 : 1 < r2.size := by omega
                    obtain ⟨U0, hU0⟩ : ∃ B, isU r2[0].toNat = !B := ⟨!isU r2[0].toNat, by rw [Bool.not_not]⟩
                    obtain ⟨L1, hL1⟩ : ∃ B, isL r2[1].toNat = !B := ⟨!isL r2[1].toNat, by rw [Bool.not_not]⟩
                    have hct := ctV_bytes hn2 g0 g1 _ _ rfl rfl
                    rw [HCT.out, hU0, hL1] at hct
                    have HA0 := hid (show ∀ w, Calls Tryz.prog 59 #[.string (r2.extract 0 1), .int .u8 65, .int .u8 90, .int .i64 1, .int .i64 1] w fun e w' => e = .returned (.bool (!U0)) ∧ w' = w from fun w => (HAL.out (r2.extract 0 1) 65 90 w (by simp only [ByteArray.size_extract]; omega) (by decide) (by decide)).mono fun e w' h => ⟨by rw [h.1, ext_all g0, ← hU0]; rfl, h.2⟩)
                    have HA1 := hid (show ∀ w, Calls Tryz.prog 59 #[.string (r2.extract 1 2), .int .u8 97, .int .u8 122, .int .i64 1, .int .i64 1] w fun e w' => e = .returned (.bool (!L1)) ∧ w' = w from fun w => (HAL.out (r2.extract 1 2) 97 122 w (by simp only [ByteArray.size_extract]; omega) (by decide) (by decide)).mono fun e w' h => ⟨by rw [h.1, ext_all g1, ← hL1]; rfl, h.2⟩)
                    have en2 : ((r2.size : Int) != 2) = false := by rw [hn2]; rfl
                    have gi1 : (1 : Int) ≤ (r2.size : Int) := by omega
                    subst hct
                    clear hU0 hL1 HAL
                    refine wp_region_quiet_lit (by kernel_rfl) (by kernel_rfl) ?_
                    repeat (go_big_quiet_step ((go_at_call 59; first | with_reducible exact Calls.quiet_of_same (HA0.out _) | with_reducible exact Calls.quiet_of_same (HA1.out _) | with_reducible exact Calls.quiet_of_same (HAN.out _))))
                    cases U0 with
                    | true =>
                      repeat (go_big_quiet_step ((go_at_call 59; first | with_reducible exact Calls.quiet_of_same (HA0.out _) | with_reducible exact Calls.quiet_of_same (HA1.out _) | with_reducible exact Calls.quiet_of_same (HAN.out _))))
                      refine wpQuiet_nil ?_
                      intro _ hw'
                      obtain ⟨nq, hw''⟩ := hw'
                      subst hw''
                      go_wp2_with fail
                      go_meet
                      case rel => exact ⟨rfl, belowDN (Below.refl _ _) nq⟩
                    | false =>
                      repeat (go_big_quiet_step ((go_at_call 59; first | with_reducible exact Calls.quiet_of_same (HA0.out _) | with_reducible exact Calls.quiet_of_same (HA1.out _) | with_reducible exact Calls.quiet_of_same (HAN.out _))))
                      cases L1 with
                      | true =>
                        repeat (go_big_quiet_step ((go_at_call 59; first | with_reducible exact Calls.quiet_of_same (HA0.out _) | with_reducible exact Calls.quiet_of_same (HA1.out _) | with_reducible exact Calls.quiet_of_same (HAN.out _))))
                        refine wpQuiet_nil ?_
                        intro _ hw'
                        obtain ⟨nq, hw''⟩ := hw'
                        subst hw''
                        go_wp2_with fail
                        go_meet
                        case rel => exact ⟨rfl, belowDN (Below.refl _ _) nq⟩
                      | false =>
                        repeat (go_big_quiet_step ((go_at_call 59; first | with_reducible exact Calls.quiet_of_same (HA0.out _) | with_reducible exact Calls.quiet_of_same (HA1.out _) | with_reducible exact Calls.quiet_of_same (HAN.out _))))
                        cases NM with
                        | false =>
                          repeat (go_big_quiet_step ((go_at_call 59; first | with_reducible exact Calls.quiet_of_same (HA0.out _) | with_reducible exact Calls.quiet_of_same (HA1.out _) | with_reducible exact Calls.quiet_of_same (HAN.out _))))
                          refine wpQuiet_nil ?_
                          intro _ hw'
                          obtain ⟨nq, hw''⟩ := hw'
                          subst hw''
                          go_wp2_with fail
                          go_meet
                          case rel => exact ⟨rfl, belowDN (Below.refl _ _) nq⟩
                        | true =>
                          repeat (go_big_quiet_step ((go_at_call 59; first | with_reducible exact Calls.quiet_of_same (HA0.out _) | with_reducible exact Calls.quiet_of_same (HA1.out _) | with_reducible exact Calls.quiet_of_same (HAN.out _))))
                          refine wpQuiet_nil ?_
                          intro _ hw'
                          obtain ⟨nq, hw''⟩ := hw'
                          subst hw''
                          go_wp2_with fail
                          go_meet
                          case rel => exact ⟨rfl, belowDN (Below.refl _ _) nq⟩
                  · have en2 : ((r2.size : Int) != 2) = true := by simp; omega
                    obtain rfl : CT = false := by rw [← HCT.out]; exact ctV_no hn2
                    clear hn2 HAL
                    go_quiet (fail)
                    go_wp2_with fail
                    go_meet
                    case rel => exact ⟨rfl, belowDN (Below.refl _ _) nq⟩
                · have hFF : (a : Int) ≤ (pb : Int) := by omega
                  obtain rfl : F = false := by rw [HFD.out]; exact decide_eq_false hF
                  clear hF HFD HAL
                  go_quiet (fail)
                  go_wp2_with fail
                  go_meet
                  case rel => exact ⟨rfl, belowDN (Below.refl _ _) nq⟩
              · obtain rfl : k = 0 := by omega
                obtain rfl : F = true := by
                  have hn : its = [] := List.length_eq_zero_iff.1 (by have := rsV_len HR.out; omega)
                  rw [← HF.out, hn]; rfl
                clear hk hlt hk0
                by_cases hn2 : r2.size = 2
                · have g0 : 0 < r2.size := by omega
                  have g1 : 1 < r2.size := by omega
                  obtain ⟨U0, hU0⟩ : ∃ B, isU r2[0].toNat = !B := ⟨!isU r2[0].toNat, by rw [Bool.not_not]⟩
                  obtain ⟨L1, hL1⟩ : ∃ B, isL r2[1].toNat = !B := ⟨!isL r2[1].toNat, by rw [Bool.not_not]⟩
                  have hct := ctV_bytes hn2 g0 g1 _ _ rfl rfl
                  rw [HCT.out, hU0, hL1] at hct
                  have HA0 := hid (show ∀ w, Calls Tryz.prog 59 #[.string (r2.extract 0 1), .int .u8 65, .int .u8 90, .int .i64 1, .int .i64 1] w fun e w' => e = .returned (.bool (!U0)) ∧ w' = w from fun w => (HAL.out (r2.extract 0 1) 65 90 w (by simp only [ByteArray.size_extract]; omega) (by decide) (by decide)).mono fun e w' h => ⟨by rw [h.1, ext_all g0, ← hU0]; rfl, h.2⟩)
                  have HA1 := hid (show ∀ w, Calls Tryz.prog 59 #[.string (r2.extract 1 2), .int .u8 97, .int .u8 122, .int .i64 1, .int .i64 1] w fun e w' => e = .returned (.bool (!L1)) ∧ w' = w from fun w => (HAL.out (r2.extract 1 2) 97 122 w (by simp only [ByteArray.size_extract]; omega) (by decide) (by decide)).mono fun e w' h => ⟨by rw [h.1, ext_all g1, ← hL1]; rfl, h.2⟩)
                  have en2 : ((r2.size : Int) != 2) = false := by rw [hn2]; rfl
                  have gi1 : (1 : Int) ≤ (r2.size : Int) := by omega
                  subst hct
                  clear hU0 hL1 HAL
                  refine wp_region_quiet_lit (by kernel_rfl) (by kernel_rfl) ?_
                  repeat (go_big_quiet_step ((go_at_call 59; first | with_reducible exact Calls.quiet_of_same (HA0.out _) | with_reducible exact Calls.quiet_of_same (HA1.out _) | with_reducible exact Calls.quiet_of_same (HAN.out _))))
                  cases U0 with
                  | true =>
                    repeat (go_big_quiet_step ((go_at_call 59; first | with_reducible exact Calls.quiet_of_same (HA0.out _) | with_reducible exact Calls.quiet_of_same (HA1.out _) | with_reducible exact Calls.quiet_of_same (HAN.out _))))
                    refine wpQuiet_nil ?_
                    intro _ hw'
                    obtain ⟨nq, hw''⟩ := hw'
                    subst hw''
                    go_wp2_with fail
                    go_meet
                    case rel => exact ⟨rfl, belowDN (Below.refl _ _) nq⟩
                  | false =>
                    repeat (go_big_quiet_step ((go_at_call 59; first | with_reducible exact Calls.quiet_of_same (HA0.out _) | with_reducible exact Calls.quiet_of_same (HA1.out _) | with_reducible exact Calls.quiet_of_same (HAN.out _))))
                    cases L1 with
                    | true =>
                      repeat (go_big_quiet_step ((go_at_call 59; first | with_reducible exact Calls.quiet_of_same (HA0.out _) | with_reducible exact Calls.quiet_of_same (HA1.out _) | with_reducible exact Calls.quiet_of_same (HAN.out _))))
                      refine wpQuiet_nil ?_
                      intro _ hw'
                      obtain ⟨nq, hw''⟩ := hw'
                      subst hw''
                      go_wp2_with fail
                      go_meet
                      case rel => exact ⟨rfl, belowDN (Below.refl _ _) nq⟩
                    | false =>
                      repeat (go_big_quiet_step ((go_at_call 59; first | with_reducible exact Calls.quiet_of_same (HA0.out _) | with_reducible exact Calls.quiet_of_same (HA1.out _) | with_reducible exact Calls.quiet_of_same (HAN.out _))))
                      cases NM with
                      | false =>
                        repeat (go_big_quiet_step ((go_at_call 59; first | with_reducible exact Calls.quiet_of_same (HA0.out _) | with_reducible exact Calls.quiet_of_same (HA1.out _) | with_reducible exact Calls.quiet_of_same (HAN.out _))))
                        refine wpQuiet_nil ?_
                        intro _ hw'
                        obtain ⟨nq, hw''⟩ := hw'
                        subst hw''
                        go_wp2_with fail
                        go_meet
                        case rel => exact ⟨rfl, belowDN (Below.refl _ _) nq⟩
                      | true =>
                        repeat (go_big_quiet_step ((go_at_call 59; first | with_reducible exact Calls.quiet_of_same (HA0.out _) | with_reducible exact Calls.quiet_of_same (HA1.out _) | with_reducible exact Calls.quiet_of_same (HAN.out _))))
                        refine wpQuiet_nil ?_
                        intro _ hw'
                        obtain ⟨nq, hw''⟩ := hw'
                        subst hw''
                        go_wp2_with fail
                        go_meet
                        case rel => exact ⟨rfl, belowDN (Below.refl _ _) nq⟩
                · have en2 : ((r2.size : Int) != 2) = true := by simp; omega
                  obtain rfl : CT = false := by rw [← HCT.out]; exact ctV_no hn2
                  clear hn2 HAL
                  go_quiet (fail)
                  go_wp2_with fail
                  go_meet
                  case rel => exact ⟨rfl, belowDN (Below.refl _ _) nq⟩
          case rest =>
            obtain ⟨hx, hBd⟩ := hcut
            obtain ⟨w6, rfl⟩ : ∃ y, y = wc := ⟨_, rfl⟩
            subst hx
            have BD := hid (belowCat BC.out hBd)
            have HZD := hid ((hBd.block _ (lt_of_heap HZC.out)).trans HZC.out)
            have HOD := hid (owns_below HOC.out hBd)
            have HBQD := hid (((belowCat HBC.out hBd).block _ (lt_of_heap HBQ.out)).trans HBQ.out)
            have kq2 := cell_later hBd KC.out.1
            have kq3 := cell_later hBd KC.out.2.1
            have kq4 := cell_later hBd KC.out.2.2.1
            have kq5 := cell_later hBd KC.out.2.2.2
            clear hBd KC HZC HOC BC HBC HBQ HCT HAN
            cases hX : (u && (F && (CT && NM))) with
            | false =>
              have HBAD := hid (rg_bad HR.out HRR.out HE.out HF.out (six_no _ _ _ _ _ _ hX) (show k + 1 ≤ N by omega))
              clear hX kq2 kq3 kq4 kq5
              go_wp2
              exact bodyPost_ret (v := .tuple #[.slice none 0 0, .int .i64 ((k + 1 : Nat) : Int)]) (by simp [results, Tryz.results31, go_sem]) rfl
                ⟨none, 0, k + 1, [], rfl, HBAD.out, World.ownsRow_nil _ _ _ _, by repeat (first | exact belowCat B1.out BD.out | refine blw_drew ?_ | refine blw_alloc ?_)⟩
            | true =>
              simp only [Bool.and_eq_true] at hX
              obtain ⟨rfl, rfl, rfl, rfl⟩ := hX
              go_upto_region 12 with fail
              go_cut [132] from 87 to 132 (fun x wx => x = .bool (!(J && E)) ∧ wx = w6)
              case first =>
                by_cases l0 : r4.toList = [85]
                · obtain rfl : J = true := by rw [← HJ.out]; unfold jnV; rw [l0]; rfl
                  by_cases m1 : r5.toList = [111, 108, 100]
                  · obtain rfl : E = true := by rw [← HED.out]; unfold edV; rw [m1]; rfl
                    go_wp2_with fail
                    go_meet
                    case rel => exact ⟨rfl, rfl⟩
                  · by_cases m2 : r5.toList = [110, 101, 119]
                    · obtain rfl : E = true := by rw [← HED.out]; unfold edV; rw [m2]; rfl
                      go_wp2_with fail
                      go_meet
                      case rel => exact ⟨rfl, rfl⟩
                    · obtain rfl : E = false := by rw [← HED.out]; unfold edV; simp [m1, m2]
                      go_wp2_with fail
                      go_meet
                      case rel => exact ⟨by simp [m1, m2], rfl⟩
                · skip
                  by_cases l1 : r4.toList = [68]
                  · obtain rfl : J = true := by rw [← HJ.out]; unfold jnV; rw [l1]; rfl
                    by_cases m1 : r5.toList = [111, 108, 100]
                    · obtain rfl : E = true := by rw [← HED.out]; unfold edV; rw [m1]; rfl
                      go_wp2_with fail
                      go_meet
                      case rel => exact ⟨rfl, rfl⟩
                    · by_cases m2 : r5.toList = [110, 101, 119]
                      · obtain rfl : E = true := by rw [← HED.out]; unfold edV; rw [m2]; rfl
                        go_wp2_with fail
                        go_meet
                        case rel => exact ⟨rfl, rfl⟩
                      · obtain rfl : E = false := by rw [← HED.out]; unfold edV; simp [m1, m2]
                        go_wp2_with fail
                        go_meet
                        case rel => exact ⟨by simp [m1, m2], rfl⟩
                  · skip
                    by_cases l2 : r4.toList = [82]
                    · obtain rfl : J = true := by rw [← HJ.out]; unfold jnV; rw [l2]; rfl
                      by_cases m1 : r5.toList = [111, 108, 100]
                      · obtain rfl : E = true := by rw [← HED.out]; unfold edV; rw [m1]; rfl
                        go_wp2_with fail
                        go_meet
                        case rel => exact ⟨rfl, rfl⟩
                      · by_cases m2 : r5.toList = [110, 101, 119]
                        · obtain rfl : E = true := by rw [← HED.out]; unfold edV; rw [m2]; rfl
                          go_wp2_with fail
                          go_meet
                          case rel => exact ⟨rfl, rfl⟩
                        · obtain rfl : E = false := by rw [← HED.out]; unfold edV; simp [m1, m2]
                          go_wp2_with fail
                          go_meet
                          case rel => exact ⟨by simp [m1, m2], rfl⟩
                    · skip
                      by_cases l3 : r4.toList = [76]
                      · obtain rfl : J = true := by rw [← HJ.out]; unfold jnV; rw [l3]; rfl
                        by_cases m1 : r5.toList = [111, 108, 100]
                        · obtain rfl : E = true := by rw [← HED.out]; unfold edV; rw [m1]; rfl
                          go_wp2_with fail
                          go_meet
                          case rel => exact ⟨rfl, rfl⟩
                        · by_cases m2 : r5.toList = [110, 101, 119]
                          · obtain rfl : E = true := by rw [← HED.out]; unfold edV; rw [m2]; rfl
                            go_wp2_with fail
                            go_meet
                            case rel => exact ⟨rfl, rfl⟩
                          · obtain rfl : E = false := by rw [← HED.out]; unfold edV; simp [m1, m2]
                            go_wp2_with fail
                            go_meet
                            case rel => exact ⟨by simp [m1, m2], rfl⟩
                      · skip
                        by_cases l4 : r4.toList = [67]
                        · obtain rfl : J = true := by rw [← HJ.out]; unfold jnV; rw [l4]; rfl
                          by_cases m1 : r5.toList = [111, 108, 100]
                          · obtain rfl : E = true := by rw [← HED.out]; unfold edV; rw [m1]; rfl
                            go_wp2_with fail
                            go_meet
                            case rel => exact ⟨rfl, rfl⟩
                          · by_cases m2 : r5.toList = [110, 101, 119]
                            · obtain rfl : E = true := by rw [← HED.out]; unfold edV; rw [m2]; rfl
                              go_wp2_with fail
                              go_meet
                              case rel => exact ⟨rfl, rfl⟩
                            · obtain rfl : E = false := by rw [← HED.out]; unfold edV; simp [m1, m2]
                              go_wp2_with fail
                              go_meet
                              case rel => exact ⟨by simp [m1, m2], rfl⟩
                        · skip
                          by_cases l5 : r4.toList = [84]
                          · obtain rfl : J = true := by rw [← HJ.out]; unfold jnV; rw [l5]; rfl
                            by_cases m1 : r5.toList = [111, 108, 100]
                            · obtain rfl : E = true := by rw [← HED.out]; unfold edV; rw [m1]; rfl
                              go_wp2_with fail
                              go_meet
                              case rel => exact ⟨rfl, rfl⟩
                            · by_cases m2 : r5.toList = [110, 101, 119]
                              · obtain rfl : E = true := by rw [← HED.out]; unfold edV; rw [m2]; rfl
                                go_wp2_with fail
                                go_meet
                                case rel => exact ⟨rfl, rfl⟩
                              · obtain rfl : E = false := by rw [← HED.out]; unfold edV; simp [m1, m2]
                                go_wp2_with fail
                                go_meet
                                case rel => exact ⟨by simp [m1, m2], rfl⟩
                          · obtain rfl : J = false := by rw [← HJ.out]; unfold jnV; simp [l0, l1, l2, l3, l4, l5]
                            go_wp2_with fail
                            go_meet
                            case rel => exact ⟨rfl, rfl⟩
              case rest =>
                obtain ⟨hx, rfl⟩ := hcut
                subst hx
                cases hX : (J && E) with
                | false =>
                  have HBAD := hid (rg_bad HR.out HRR.out HE.out HF.out (six_no2 _ _ hX) (show k + 1 ≤ N by omega))
                  clear hX kq2 kq3 kq4 kq5
                  go_wp2
                  exact bodyPost_ret (v := .tuple #[.slice none 0 0, .int .i64 ((k + 1 : Nat) : Int)]) (by simp [results, Tryz.results31, go_sem]) rfl
                    ⟨none, 0, k + 1, [], rfl, HBAD.out, World.ownsRow_nil _ _ _ _, by repeat (first | exact belowCat B1.out BD.out | refine blw_drew ?_ | refine blw_alloc ?_)⟩
                | true =>
                  simp only [Bool.and_eq_true] at hX
                  obtain ⟨rfl, rfl⟩ := hX
                  have HSO := hid (show rgOf (L.getD k []) = some ⟨a, b, [.string r2, .string r3, .string r4, .bool b5]⟩ from by rw [HRR.out, HE.out]; rfl)
                  have HE3 := hid (rsV_next HR.out HSO.out HF.out)
                  have c0 : wc.cell? ⟨z, 0, none⟩ = some (.int .u32 (a : Int)) := cell_of_heap HZD.out rfl
                  have c1 : wc.cell? ⟨z, 1, none⟩ = some (.int .u32 (b : Int)) := cell_of_heap HZD.out rfl
                  have KS := hid (show ∀ w', Below wc.heap.size wc w' → (fun w' => w'.cell? ⟨z, 0, none⟩ = some (.int .u32 (a : Int)) ∧ w'.cell? ⟨z, 1, none⟩ = some (.int .u32 (b : Int)) ∧ w'.cell? ⟨q, 2, none⟩ = some (.string r2) ∧ w'.cell? ⟨q, 3, none⟩ = some (.string r3) ∧ w'.cell? ⟨q, 4, none⟩ = some (.string r4) ∧ w'.cell? ⟨q, 5, none⟩ = some (.string r5)) w' from fun w' hb' => ⟨cell_later hb' c0, cell_later hb' c1, cell_later hb' kq2, cell_later hb' kq3, cell_later hb' kq4, cell_later hb' kq5⟩)
                  have bD : Below wc.heap.size wc (wc.drew.alloc (.cells #[.int .u32 (a : Int), .int .u32 (b : Int), .string r2, .string r3, .string r4, .bool (r5.toList == [110, 101, 119])] 49)) := blw_alloc (blw_drew (Below.refl _ _))
                  have HBD := hid (show Below w1.heap.size w1 (wc.drew.alloc (.cells #[.int .u32 (a : Int), .int .u32 (b : Int), .string r2, .string r3, .string r4, .bool (r5.toList == [110, 101, 119])] 49)) from belowCat BD.out bD)
                  have HOE := hid (show (wc.drew.alloc (.cells #[.int .u32 (a : Int), .int .u32 (b : Int), .string r2, .string r3, .string r4, .bool (r5.toList == [110, 101, 119])] 49)).ownsRow w1.heap.size 49 6 (.slice ad k cap) k (rowC rgC its) from owns_below HOD.out bD)
                  have HOB := hid (show ∀ j, (Value.slice ad k cap).ownBlock = some j → w1.heap.size ≤ j from fun j hj => (HOE.out.lt j hj).1)
                  have hbq : (wc.drew.alloc (.cells #[.int .u32 (a : Int), .int .u32 (b : Int), .string r2, .string r3, .string r4, .bool (r5.toList == [110, 101, 119])] 49)).heap[q]? = some (.cells csq 9 (0, 0)) := (bD.block _ (lt_of_heap HBQD.out)).trans HBQD.out
                  have hbz : (wc.drew.alloc (.cells #[.int .u32 (a : Int), .int .u32 (b : Int), .string r2, .string r3, .string r4, .bool (r5.toList == [110, 101, 119])] 49)).heap[z]? = some (.cells #[.int .u32 (a : Int), .int .u32 (b : Int)] 47 (0, 0)) := (bD.block _ (lt_of_heap HZD.out)).trans HZD.out
                  have HKP := hid (show ∀ w7, (wc.drew.alloc (.cells #[.int .u32 (a : Int), .int .u32 (b : Int), .string r2, .string r3, .string r4, .bool (r5.toList == [110, 101, 119])] 49)).grownBy w7 (Value.slice ad k cap).ownBlock → (fun w' => w'.cell? ⟨z, 0, none⟩ = some (.int .u32 (a : Int)) ∧ w'.cell? ⟨z, 1, none⟩ = some (.int .u32 (b : Int)) ∧ w'.cell? ⟨q, 2, none⟩ = some (.string r2) ∧ w'.cell? ⟨q, 3, none⟩ = some (.string r3) ∧ w'.cell? ⟨q, 4, none⟩ = some (.string r4) ∧ w'.cell? ⟨q, 5, none⟩ = some (.string r5)) w7 from fun w7 hg7 => by
                    have hq : ∀ j, w7.cell? ⟨q, j, none⟩ = (wc.drew.alloc (.cells #[.int .u32 (a : Int), .int .u32 (b : Int), .string r2, .string r3, .string r4, .bool (r5.toList == [110, 101, 119])] 49)).cell? ⟨q, j, none⟩ := fun j => World.cell?_of_block (hg7.block q (lt_of_heap hbq) (fun e => rowNe HOE.out hbq (by decide) e.symm))
                    have hz : ∀ j, w7.cell? ⟨z, j, none⟩ = (wc.drew.alloc (.cells #[.int .u32 (a : Int), .int .u32 (b : Int), .string r2, .string r3, .string r4, .bool (r5.toList == [110, 101, 119])] 49)).cell? ⟨z, j, none⟩ := fun j => World.cell?_of_block (hg7.block z (lt_of_heap hbz) (fun e => rowNe HOE.out hbz (by decide) e.symm))
                    have hs := KS.out _ bD
                    exact ⟨(hz 0).trans hs.1, (hz 1).trans hs.2.1, (hq 2).trans hs.2.2.1, (hq 3).trans hs.2.2.2.1, (hq 4).trans hs.2.2.2.2.1, (hq 5).trans hs.2.2.2.2.2⟩)
                  clear kq2 kq3 kq4 kq5 c0 c1 bD hbq hbz
                  go_upto_region 14 with fail
                  refine wp_region_held_drew (S := (fun w' => w'.cell? ⟨z, 0, none⟩ = some (.int .u32 (a : Int)) ∧ w'.cell? ⟨z, 1, none⟩ = some (.int .u32 (b : Int)) ∧ w'.cell? ⟨q, 2, none⟩ = some (.string r2) ∧ w'.cell? ⟨q, 3, none⟩ = some (.string r3) ∧ w'.cell? ⟨q, 4, none⟩ = some (.string r4) ∧ w'.cell? ⟨q, 5, none⟩ = some (.string r5))) (by kernel_rfl) (KS.out _ (blw_drew (Below.refl _ _))) (fun hHeld => ?_)
                  refine tk_at (i := 0) (d := some 135) (v := ?_) rfl rfl (by kernel_rfl) (by kernel_rfl) (by kernel_rfl) (fun _ _ _ h => h) (Or.inl ⟨by rfl, ?_⟩) (by assumption) ?_
                  rotate_left
                  · (intro w hSw; (try dsimp only at hSw); go_simp; try (with_reducible rfl))
                  simp only [Act.put, List.setIfInBounds_toArray, List.set_cons_zero, List.set_cons_succ]
                  refine tk_at (i := 1) (d := some 136) (v := ?_) rfl rfl (by kernel_rfl) (by kernel_rfl) (by kernel_rfl) (fun _ _ _ h => h) (Or.inl ⟨by rfl, ?_⟩) (by assumption) ?_
                  rotate_left
                  · (intro w hSw; (try dsimp only at hSw); go_simp; try (with_reducible rfl))
                  simp only [Act.put, List.setIfInBounds_toArray, List.set_cons_zero, List.set_cons_succ]
                  refine tk_at (i := 2) (d := some 137) (v := ?_) rfl rfl (by kernel_rfl) (by kernel_rfl) (by kernel_rfl) (fun _ _ _ h => h) (Or.inl ⟨by rfl, ?_⟩) (by assumption) ?_
                  rotate_left
                  · (intro w hSw; (try dsimp only at hSw); go_simp; try (with_reducible rfl))
                  simp only [Act.put, List.setIfInBounds_toArray, List.set_cons_zero, List.set_cons_succ]
                  refine tk_at (i := 3) (d := some 138) (v := ?_) rfl rfl (by kernel_rfl) (by kernel_rfl) (by kernel_rfl) (fun _ _ _ h => h) (Or.inl ⟨by rfl, ?_⟩) (by assumption) ?_
                  rotate_left
                  · (intro w hSw; (try dsimp only at hSw); go_simp; try (with_reducible rfl))
                  simp only [Act.put, List.setIfInBounds_toArray, List.set_cons_zero, List.set_cons_succ]
                  refine tk_at (i := 4) (d := some 139) (v := ?_) rfl rfl (by kernel_rfl) (by kernel_rfl) (by kernel_rfl) (fun _ _ _ h => h) (Or.inl ⟨by rfl, ?_⟩) (by assumption) ?_
                  rotate_left
                  · (intro w hSw; (try dsimp only at hSw); go_simp; try (with_reducible rfl))
                  simp only [Act.put, List.setIfInBounds_toArray, List.set_cons_zero, List.set_cons_succ]
                  refine tk_at (i := 5) (d := some 140) (v := ?_) rfl rfl (by kernel_rfl) (by kernel_rfl) (by kernel_rfl) (fun _ _ _ h => h) (Or.inl ⟨by rfl, ?_⟩) (by assumption) ?_
                  rotate_left
                  · (intro w hSw; (try dsimp only at hSw); go_simp; try (with_reducible rfl))
                  simp only [Act.put, List.setIfInBounds_toArray, List.set_cons_zero, List.set_cons_succ]
                  refine tk_at (i := 6) (d := some 141) (v := ?_) rfl rfl (by kernel_rfl) (by kernel_rfl) (by kernel_rfl) (fun _ _ _ h => h) (Or.inl ⟨by rfl, ?_⟩) (by assumption) ?_
                  rotate_left
                  · (intro w hSw; (try dsimp only at hSw); go_simp; try (with_reducible rfl))
                  simp only [Act.put, List.setIfInBounds_toArray, List.set_cons_zero, List.set_cons_succ]
                  refine tk_at (i := 7) (d := some 142) (v := ?_) rfl rfl (by kernel_rfl) (by kernel_rfl) (by kernel_rfl) (fun _ _ _ h => h) (Or.inl ⟨by rfl, ?_⟩) (by assumption) ?_
                  rotate_left
                  · (intro w hSw; (try dsimp only at hSw); go_simp; try (with_reducible rfl))
                  simp only [Act.put, List.setIfInBounds_toArray, List.set_cons_zero, List.set_cons_succ]
                  refine tk_at (i := 8) (d := some 143) (v := ?_) rfl rfl (by kernel_rfl) (by kernel_rfl) (by kernel_rfl) (fun _ _ _ h => h) (Or.inl ⟨by rfl, ?_⟩) (by assumption) ?_
                  rotate_left
                  · (intro w hSw; (try dsimp only at hSw); go_simp; try (with_reducible rfl))
                  simp only [Act.put, List.setIfInBounds_toArray, List.set_cons_zero, List.set_cons_succ]
                  refine tk_at (i := 9) (d := some 144) (v := ?_) rfl rfl (by kernel_rfl) (by kernel_rfl) (by kernel_rfl) (fun _ _ _ h => h) (Or.inl ⟨by rfl, ?_⟩) (by assumption) ?_
                  rotate_left
                  · (intro w hSw; (try dsimp only at hSw); go_simp; try (with_reducible rfl))
                  simp only [Act.put, List.setIfInBounds_toArray, List.set_cons_zero, List.set_cons_succ]
                  refine tk_at (i := 10) (d := some 145) (v := ?_) rfl rfl (by kernel_rfl) (by kernel_rfl) (by kernel_rfl) (fun _ _ _ h => h) (Or.inl ⟨by rfl, ?_⟩) (by assumption) ?_
                  rotate_left
                  · (intro w hSw; (try dsimp only at hSw); go_simp; try (with_reducible rfl))
                  simp only [Act.put, List.setIfInBounds_toArray, List.set_cons_zero, List.set_cons_succ]
                  refine tk_at (i := 11) (d := some 146) (v := ?_) rfl rfl (by kernel_rfl) (by kernel_rfl) (by kernel_rfl) (fun _ _ _ h => h) (Or.inl ⟨by rfl, ?_⟩) (by assumption) ?_
                  rotate_left
                  · (intro w hSw; (try dsimp only at hSw); go_simp; try (with_reducible rfl))
                  simp only [Act.put, List.setIfInBounds_toArray, List.set_cons_zero, List.set_cons_succ]
                  refine tk_at (i := 12) (d := some 147) (v := ?_) rfl rfl (by kernel_rfl) (by kernel_rfl) (by kernel_rfl) (fun _ _ _ h => h) (Or.inl ⟨by rfl, ?_⟩) (by assumption) ?_
                  rotate_left
                  · (intro w hSw; (try dsimp only at hSw); go_simp; try (with_reducible rfl))
                  simp only [Act.put, List.setIfInBounds_toArray, List.set_cons_zero, List.set_cons_succ]
                  refine tk_at (i := 13) (d := some 148) (v := ?_) rfl rfl (by kernel_rfl) (by kernel_rfl) (by kernel_rfl) (fun _ _ _ h => h) (Or.inl ⟨by rfl, ?_⟩) (by assumption) ?_
                  rotate_left
                  · (intro w hSw; (try dsimp only at hSw); go_simp; try (with_reducible rfl))
                  simp only [Act.put, List.setIfInBounds_toArray, List.set_cons_zero, List.set_cons_succ]
                  refine tk_at (i := 14) (d := some 149) (v := ?_) rfl rfl (by kernel_rfl) (by kernel_rfl) (by kernel_rfl) (fun _ _ _ h => h) (Or.inl ⟨by rfl, ?_⟩) (by assumption) ?_
                  rotate_left
                  · (intro w hSw; (try dsimp only at hSw); go_simp; try (with_reducible rfl))
                  simp only [Act.put, List.setIfInBounds_toArray, List.set_cons_zero, List.set_cons_succ]
                  refine tk_at (i := 15) (d := some 150) (v := ?_) rfl rfl (by kernel_rfl) (by kernel_rfl) (by kernel_rfl) (fun _ _ _ h => h) (Or.inl ⟨by rfl, ?_⟩) (by assumption) ?_
                  rotate_left
                  · (intro w hSw; (try dsimp only at hSw); go_simp; try (with_reducible rfl))
                  simp only [Act.put, List.setIfInBounds_toArray, List.set_cons_zero, List.set_cons_succ]
                  refine wpAnyH_ready (rs := [16]) (by kernel_rfl) (by simp) ?_
                  refine AllReadyH.cons rfl (fun K hK => ?_) AllReadyH.nil
                  go_simp
                  go_wp2_with fail
                  refine hK.out _ _ (KS.out _ (blw_alloc (blw_drew (Below.refl _ _)))) (fun hHeld => ?_)
                  clear hK K
                  try simp only [Act.put, List.setIfInBounds_toArray, List.set_cons_zero, List.set_cons_succ]
                  refine wpAnyH_ready (rs := [17]) (by kernel_rfl) (by simp) ?_
                  refine AllReadyH.cons rfl (fun K hK => ?_) AllReadyH.nil
                  refine step_append_lies _ rfl (.tmp 135) (.tmp 151) 24 rfl w1.heap.size 49 i0 _ 6 64 Tryz.underlying24 hi hz0 hz1 hz2 rfl (by decide) (.slice ad k cap) k (rowC rgC its) rfl HOE.out _ 1 1 [.int .u32 (a : Int), .int .u32 (b : Int), .string r2, .string r3, .string r4, .bool (r5.toList == [110, 101, 119])] rfl rfl (World.news_of_block (heap_alloc_at _ _)) (by intro y hy; simp only [List.mem_cons, List.not_mem_nil, or_false] at hy; rcases hy with rfl | rfl | rfl | rfl | rfl | rfl <;> rfl) (by decide) (by unfold maxLen; omega) (by omega) HBD.out.size _ rfl ?_
                  intro g7 cap7 w7 hown' hgrow hat hlt2
                  have HO7 := hid (show w7.ownsRow w1.heap.size 49 6 (.slice (some ⟨g7, 0, none⟩) (k + 1) cap7) (k + 1) (rowC rgC (its ++ [⟨a, b, [.string r2, .string r3, .string r4, .bool b5]⟩])) from by rw [rowC_snoc, ← HB5.out]; exact hown')
                  have B7 := hid (HBD.out.grown hgrow HBD.out.size HOB.out)
                  have HK7 := hid (HKP.out w7 hgrow)
                  clear hown' hgrow hat hlt2
                  refine hK.out _ _ HK7.out (fun hHeld => ?_)
                  clear hK K
                  try simp only [Act.put, List.setIfInBounds_toArray]
                  refine wpAnyH_ready (rs := [18]) (by kernel_rfl) (by simp) ?_
                  refine AllReadyH.cons rfl (fun K hK => ?_) AllReadyH.nil
                  go_simp
                  go_wp2_with fail
                  refine hK.out _ _ (HK7.out) (fun hHeld => ?_)
                  clear hK K
                  try simp only [Act.put, List.setIfInBounds_toArray, List.set_cons_zero, List.set_cons_succ]
                  refine wpAnyH_done (by kernel_rfl) ?_ _
                  clear hHeld
                  go_wp2
                  go_roundw
                  case rel => exact ⟨k + 1, cap7, some ⟨g7, 0, none⟩, its ++ [⟨a, b, [.string r2, .string r3, .string r4, .bool b5]⟩], by omega, by go_num, rfl, HE3.out, HO7.out, B7.out⟩
                  case measure => simp [intOf]; omega
      · have e6 : ((R.length : Int) != 6) = true := by simp; omega
        have HE := hid (rsV_end (rsV_none HR.out (by rw [HRR.out]; exact rgOf_no6 h6)) (show k + 1 ≤ N by omega))
        clear h6 hq
        go_wp2
        exact bodyPost_ret (v := .tuple #[.slice none 0 0, .int .i64 ((k + 1 : Nat) : Int)]) (by simp [results, Tryz.results31, go_sem]) rfl
          ⟨none, 0, k + 1, [], rfl, HE.out, World.ownsRow_nil _ _ _ _, by repeat (first | exact belowCat B1.out HB.out | refine blw_drew ?_ | refine blw_alloc ?_)⟩
    · have hke : k = N := by omega
      subst hke
      have hil := rsV_len HR.out
      have HIL := hid hil
      clear hr hown hB hil
      go_wp2
      exact bodyPost_ret (v := .tuple #[.slice ad k cap, .int .i64 0]) (by simp [results, Tryz.results31, go_sem]) rfl
        ⟨ad, cap, 0, its, by rw [HIL.out]; rfl, HR.out, by rw [HIL.out]; exact owns_base HO.out B1.out.size, belowCat B1.out HB.out⟩
end Go.Proofs.YtgalmlelnolodaaGreatDoor
