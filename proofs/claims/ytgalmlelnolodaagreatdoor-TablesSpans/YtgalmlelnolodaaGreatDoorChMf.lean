/- The contract of the document's Decomps, over this seat's translation. Conditions: a text's size. -/
import Derived.Test.YtgalmlelnolodaaGreatDoorChMe
import Derived.Test.YtgalmlelnolodaaGreatDoorChVn
import Derived.BigQuiet
namespace Go.Proofs.YtgalmlelnolodaaGreatDoor
open Go.RowKit
set_option linter.unusedVariables false

theorem owns_put2 {w : World} {base : Nat} {t : TypeId} {sz n z k : Nat} {v val : Value} {xs : List Value} (h : w.ownsRow base t sz v n xs) (hz : v.ownBlock ≠ some z) : (w.setCell ⟨z, k, none⟩ val).ownsRow base t sz v n xs := by
  refine ⟨h.1, ?_⟩
  rcases h.2 with h0 | ⟨g, cp, cur, h1, h2, h3, h4⟩
  · exact Or.inl h0
  · exact Or.inr ⟨g, cp, cur, h1, h2, (Below.heap_setCell _ _ _ g (fun e => hz (by rw [h1, e]; rfl))).trans h3, h4⟩
theorem dc_two {R : List ByteArray} {p : Nat} {l : List Nat} (h3 : 3 ≤ R.length) (h5 : R.length ≤ 5) (h0 : ptV (bs (wd R 0)) = some p) (hg : sgV (wd R 1) = true) (hl : psV (R.drop 2) = some l) : dcOf R = some ⟨p, l, (wd R 1).toList == [126], (wd R 1).toList == [33]⟩ := by
  rw [dcOf_in h3, h0, pvV_few (by rw [List.length_drop]; omega), hl, hg]; rfl
theorem dc_no0 {R : List ByteArray} (h0 : ptV (bs (wd R 0)) = none) : dcOf R = none := by unfold dcOf; rw [h0]; split <;> rfl
theorem dc_noG {R : List ByteArray} (hg : sgV (wd R 1) = false) : dcOf R = none := by
  unfold dcOf
  rw [hg]
  split
  · cases ptV (bs (wd R 0)) with
    | none => rfl
    | some p => cases pvV (R.drop 2) <;> rfl
  · rfl
theorem dc_noL {R : List ByteArray} (h3 : 3 ≤ R.length) (h5 : R.length ≤ 5) (hl : psV (R.drop 2) = none) : dcOf R = none := by
  rw [dcOf_in h3, pvV_few (by rw [List.length_drop]; omega), hl]
  cases ptV (bs (wd R 0)) <;> rfl
theorem dc_many {R : List ByteArray} (h5 : 5 < R.length) : dcOf R = none := by
  rw [dcOf_in (by omega), pvV_many (by rw [List.length_drop]; omega)]
  cases ptV (bs (wd R 0)) <;> rfl
theorem wd_drop (R : List ByteArray) (m : Nat) : wd (R.drop 2) m = wd R (2 + m) := by
  unfold wd
  rw [List.getD_eq_getElem?_getD, List.getD_eq_getElem?_getD, List.getElem?_drop]

set_option maxRecDepth 2000 in
set_option maxHeartbeats 25600000 in
theorem rdecomps_any (s : ByteArray) (w : World) (hs : s.size ≤ 1000000) :
    Calls Tryz.prog 33 #[.string s] w fun e w' => ∃ (ad : Option Addr) (cap at_ : Nat) (its : List Dt) (vs : List Value),
      e = .returned (.tuple #[.slice ad its.length cap, .int .i64 (at_ : Int)]) ∧ rsV dcOf upD (lwV s) (lwV s).length = (its, at_) ∧ OutD w' w.heap.size w.heap.size (.slice ad its.length cap) its vs ∧ Below w.heap.size w w' := by
  obtain ⟨i0, hi, hz0, hz1, hz2⟩ := info_parts infoDecomp
  obtain ⟨j0, hj, hy0, hy1, hy2⟩ := info_parts infoU32
  have HL := hid (rlines_any s w hs)
  have HLN := hid (lwV_cap s)
  have HWZ := hid (lwV_words s)
  obtain ⟨L, hL⟩ : ∃ L, lwV s = L := ⟨_, rfl⟩
  rw [hL] at HL HLN HWZ ⊢
  obtain ⟨N, hN⟩ : ∃ N, L.length = N := ⟨_, rfl⟩
  rw [hN] at HL HLN ⊢
  have HN := hid hN
  have hN6 : N ≤ 1000001 := by have := HLN.out; omega
  have HZ := hid (show ∀ i j, (wd (L.getD i []) j).size ≤ 4000000000 from fun i j => Nat.le_trans (HWZ.out i j) (by omega))
  clear HWZ HLN hL hN hs
  go_enter Tryz.func33, Tryz.ntmps33
  go_wp2_with fail
  refine HL.out.mono ?_
  rintro e w1 ⟨ad1, cap1, us, rfl, hol, hB1⟩
  have OL := hid hol
  have B1 := hid hB1
  clear hol hB1 HL
  go_wp2_with fail
  go_loopw [4, 6] (fun o i wr => ∃ (k cap : Nat) (ad : Option Addr) (its : List Dt) (vs : List Value), k ≤ N ∧ i = .int .i64 (k : Int) ∧ o = .slice ad k cap ∧ rsV dcOf upD L k = (its, 0) ∧ OutD wr w1.heap.size w1.heap.size (.slice ad k cap) its vs ∧ Below w1.heap.size w1 wr) (fun _ i _ => N - (intOf i).toNat)
  case atStart => exact ⟨0, 0, none, [], [], Nat.zero_le _, rfl, rfl, rfl, OutD.nil _ _ _, Below.refl _ _⟩
  case round =>
    obtain ⟨k, cap, ad, its, vs, hk, rfl, rfl, hr, hown, hB⟩ := hrel
    have HIL := hid (rsV_len hr)
    have HR := hid hr
    have HO := hid hown
    have HB := hid hB
    obtain ⟨w2, rfl⟩ : ∃ y, y = wr := ⟨_, rfl⟩
    by_cases hlt : k < N
    · obtain ⟨g, q, rc, rfl, hg, hq⟩ := (OL.out.below hB).at HN.out.symm k (by rw [HN.out]; exact hlt)
      have HZK := hid (HZ.out k)
      obtain ⟨R, hRR⟩ : ∃ R, L.getD k [] = R := ⟨_, rfl⟩
      have HRR := hid hRR
      rw [hRR] at hg hq HZK
      have HBAD := hid (fun (h : dcOf R = none) => rsV_end (rsV_none HR.out (by rw [hRR]; exact h)) (show k + 1 ≤ N by omega))
      obtain ⟨⟨csg, hbg⟩, csq, hbq⟩ := (OL.out.below HB.out).blocks HN.out.symm k (by rw [HN.out]; exact hlt) hg
      have HBQ := hid hbq
      have HQ := hid hq
      clear hr hown hB hRR hbg hbq
      by_cases h3 : R.length < 3
      · have e3 : (R.length : Int) < 3 := by omega
        have HE := hid (HBAD.out (dcOf_few h3))
        clear h3 hq
        go_wp2
        exact bodyPost_ret (v := .tuple #[.slice none 0 0, .int .i64 ((k + 1 : Nat) : Int)]) (by simp [results, Tryz.results33, go_sem]) rfl
          ⟨none, 0, k + 1, [], [], rfl, HE.out, OutD.nil _ _ _, by repeat (first | exact belowCat B1.out (HB.out) | refine blw_drew ?_ | refine blw_alloc ?_)⟩
      by_cases h5 : 5 < R.length
      · have e3 : ((R.length : Int) < 3) = False := eq_false (by omega)
        have e5 : (5 : Int) < (R.length : Int) := by omega
        have HE := hid (HBAD.out (dc_many h5))
        clear h3 h5 hq
        go_wp2
        exact bodyPost_ret (v := .tuple #[.slice none 0 0, .int .i64 ((k + 1 : Nat) : Int)]) (by simp [results, Tryz.results33, go_sem]) rfl
          ⟨none, 0, k + 1, [], [], rfl, HE.out, OutD.nil _ _ _, by repeat (first | exact belowCat B1.out (HB.out) | refine blw_drew ?_ | refine blw_alloc ?_)⟩
      have H35 := hid (show 3 ≤ R.length ∧ R.length ≤ 5 from by omega)
      have e3 : ((R.length : Int) < 3) = False := eq_false (by omega)
      have e5 : ((5 : Int) < (R.length : Int)) = False := eq_false (by omega)
      have n0 : 0 < R.length := by omega
      have m0 : (0 : Int) < (R.length : Int) := by omega
      have n1 : 1 < R.length := by omega
      have m1 : (1 : Int) < (R.length : Int) := by omega
      have k0 := hq 0 n0
      have k1 := hq 1 n1
      obtain ⟨r0, h0⟩ : ∃ r, wd R 0 = r := ⟨_, rfl⟩
      obtain ⟨r1, h1⟩ : ∃ r, wd R 1 = r := ⟨_, rfl⟩
      rw [h0] at k0
      rw [h1] at k1
      have HS0 := hid (show r0.size ≤ 4000000000 from by rw [← h0]; exact HZK.out 0)
      have HW0 := hid h0
      have HW1 := hid h1
      obtain ⟨P, hP⟩ : ∃ P, ptV (bs r0) = P := ⟨_, rfl⟩
      have HPP := hid hP
      obtain ⟨G, hG⟩ : ∃ G, sgV r1 = G := ⟨_, rfl⟩
      have HG := hid hG
      have HPT := hid (show ∀ w, Calls Tryz.prog 61 #[.string r0] w fun e w' => e = .returned (.int .i64 (ptI P)) ∧ Below w.heap.size w w' from fun w => (rpoint_any r0 w HS0.out).mono fun e w' h => ⟨by rw [h.1, hP], h.2⟩)
      have HPL := hid (show ptI P = -1 ∧ P = none ∨ ∃ p : Nat, P = some p ∧ ptI P = (p : Int) ∧ p ≤ 1114111 from by cases P with | none => exact Or.inl ⟨rfl, rfl⟩ | some p => exact Or.inr ⟨p, rfl, rfl, ptV_le hP⟩)
      clear h3 h5 hq h0 h1 hP hG
      go_upto_region 7 with fail
      clear hg
      go_cut [54] from 22 to 54 (fun x wx => x = .bool (!(G && P.isSome)) ∧ Below w2.heap.size w2 wx)
      case first =>
        by_cases l0 : r1.toList = [61]
        · obtain rfl : G = true := by rw [← HG.out]; unfold sgV; rw [l0]; rfl
          go_wp2_with fail
          refine (HPT.out _).mono ?_
          rintro e w3 ⟨rfl, hB⟩
          have B3 := hid hB
          clear hB
          rcases HPL.out with ⟨hp1, rfl⟩ | ⟨p, rfl, hp1, hp6⟩
          · rw [hp1]
            go_wp2_with fail
            go_meet
            case rel => exact ⟨rfl, B3.out⟩
          · rw [hp1]
            have hp0 : ((p : Int) < 0) = False := eq_false (by omega)
            go_wp2_with fail
            go_meet
            case rel => exact ⟨rfl, B3.out⟩
        · skip
          by_cases l1 : r1.toList = [33]
          · obtain rfl : G = true := by rw [← HG.out]; unfold sgV; rw [l1]; rfl
            go_wp2_with fail
            refine (HPT.out _).mono ?_
            rintro e w3 ⟨rfl, hB⟩
            have B3 := hid hB
            clear hB
            rcases HPL.out with ⟨hp1, rfl⟩ | ⟨p, rfl, hp1, hp6⟩
            · rw [hp1]
              go_wp2_with fail
              go_meet
              case rel => exact ⟨rfl, B3.out⟩
            · rw [hp1]
              have hp0 : ((p : Int) < 0) = False := eq_false (by omega)
              go_wp2_with fail
              go_meet
              case rel => exact ⟨rfl, B3.out⟩
          · skip
            by_cases l2 : r1.toList = [126]
            · obtain rfl : G = true := by rw [← HG.out]; unfold sgV; rw [l2]; rfl
              go_wp2_with fail
              refine (HPT.out _).mono ?_
              rintro e w3 ⟨rfl, hB⟩
              have B3 := hid hB
              clear hB
              rcases HPL.out with ⟨hp1, rfl⟩ | ⟨p, rfl, hp1, hp6⟩
              · rw [hp1]
                go_wp2_with fail
                go_meet
                case rel => exact ⟨rfl, B3.out⟩
              · rw [hp1]
                have hp0 : ((p : Int) < 0) = False := eq_false (by omega)
                go_wp2_with fail
                go_meet
                case rel => exact ⟨rfl, B3.out⟩
            · obtain rfl : G = false := by rw [← HG.out]; unfold sgV; simp [l0, l1, l2]
              go_wp2_with fail
              go_meet
              case rel => exact ⟨by simp, Below.refl _ _⟩
      case rest =>
        obtain ⟨hx, hBc⟩ := hcut
        obtain ⟨w4, rfl⟩ : ∃ y, y = wc := ⟨_, rfl⟩
        subst hx
        have B4 := hid (belowCat HB.out hBc)
        have HB24 := hid hBc
        have HO4 := hid (HO.out.below hBc)
        have HQ4 := hid (fun j hj => cell_later hBc (HQ.out j hj))
        have HBQ4 := hid ((hBc.block _ (lt_of_heap HBQ.out)).trans HBQ.out)
        clear hBc k0 k1 HQ HBQ HO
        cases hX : (G && P.isSome) with
        | false =>
          have HE := hid (HBAD.out (by
            cases G with
            | false => exact dc_noG (by rw [HW1.out]; exact HG.out)
            | true => cases P with
              | none => exact dc_no0 (by rw [HW0.out]; exact HPP.out)
              | some p => cases hX))
          clear hX
          go_wp2
          exact bodyPost_ret (v := .tuple #[.slice none 0 0, .int .i64 ((k + 1 : Nat) : Int)]) (by simp [results, Tryz.results33, go_sem]) rfl
            ⟨none, 0, k + 1, [], [], rfl, HE.out, OutD.nil _ _ _, by repeat (first | exact belowCat B1.out (B4.out) | refine blw_drew ?_ | refine blw_alloc ?_)⟩
        | true =>
          obtain rfl : G = true := by cases G with | true => rfl | false => cases hX
          obtain ⟨p, rfl⟩ : ∃ p, P = some p := by cases P with | none => cases hX | some p => exact ⟨p, rfl⟩
          have hp6 : p ≤ 1114111 := ptV_le HPP.out
          have hwp : IntKind.u32.wrap (p : Int) = (p : Int) := by rw [IntKind.wrap_u32]; omega
          rw [show ptI (some p) = (p : Int) from rfl] at HPT
          clear hX HPL
          rw [show (!true) = false from rfl]
          have KB := hid (show ∀ w', Below w4.heap.size w4 w' → w'.cell? ⟨q, 0, none⟩ = some (.string r0) ∧ w'.cell? ⟨q, 1, none⟩ = some (.string r1) from fun w' hb' => ⟨by rw [← HW0.out]; exact cell_later hb' (HQ4.out 0 n0), by rw [← HW1.out]; exact cell_later hb' (HQ4.out 1 n1)⟩)
          go_upto_region 9 with fail
          go_cut [8] from 57 to 70 (fun x wx => ∃ z, x = .pointer (some ⟨z, 0, none⟩) ∧ w4.heap.size ≤ z ∧ wx.heap[z]? = some (.cells #[.int .u32 (p : Int), .slice none 0 0, .bool (r1.toList == [126]), .bool (r1.toList == [33])] 64 (0, 0)) ∧ Below w4.heap.size w4 wx)
          case first =>
            refine wp_region_held_drew (S := (fun w' => w'.cell? ⟨q, 0, none⟩ = some (.string r0) ∧ w'.cell? ⟨q, 1, none⟩ = some (.string r1))) (by kernel_rfl) (KB.out _ (blw_drew (Below.refl _ _))) (fun hHeld => ?_)
            refine tk_at (i := 0) (d := some 57) (v := ?_) rfl rfl (by kernel_rfl) (by kernel_rfl) (by kernel_rfl) (fun _ _ _ h => h) (Or.inl ⟨by rfl, ?_⟩) (by assumption) ?_
            rotate_left
            · (intro w hSw; (try dsimp only at hSw); go_simp; try (with_reducible rfl))
            simp only [Act.put, List.setIfInBounds_toArray, List.set_cons_zero, List.set_cons_succ]
            refine tk_at (i := 1) (d := some 58) (v := ?_) rfl rfl (by kernel_rfl) (by kernel_rfl) (by kernel_rfl) (fun _ _ _ h => h) (Or.inl ⟨by rfl, ?_⟩) (by assumption) ?_
            rotate_left
            · (intro w hSw; (try dsimp only at hSw); go_simp; try (with_reducible rfl))
            simp only [Act.put, List.setIfInBounds_toArray, List.set_cons_zero, List.set_cons_succ]
            refine tk_at (i := 2) (d := some 59) (v := ?_) rfl rfl (by kernel_rfl) (by kernel_rfl) (by kernel_rfl) (fun _ _ _ h => h) (Or.inl ⟨by rfl, ?_⟩) (by assumption) ?_
            rotate_left
            · (intro w hSw; (try dsimp only at hSw); go_simp; try (with_reducible rfl))
            simp only [Act.put, List.setIfInBounds_toArray, List.set_cons_zero, List.set_cons_succ]
            refine tk_at (i := 5) (d := some 62) (v := ?_) rfl rfl (by kernel_rfl) (by kernel_rfl) (by kernel_rfl) (fun _ _ _ h => h) (Or.inl ⟨by rfl, ?_⟩) (by assumption) ?_
            rotate_left
            · (intro w hSw; (try dsimp only at hSw); go_simp; try (with_reducible rfl))
            simp only [Act.put, List.setIfInBounds_toArray, List.set_cons_zero, List.set_cons_succ]
            refine tk_at (i := 6) (d := some 63) (v := ?_) rfl rfl (by kernel_rfl) (by kernel_rfl) (by kernel_rfl) (fun _ _ _ h => h) (Or.inl ⟨by rfl, ?_⟩) (by assumption) ?_
            rotate_left
            · (intro w hSw; (try dsimp only at hSw); go_simp; try (with_reducible rfl))
            simp only [Act.put, List.setIfInBounds_toArray, List.set_cons_zero, List.set_cons_succ]
            refine tk_at (i := 7) (d := some 64) (v := ?_) rfl rfl (by kernel_rfl) (by kernel_rfl) (by kernel_rfl) (fun _ _ _ h => h) (Or.inl ⟨by rfl, ?_⟩) (by assumption) ?_
            rotate_left
            · (intro w hSw; (try dsimp only at hSw); go_simp; try (with_reducible rfl))
            simp only [Act.put, List.setIfInBounds_toArray, List.set_cons_zero, List.set_cons_succ]
            refine tk_at (i := 8) (d := some 65) (v := ?_) rfl rfl (by kernel_rfl) (by kernel_rfl) (by kernel_rfl) (fun _ _ _ h => h) (Or.inl ⟨by rfl, ?_⟩) (by assumption) ?_
            rotate_left
            · (intro w hSw; (try dsimp only at hSw); go_simp; try (with_reducible rfl))
            simp only [Act.put, List.setIfInBounds_toArray, List.set_cons_zero, List.set_cons_succ]
            refine tk_at (i := 9) (d := some 66) (v := ?_) rfl rfl (by kernel_rfl) (by kernel_rfl) (by kernel_rfl) (fun _ _ _ h => h) (Or.inl ⟨by rfl, ?_⟩) (by assumption) ?_
            rotate_left
            · (intro w hSw; (try dsimp only at hSw); go_simp; try (with_reducible rfl))
            simp only [Act.put, List.setIfInBounds_toArray, List.set_cons_zero, List.set_cons_succ]
            refine tk_at (i := 10) (d := some 67) (v := ?_) rfl rfl (by kernel_rfl) (by kernel_rfl) (by kernel_rfl) (fun _ _ _ h => h) (Or.inl ⟨by rfl, ?_⟩) (by assumption) ?_
            rotate_left
            · (intro w hSw; (try dsimp only at hSw); go_simp; try (with_reducible rfl))
            simp only [Act.put, List.setIfInBounds_toArray, List.set_cons_zero, List.set_cons_succ]
            refine tk_at (i := 11) (d := some 68) (v := ?_) rfl rfl (by kernel_rfl) (by kernel_rfl) (by kernel_rfl) (fun _ _ _ h => h) (Or.inl ⟨by rfl, ?_⟩) (by assumption) ?_
            rotate_left
            · (intro w hSw; (try dsimp only at hSw); go_simp; try (with_reducible rfl))
            simp only [Act.put, List.setIfInBounds_toArray, List.set_cons_zero, List.set_cons_succ]
            refine tk_at (i := 12) (d := some 69) (v := ?_) rfl rfl (by kernel_rfl) (by kernel_rfl) (by kernel_rfl) (fun _ _ _ h => h) (Or.inl ⟨by rfl, ?_⟩) (by assumption) ?_
            rotate_left
            · (intro w hSw; (try dsimp only at hSw); go_simp; try (with_reducible rfl))
            simp only [Act.put, List.setIfInBounds_toArray, List.set_cons_zero, List.set_cons_succ]
            clear hHeld
            refine wpAnyH_inv0 (fun aC0 lsC aC wC => ∃ (b3 b4 b13 b14 b15 : Bool) (pp x3 x4 x13 : Value), lsC = #[true, true, true, b3, b4, true, true, true, true, true, true, true, true, b13, b14, b15] ∧ aC = { aC0 with tmps := ((((aC0.tmps.setIfInBounds 60 x3).setIfInBounds 61 x4).setIfInBounds 70 x13).setIfInBounds 8 pp) } ∧ (b3 = true → x3 = .int .i64 (p : Int)) ∧ (b4 = true → x4 = .int .u32 (p : Int)) ∧ (b13 = true → x13 = .agg #[.int .u32 (p : Int), .slice none 0 0, .bool (r1.toList == [126]), .bool (r1.toList == [33])]) ∧ Below w4.heap.size w4 wC ∧ OwnC w4 wC b14 b15 pp #[.int .u32 0, .slice none 0 0, .bool false, .bool false] #[.int .u32 (p : Int), .slice none 0 0, .bool (r1.toList == [126]), .bool (r1.toList == [33])] 64 ∧ (b14 || !b15) = true) ?_ _ _ _ (by decide +kernel) (fun aS => ⟨false, false, false, false, false, aS.tmps.getD 8 undef, aS.tmps.getD 60 undef, aS.tmps.getD 61 undef, aS.tmps.getD 70 undef, by kernel_rfl, by simp only [set_self], fun h => (by cases h), fun h => (by cases h), fun h => (by cases h), blw_drew (Below.refl _ _), OwnC.none, rfl⟩)
            intro lsC aC wC ⟨b3, b4, b13, b14, b15, pp, x3, x4, x13, hl, ha, hx3, hx4, hx13, hBw, hpp, hcc⟩
            subst hl ha
            have Hx3 := hid hx3
            have Hx4 := hid hx4
            have Hx13 := hid hx13
            have HBW := hid hBw
            have HPP := hid hpp
            have HCC := hid hcc
            clear hx3 hx4 hx13 hBw hpp hcc
            simp only [List.setIfInBounds_toArray, List.set_cons_zero, List.set_cons_succ]
            refine ⟨fun hr => ?_, fun i hi => ?_⟩
            · have hall : (b3 && b4 && b13 && b14 && b15) = true := by
                clear Hx3 Hx4 Hx13 HBW HPP HCC
                revert b3 b4 b13 b14 b15
                decide +kernel
              simp only [Bool.and_eq_true] at hall
              obtain ⟨⟨⟨⟨rfl, rfl⟩, rfl⟩, rfl⟩, rfl⟩ := hall
              obtain ⟨z, rfl, hz1, hz2⟩ := HPP.out rfl
              obtain rfl := Hx3.out rfl
              obtain rfl := Hx4.out rfl
              obtain rfl := Hx13.out rfl
              have HR := hid (And.intro hz1 (And.intro hz2 HBW.out))
              clear hz1 hz2 Hx3 Hx4 Hx13 HBW HPP HCC hr
              (try dsimp only)
              go_wp2_with fail
              go_meet
              case rel => exact ⟨z, rfl, HR.out.1, HR.out.2.1, HR.out.2.2⟩
            · have hcase : (i = 3 ∧ b3 = false) ∨ (i = 4 ∧ b4 = false ∧ b3 = true) ∨ (i = 13 ∧ b13 = false ∧ b4 = true) ∨ (i = 14 ∧ b14 = false) ∨ (i = 15 ∧ b15 = false ∧ b14 = true ∧ b13 = true) := by
                refine of_decide_eq_true ((List.all_eq_true (p := fun i => decide ((i = 3 ∧ b3 = false) ∨ (i = 4 ∧ b4 = false ∧ b3 = true) ∨ (i = 13 ∧ b13 = false ∧ b4 = true) ∨ (i = 14 ∧ b14 = false) ∨ (i = 15 ∧ b15 = false ∧ b14 = true ∧ b13 = true)))).1 ?_ i hi)
                clear Hx3 Hx4 Hx13 HBW HPP HCC hi
                revert b3 b4 b13 b14 b15
                decide +kernel
              clear hi
              rcases hcase with ⟨rfl, rfl⟩ | ⟨rfl, rfl, rfl⟩ | ⟨rfl, rfl, rfl⟩ | ⟨rfl, rfl⟩ | ⟨rfl, rfl, rfl, rfl⟩
              · refine wpOp_shut rfl (fun K hK => ?_)
                go_simp
                refine (HPT.out _).mono ?_
                rintro e wa ⟨rfl, hBa⟩
                have HBa := hid hBa
                clear hBa
                go_wp2_with fail
                have hB3 := belowCat HBW.out HBa.out
                exact hK.out _ _ ⟨KB.out _ hB3, true, b4, b13, b14, b15, _, _, _, _, by kernel_rfl, rfl, fun _ => rfl, Hx4.out, Hx13.out, hB3, HPP.out.below HBa.out, HCC.out⟩
              · obtain rfl := Hx3.out rfl
                refine wpOp_shut rfl (fun K hK => ?_)
                go_simp
                go_wp2_with fail
                exact hK.out _ _ ⟨KB.out _ HBW.out, true, true, b13, b14, b15, _, _, _, _, by kernel_rfl, rfl, fun _ => rfl, fun _ => rfl, Hx13.out, HBW.out, HPP.out, HCC.out⟩
              · obtain rfl := Hx4.out rfl
                refine wpOp_shut rfl (fun K hK => ?_)
                go_simp
                go_wp2_with fail
                exact hK.out _ _ ⟨KB.out _ HBW.out, b3, true, true, b14, b15, _, _, _, _, by kernel_rfl, rfl, Hx3.out, fun _ => rfl, fun _ => rfl, HBW.out, HPP.out, HCC.out⟩
              · obtain rfl : b15 = false := by have := HCC.out; revert this; cases b15 <;> simp
                refine wpOp_shut rfl (fun K hK => ?_)
                go_simp
                go_wp2_with fail
                have hBa := (Below.refl wC.heap.size wC).alloc (Nat.le_refl _) (.cells #[.int .u32 0, .slice none 0 0, .bool false, .bool false] 64 (0, 0))
                have hB3 := belowCat HBW.out hBa
                exact hK.out _ _ ⟨KB.out _ hB3, b3, b4, b13, true, false, _, _, _, _, by kernel_rfl, rfl, Hx3.out, Hx4.out, Hx13.out, hB3, OwnC.new HBW.out, rfl⟩
              · obtain ⟨z, rfl, hz1, hz2⟩ := HPP.out rfl
                obtain rfl := Hx13.out rfl
                have c0 := cell_of_heap (i := 0) hz2 rfl
                have c1 := cell_of_heap (i := 1) hz2 rfl
                have c2 := cell_of_heap (i := 2) hz2 rfl
                have c3 := cell_of_heap (i := 3) hz2 rfl
                have g0 := frozen_of_heap (i := 0) hz2
                have g1 := frozen_of_heap (i := 1) hz2
                have g2 := frozen_of_heap (i := 2) hz2
                have g3 := frozen_of_heap (i := 3) hz2
                have HZ := hid (And.intro hz1 hz2)
                clear hz1 hz2
                refine wpOp_shut rfl (fun K hK => ?_)
                go_simp
                go_wp2_with fail
                exact hK.out _ _ ⟨KB.out _ ((((HBW.out.setCell (p := ⟨z, 0, none⟩) HZ.out.1 _).setCell (p := ⟨z, 1, none⟩) HZ.out.1 _).setCell (p := ⟨z, 2, none⟩) HZ.out.1 _).setCell (p := ⟨z, 3, none⟩) HZ.out.1 _), b3, b4, true, true, true, _, _, _, _, by kernel_rfl, rfl, Hx3.out, Hx4.out, fun _ => rfl, ((((HBW.out.setCell (p := ⟨z, 0, none⟩) HZ.out.1 _).setCell (p := ⟨z, 1, none⟩) HZ.out.1 _).setCell (p := ⟨z, 2, none⟩) HZ.out.1 _).setCell (p := ⟨z, 3, none⟩) HZ.out.1 _), fun _ => ⟨z, rfl, HZ.out.1, set4 HZ.out.2⟩, rfl⟩
          case rest =>
            obtain ⟨z, rfl, hz, hzc, hBc⟩ := hcut
            obtain ⟨w5, rfl⟩ : ∃ y, y = wc := ⟨_, rfl⟩
            obtain ⟨c1, hc1⟩ : ∃ c, (r1.toList == [126]) = c := ⟨_, rfl⟩
            obtain ⟨c2, hc2⟩ : ∃ c, (r1.toList == [33]) = c := ⟨_, rfl⟩
            rw [hc1, hc2] at hzc
            have HC1 := hid hc1
            have HC2 := hid hc2
            have HZ5 := hid hzc
            have HZG := hid hz
            have B45 := hid hBc
            clear hzc hz hBc KB HPT hc1 hc2 hwp
            go_wp2_with fail
            go_loopw [9] (fun i wr => ∃ (j m cd : Nat) (da : Option Addr) (a : List Nat), j = m + 2 ∧ j ≤ R.length ∧ i = .int .i64 (j : Int) ∧ psV ((R.drop 2).take m) = some a ∧ wr.ownsRow w4.heap.size 22 1 (.slice da m cd) m (iV a) ∧ wr.heap[z]? = some (.cells #[.int .u32 (p : Int), .slice da m cd, .bool c1, .bool c2] 64 (0, 0)) ∧ Below w4.heap.size w4 wr) (fun i _ => R.length - (intOf i).toNat)
            case atStart => exact ⟨2, 0, 0, none, [], rfl, (by have := H35.out; omega), rfl, rfl, World.ownsRow_nil _ _ _ _, HZ5.out, B45.out⟩
            case round =>
              obtain ⟨j, m, cd, da, a, hjm, hjR, rfl, ha, hown, hzc, hB⟩ := hrel
              obtain ⟨w6, rfl⟩ : ∃ y, y = wr := ⟨_, rfl⟩
              have HJM := hid hjm
              have HA := hid ha
              have HOW := hid hown
              have HZC := hid hzc
              have HB6 := hid hB
              have B6 := hid (belowCat B4.out hB)
              have hm3 : m ≤ 3 := by have := H35.out; omega
              have hR5 : R.length ≤ 5 := H35.out.2
              by_cases hjt : j < R.length
              · have cq := cell_later hB (HQ4.out j hjt)
                obtain ⟨rm, hrm⟩ : ∃ r, wd R j = r := ⟨_, rfl⟩
                rw [hrm] at cq
                have HRM := hid (show wd (R.drop 2) m = rm from by rw [wd_drop, show 2 + m = j by omega]; exact hrm)
                have hmt : m < (R.drop 2).length := by rw [List.length_drop]; omega
                have hsm : rm.size ≤ 4000000000 := by rw [← hrm]; exact HZK.out j
                obtain ⟨P2, hP2⟩ : ∃ P, ptV (bs rm) = P := ⟨_, rfl⟩
                have HPT2 := hid (show ∀ w, Calls Tryz.prog 61 #[.string rm] w fun e w' => e = .returned (.int .i64 (ptI P2)) ∧ Below w.heap.size w w' from fun w => (rpoint_any rm w hsm).mono fun e w' h => ⟨by rw [h.1, hP2], h.2⟩)
                have HSTOP := hid (fun (h : P2 = none) => psV_stop hmt HA.out (by rw [HRM.out, hP2]; exact h))
                have HNEXT := hid (fun (x : Nat) (h : P2 = some x) => psV_next hmt HA.out (by rw [HRM.out, hP2]; exact h))
                have HPL2 := hid (show P2 = none ∨ ∃ x : Nat, P2 = some x ∧ x ≤ 1114111 from by cases P2 with | none => exact Or.inl rfl | some x => exact Or.inr ⟨x, rfl, ptV_le hP2⟩)
                clear hjm ha hown hzc hrm hmt hsm hP2 hB
                rcases HPL2.out with rfl | ⟨x, rfl, hx6⟩
                · have HE := hid (HBAD.out (dc_noL H35.out.1 H35.out.2 (HSTOP.out rfl)))
                  go_wp2_with fail
                  refine (HPT2.out _).mono ?_
                  rintro e w7 ⟨rfl, hB7⟩
                  have B7 := hid (belowCat B6.out hB7)
                  clear hB7
                  rw [show ptI (none : Option Nat) = -1 from rfl]
                  go_wp2
                  exact bodyPost_ret (v := .tuple #[.slice none 0 0, .int .i64 ((k + 1 : Nat) : Int)]) (by simp [results, Tryz.results33, go_sem]) rfl
                    ⟨none, 0, k + 1, [], [], rfl, HE.out, OutD.nil _ _ _, by repeat (first | exact belowCat B1.out (B7.out) | refine blw_drew ?_ | refine blw_alloc ?_)⟩
                · have HA2 := hid (HNEXT.out x rfl)
                  rw [show ptI (some x) = (x : Int) from rfl] at HPT2
                  have hx0 : ((x : Int) < 0) = False := eq_false (by omega)
                  have hwx : IntKind.u32.wrap (x : Int) = (x : Int) := by rw [IntKind.wrap_u32]; omega
                  clear HPL2 HSTOP HNEXT
                  go_wp2_with fail
                  refine (HPT2.out _).mono ?_
                  rintro e w7d ⟨rfl, hB7⟩
                  have HK7D := hid (show w7d.drew.cell? ⟨q, j, none⟩ = some (.string rm) from (show w7d.cell? ⟨q, j, none⟩ = some (.string rm) from cell_later hB7 cq))
                  have HK7 := hid (show w7d.drew.cell? ⟨q, j, none⟩ = some (.string rm) from HK7D.out)
                  have HZ7 := hid (show w7d.drew.heap[z]? = some (.cells #[.int .u32 (p : Int), .slice da m cd, .bool c1, .bool c2] 64 (0, 0)) from (hB7.block _ (lt_of_heap HZC.out)).trans HZC.out)
                  have HBQ7 := hid (show w7d.drew.heap[q]? = some (.cells csq 9 (0, 0)) from ((belowCat HB6.out hB7).block _ (lt_of_heap HBQ4.out)).trans HBQ4.out)
                  have HOW7 := hid (show w7d.drew.ownsRow w4.heap.size 22 1 (.slice da m cd) m (iV a) from (show w7d.ownsRow w4.heap.size 22 1 (.slice da m cd) m (iV a) from owns_below HOW.out hB7))
                  have HB7 := hid (show Below w4.heap.size w4 w7d.drew from blw_drew (belowCat HB6.out hB7))
                  have HQZ := hid (show q ≠ z from fun e => by have h1 := HBQ7.out; rw [e, HZ7.out] at h1; cases h1)
                  have cz7 : w7d.drew.cell? ⟨z, 1, none⟩ = some (.slice da m cd) := cell_of_heap HZ7.out rfl
                  clear hB7 cq
                  go_upto_region 15 with fail
                  refine wp_region_held_drew (S := (fun w' => w'.cell? ⟨q, j, none⟩ = some (.string rm))) (by kernel_rfl) (HK7D.out) (fun hHeld => ?_)
                  obtain ⟨w7, hw7⟩ : ∃ y, w7d.drew = y := ⟨_, rfl⟩
                  rw [hw7] at HK7 HZ7 HBQ7 HOW7 HB7 cz7 hHeld ⊢
                  clear hw7
                  refine tk_at (i := 0) (d := some 85) (v := ?_) rfl rfl (by kernel_rfl) (by kernel_rfl) (by kernel_rfl) (fun _ _ _ h => h) (Or.inl ⟨by rfl, ?_⟩) (by assumption) ?_
                  rotate_left
                  · (intro w hSw; (try dsimp only at hSw); go_simp; try (with_reducible rfl))
                  simp only [Act.put, List.setIfInBounds_toArray, List.set_cons_zero, List.set_cons_succ]
                  refine tk_at (i := 2) (d := some 87) (v := ?_) rfl rfl (by kernel_rfl) (by kernel_rfl) (by kernel_rfl) (fun _ _ _ h => h) (Or.inl ⟨by rfl, ?_⟩) (by assumption) ?_
                  rotate_left
                  · (intro w hSw; (try dsimp only at hSw); go_simp; try (with_reducible rfl))
                  simp only [Act.put, List.setIfInBounds_toArray, List.set_cons_zero, List.set_cons_succ]
                  refine tk_at (i := 3) (d := some 88) (v := ?_) rfl rfl (by kernel_rfl) (by kernel_rfl) (by kernel_rfl) (fun _ _ _ h => h) (Or.inl ⟨by rfl, ?_⟩) (by assumption) ?_
                  rotate_left
                  · (intro w hSw; (try dsimp only at hSw); go_simp; try (with_reducible rfl))
                  simp only [Act.put, List.setIfInBounds_toArray, List.set_cons_zero, List.set_cons_succ]
                  refine tk_at (i := 4) (d := some 89) (v := ?_) rfl rfl (by kernel_rfl) (by kernel_rfl) (by kernel_rfl) (fun _ _ _ h => h) (Or.inl ⟨by rfl, ?_⟩) (by assumption) ?_
                  rotate_left
                  · (intro w hSw; (try dsimp only at hSw); go_simp; try (with_reducible rfl))
                  simp only [Act.put, List.setIfInBounds_toArray, List.set_cons_zero, List.set_cons_succ]
                  refine tk_at (i := 5) (d := some 90) (v := ?_) rfl rfl (by kernel_rfl) (by kernel_rfl) (by kernel_rfl) (fun _ _ _ h => h) (Or.inl ⟨by rfl, ?_⟩) (by assumption) ?_
                  rotate_left
                  · (intro w hSw; (try dsimp only at hSw); go_simp; try (with_reducible rfl))
                  simp only [Act.put, List.setIfInBounds_toArray, List.set_cons_zero, List.set_cons_succ]
                  refine wpAnyH_ready (rs := [1, 6]) (by kernel_rfl) (by simp) ?_
                  refine AllReadyH.cons rfl (fun K hK => ?_) (AllReadyH.cons rfl (fun K hK => ?_) AllReadyH.nil)
                  · go_simp
                    go_wp2_with fail
                    refine hK.out _ _ (HK7.out) (fun hHeld => ?_)
                    clear hK K
                    try simp only [Act.put, List.setIfInBounds_toArray, List.set_cons_zero, List.set_cons_succ]
                    refine wpAnyH_ready (rs := [6]) (by kernel_rfl) (by simp) ?_
                    refine AllReadyH.cons rfl (fun K hK => ?_) AllReadyH.nil
                    go_simp
                    refine (HPT2.out _).mono ?_
                    rintro e w8 ⟨rfl, hB8⟩
                    have HB8 := hid hB8
                    have HBD := hid (show Below w4.heap.size w4 (w8.alloc (.cells #[.int .u32 (x : Int)] 22)) from blw_alloc (belowCat HB7.out hB8))
                    have HOE := hid (show (w8.alloc (.cells #[.int .u32 (x : Int)] 22)).ownsRow w4.heap.size 22 1 (.slice da m cd) m (iV a) from owns_below (owns_below HOW7.out hB8) (blw_alloc (Below.refl _ _)))
                    have HOB := hid (show ∀ b, (Value.slice da m cd).ownBlock = some b → w4.heap.size ≤ b from fun b hb => (HOE.out.lt b hb).1)
                    have B78 := hid (show Below w7.heap.size w7 (w8.alloc (.cells #[.int .u32 (x : Int)] 22)) from blw_alloc hB8)
                    have HZ8 := hid ((B78.out.block _ (lt_of_heap HZ7.out)).trans HZ7.out)
                    have HBQ8 := hid ((B78.out.block _ (lt_of_heap HBQ7.out)).trans HBQ7.out)
                    have HK8 := hid (cell_later B78.out HK7.out)
                    have cz8 : w8.cell? ⟨z, 1, none⟩ = some (.slice da m cd) := cell_later hB8 cz7
                    clear hB8
                    go_wp2_with fail
                    refine hK.out _ _ (cell_later HB8.out HK7.out) (fun hHeld => ?_)
                    clear hK K
                    try simp only [Act.put, List.setIfInBounds_toArray, List.set_cons_zero, List.set_cons_succ]
                    refine tk_at (i := 7) (d := some 92) (v := ?_) rfl rfl (by kernel_rfl) (by kernel_rfl) (by kernel_rfl) (fun _ _ _ h => h) (Or.inl ⟨by rfl, ?_⟩) (by assumption) ?_
                    rotate_left
                    · (intro w hSw; (try dsimp only at hSw); go_simp; try (with_reducible rfl))
                    simp only [Act.put, List.setIfInBounds_toArray, List.set_cons_zero, List.set_cons_succ]
                    refine wpAnyH_ready (rs := [8]) (by kernel_rfl) (by simp) ?_
                    refine AllReadyH.cons rfl (fun K hK => ?_) AllReadyH.nil
                    go_simp
                    go_wp2_with fail
                    refine hK.out _ _ (HK8.out) (fun hHeld => ?_)
                    clear hK K
                    try simp only [Act.put, List.setIfInBounds_toArray, List.set_cons_zero, List.set_cons_succ]
                    refine wpAnyH_ready (rs := [9]) (by kernel_rfl) (by simp) ?_
                    refine AllReadyH.cons rfl (fun K hK => ?_) AllReadyH.nil
                    refine step_append_lies _ rfl (.tmp 86) (.tmp 93) 62 rfl w4.heap.size 22 j0 _ 1 4 Tryz.underlying62 hj hy0 hy1 hy2 rfl (by decide) (.slice da m cd) m (iV a) rfl HOE.out _ 1 1 [.int .u32 (x : Int)] rfl rfl (World.news_of_block (heap_alloc_at _ _)) (by intro y hy; simp only [List.mem_cons, List.not_mem_nil, or_false] at hy; rcases hy with rfl; rfl) (by decide) (by unfold maxLen; omega) (by omega) HBD.out.size _ rfl ?_
                    intro g9 cap9 w9 hown' hgrow hat hlt2
                    have HO9 := hid (show w9.ownsRow w4.heap.size 22 1 (.slice (some ⟨g9, 0, none⟩) (m + 1) cap9) (m + 1) (iV (a ++ [x])) from by rw [iV_snoc]; exact hown')
                    have B9 := hid (HBD.out.grown hgrow HBD.out.size HOB.out)
                    have HZ9 := hid ((hgrow.block z (lt_of_heap HZ8.out) (fun e => rowNe HOE.out HZ8.out (by decide) e.symm)).trans HZ8.out)
                    have HQ9 := hid ((hgrow.block q (lt_of_heap HBQ8.out) (fun e => rowNe HOE.out HBQ8.out (by decide) e.symm)).trans HBQ8.out)
                    have HK9 := hid (show (fun w' => w'.cell? ⟨q, j, none⟩ = some (.string rm)) w9 from (World.cell?_of_block (hgrow.block q (lt_of_heap HBQ8.out) (fun e => rowNe HOE.out HBQ8.out (by decide) e.symm))).trans HK8.out)
                    have cz9 : w9.cell? ⟨z, 1, none⟩ = some (.slice da m cd) := cell_of_heap HZ9.out rfl
                    have fz9 := frozen_of_heap (i := 1) HZ9.out
                    clear hown' hgrow hat hlt2
                    refine hK.out _ _ HK9.out (fun hHeld => ?_)
                    clear hK K
                    try simp only [Act.put, List.setIfInBounds_toArray]
                    refine tk_at (i := 10) (d := some 95) (v := ?_) rfl rfl (by kernel_rfl) (by kernel_rfl) (by kernel_rfl) (fun _ _ _ h => h) (Or.inl ⟨by rfl, ?_⟩) (by assumption) ?_
                    rotate_left
                    · (intro w hSw; (try dsimp only at hSw); go_simp; try (with_reducible rfl))
                    simp only [Act.put]
                    refine wpAnyH_ready (rs := [11]) (by kernel_rfl) (by simp) ?_
                    refine AllReadyH.cons rfl (fun K hK => ?_) AllReadyH.nil
                    go_simp
                    go_wp2_with fail
                    refine hK.out _ _ (cell_ne (q := ⟨z, 1, none⟩) HK9.out HQZ.out) (fun hHeld => ?_)
                    clear hK K
                    try simp only [Act.put, List.setIfInBounds_toArray, List.set_cons_zero, List.set_cons_succ]
                    refine wpAnyH_done (by kernel_rfl) ?_ _
                    clear hHeld
                    go_wp2
                    go_roundw
                    case rel => exact ⟨j + 1, m + 1, cap9, some ⟨g9, 0, none⟩, a ++ [x], by rw [HJM.out], by omega, by go_num, HA2.out, owns_put2 HO9.out (fun e => rowNe HO9.out HZ9.out (by decide) e), heap_setCell_at _ _ 1 _ _ _ _ HZ9.out, B9.out.setCell (p := ⟨z, 1, none⟩) HZG.out _⟩
                    case measure => simp [intOf]; omega
                  · go_simp
                    refine (HPT2.out _).mono ?_
                    rintro e w8 ⟨rfl, hB8⟩
                    have HB8 := hid hB8
                    have HBD := hid (show Below w4.heap.size w4 (w8.alloc (.cells #[.int .u32 (x : Int)] 22)) from blw_alloc (belowCat HB7.out hB8))
                    have HOE := hid (show (w8.alloc (.cells #[.int .u32 (x : Int)] 22)).ownsRow w4.heap.size 22 1 (.slice da m cd) m (iV a) from owns_below (owns_below HOW7.out hB8) (blw_alloc (Below.refl _ _)))
                    have HOB := hid (show ∀ b, (Value.slice da m cd).ownBlock = some b → w4.heap.size ≤ b from fun b hb => (HOE.out.lt b hb).1)
                    have B78 := hid (show Below w7.heap.size w7 (w8.alloc (.cells #[.int .u32 (x : Int)] 22)) from blw_alloc hB8)
                    have HZ8 := hid ((B78.out.block _ (lt_of_heap HZ7.out)).trans HZ7.out)
                    have HBQ8 := hid ((B78.out.block _ (lt_of_heap HBQ7.out)).trans HBQ7.out)
                    have HK8 := hid (cell_later B78.out HK7.out)
                    have cz8 : w8.cell? ⟨z, 1, none⟩ = some (.slice da m cd) := cell_later hB8 cz7
                    clear hB8
                    go_wp2_with fail
                    refine hK.out _ _ (cell_later HB8.out HK7.out) (fun hHeld => ?_)
                    clear hK K
                    try simp only [Act.put, List.setIfInBounds_toArray, List.set_cons_zero, List.set_cons_succ]
                    refine tk_at (i := 7) (d := some 92) (v := ?_) rfl rfl (by kernel_rfl) (by kernel_rfl) (by kernel_rfl) (fun _ _ _ h => h) (Or.inl ⟨by rfl, ?_⟩) (by assumption) ?_
                    rotate_left
                    · (intro w hSw; (try dsimp only at hSw); go_simp; try (with_reducible rfl))
                    simp only [Act.put, List.setIfInBounds_toArray, List.set_cons_zero, List.set_cons_succ]
                    refine wpAnyH_ready (rs := [1, 8]) (by kernel_rfl) (by simp) ?_
                    refine AllReadyH.cons rfl (fun K hK => ?_) (AllReadyH.cons rfl (fun K hK => ?_) AllReadyH.nil)
                    · go_simp
                      go_wp2_with fail
                      refine hK.out _ _ (cell_later HB8.out HK7.out) (fun hHeld => ?_)
                      clear hK K
                      try simp only [Act.put, List.setIfInBounds_toArray, List.set_cons_zero, List.set_cons_succ]
                      refine wpAnyH_ready (rs := [8]) (by kernel_rfl) (by simp) ?_
                      refine AllReadyH.cons rfl (fun K hK => ?_) AllReadyH.nil
                      go_simp
                      go_wp2_with fail
                      refine hK.out _ _ (HK8.out) (fun hHeld => ?_)
                      clear hK K
                      try simp only [Act.put, List.setIfInBounds_toArray, List.set_cons_zero, List.set_cons_succ]
                      refine wpAnyH_ready (rs := [9]) (by kernel_rfl) (by simp) ?_
                      refine AllReadyH.cons rfl (fun K hK => ?_) AllReadyH.nil
                      refine step_append_lies _ rfl (.tmp 86) (.tmp 93) 62 rfl w4.heap.size 22 j0 _ 1 4 Tryz.underlying62 hj hy0 hy1 hy2 rfl (by decide) (.slice da m cd) m (iV a) rfl HOE.out _ 1 1 [.int .u32 (x : Int)] rfl rfl (World.news_of_block (heap_alloc_at _ _)) (by intro y hy; simp only [List.mem_cons, List.not_mem_nil, or_false] at hy; rcases hy with rfl; rfl) (by decide) (by unfold maxLen; omega) (by omega) HBD.out.size _ rfl ?_
                      intro g9 cap9 w9 hown' hgrow hat hlt2
                      have HO9 := hid (show w9.ownsRow w4.heap.size 22 1 (.slice (some ⟨g9, 0, none⟩) (m + 1) cap9) (m + 1) (iV (a ++ [x])) from by rw [iV_snoc]; exact hown')
                      have B9 := hid (HBD.out.grown hgrow HBD.out.size HOB.out)
                      have HZ9 := hid ((hgrow.block z (lt_of_heap HZ8.out) (fun e => rowNe HOE.out HZ8.out (by decide) e.symm)).trans HZ8.out)
                      have HQ9 := hid ((hgrow.block q (lt_of_heap HBQ8.out) (fun e => rowNe HOE.out HBQ8.out (by decide) e.symm)).trans HBQ8.out)
                      have HK9 := hid (show (fun w' => w'.cell? ⟨q, j, none⟩ = some (.string rm)) w9 from (World.cell?_of_block (hgrow.block q (lt_of_heap HBQ8.out) (fun e => rowNe HOE.out HBQ8.out (by decide) e.symm))).trans HK8.out)
                      have cz9 : w9.cell? ⟨z, 1, none⟩ = some (.slice da m cd) := cell_of_heap HZ9.out rfl
                      have fz9 := frozen_of_heap (i := 1) HZ9.out
                      clear hown' hgrow hat hlt2
                      refine hK.out _ _ HK9.out (fun hHeld => ?_)
                      clear hK K
                      try simp only [Act.put, List.setIfInBounds_toArray]
                      refine tk_at (i := 10) (d := some 95) (v := ?_) rfl rfl (by kernel_rfl) (by kernel_rfl) (by kernel_rfl) (fun _ _ _ h => h) (Or.inl ⟨by rfl, ?_⟩) (by assumption) ?_
                      rotate_left
                      · (intro w hSw; (try dsimp only at hSw); go_simp; try (with_reducible rfl))
                      simp only [Act.put]
                      refine wpAnyH_ready (rs := [11]) (by kernel_rfl) (by simp) ?_
                      refine AllReadyH.cons rfl (fun K hK => ?_) AllReadyH.nil
                      go_simp
                      go_wp2_with fail
                      refine hK.out _ _ (cell_ne (q := ⟨z, 1, none⟩) HK9.out HQZ.out) (fun hHeld => ?_)
                      clear hK K
                      try simp only [Act.put, List.setIfInBounds_toArray, List.set_cons_zero, List.set_cons_succ]
                      refine wpAnyH_done (by kernel_rfl) ?_ _
                      clear hHeld
                      go_wp2
                      go_roundw
                      case rel => exact ⟨j + 1, m + 1, cap9, some ⟨g9, 0, none⟩, a ++ [x], by rw [HJM.out], by omega, by go_num, HA2.out, owns_put2 HO9.out (fun e => rowNe HO9.out HZ9.out (by decide) e), heap_setCell_at _ _ 1 _ _ _ _ HZ9.out, B9.out.setCell (p := ⟨z, 1, none⟩) HZG.out _⟩
                      case measure => simp [intOf]; omega
                    · go_simp
                      go_wp2_with fail
                      refine hK.out _ _ (HK8.out) (fun hHeld => ?_)
                      clear hK K
                      try simp only [Act.put, List.setIfInBounds_toArray, List.set_cons_zero, List.set_cons_succ]
                      have czA : (w8.alloc (.cells #[.int .u32 (x : Int)] 22)).cell? ⟨z, 1, none⟩ = some (.slice da m cd) := cell_of_heap HZ8.out rfl
                      refine wpAnyH_ready (rs := [1]) (by kernel_rfl) (by simp) ?_
                      refine AllReadyH.cons rfl (fun K hK => ?_) AllReadyH.nil
                      go_simp
                      go_wp2_with fail
                      refine hK.out _ _ (HK8.out) (fun hHeld => ?_)
                      clear hK K
                      try simp only [Act.put, List.setIfInBounds_toArray, List.set_cons_zero, List.set_cons_succ]
                      refine wpAnyH_ready (rs := [9]) (by kernel_rfl) (by simp) ?_
                      refine AllReadyH.cons rfl (fun K hK => ?_) AllReadyH.nil
                      refine step_append_lies _ rfl (.tmp 86) (.tmp 93) 62 rfl w4.heap.size 22 j0 _ 1 4 Tryz.underlying62 hj hy0 hy1 hy2 rfl (by decide) (.slice da m cd) m (iV a) rfl HOE.out _ 1 1 [.int .u32 (x : Int)] rfl rfl (World.news_of_block (heap_alloc_at _ _)) (by intro y hy; simp only [List.mem_cons, List.not_mem_nil, or_false] at hy; rcases hy with rfl; rfl) (by decide) (by unfold maxLen; omega) (by omega) HBD.out.size _ rfl ?_
                      intro g9 cap9 w9 hown' hgrow hat hlt2
                      have HO9 := hid (show w9.ownsRow w4.heap.size 22 1 (.slice (some ⟨g9, 0, none⟩) (m + 1) cap9) (m + 1) (iV (a ++ [x])) from by rw [iV_snoc]; exact hown')
                      have B9 := hid (HBD.out.grown hgrow HBD.out.size HOB.out)
                      have HZ9 := hid ((hgrow.block z (lt_of_heap HZ8.out) (fun e => rowNe HOE.out HZ8.out (by decide) e.symm)).trans HZ8.out)
                      have HQ9 := hid ((hgrow.block q (lt_of_heap HBQ8.out) (fun e => rowNe HOE.out HBQ8.out (by decide) e.symm)).trans HBQ8.out)
                      have HK9 := hid (show (fun w' => w'.cell? ⟨q, j, none⟩ = some (.string rm)) w9 from (World.cell?_of_block (hgrow.block q (lt_of_heap HBQ8.out) (fun e => rowNe HOE.out HBQ8.out (by decide) e.symm))).trans HK8.out)
                      have cz9 : w9.cell? ⟨z, 1, none⟩ = some (.slice da m cd) := cell_of_heap HZ9.out rfl
                      have fz9 := frozen_of_heap (i := 1) HZ9.out
                      clear hown' hgrow hat hlt2
                      refine hK.out _ _ HK9.out (fun hHeld => ?_)
                      clear hK K
                      try simp only [Act.put, List.setIfInBounds_toArray]
                      refine tk_at (i := 10) (d := some 95) (v := ?_) rfl rfl (by kernel_rfl) (by kernel_rfl) (by kernel_rfl) (fun _ _ _ h => h) (Or.inl ⟨by rfl, ?_⟩) (by assumption) ?_
                      rotate_left
                      · (intro w hSw; (try dsimp only at hSw); go_simp; try (with_reducible rfl))
                      simp only [Act.put]
                      refine wpAnyH_ready (rs := [11]) (by kernel_rfl) (by simp) ?_
                      refine AllReadyH.cons rfl (fun K hK => ?_) AllReadyH.nil
                      go_simp
                      go_wp2_with fail
                      refine hK.out _ _ (cell_ne (q := ⟨z, 1, none⟩) HK9.out HQZ.out) (fun hHeld => ?_)
                      clear hK K
                      try simp only [Act.put, List.setIfInBounds_toArray, List.set_cons_zero, List.set_cons_succ]
                      refine wpAnyH_done (by kernel_rfl) ?_ _
                      clear hHeld
                      go_wp2
                      go_roundw
                      case rel => exact ⟨j + 1, m + 1, cap9, some ⟨g9, 0, none⟩, a ++ [x], by rw [HJM.out], by omega, by go_num, HA2.out, owns_put2 HO9.out (fun e => rowNe HO9.out HZ9.out (by decide) e), heap_setCell_at _ _ 1 _ _ _ _ HZ9.out, B9.out.setCell (p := ⟨z, 1, none⟩) HZG.out _⟩
                      case measure => simp [intOf]; omega
              · have hje : j = R.length := by omega
                have hml : m = (R.drop 2).length := by rw [List.length_drop]; omega
                have HPS := hid (show psV (R.drop 2) = some a from by have h := HA.out; rw [hml, List.take_length] at h; exact h)
                have hal : a.length = m := by rw [psV_len HPS.out, hml]
                have HAL := hid hal
                have HDC := hid (show dcOf R = some ⟨p, a, c1, c2⟩ from by rw [dc_two H35.out.1 H35.out.2 (by rw [HW0.out]; exact HPP.out) (by rw [HW1.out]; exact HG.out) HPS.out, HW1.out, HC1.out, HC2.out])
                obtain ⟨gd, hgd, _, _, _⟩ := owns_cell HOW.out (show 0 < m by have := H35.out.1; omega)
                subst hgd
                have HUB := hid (u32B_of_own HOW.out hal)
                have HO6 := hid (HO4.out.below hB)
                obtain ⟨F, hF⟩ : ∃ F, fitV upD its ⟨p, a, c1, c2⟩ = F := ⟨_, rfl⟩
                have HF := hid hF
                have HKN := hid (show k + 1 ≤ N from by omega)
                have hpp6 : p ≤ 1114111 := hp6
                subst hje
                clear hml hjm ha hown hzc hB hjR hjt hal hF
                go_upto_region 16 with fail
                go_cut [108] from 96 to 108 (fun x wx => x = .bool (!F) ∧ Below w6.heap.size w6 wx)
                case first =>
                  have cz : w6.cell? ⟨z, 0, none⟩ = some (.int .u32 (p : Int)) := cell_of_heap HZC.out rfl
                  by_cases hk0 : 0 < k
                  · obtain ⟨i1, hi1⟩ : ∃ m, k = m + 1 := ⟨k - 1, by omega⟩
                    have hpm := rsV_some HR.out (its[its.length - 1]'(by have := HIL.out; omega)) (List.getElem_mem (by have := HIL.out; omega))
                    have hfl := fitV_last (bh := upD) (x := ⟨p, a, c1, c2⟩) (show 0 < its.length by have := HIL.out; omega)
                    rw [HF.out] at hfl
                    have h2 : ∀ (m : Nat) (hm : m < its.length) (hq' : i1 < its.length), m = i1 → its[m] = its[i1] := fun m hm _ e => by subst e; rfl
                    obtain ⟨g0, gq, cq, hg0, x0, x1, x2, x3, hgl0, hgu0⟩ := HO6.out.at HIL.out.symm i1 (by have := HIL.out; omega)
                    subst hg0
                    clear hgl0 hgu0 x1 x2 x3
                    rw [← h2 (its.length - 1) (by have := HIL.out; omega) (by have := HIL.out; omega) (by have := HIL.out; omega)] at x0
                    obtain ⟨pd, hpd⟩ : ∃ p, its[its.length - 1]'(by have := HIL.out; omega) = p := ⟨_, rfl⟩
                    rw [hpd] at hpm hfl x0
                    obtain ⟨_, _, hpo⟩ := hpm
                    obtain ⟨pp, pl, pc, pa⟩ := pd
                    obtain ⟨hpp, _, _, _⟩ := dcOf_r hpo
                    simp only at hpp x0
                    have hFd : F = decide (pp < p) := hfl
                    have HFD := hid hFd
                    have hwq : IntKind.i64.wrap (i1 : Int) = (i1 : Int) := by rw [IntKind.wrap_i64]; omega
                    have hq0 : (i1 : Int) < (i1 : Int) + 1 := by omega
                    have hq1 : (0 : Int) < (i1 : Int) + 1 := by omega
                    subst hi1
                    clear hfl hpm hpd hpo hFd h2 hk hk0 hlt
                    by_cases hFF0 : pp < p
                    · have hFF : ((p : Int) ≤ (pp : Int)) = False := eq_false (by omega)
                      obtain rfl : F = true := by rw [HFD.out]; exact decide_eq_true hFF0
                      clear hFF0
                      go_quiet (fail)
                      go_wp2_with fail
                      go_meet
                      case rel => exact ⟨rfl, belowDN (Below.refl _ _) nq⟩
                    · have hFF : (p : Int) ≤ (pp : Int) := by omega
                      obtain rfl : F = false := by rw [HFD.out]; exact decide_eq_false hFF0
                      clear hFF0
                      go_quiet (fail)
                      go_wp2_with fail
                      go_meet
                      case rel => exact ⟨rfl, belowDN (Below.refl _ _) nq⟩
                  · obtain rfl : k = 0 := by omega
                    obtain rfl : F = true := by
                      have hn : its = [] := List.length_eq_zero_iff.1 HIL.out
                      rw [← HF.out, hn]; rfl
                    clear hk hlt hk0
                    go_quiet (fail)
                    go_wp2_with fail
                    go_meet
                    case rel => exact ⟨rfl, belowDN (Below.refl _ _) nq⟩
                case rest =>
                  obtain ⟨hx, hBe⟩ := hcut
                  obtain ⟨w7, rfl⟩ : ∃ y, y = wc := ⟨_, rfl⟩
                  subst hx
                  have B7 := hid (belowCat B6.out hBe)
                  have HZ7 := hid ((hBe.block _ (lt_of_heap HZC.out)).trans HZC.out)
                  have HO7 := hid (HO6.out.below hBe)
                  have HU7 := hid (show w1.heap.size ≤ gd ∧ U32B w7 gd a from ⟨Nat.le_trans B4.out.size HUB.out.1, HUB.out.2.below hBe⟩)
                  clear hBe
                  cases F with
                  | false =>
                    have HE := hid (rsV_end (rsV_bad HR.out (by rw [HRR.out]; exact HDC.out) HF.out) HKN.out)
                    rw [show (!false) = true from rfl]
                    go_wp2
                    exact bodyPost_ret (v := .tuple #[.slice none 0 0, .int .i64 ((k + 1 : Nat) : Int)]) (by simp [results, Tryz.results33, go_sem]) rfl
                      ⟨none, 0, k + 1, [], [], rfl, HE.out, OutD.nil _ _ _, by repeat (first | exact belowCat B1.out (B7.out) | refine blw_drew ?_ | refine blw_alloc ?_)⟩
                  | true =>
                    have HE := hid (rsV_next HR.out (by rw [HRR.out]; exact HDC.out) HF.out)
                    rw [show (!true) = false from rfl]
                    have c0 : w7.cell? ⟨z, 0, none⟩ = some (.int .u32 (p : Int)) := cell_of_heap HZ7.out rfl
                    have cc1 : w7.cell? ⟨z, 1, none⟩ = some (.slice (some ⟨gd, 0, none⟩) m cd) := cell_of_heap HZ7.out rfl
                    have cc2 : w7.cell? ⟨z, 2, none⟩ = some (.bool c1) := cell_of_heap HZ7.out rfl
                    have cc3 : w7.cell? ⟨z, 3, none⟩ = some (.bool c2) := cell_of_heap HZ7.out rfl
                    have HOUT := hid (show OutD (w7.alloc (.cells #[.int .u32 (p : Int), .slice (some ⟨gd, 0, none⟩) m cd, .bool c1, .bool c2] 64)) w1.heap.size w1.heap.size (.slice ad k cap) its vs from HO7.out.below (blw_alloc (Below.refl _ _)))
                    have HOC := hid (show (w7.alloc (.cells #[.int .u32 (p : Int), .slice (some ⟨gd, 0, none⟩) m cd, .bool c1, .bool c2] 64)).ownsRow w1.heap.size 64 4 (.slice ad k cap) k vs from HOUT.out.owns HIL.out)
                    have HGU := hid (show U32B (w7.alloc (.cells #[.int .u32 (p : Int), .slice (some ⟨gd, 0, none⟩) m cd, .bool c1, .bool c2] 64)) gd a from HU7.out.2.below (blw_alloc (Below.refl _ _)))
                    have BC := hid (show Below w1.heap.size w1 (w7.alloc (.cells #[.int .u32 (p : Int), .slice (some ⟨gd, 0, none⟩) m cd, .bool c1, .bool c2] 64)) from blw_alloc B7.out)
                    have HOB := hid (show ∀ g, (Value.slice ad k cap).ownBlock = some g → w1.heap.size ≤ g from fun g hg => (HOC.out.lt g hg).1)
                    go_wp2_with (at_builtin; refine wpList_append_lies _ rfl (.tmp 111) (.tmp 113) 26 rfl w1.heap.size 64 i0 _ 4 40 Tryz.underlying26 hi hz0 hz1 hz2 rfl (by decide) (.slice ad k cap) k vs rfl HOC.out ⟨w7.heap.size, 0, none⟩ 1 1 [.int .u32 (p : Int), .slice (some ⟨gd, 0, none⟩) m cd, .bool c1, .bool c2] rfl rfl ?c1 ?c2 (by decide) ?c3 ?c4 ?c5 _ rfl ?_)
                    case c1 => exact World.news_of_block (heap_alloc_at _ _)
                    case c2 => intro u hu; simp only [List.mem_cons, List.not_mem_nil, or_false] at hu; rcases hu with rfl | rfl | rfl | rfl <;> rfl
                    case c3 => unfold maxLen; omega
                    case c4 => omega
                    case c5 => exact BC.out.size
                    intro g2 cap2 w8 hown' hgrow hat hlt2
                    have HO8 := hid (show OutD w8 w1.heap.size w1.heap.size (.slice (some ⟨g2, 0, none⟩) (k + 1) cap2) (its ++ [⟨p, a, c1, c2⟩]) (vs ++ [.int .u32 (p : Int), .slice (some ⟨gd, 0, none⟩) a.length cd, .bool c1, .bool c2]) from HOUT.out.append (d := ⟨p, a, c1, c2⟩) HU7.out.1 HGU.out (by rw [HIL.out]; show w8.ownsRow _ _ _ _ _ (vs ++ [.int .u32 (p : Int), .slice (some ⟨gd, 0, none⟩) a.length cd, .bool c1, .bool c2]); rw [HAL.out]; exact hown') hgrow)
                    have B8 := hid (BC.out.grown hgrow BC.out.size HOB.out)
                    clear hown' hgrow hat hlt2 c0 cc1 cc2 cc3
                    go_wp2
                    go_roundw
                    case rel => exact ⟨k + 1, cap2, some ⟨g2, 0, none⟩, its ++ [⟨p, a, c1, c2⟩], _, by omega, by go_num, rfl, HE.out, HO8.out, B8.out⟩
                    case measure => simp [intOf]; omega
    · have hke : k = N := by omega
      subst hke
      have hil := HIL.out
      clear hr hown hB
      go_wp2
      exact bodyPost_ret (v := .tuple #[.slice ad k cap, .int .i64 0]) (by simp [results, Tryz.results33, go_sem]) rfl
        ⟨ad, cap, 0, its, vs, by rw [HIL.out]; rfl, HR.out, by rw [HIL.out]; exact HO.out.base B1.out.size B1.out.size, belowCat B1.out HB.out⟩
end Go.Proofs.YtgalmlelnolodaaGreatDoor
