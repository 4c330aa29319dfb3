/- Package hangul's times, over this seat's translation: a product bit by bit. Conditions: the words' bounds; how many bits the factor has. -/
import Derived.Test.YtnablmiocbijgaaHgA
import Derived.Test.YtnablmiocbijgaaShL
namespace Go.Proofs.Ytnablmiocbijgaa
open Go.RowKit
set_option linter.unusedVariables false

theorem bit_d (d i : Nat) (hd : d < 4294967296) : bits .and .u32 ((d : Int) / 2 ^ i) 1 = ((d / 2 ^ i % 2 : Nat) : Int) := by
  have e : ((d : Int) / 2 ^ i) = ((d / 2 ^ i : Nat) : Int) := by simp
  have h : d / 2 ^ i < 4294967296 := Nat.lt_of_le_of_lt (Nat.div_le_self _ _) hd
  rw [e, show (1 : Int) = ((1 : Nat) : Int) from rfl, u32_and_nat _ _ h (by decide), Nat.and_one_is_mod]
set_option maxHeartbeats 6400000 in
theorem times_any (x d L : Nat) (w : World) (hx : x < 4294967296) (hd : d < 4294967296) (hL : Lib.bitLen d = L) (hL2 : L ≤ 31) (hdL : d < 2 ^ L) :
    Calls Try.prog 30 #[sec x, u32 d] w fun e w' => e = .returned (sec (x * d % 4294967296 : Nat)) ∧ Below w.heap.size w w' := by
  have HL := hid hL
  have HDL := hid (tmK_all x d L hdL)
  have HT := hid (show tmK x d 0 = 0 by unfold tmK; simp [Nat.mod_one])
  clear hL hdL
  go_enter Try.func30, Try.ntmps30
  go_wp2_with fail
  refine (of_any _ _).mono ?_
  rintro e w2 ⟨rfl, rfl⟩
  go_wp2_with fail
  refine (Try.bits_Len32 (d : Int) _ (by omega) (by omega)).mono ?_
  rintro e w3 ⟨rfl, hw⟩
  subst hw
  rw [Int.toNat_natCast, HL.out]
  go_wp2_with fail
  go_loopw [10] (fun c wr => ∃ i : Nat, i ≤ L ∧ c = .int .i64 (i : Int) ∧ Below w.heap.size w wr ∧ wr.heap[w.heap.size]? = some (sb x) ∧ wr.heap[w.heap.size + 1]? = some (sb 0) ∧ wr.heap[w.heap.size + 1 + 1 + 1]? = some (sb (tmK x d i : Nat))) (fun c _ => L - (intOf c).toNat)
  case atStart => exact ⟨0, Nat.zero_le _, rfl, (by repeat (first | exact Below.refl _ _ | refine blw_alloc ?_ | refine blw_drew ?_ | assumption)), (by simp only [hp_get, World.size_alloc]; repeat (first | rw [if_pos trivial] | rw [if_pos rfl] | rw [if_neg (by omega)])), (by simp only [hp_get, World.size_alloc]; repeat (first | rw [if_pos trivial] | rw [if_pos rfl] | rw [if_neg (by omega)])), (by rw [HT.out]; exact (show _ = some (sb 0) from (by simp only [hp_get, World.size_alloc]; repeat (first | rw [if_pos trivial] | rw [if_pos rfl] | rw [if_neg (by omega)]))))⟩
  case round =>
    obtain ⟨i, hi, rfl, hB, h0, h1, h3⟩ := hrel
    have HB := hid hB
    have G0 := hid h0
    have G1 := hid h1
    have G3 := hid h3
    obtain ⟨N, hN⟩ : ∃ N, w.heap.size = N := ⟨_, rfl⟩
    have HN := hid hN
    clear hB h0 h1 h3
    rw [hN] at G0 G1 G3 ⊢
    clear hN
    by_cases hlt : i < L
    · have e := bit_d d i hd
      have HTY := hid (tmK_yes x d i (by omega))
      have HTN := hid (tmK_no x d i)
      rcases Nat.mod_two_eq_zero_or_one (d / 2 ^ i) with hb | hb
      · rw [hb] at e
        have HT2 := hid (HTN.out hb)
        clear hb
        go_wp2
        go_roundw
        case rel => exact ⟨i + 1, by omega, by go_num, (by have h := HB.out; rw [HN.out] at h; exact h), G0.out, G1.out, by rw [← HT2.out]; exact G3.out⟩
        case measure => simp [intOf]; omega
      · rw [hb] at e
        have HT2 := hid (HTY.out hb)
        clear hb
        go_upto_region 6 with fail
        have K6 := hid (show ∀ w' : World, Fr (fun i => i = N + 1 + 1 + 1) wr w' → w'.cell? ⟨N, 0, none⟩ = some (.int .u32 (x : Nat)) from fun w' hf => cell_sb ((hf.block N (lt_of_heap G0.out) (by omega)).trans G0.out))
        have HTL := hid (tmK_lt x d i)
        refine wp_region_held_drew (S := (fun w' => w'.cell? ⟨N, 0, none⟩ = some (.int .u32 (x : Nat)))) (by kernel_rfl) (K6.out _ (Fr.refl _ _).drew) (fun hHeld => ?_)
        refine tk_at (i := 1) (d := some 19) (v := ?_) rfl rfl (by kernel_rfl) (by kernel_rfl) (by kernel_rfl) (fun _ _ _ h => h) (Or.inl ⟨by rfl, ?_⟩) (by assumption) ?_
        rotate_left
        · (intro w hSw; (try dsimp only at hSw); go_simp; try (with_reducible rfl))
        simp only [Act.put, List.setIfInBounds_toArray, List.set_cons_zero, List.set_cons_succ]
        refine tk_at (i := 2) (d := some 20) (v := ?_) rfl rfl (by kernel_rfl) (by kernel_rfl) (by kernel_rfl) (fun _ _ _ h => h) (Or.inl ⟨by rfl, ?_⟩) (by assumption) ?_
        rotate_left
        · (intro w hSw; (try dsimp only at hSw); go_simp; try (with_reducible rfl))
        simp only [Act.put, List.setIfInBounds_toArray, List.set_cons_zero, List.set_cons_succ]
        clear hHeld
        refine wpAnyH_inv0 (fun aC0 lsC aC wC => ∃ (b0 b3 b4 b5 : Bool) (x18 x21 x22 : Value), lsC = #[b0, true, true, b3, b4, b5] ∧ aC = { aC0 with tmps := (((aC0.tmps.setIfInBounds 18 x18).setIfInBounds 21 x21).setIfInBounds 22 x22) } ∧ (b0 = true → x18 = sec (tmK x d i : Nat)) ∧ (b3 = true → x21 = sec (shl x i : Nat)) ∧ (b4 = true → x22 = sec (tmK x d (i + 1) : Nat)) ∧ Fr (fun i => i = N + 1 + 1 + 1) wr wC ∧ wC.heap[N + 1 + 1 + 1]? = some (.cells #[.int .u32 (if b5 then ((tmK x d (i + 1) : Nat) : Int) else ((tmK x d i : Nat) : Int))] 28 (0, 0)) ∧ (b0 || !b5) = true ∧ True) ?_ _ _ _ (by decide +kernel) (fun aS => ⟨false, false, false, false, aS.tmps.getD 18 undef, aS.tmps.getD 21 undef, aS.tmps.getD 22 undef, by kernel_rfl, by simp only [set_self], fun h => (by cases h), fun h => (by cases h), fun h => (by cases h), (Fr.refl _ _).drew, G3.out, rfl, trivial⟩)
        intro lsC aC wC ⟨b0, b3, b4, b5, x18, x21, x22, hl, ha, hx18, hx21, hx22, hfr, how, hcc⟩
        subst hl ha
        have Hx18 := hid hx18
        have Hx21 := hid hx21
        have Hx22 := hid hx22
        have HFR := hid hfr
        have HOW := hid how
        have HCC := hid hcc
        clear hx18 hx21 hx22 hfr how hcc
        simp only [List.setIfInBounds_toArray, List.set_cons_zero, List.set_cons_succ]
        refine ⟨fun hr => ?_, fun i hi => ?_⟩
        rotate_left
        · have hcase : (i = 0 ∧ b0 = false) ∨ (i = 3 ∧ b3 = false) ∨ (i = 4 ∧ b4 = false ∧ b0 = true ∧ b3 = true) ∨ (i = 5 ∧ b5 = false ∧ b0 = true ∧ b4 = true) := by
            refine of_decide_eq_true ((List.all_eq_true (p := fun i => decide ((i = 0 ∧ b0 = false) ∨ (i = 3 ∧ b3 = false) ∨ (i = 4 ∧ b4 = false ∧ b0 = true ∧ b3 = true) ∨ (i = 5 ∧ b5 = false ∧ b0 = true ∧ b4 = true)))).1 ?_ i hi)
            clear Hx18 Hx21 Hx22 HFR HOW HCC hi
            revert b0 b3 b4 b5
            decide +kernel
          clear hi
          rcases hcase with ⟨rfl, rfl⟩ | ⟨rfl, rfl⟩ | ⟨rfl, rfl, rfl, rfl⟩ | ⟨rfl, rfl, rfl, rfl⟩
          · obtain rfl : b5 = false := by have := HCC.out.1; revert this; cases b5 <;> simp
            have c0 : wC.cell? ⟨N + 1 + 1 + 1, 0, none⟩ = some (.int .u32 ((tmK x d i : Nat) : Int)) := cell_of_heap HOW.out rfl
            refine wpOp_shut rfl (fun K hK => ?_)
            go_simp
            go_wp2_with fail
            exact hK.out _ _ ⟨K6.out _ HFR.out, true, b3, b4, false, _, _, _, by kernel_rfl, rfl, fun _ => rfl, Hx21.out, Hx22.out, HFR.out, HOW.out, ⟨(by first | rfl | exact Bool.or_true _ | simp), trivial⟩⟩
          · refine wpOp_shut rfl (fun K hK => ?_)
            go_simp
            refine (shl_b x i _ hx).mono ?_
            rintro e wa ⟨rfl, hBa⟩
            rw [Int.toNat_natCast]
            have HBa := hid hBa
            clear hBa
            go_wp2_with fail
            have hF3 := HFR.out.trans (Fr.ofBelow (S := fun _ => False) HBa.out) (fun _ _ x => x.elim)
            exact hK.out _ _ ⟨K6.out _ hF3, b0, true, b4, b5, _, _, _, by kernel_rfl, rfl, Hx18.out, fun _ => rfl, Hx22.out, hF3, (hpB HBa.out HOW.out), HCC.out⟩
          · obtain rfl := Hx18.out rfl
            obtain rfl := Hx21.out rfl
            refine wpOp_shut rfl (fun K hK => ?_)
            go_simp
            refine (add_b (tmK x d i) (shl x i) _ HTL.out (shl_lt _ _)).mono ?_
            rintro e wa ⟨rfl, hBa⟩
            rw [HT2.out]
            have HBa := hid hBa
            clear hBa
            go_wp2_with fail
            have hF3 := HFR.out.trans (Fr.ofBelow (S := fun _ => False) HBa.out) (fun _ _ x => x.elim)
            exact hK.out _ _ ⟨K6.out _ hF3, true, true, true, b5, _, _, _, by kernel_rfl, rfl, fun _ => rfl, fun _ => rfl, fun _ => rfl, hF3, (hpB HBa.out HOW.out), HCC.out⟩
          · obtain rfl := Hx22.out rfl
            have c0 := cell_of_heap (i := 0) HOW.out rfl
            have g0 := frozen_of_heap (i := 0) HOW.out
            refine wpOp_shut rfl (fun K hK => ?_)
            go_simp
            go_wp2_with fail
            have hF3 := HFR.out.setCell (p := ⟨N + 1 + 1 + 1, 0, none⟩) (.int .u32 ((tmK x d (i + 1) : Nat) : Int)) (fun _ => rfl)
            exact hK.out _ _ ⟨K6.out _ hF3, true, b3, true, true, _, _, _, by kernel_rfl, rfl, (fun _ => Hx18.out (by first | rfl | trivial)), Hx21.out, fun _ => rfl, hF3, (heap_setCell_at _ _ 0 _ _ _ _ HOW.out), ⟨rfl, trivial⟩⟩
        have hall : (b0 && b3 && b4 && b5) = true := by
          clear Hx18 Hx21 Hx22 HFR HOW HCC
          revert b0 b3 b4 b5
          decide +kernel
        simp only [Bool.and_eq_true] at hall
        obtain ⟨⟨⟨rfl, rfl⟩, rfl⟩, rfl⟩ := hall
        obtain rfl := Hx18.out rfl
        obtain rfl := Hx21.out rfl
        obtain rfl := Hx22.out rfl
        have HR := hid (And.intro (show wC.heap[N + 1 + 1 + 1]? = some (sb ((tmK x d (i + 1) : Nat) : Int)) from HOW.out) HFR.out)
        clear Hx18 Hx21 Hx22 HFR HOW HCC hr
        have hF := HR.out.2
        have P0 := hid ((hF.block N (lt_of_heap G0.out) (by omega)).trans G0.out)
        have P1 := hid ((hF.block (N + 1) (lt_of_heap G1.out) (by omega)).trans G1.out)
        have P3 := hid HR.out.1
        have B2 := hid (HB.out.trans (hF.below HB.out.size (fun i hi e => by have := HN.out; omega)))
        clear hF
        go_wp2
        go_roundw
        case rel => exact ⟨i + 1, by omega, by go_num, (by have h := B2.out; rw [HN.out] at h; exact h), P0.out, P1.out, P3.out⟩
        case measure => simp [intOf]; omega
    · obtain rfl : i = L := by omega
      have c3 := cell_sb G3.out
      have c1 := cell_sb G1.out
      have f1 := frozen_of_heap (i := 0) G1.out
      go_wp2
      have d1 := cell_sb (put_at (u := (tmK x d i : Nat)) G1.out)
      exact bodyPost_ret (v := sec (tmK x d i : Nat)) (by simp only [results, Try.results30]; simp [go_sem, d1]) rfl
        ⟨by rw [HDL.out], blw_set _ HB.out (by have := HN.out; show w.heap.size ≤ N + 1; omega)⟩
end Go.Proofs.Ytnablmiocbijgaa
