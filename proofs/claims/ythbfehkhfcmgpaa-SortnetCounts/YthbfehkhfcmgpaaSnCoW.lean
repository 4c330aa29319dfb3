/- The walk of SortnetCounts: at any two numbers the law answers true. No conditions but the numbers' own bounds. -/
import Derived.Test.YthbfehkhfcmgpaaSnD
namespace Go.Proofs.Ythbfehkhfcmgpaa
open Go.RowKit

theorem cnt_bounds : ∀ n : Fin 401, 2 ≤ n.val → 4 * cntOf n.val ≤ n.val * (Lib.bitLen n.val * Lib.bitLen n.val + Lib.bitLen n.val) ∧ n.val ≤ cntOf n.val + 1 := by decide +kernel


theorem fin_val (n b C : Nat) (hn : n ≤ 400) (hb : b ≤ 9) (h : 4 * C ≤ n * (b * b + b) ∧ n ≤ C + 1) : 4 * (C : Int) ≤ wrap64 ((n : Int) * wrap64 (wrap64 ((b : Int) * b) + b)) ∧ (n : Int) - 1 ≤ C := by
  have h1 : b * b ≤ 9 * 9 := Nat.mul_le_mul hb hb
  have e1 : (b : Int) * b = ((b * b : Nat) : Int) := by simp
  have h2 : n * (b * b + b) ≤ 400 * 90 := Nat.mul_le_mul hn (by omega)
  have e2 : wrap64 (wrap64 ((b : Int) * b) + b) = ((b * b + b : Nat) : Int) := by
    rw [e1]
    generalize b * b = X at *
    rw [w64 (x := (X : Int)) (by omega) (by omega), w64 (x := (X : Int) + (b : Int)) (by omega) (by omega)]; simp
  have e3 : (n : Int) * ((b * b + b : Nat) : Int) = ((n * (b * b + b) : Nat) : Int) := by simp
  rw [e2, e3]
  generalize n * (b * b + b) = Y at *
  rw [w64 (x := (Y : Int)) (by omega) (by omega)]
  omega
set_option maxHeartbeats 1600000 in
theorem counts_high (z la : Int) (w : World) (h0 : -9223372036854775808 ≤ z) (h1 : z < 9223372036854775808) (h2 : -9223372036854775808 ≤ la) (hla : la ≤ 1000) (hz1 : 12288 < z) :
    Calls Try.prog 5 #[.int .i64 z, .int .i64 la] w fun e w' => e = .returned (.bool true) ∧ Below w.heap.size w w' := by
  have c3 : la ≤ 1000 := hla
  have HCN := hid (fun w => count_net z w)
  have HPN := hid (show ∀ w : World, Calls Try.prog 8 #[.int .i64 z] w fun e w' => ∃ ad cap, e = .returned (.slice ad (cntOf z.toNat) cap) ∧ Below w.heap.size w w' from fun w => (pairs_net z w).mono (by
    rintro e w' ⟨ad, cap, he, _, hb⟩
    rw [net_len] at he
    exact ⟨ad, cap, he, hb⟩))
  have HCO := hid (fun w => cost_any z la w h0 h1 h2 hla)
  have hC := cnt_small z.toNat
  have hz : cntOf z.toNat = 0 := by unfold cntOf swsOf; rw [if_pos (by omega)]; rfl
  rw [hz] at HCN HPN HCO
  clear hC hz
  have HCV := hid (show costOf la 0 = 0 by unfold costOf; split <;> simp)
  by_cases d : 2 ≤ la
  · go_enter Try.func5, Try.ntmps5
    go_wp2_with fail
    refine (awake_any _).mono ?_
    rintro e w1 ⟨rfl, hB1⟩
    have HB1 := hid hB1
    clear hB1
    go_wp2_with fail
    refine (HCN.out _).mono ?_
    rintro e w2 ⟨rfl, hB2⟩
    have HB2 := hid hB2
    clear hB2
    go_wp2_with fail
    refine (HPN.out _).mono ?_
    rintro e w3 ⟨ad, cap, rfl, hB3⟩
    have HB3 := hid hB3
    clear hB3
    go_wp2_with fail
    refine (HCO.out _).mono ?_
    rintro e w4 ⟨rfl, hB4⟩
    rw [HCV.out]
    have HB4 := hid hB4
    clear hB4
    have HBB := hid (show Below w.heap.size w w4 from chainB HB4.out (chainB HB3.out (chainB HB2.out HB1.out)))
    clear HB1 HB2 HB3 HB4
    go_wp2
    go_ret
    exact ⟨rfl, HBB.out⟩
  · have d' : la < 2 := by omega
    go_enter Try.func5, Try.ntmps5
    go_wp2_with fail
    refine (awake_any _).mono ?_
    rintro e w1 ⟨rfl, hB1⟩
    have HB1 := hid hB1
    clear hB1
    go_wp2_with fail
    refine (HCN.out _).mono ?_
    rintro e w2 ⟨rfl, hB2⟩
    have HB2 := hid hB2
    clear hB2
    go_wp2_with fail
    refine (HPN.out _).mono ?_
    rintro e w3 ⟨ad, cap, rfl, hB3⟩
    have HB3 := hid hB3
    clear hB3
    go_wp2_with fail
    refine (HCO.out _).mono ?_
    rintro e w4 ⟨rfl, hB4⟩
    rw [HCV.out]
    have HB4 := hid hB4
    clear hB4
    have HBB := hid (show Below w.heap.size w w4 from chainB HB4.out (chainB HB3.out (chainB HB2.out HB1.out)))
    clear HB1 HB2 HB3 HB4
    go_wp2
    go_ret
    exact ⟨rfl, HBB.out⟩
set_option maxHeartbeats 1600000 in
theorem counts_low (z la : Int) (w : World) (h0 : -9223372036854775808 ≤ z) (h1 : z < 9223372036854775808) (h2 : -9223372036854775808 ≤ la) (hla : la ≤ 1000) (hz1 : z < 2) :
    Calls Try.prog 5 #[.int .i64 z, .int .i64 la] w fun e w' => e = .returned (.bool true) ∧ Below w.heap.size w w' := by
  have c3 : la ≤ 1000 := hla
  have HCN := hid (fun w => count_net z w)
  have HPN := hid (show ∀ w : World, Calls Try.prog 8 #[.int .i64 z] w fun e w' => ∃ ad cap, e = .returned (.slice ad (cntOf z.toNat) cap) ∧ Below w.heap.size w w' from fun w => (pairs_net z w).mono (by
    rintro e w' ⟨ad, cap, he, _, hb⟩
    rw [net_len] at he
    exact ⟨ad, cap, he, hb⟩))
  have HCO := hid (fun w => cost_any z la w h0 h1 h2 hla)
  have hC := cnt_small z.toNat
  have hz : cntOf z.toNat = 0 := by unfold cntOf swsOf; rw [if_pos (by omega)]; rfl
  rw [hz] at HCN HPN HCO
  clear hC hz
  have HCV := hid (show costOf la 0 = 0 by unfold costOf; split <;> simp)
  by_cases d : 2 ≤ la
  · go_enter Try.func5, Try.ntmps5
    go_wp2_with fail
    refine (awake_any _).mono ?_
    rintro e w1 ⟨rfl, hB1⟩
    have HB1 := hid hB1
    clear hB1
    go_wp2_with fail
    refine (HCN.out _).mono ?_
    rintro e w2 ⟨rfl, hB2⟩
    have HB2 := hid hB2
    clear hB2
    go_wp2_with fail
    refine (HPN.out _).mono ?_
    rintro e w3 ⟨ad, cap, rfl, hB3⟩
    have HB3 := hid hB3
    clear hB3
    go_wp2_with fail
    refine (HCO.out _).mono ?_
    rintro e w4 ⟨rfl, hB4⟩
    rw [HCV.out]
    have HB4 := hid hB4
    clear hB4
    have HBB := hid (show Below w.heap.size w w4 from chainB HB4.out (chainB HB3.out (chainB HB2.out HB1.out)))
    clear HB1 HB2 HB3 HB4
    go_wp2
    go_ret
    exact ⟨rfl, HBB.out⟩
  · have d' : la < 2 := by omega
    go_enter Try.func5, Try.ntmps5
    go_wp2_with fail
    refine (awake_any _).mono ?_
    rintro e w1 ⟨rfl, hB1⟩
    have HB1 := hid hB1
    clear hB1
    go_wp2_with fail
    refine (HCN.out _).mono ?_
    rintro e w2 ⟨rfl, hB2⟩
    have HB2 := hid hB2
    clear hB2
    go_wp2_with fail
    refine (HPN.out _).mono ?_
    rintro e w3 ⟨ad, cap, rfl, hB3⟩
    have HB3 := hid hB3
    clear hB3
    go_wp2_with fail
    refine (HCO.out _).mono ?_
    rintro e w4 ⟨rfl, hB4⟩
    rw [HCV.out]
    have HB4 := hid hB4
    clear hB4
    have HBB := hid (show Below w.heap.size w w4 from chainB HB4.out (chainB HB3.out (chainB HB2.out HB1.out)))
    clear HB1 HB2 HB3 HB4
    go_wp2
    go_ret
    exact ⟨rfl, HBB.out⟩
set_option maxHeartbeats 1600000 in
theorem counts_mid (z la : Int) (w : World) (h0 : -9223372036854775808 ≤ z) (h1 : z < 9223372036854775808) (h2 : -9223372036854775808 ≤ la) (hla : la ≤ 1000) (hz1 : 2 ≤ z) (hz2 : z ≤ 400) :
    Calls Try.prog 5 #[.int .i64 z, .int .i64 la] w fun e w' => e = .returned (.bool true) ∧ Below w.heap.size w w' := by
  have c3 : la ≤ 1000 := hla
  have HCN := hid (fun w => count_net z w)
  have HPN := hid (show ∀ w : World, Calls Try.prog 8 #[.int .i64 z] w fun e w' => ∃ ad cap, e = .returned (.slice ad (cntOf z.toNat) cap) ∧ Below w.heap.size w w' from fun w => (pairs_net z w).mono (by
    rintro e w' ⟨ad, cap, he, _, hb⟩
    rw [net_len] at he
    exact ⟨ad, cap, he, hb⟩))
  have HCO := hid (fun w => cost_any z la w h0 h1 h2 hla)
  have hC := cnt_small z.toNat
  obtain ⟨n, rfl⟩ := Int.eq_ofNat_of_zero_le (show 0 ≤ z by omega)
  rw [Int.toNat_natCast] at HCN HPN HCO hC
  have hnb : 2 ≤ n ∧ n ≤ 400 := by omega
  have HF := hid (cnt_bounds ⟨n, by omega⟩ hnb.1)
  have HBI := hid (fun w => bits_any n w hnb.2)
  have hbl := (bl_up 9 n (by omega) (by omega)).2
  obtain ⟨C, hCe⟩ : ∃ C, cntOf n = C := ⟨_, rfl⟩
  obtain ⟨b, hbe⟩ : ∃ b, Lib.bitLen n = b := ⟨_, rfl⟩
  simp only at HF
  rw [hCe] at HCN HPN HCO hC HF
  rw [hbe] at HF HBI hbl
  clear hCe hbe h0 h1
  have HB2 := hid (show b * b ≤ 81 from Nat.mul_le_mul hbl hbl)
  obtain ⟨hfa, hfb⟩ := fin_val n b C hnb.2 hbl HF.out
  by_cases d : 2 ≤ la
  · have HM := hid (show 0 ≤ (C : Int) * 4 * la ∧ (C : Int) * 4 * la ≤ 2408448 * 4 * 1000 from ⟨Int.mul_nonneg (by omega) (by omega), Int.mul_le_mul (by omega) hla (by omega) (by omega)⟩)
    have HCV := hid (show costOf la C = wrap64 ((C : Int) * 4 * la) by
      rw [cost_yes C d]
      have hm := HM.out
      generalize (C : Int) * 4 * la = X at *
      unfold wrap64; omega)
    go_enter Try.func5, Try.ntmps5
    go_wp2_with fail
    refine (awake_any _).mono ?_
    rintro e w1 ⟨rfl, hB1⟩
    have HB1 := hid hB1
    clear hB1
    go_wp2_with fail
    refine (HCN.out _).mono ?_
    rintro e w2 ⟨rfl, hB2⟩
    have HB2 := hid hB2
    clear hB2
    go_wp2_with fail
    refine (HPN.out _).mono ?_
    rintro e w3 ⟨ad, cap, rfl, hB3⟩
    have HB3 := hid hB3
    clear hB3
    go_wp2_with fail
    refine (HCO.out _).mono ?_
    rintro e w4 ⟨rfl, hB4⟩
    rw [HCV.out]
    have HB4 := hid hB4
    clear hB4
    have HBB := hid (show Below w.heap.size w w4 from chainB HB4.out (chainB HB3.out (chainB HB2.out HB1.out)))
    clear HB1 HB2 HB3 HB4
    go_wp2_with (go_at_call 14; refine (HBI.out _).mono ?_; rintro e w5 ⟨rfl, hw⟩; subst w5)
    go_ret
    exact ⟨rfl, HBB.out⟩
  · have HCV := hid (show costOf la C = 0 from cost_no C (by omega))
    have d' : la < 2 := by omega
    go_enter Try.func5, Try.ntmps5
    go_wp2_with fail
    refine (awake_any _).mono ?_
    rintro e w1 ⟨rfl, hB1⟩
    have HB1 := hid hB1
    clear hB1
    go_wp2_with fail
    refine (HCN.out _).mono ?_
    rintro e w2 ⟨rfl, hB2⟩
    have HB2 := hid hB2
    clear hB2
    go_wp2_with fail
    refine (HPN.out _).mono ?_
    rintro e w3 ⟨ad, cap, rfl, hB3⟩
    have HB3 := hid hB3
    clear hB3
    go_wp2_with fail
    refine (HCO.out _).mono ?_
    rintro e w4 ⟨rfl, hB4⟩
    rw [HCV.out]
    have HB4 := hid hB4
    clear hB4
    have HBB := hid (show Below w.heap.size w w4 from chainB HB4.out (chainB HB3.out (chainB HB2.out HB1.out)))
    clear HB1 HB2 HB3 HB4
    go_wp2_with (go_at_call 14; refine (HBI.out _).mono ?_; rintro e w5 ⟨rfl, hw⟩; subst w5)
    go_ret
    exact ⟨rfl, HBB.out⟩
set_option maxHeartbeats 1600000 in
theorem counts_walk (z la : Int) (w : World) (h0 : -9223372036854775808 ≤ z) (h1 : z < 9223372036854775808) (h2 : -9223372036854775808 ≤ la) (h3 : la < 9223372036854775808) :
    Calls Try.prog 5 #[.int .i64 z, .int .i64 la] w fun e w' => e = .returned (.bool true) ∧ Below w.heap.size w w' := by
  by_cases c1 : 400 < z
  · by_cases c2 : z ≤ 12288
    · go_enter Try.func5, Try.ntmps5
      go_wp2_with (go_at_call 7; refine (awake_any _).mono ?_; rintro e w1 ⟨rfl, hB1⟩)
      go_ret
      exact ⟨rfl, hB1⟩
    · by_cases c3 : 1000 < la
      · go_enter Try.func5, Try.ntmps5
        go_wp2_with (go_at_call 7; refine (awake_any _).mono ?_; rintro e w1 ⟨rfl, hB1⟩)
        go_ret
        exact ⟨rfl, hB1⟩
      · exact counts_high z la w h0 h1 h2 (by omega) (by omega)
  · by_cases c3 : 1000 < la
    · go_enter Try.func5, Try.ntmps5
      go_wp2_with (go_at_call 7; refine (awake_any _).mono ?_; rintro e w1 ⟨rfl, hB1⟩)
      go_ret
      exact ⟨rfl, hB1⟩
    · by_cases c4 : z < 2
      · exact counts_low z la w h0 h1 h2 (by omega) c4
      · exact counts_mid z la w h0 h1 h2 (by omega) (by omega) (by omega)
end Go.Proofs.Ythbfehkhfcmgpaa
