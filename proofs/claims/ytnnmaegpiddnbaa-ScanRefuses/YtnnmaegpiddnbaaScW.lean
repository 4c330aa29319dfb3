/- The law ScanRefuses returns true at all numbers. -/
import Derived.Test.YtnnmaegpiddnbaaScV
namespace Go.Proofs.Ytnnmaegpiddnbaa
open Go.RowKit
set_option linter.unusedVariables false

abbrev boxO (n : Int) : Obj := .cells #[.int .i64 n] 3 (0, 0)
/-- on the law's way: where its arena stands, its box of n, how much was noted -/
structure Rn (w0 : World) (n : Int) (h : Hn) (w : World) (F : Nat → Prop) (A : Ars) (e : Nat) : Prop where
  ar : Ar w h F A
  far : ∀ i, F i → w0.heap.size < i
  bel : Below w0.heap.size w0 w
  box : w.heap[w0.heap.size]? = some (boxO n)
  top : A.top = 20
  es : A.es.length = e
variable {w0 w w' : World} {n : Int} {h : Hn} {F F' : Nat → Prop} {A A' : Ars} {e : Nat}
theorem Rn.alloc (r : Rn w0 n h w F A e) (o : Obj) : Rn w0 n h (w.alloc o) F A e :=
  ⟨r.ar.alloc o, r.far, blw_alloc r.bel, (heap_alloc_old _ _ _ (lt_of_heap r.box)).trans r.box, r.top, r.es⟩
theorem Rn.cell (r : Rn w0 n h w F A e) : w.cell? ⟨w0.heap.size, 0, none⟩ = some (.int .i64 n) := cell_of_heap r.box rfl
theorem Rn.call (r : Rn w0 n h w F A e) {b : Bool} {c K : Nat} (a' : Ar w' h F' A') (s : Step w F w' F') (d : Did A A' b c n) (hK : (if b then n.toNat else 0) = K) : Rn w0 n h w' F' A' (e + c * K) :=
  ⟨a', s.high (Nat.lt_of_lt_of_le (lt_of_heap r.box) (Nat.le_refl _)) r.far, r.bel.trans (s.below r.bel.size fun i hi => Nat.le_of_lt (r.far i hi)),
    s.heap r.box (fun z => Nat.lt_irrefl _ (r.far _ z)), d.top.trans r.top, by rw [d.es, r.es, ← hK]; cases b <;> simp⟩
theorem Rn.fits (r : Rn w0 n h w F A e) {b : Bool} {z : Int} (hb : InW n z = b) : A.fits z n = b := (fits_inw r.top n z).trans hb
theorem retEq {a b : Int} (h : a = b) : Ending.returned (.bool (a == b)) = Ending.returned (.bool true) := by rw [h]; simp
theorem Rn.fine (r : Rn w0 n h w F A e) {b : Bool} {x y : Int} (hb : Both n x y = b) : Rfine A [(x, n), (y, n)] ↔ b = true := by rw [rfine_both r.top, hb]
set_option maxHeartbeats 3200000 in
set_option maxRecDepth 4000 in
theorem scanRefuses_walk (at_ has n : Int) (w : World) (ha0 : -9223372036854775808 ≤ at_) (ha1 : at_ < 9223372036854775808) (hh0 : -9223372036854775808 ≤ has) (hh1 : has < 9223372036854775808) (hn0 : -9223372036854775808 ≤ n) (hn1 : n < 9223372036854775808) :
    Calls Try.prog 5 #[.int .i64 at_, .int .i64 has, .int .i64 n] w fun e w' => e = .returned (.bool true) ∧ Below w.heap.size w w' := by
  obtain ⟨b1, hb1⟩ : ∃ b, InW n at_ = b := ⟨_, rfl⟩
  obtain ⟨b2, hb2⟩ : ∃ b, Both n at_ has = b := ⟨_, rfl⟩
  obtain ⟨K1, hK1⟩ : ∃ K, (if b1 then n.toNat else 0) = K := ⟨_, rfl⟩
  obtain ⟨K2, hK2⟩ : ∃ K, (if b2 then n.toNat else 0) = K := ⟨_, rfl⟩
  have h12 : b2 = true → b1 = true := fun x => by rw [← hb1]; rw [← hb2] at x; exact (both_yes.1 x).1
  have hk1 : K1 ≤ 20 := by
    rw [← hK1]
    cases b1 with
    | false => simp
    | true => have := inw_yes.1 hb1; simp; omega
  have hk2 : K2 ≤ 20 := by
    rw [← hK2]
    cases b2 with
    | false => simp
    | true => have := inw_yes.1 (both_yes.1 hb2).1; simp; omega
  have HL1 := hid hk1
  have HL2 := hid hk2
  have HB1 := hid hb1
  have HB2 := hid hb2
  have HK1 := hid hK1
  have HK2 := hid hK2
  have H12 := hid h12
  have HX := hid (show (w.alloc (boxO n)).heap[w.heap.size]? = some (boxO n) from heap_alloc_at _ _)
  have HXB := hid (show Below w.heap.size w (w.alloc (boxO n)) from (by repeat (first | exact Below.refl _ _ | refine blw_alloc ?_ | refine blw_drew ?_ | assumption)))
  clear hb1 hb2 hK1 hK2 h12 hk1 hk2
  go_enter Try.func5, Try.ntmps5
  go_wp2_with fail
  refine (awake5_any _).mono ?_
  rintro e wa ⟨rfl, hB⟩
  have HXa := hid ((hB.block _ (lt_of_heap HX.out)).trans HX.out)
  have HBa := hid (HXB.out.trans (hB.mono HXB.out.size))
  clear hB
  go_wp2_with fail
  refine (ar_new_at 20 20 _ (Or.inr rfl) (by decide)).mono ?_
  rintro e wb ⟨h, Fb, rfl, ab, fb, hB⟩
  have HAb := hid ab
  have HFb := hid (show ∀ i, Fb i → w.heap.size < i from fun i hi => Nat.lt_of_lt_of_le (lt_of_heap HXa.out) (fb i hi))
  have HXb := hid ((hB.block _ (lt_of_heap HXa.out)).trans HXa.out)
  have HBb := hid (HBa.out.trans (hB.mono HBa.out.size))
  clear hB ab fb
  go_wp2_with fail
  refine (ar_take_yes h Fb _ 20 _ HAb.out (take_all 20) (by simp [Ars.new])).mono ?_
  rintro e wc ⟨rfl, Fc, ac, sc⟩
  obtain ⟨A1, hA1⟩ : ∃ A1, (Ars.new ((20 : Nat) : Int)).take 20 = A1 := ⟨_, rfl⟩
  have t20 := take20
  rw [hA1] at ac t20
  have R0 := hid (show Rn w n h wc Fc A1 1 from ⟨ac, sc.high (Nat.lt_of_lt_of_le (lt_of_heap HXb.out) (Nat.le_refl _)) HFb.out, HBb.out.trans (sc.below HBb.out.size fun i hi => Nat.le_of_lt (HFb.out i hi)), sc.heap HXb.out (fun z => Nat.lt_irrefl _ (HFb.out _ z)), t20.1, t20.2⟩)
  clear hA1 ac sc t20
  go_wp2_with fail
  refine (ar_log h Fc A1 _ R0.out.ar).mono ?_
  rintro e w' ⟨rfl, hw'⟩
  subst w'
  obtain ⟨ob, hL, _⟩ := R0.out.ar.log
  rw [R0.out.es] at hL
  go_wp2_with fail
  refine (len_any _ _ _ _ _ hL).mono ?_
  rintro e w' ⟨rfl, hw'⟩
  subst w'
  clear hL
  go_wp2_with fail
  refine (within5_any _ n at_ _ R0.out.box).mono ?_
  rintro e w' ⟨rfl, hw'⟩
  subst w'
  rw [HB1.out]
  go_upto_region 8 with fail
  go_cut [11] from 27 to 171 (fun v wx => v = .bool b2 ∧ wx = wc)
  case first =>
    cases b1 with
    | false =>
      have e2 : b2 = false := by cases b2; rfl; exact absurd (H12.out rfl) (by decide)
      subst e2
      go_wp2_with fail
      go_meet
      case rel => exact ⟨rfl, rfl⟩
    | true =>
      obtain ⟨b3, hb3⟩ : ∃ b, InW n has = b := ⟨_, rfl⟩
      have HB3 := hid hb3
      clear hb3
      go_wp2_with fail
      refine (within5_any _ n has _ R0.out.box).mono ?_
      rintro e w' ⟨rfl, hw'⟩
      subst w'
      rw [HB3.out]
      cases b3 with
      | false =>
        have e2 : b2 = false := by rw [← HB2.out]; unfold Both; rw [HB3.out]; simp
        subst e2
        go_wp2_with fail
        go_meet
        case rel => exact ⟨rfl, rfl⟩
      | true =>
        have hw1 := inw_yes.1 HB1.out
        have hw3 := inw_yes.1 HB3.out
        obtain ⟨q0, q1, q2, q3⟩ := hw1
        obtain ⟨_, _, q4, q5⟩ := hw3
        have kn := R0.out.cell
        by_cases d1 : n = 0
        · have e2 : b2 = true := by rw [← HB2.out, both_yes]; exact ⟨HB1.out, HB3.out, Or.inl d1⟩
          subst e2
          have e1 : (n == 0) = true := by simp [d1]
          clear d1
          go_wp2_with fail
          go_meet
          case rel => exact ⟨rfl, rfl⟩
        · have e1 : (n == 0) = false := by simp [d1]
          by_cases d2 : n ≤ at_ - has
          · have e2 : b2 = true := by rw [← HB2.out, both_yes]; exact ⟨HB1.out, HB3.out, Or.inr (Or.inl d2)⟩
            subst e2
            go_wp2_with fail
            go_meet
            case rel => exact ⟨rfl, rfl⟩
          · by_cases d3 : n ≤ has - at_
            · have e2 : b2 = true := by rw [← HB2.out, both_yes]; exact ⟨HB1.out, HB3.out, Or.inr (Or.inr d3)⟩
              subst e2
              go_wp2_with fail
              go_meet
              case rel => exact ⟨rfl, rfl⟩
            · have e2 : b2 = false := by
                cases b2 with
                | false => rfl
                | true => have := (both_yes.1 HB2.out).2.2; omega
              subst e2
              go_wp2_with fail
              go_meet
              case rel => exact ⟨by rw [decide_eq_false (show ¬ n ≤ at_ - has by omega), decide_eq_false (show ¬ n ≤ has - at_ by omega)]; rfl, rfl⟩
  case rest =>
    obtain ⟨rfl, rfl⟩ := hcut
    have R1 := hid (R0.out)
    clear R0
    have kn := R1.out.cell
    obtain ⟨F1, hF1⟩ : ∃ F, Fc = F := ⟨_, rfl⟩
    rw [hF1] at R1
    clear hF1
    go_wp2_with fail
    refine (sums_did h F1 A1 at_ n b1 _ R1.out.ar ha1 (R1.out.fits HB1.out) (by rw [R1.out.es]; have := HL1.out; have := HL2.out; omega)).mono ?_
    rintro e w2 ⟨v2, rfl, F2, A2, a2, s2, d2⟩
    have R2 := hid ((R1.out.call a2 s2 d2 HK1.out).alloc (sb (v2 : Nat)))
    have kw := (R1.out.call a2 s2 d2 HK1.out).cell
    have kn := R2.out.cell
    clear a2 s2 d2 R1
    go_wp2_with fail
    refine (before_did h F2 A2 at_ n b1 _ R2.out.ar ha1 (R2.out.fits HB1.out) (by rw [R2.out.es]; have := HL1.out; have := HL2.out; omega)).mono ?_
    rintro e w3 ⟨v3, rfl, F3, A3, a3, s3, d3⟩
    have R3 := hid ((R2.out.call a3 s3 d3 HK1.out).alloc (sb (v3 : Nat)))
    have kw := (R2.out.call a3 s3 d3 HK1.out).cell
    have kn := R3.out.cell
    clear a3 s3 d3 R2
    go_wp2_with fail
    refine (ors_did h F3 A3 at_ n b1 _ R3.out.ar ha1 (R3.out.fits HB1.out) (by rw [R3.out.es]; have := HL1.out; have := HL2.out; omega)).mono ?_
    rintro e w4 ⟨v4, rfl, F4, A4, a4, s4, d4⟩
    have R4 := hid ((R3.out.call a4 s4 d4 HK1.out).alloc (sb (v4 : Nat)))
    have kw := (R3.out.call a4 s4 d4 HK1.out).cell
    have kn := R4.out.cell
    clear a4 s4 d4 R3
    go_wp2_with fail
    refine (behind_did h F4 A4 at_ n b1 _ R4.out.ar ha1 (R4.out.fits HB1.out) (by rw [R4.out.es]; have := HL1.out; have := HL2.out; omega)).mono ?_
    rintro e w5 ⟨v5, rfl, F5, A5, a5, s5, d5⟩
    have R5 := hid ((R4.out.call a5 s5 d5 HK1.out).alloc (sb (v5 : Nat)))
    have kw := (R4.out.call a5 s5 d5 HK1.out).cell
    have kn := R5.out.cell
    clear a5 s5 d5 R4
    go_wp2_with fail
    refine (first_did h F5 A5 at_ has n b2 _ R5.out.ar ha1 hh1 (R5.out.fine HB2.out) (by rw [R5.out.es]; have := HL1.out; have := HL2.out; omega)).mono ?_
    rintro e w6 ⟨⟨u6, v6, rfl⟩, F6, A6, a6, s6, d6⟩
    have R6 := hid (((R5.out.call a6 s6 d6 HK2.out).alloc (sb (u6 : Nat))).alloc (sb (v6 : Nat)))
    have kw := (R5.out.call a6 s6 d6 HK2.out).cell
    have kn := R6.out.cell
    clear a6 s6 d6 R5
    go_wp2_with fail
    refine (last_did h F6 A6 at_ has n b2 _ R6.out.ar ha1 hh1 (R6.out.fine HB2.out) (by rw [R6.out.es]; have := HL1.out; have := HL2.out; omega)).mono ?_
    rintro e w7 ⟨⟨u7, v7, rfl⟩, F7, A7, a7, s7, d7⟩
    have R7 := hid (((R6.out.call a7 s7 d7 HK2.out).alloc (sb (u7 : Nat))).alloc (sb (v7 : Nat)))
    have kw := (R6.out.call a7 s7 d7 HK2.out).cell
    have kn := R7.out.cell
    clear a7 s7 d7 R6
    cases b1 with
    | false =>
      have e2 : b2 = false := by cases b2; rfl; exact absurd (H12.out rfl) (by decide)
      subst e2
      go_wp2_with fail
      refine (carry_did h F7 A7 at_ has n false _ R7.out.ar ha1 hh1 (R7.out.fine HB2.out) (by rw [R7.out.es]; have := HL1.out; have := HL2.out; omega)).mono ?_
      rintro e w8 ⟨rfl, F8, A8, a8, s8, d8⟩
      have R8 := hid (R7.out.call a8 s8 d8 HK2.out)
      have kn := R8.out.cell
      clear a8 s8 d8 R7
      go_wp2_with fail
      refine (sback_did h F8 A8 at_ has n false _ R8.out.ar ha1 hh1 (R8.out.fine HB2.out) (by rw [R8.out.es]; have := HL1.out; have := HL2.out; omega)).mono ?_
      rintro e w9 ⟨rfl, F9, A9, a9, s9, d9⟩
      have R9 := hid (R8.out.call a9 s9 d9 HK2.out)
      have kn := R9.out.cell
      clear a9 s9 d9 R8
      obtain ⟨E, hE⟩ : ∃ E, 1 + 2 * K1 + 2 * K1 + 2 * K1 + 2 * K1 + 2 * K2 + 2 * K2 + 3 * K2 + 3 * K2 = E := ⟨_, rfl⟩
      rw [hE] at R9
      have hE2 : E ≤ 1000 := by have := HL1.out; have := HL2.out; omega
      have HE := hid hE
      clear hE
      go_wp2_with fail
      refine (ar_log h F9 A9 _ R9.out.ar).mono ?_
      rintro e w' ⟨rfl, hw'⟩
      subst w'
      obtain ⟨ob2, hL2, _⟩ := R9.out.ar.log
      rw [R9.out.es] at hL2
      go_wp2_with fail
      refine (len_any _ _ _ _ _ hL2).mono ?_
      rintro e w' ⟨rfl, hw'⟩
      subst w'
      clear hL2
      go_wp2
      go_ret
      exact ⟨retEq (by have h1 := HK1.out; have h2 := HK2.out; have h3 := HE.out; simp at h1 h2; omega), R9.out.bel⟩
    | true =>
      have hw1 := inw_yes.1 HB1.out
      obtain ⟨q0, q1, _, _⟩ := hw1
      cases b2 with
      | false =>
        go_wp2_with fail
        refine (carry_did h F7 A7 at_ has n false _ R7.out.ar ha1 hh1 (R7.out.fine HB2.out) (by rw [R7.out.es]; have := HL1.out; have := HL2.out; omega)).mono ?_
        rintro e w8 ⟨rfl, F8, A8, a8, s8, d8⟩
        have R8 := hid (R7.out.call a8 s8 d8 HK2.out)
        have kn := R8.out.cell
        clear a8 s8 d8 R7
        go_wp2_with fail
        refine (sback_did h F8 A8 at_ has n false _ R8.out.ar ha1 hh1 (R8.out.fine HB2.out) (by rw [R8.out.es]; have := HL1.out; have := HL2.out; omega)).mono ?_
        rintro e w9 ⟨rfl, F9, A9, a9, s9, d9⟩
        have R9 := hid (R8.out.call a9 s9 d9 HK2.out)
        have kn := R9.out.cell
        clear a9 s9 d9 R8
        obtain ⟨E, hE⟩ : ∃ E, 1 + 2 * K1 + 2 * K1 + 2 * K1 + 2 * K1 + 2 * K2 + 2 * K2 + 3 * K2 + 3 * K2 = E := ⟨_, rfl⟩
        rw [hE] at R9
        have hE2 : E ≤ 1000 := by have := HL1.out; have := HL2.out; omega
        have HE := hid hE
        clear hE
        go_wp2_with fail
        refine (ar_log h F9 A9 _ R9.out.ar).mono ?_
        rintro e w' ⟨rfl, hw'⟩
        subst w'
        obtain ⟨ob2, hL2, _⟩ := R9.out.ar.log
        rw [R9.out.es] at hL2
        go_wp2_with fail
        refine (len_any _ _ _ _ _ hL2).mono ?_
        rintro e w' ⟨rfl, hw'⟩
        subst w'
        clear hL2
        go_wp2
        go_ret
        exact ⟨retEq (by have h1 := HK1.out; have h2 := HK2.out; have h3 := HE.out; simp at h1 h2; omega), R9.out.bel⟩
      | true =>
        go_wp2_with fail
        refine (carry_did h F7 A7 at_ has n true _ R7.out.ar ha1 hh1 (R7.out.fine HB2.out) (by rw [R7.out.es]; have := HL1.out; have := HL2.out; omega)).mono ?_
        rintro e w8 ⟨rfl, F8, A8, a8, s8, d8⟩
        have R8 := hid (R7.out.call a8 s8 d8 HK2.out)
        have kn := R8.out.cell
        clear a8 s8 d8 R7
        go_wp2_with fail
        refine (sback_did h F8 A8 at_ has n true _ R8.out.ar ha1 hh1 (R8.out.fine HB2.out) (by rw [R8.out.es]; have := HL1.out; have := HL2.out; omega)).mono ?_
        rintro e w9 ⟨rfl, F9, A9, a9, s9, d9⟩
        have R9 := hid (R8.out.call a9 s9 d9 HK2.out)
        have kn := R9.out.cell
        clear a9 s9 d9 R8
        obtain ⟨E, hE⟩ : ∃ E, 1 + 2 * K1 + 2 * K1 + 2 * K1 + 2 * K1 + 2 * K2 + 2 * K2 + 3 * K2 + 3 * K2 = E := ⟨_, rfl⟩
        rw [hE] at R9
        have hE2 : E ≤ 1000 := by have := HL1.out; have := HL2.out; omega
        have HE := hid hE
        clear hE
        go_wp2_with fail
        refine (ar_log h F9 A9 _ R9.out.ar).mono ?_
        rintro e w' ⟨rfl, hw'⟩
        subst w'
        obtain ⟨ob2, hL2, _⟩ := R9.out.ar.log
        rw [R9.out.es] at hL2
        go_wp2_with fail
        refine (len_any _ _ _ _ _ hL2).mono ?_
        rintro e w' ⟨rfl, hw'⟩
        subst w'
        clear hL2
        go_wp2
        go_ret
        exact ⟨retEq (by have h1 := HK1.out; have h2 := HK2.out; have h3 := HE.out; simp at h1 h2; omega), R9.out.bel⟩
end Go.Proofs.Ytnnmaegpiddnbaa
