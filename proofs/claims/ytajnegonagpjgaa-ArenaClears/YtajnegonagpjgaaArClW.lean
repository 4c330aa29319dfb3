/- The law ArenaClears returns true at all lists of words and all numbers. -/
import Derived.Test.YtajnegonagpjgaaArAw
namespace Go.Proofs.Ytajnegonagpjgaa
open Go.RowKit

theorem clears_no (A : Ars) (n : Nat) (ht : A.top = n) (hw : A.ws.length = n) : A.fits 0 0 = true ∧ (A.give 0).blank = true := by
  have h : A.fits 0 0 = true := by rw [Ars.fits_iff]; omega
  refine ⟨h, ?_⟩
  rw [Ars.give_yes h]
  refine Ars.blank_of fun j hj => ?_
  rw [Ars.giveN_wslen] at hj
  rw [Ars.giveN_word _ _ (by simp), if_pos (by simp; omega)]
theorem clears_yes (A : Ars) (l : List Nat) (i : Nat) (ht : A.top = l.length) (hw : A.ws.length = l.length) (he : A.es.length = 1 + l.length) (hv : ∀ j, j < l.length → A.word j = l.getD j 0) (hi : i ≤ l.length) :
    (A.give i).canTake ((l.length : Int) - (i : Int)) = true ∧ (A.give i).takeAt ((l.length : Int) - (i : Int)) = i ∧ (A.give i).es.length ≤ 1000 + 2 * l.length ∧
    ∃ A4, A4 = (A.give i).take ((l.length : Int) - (i : Int)) ∧ A4.es.length ≤ 1001 + 2 * l.length ∧ ∃ vs, vs = A4.showV 0 (l.length : Int) ∧ vs.length = l.length ∧ (∀ k (hk : k < vs.length), vs[k] = if k < i then l.getD k 0 else 0) ∧
    ∃ A5, A5 = A4.shown 0 (l.length : Int) ∧ A5.es.length + A5.top ≤ 2000 + 5 * l.length ∧ A5.fits 0 0 = true ∧ ∃ A6, A6 = A5.give 0 ∧ A6.es.length < 1000000 + 10 * l.length ∧ A6.blank = true ∧ A6.top = 0 ∧ A6.loadV 0 = 0 := by
  have hf : A.fits (i : Int) 0 = true := by rw [Ars.fits_iff]; omega
  have hg : A.give (i : Int) = A.giveN i := by rw [Ars.give_yes hf]; simp
  have g1 : (A.giveN i).top = i := rfl
  have g2 : (A.giveN i).ws.length = l.length := by rw [Ars.giveN_wslen, hw]
  have g3 := Ars.giveN_eslen (A := A) i
  have hc : (A.giveN i).canTake ((l.length : Int) - (i : Int)) = true := by simp only [Ars.canTake, decide_eq_true_eq]; rw [g1, g2]; omega
  have ht4 := Ars.take_yes hc
  rw [hg]
  refine ⟨hc, by simp [Ars.takeAt, hc, g1], by omega, _, rfl, ?_, ?_⟩
  · rw [ht4]; simp; omega
  have t4 : ((A.giveN i).take ((l.length : Int) - (i : Int))).top = l.length := by rw [ht4]; show i + ((l.length : Int) - (i : Int)).toNat = _; omega
  have w4 : ((A.giveN i).take ((l.length : Int) - (i : Int))).ws.length = l.length := by rw [ht4]; exact g2
  have e4 : ((A.giveN i).take ((l.length : Int) - (i : Int))).es.length ≤ 1001 + 2 * l.length := by rw [ht4]; simp; omega
  have v4 : ∀ j, ((A.giveN i).take ((l.length : Int) - (i : Int))).word j = (A.giveN i).word j := by intro j; rw [ht4]; rfl
  generalize (A.giveN i).take ((l.length : Int) - (i : Int)) = A4 at *
  have f4 : A4.fits 0 (l.length : Int) = true := by rw [Ars.fits_iff]; omega
  refine ⟨_, rfl, ?_, ?_, _, rfl, ?_⟩
  · rw [Ars.showV_yes f4, Ars.told_len]; simp
  · rw [Ars.showV_yes f4]
    intro k hk
    rw [Ars.told_at, v4]
    rw [Ars.told_len] at hk
    simp only [Int.toNat_natCast] at hk
    simp only [Int.toNat_zero, Nat.zero_add]
    rw [Ars.giveN_word _ _ (by omega)]
    by_cases h : k < i
    · rw [if_neg (by omega), if_pos h, hv k hk]
    · rw [if_pos (by omega), if_neg h]
  rw [Ars.shown_yes f4]
  have t5 := Ars.relK_top (A := A4) (0 : Int).toNat (l.length : Int).toNat
  have w5 := Ars.relK_ws (A := A4) (0 : Int).toNat (l.length : Int).toNat
  have e5 := Ars.relK_eslen (A := A4) (0 : Int).toNat (l.length : Int).toNat
  simp only [Int.toNat_natCast] at e5 t5 w5 ⊢
  generalize A4.relK (0 : Int).toNat l.length = A5 at *
  have f5 : A5.fits 0 0 = true := by rw [Ars.fits_iff]; omega
  refine ⟨by omega, f5, _, rfl, ?_⟩
  rw [Ars.give_yes f5]
  have e6 := Ars.giveN_eslen (A := A5) (0 : Int).toNat
  refine ⟨by simp at e6 ⊢; omega, ?_, rfl, ?_⟩
  · have := (clears_no A5 l.length (by omega) (by rw [w5]; exact w4)).2
    rw [Ars.give_yes f5] at this; exact this
  · unfold Ars.loadV
    rw [if_neg]
    have : (A5.giveN (0 : Int).toNat).fits 0 1 = false := by rw [Ars.fits_no]; show ¬ (_ ∧ _ ∧ (1 : Int) ≤ ((0 : Nat) : Int) - 0); omega
    rw [this]; simp

set_option maxHeartbeats 800000 in
theorem clears_far (ad : Option Addr) (len cap : Nat) (at_ : Int) (w : World) (hl : 200 < len) :
    Calls Try.prog 4 #[.slice ad len cap, .int .i64 at_] w fun e w' => e = .returned (.bool true) ∧ Below w.heap.size w w' := by
  go_enter Try.func4, Try.ntmps4
  go_wp2_with fail
  refine (awake_any _).mono ?_
  rintro e w1 ⟨rfl, hb1⟩
  go_wp2
  go_ret
  exact ⟨rfl, hb1⟩

set_option maxRecDepth 100000 in
set_option maxHeartbeats 3200000 in
theorem clears_at (ad : Option Addr) (cap : Nat) (l : List Nat) (at_ : Int) (w : World) (hn : l.length ≤ 200) (hl : ∀ x ∈ l, x < 4294967296) (hu : U32s w ad l) (ha : at_ < 9223372036854775808) (ha2 : -9223372036854775808 ≤ at_) :
    Calls Try.prog 4 #[.slice ad l.length cap, .int .i64 at_] w fun e w' => e = .returned (.bool true) ∧ Below w.heap.size w w' := by
  obtain ⟨p0, p1, A, hA, t2, ws2, e2, e1, v2⟩ := Ars.full l
  have HU : Hid (U32s w ad l) := hu
  clear hu
  go_enter Try.func4, Try.ntmps4
  go_wp2_with fail
  refine (awake_any _).mono ?_
  rintro e w1 ⟨rfl, hb1⟩
  go_wp2_with fail
  refine (ar_new_at l.length l.length _ (Or.inr rfl) (by omega)).mono ?_
  rintro e w2 ⟨h, F2, rfl, a2, hi, hb2⟩
  have HA2 : Hid (_) := a2
  clear a2
  go_wp2_with fail
  refine (ar_take h F2 _ (l.length : Int) _ HA2.out (by show 0 ≤ 1000000000; decide)).mono ?_
  rintro e w3 ⟨rfl, F3, a3, s3⟩
  have HA3 : Hid (_) := a3
  have S3 : Hid (_) := s3
  have HU3 : Hid (U32s w3 ad l ∧ Off F3 ad l.length) := by
    have u1 := (HU.out.below hb1).below hb2
    have o1 : Off F2 ad l.length := off_high (HU.out.below hb1) hi
    refine ⟨u1.step s3 o1, fun x hx hp hf => ?_⟩
    have := (s3.sub _ hf).resolve_left (o1 x hx hp)
    have := u1.lt x hx hp
    omega
  clear a3 s3
  go_wp2_with fail
  refine (ar_put h F3 _ 0 ad cap l _ HA3.out (by decide) hl HU3.out.1 HU3.out.2 (by rw [e1]; omega)).mono ?_
  rintro e w4 ⟨rfl, F4, a4, s4⟩
  rw [← hA] at a4
  have HA4 : Hid (_) := a4
  have S4 : Hid (_) := s4
  clear a4 s4 hA
  go_wp2_with fail
  refine (ar_give h F4 A at_ _ HA4.out ha (by omega)).mono ?_
  rintro e w5 ⟨rfl, F5, a5, s5⟩
  have HA5 : Hid (_) := a5
  have S5 : Hid (_) := s5
  clear a5 s5
  cases hf : A.fits at_ 0
  · have hfn := Ars.fits_no.1 hf
    obtain ⟨k1, k2⟩ := clears_no A l.length t2 ws2
    have HA6 : Hid (Ar w5 h F5 A) := by have := HA5.out; rw [Ars.give_no hf] at this; exact this
    clear HA5 HA4 HA3 HA2 HU HU3 v2 p0 p1
    have hor : at_ < 0 ∨ (l.length : Int) < at_ := by omega
    clear hfn
    by_cases hneg : at_ < 0
    all_goals
      try (have hgt : (l.length : Int) < at_ := by omega)
      clear hor
      go_wp2_with (first
        | (go_at_call 11; refine (ar_top h F5 A _ HA6.out).mono ?_; rintro e w' ⟨rfl, hw⟩; subst w')
        | (go_at_call 20; refine (ar_give h F5 A 0 _ HA6.out (by decide) (by omega)).mono ?_; rintro e w6 ⟨rfl, F6, a6, s6⟩; have HA7 : Hid (_) := a6; clear a6)
        | (go_at_call 17; refine (ar_blank h F6 _ _ HA7.out).mono ?_; rintro e w7 ⟨rfl, hb7⟩))
      go_ret
      refine ⟨rfl, ?_⟩
      have T := S3.out.trans (S4.out.trans (S5.out.trans s6))
      have hB := (hb1.trans ((hb2.mono hb1.size).trans (T.below (Nat.le_trans hb1.size hb2.size) fun i x => Nat.le_trans hb1.size (hi i x))))
      exact hB.trans (hb7.mono hB.size)
  · have hfy := Ars.fits_iff.1 hf
    obtain ⟨i, rfl⟩ := Int.eq_ofNat_of_zero_le hfy.1
    have hil : i ≤ l.length := by omega
    obtain ⟨q1, q2, q3, A4, hA4, q4, vs, hvs, q5, q6, A5, hA5, q7, q8, A6, hA6, q9, q10, q11, q12⟩ := clears_yes A l i t2 ws2 e2 v2 hil
    clear v2 p0 p1 HA2 HA3 HA4 hfy ha ha2
    go_wp2_with fail
    refine (ar_take h F5 (A.give i) ((l.length : Int) - (i : Int)) _ HA5.out (by omega)).mono ?_
    rintro e w6 ⟨rfl, F6, a6, s6⟩
    rw [← hA4] at a6
    have HA6 : Hid (_) := a6
    have S6 : Hid (_) := s6
    clear a6 s6 hA4
    go_wp2_with fail
    refine (ar_show h F6 A4 0 (l.length : Int) _ HA6.out (by decide) (fun _ => by simp only [Int.toNat_natCast]; omega)).mono ?_
    rintro e w7 ⟨v, F7, rfl, hrow, a7, s7⟩
    rw [← hvs] at hrow
    rw [← hA5] at a7
    obtain ⟨ad2, cap2, rfl, hu7, hb7⟩ := hrow
    have HA7 : Hid (_) := a7
    have S7 : Hid (_) := s7
    have HU7 : Hid (U32s w7 ad l) := by
      have o2 : Off F2 ad l.length := off_high (HU.out.below hb1) hi
      have T := S3.out.trans (S4.out.trans (S5.out.trans (S6.out.trans s7)))
      exact ((HU.out.below hb1).below hb2).step T o2
    have HV : Hid (U32s w7 ad2 vs) := hu7
    clear a7 s7 hvs hA5 hu7 HU3 HU hb7
    rw [q5]
    have HQ6 : Hid (A6 = A5.give 0) := hA6
    have HQ8 : Hid (A5.fits 0 0 = true ∧ A6.blank = true ∧ A6.top = 0 ∧ A6.loadV 0 = 0) := ⟨q8, q10, q11, q12⟩
    clear hA6 q8 q10 q11 q12 q1 q2 q3 hf e1 e2 t2 ws2 HA6 HA5
    go_wp2_with fail
    go_loop [83] (fun c => ∃ k : Nat, k ≤ l.length ∧ c = .int .i64 k) (fun c => l.length - (intOf c).toNat)
    case atStart => exact ⟨0, Nat.zero_le _, rfl⟩
    case round =>
      obtain ⟨k, hk, rfl⟩ := hrel
      by_cases hlt : k < l.length
      · obtain ⟨x, rfl, cx⟩ := HV.out k (by omega)
        obtain ⟨y, rfl, cy⟩ := HU7.out k hlt
        have hq := q6 k (by omega)
        clear q6
        by_cases hki : k < i
        · rw [if_pos hki] at hq
          have hld : l.getD k 0 = l[k] := by simp [List.getD_eq_getElem?_getD, List.getElem?_eq_getElem hlt]
          rw [hq, hld] at cx
          clear hq hld
          go_wp2_with fail
          go_round
          case rel => exact ⟨k + 1, by omega, by go_num⟩
          case measure => simp [intOf]; omega
        · rw [if_neg hki] at hq
          rw [hq] at cx
          clear hq
          go_wp2_with fail
          go_round
          case rel => exact ⟨k + 1, by omega, by go_num⟩
          case measure => simp [intOf]; omega
      · clear q6 HV HU7
        obtain ⟨q8, q10, q11, q12⟩ := HQ8.out
        go_wp2_with (first
          | (go_at_call 20; refine (ar_give h F7 A5 0 _ HA7.out (by decide) (by omega)).mono ?_; rintro e w8 ⟨rfl, F8, a8, s8⟩; rw [← HQ6.out] at a8; have HA8 : Hid (_) := a8; clear a8)
          | (go_at_call 17; refine (ar_blank h F8 A6 _ HA8.out).mono ?_; rintro e w9 ⟨rfl, hb9⟩)
          | (go_at_call 11; refine (ar_top h F8 A6 _ (HA8.out.below hb9)).mono ?_; rintro e w' ⟨rfl, hw⟩; subst w')
          | (go_at_call 22; refine (ar_rel h F8 A6 0 _ (HA8.out.below hb9) (by decide) (by omega)).mono ?_; rintro e w10 ⟨rfl, F10, a10, s10⟩))
        go_ret
        refine ⟨rfl, ?_⟩
        have T := S3.out.trans (S4.out.trans (S5.out.trans (S6.out.trans (S7.out.trans (s8.trans ((Step.ofBelow hb9).trans s10))))))
        exact hb1.trans ((hb2.mono hb1.size).trans (T.below (Nat.le_trans hb1.size hb2.size) fun i x => Nat.le_trans hb1.size (hi i x)))

theorem clears_walk (ad : Option Addr) (len cap : Nat) (zs : List Int) (at_ : Int) (w : World) (h : IsRow .u32 w ad len cap zs) (h1 : -9223372036854775808 ≤ at_) (h2 : at_ < 9223372036854775808) :
    Calls Try.prog 4 #[.slice ad len cap, .int .i64 at_] w fun e w' => e = .returned (.bool true) ∧ Below w.heap.size w w' := by
  by_cases hf : 200 < len
  · exact clears_far ad len cap at_ w hf
  · obtain ⟨l, rfl, hl, hu⟩ := isRow_u32s h
    exact clears_at ad cap l at_ w (by omega) hl hu h2 h1
end Go.Proofs.Ytajnegonagpjgaa
