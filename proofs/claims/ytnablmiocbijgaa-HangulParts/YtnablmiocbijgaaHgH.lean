/- The laws' is and awake of layer 11, the document's Is and Join, and the law HangulJoins, over this seat's translation. Conditions: the words' bounds. -/
import Derived.Test.YtnablmiocbijgaaHgE
import Derived.Test.YtnablmiocbijgaaHgG
namespace Go.Proofs.Ytnablmiocbijgaa
open Go.RowKit
set_option linter.unusedVariables false

theorem noted_blw {g : Nat} {ob : Option Nat} {n B : Nat} {xs e : List Value} {w w' : World} (h : Noted g ob n xs e w w') (hB : B ≤ w.heap.size) (hg : B ≤ g) (hob : ∀ k, ob = some k → B ≤ k) : Below B w w' := by
  obtain ⟨k, _, _, h3⟩ := h
  exact h3.below hB (fun i hi x => x.elim (fun x => by omega) (fun x => by have := hob _ x; omega))
set_option maxHeartbeats 800000 in
theorem is_any (v u : Nat) (w : World) : Calls Try.prog 9 #[sec v, u32 u] w fun e w' => e = .returned (.bool (v == u)) ∧ Below w.heap.size w w' := by
  have HL := hid (show LogAt ((w.alloc (sb v)).alloc (.cells #[.slice none 0 0] 59)).drew (w.heap.size + 1) none 0 [] by
    have := newlog_at (w.alloc (sb v))
    rw [World.size_alloc] at this
    exact this.kept (S := fun _ => False) (Fr.refl _ _).drew (fun x => x) (fun _ _ x => x))
  go_enter Try.func9, Try.ntmps9
  go_wp2
  go_region_with (first | (go_at_call 21; refine (newlog_any _).mono ?_; rintro e w1 ⟨rfl, rfl⟩) | (go_at_call 22; refine (release_any (w.heap.size + 1) none 0 [] v _ HL.out (by decide)).mono ?_; rintro e w1 ⟨rfl, hN⟩))
  all_goals
    go_wp2
    go_ret
    refine ⟨ret_bool (by rw [Bool.eq_iff_iff]; simp; omega), ?_⟩
    exact Below.trans (by repeat (first | exact Below.refl _ _ | refine blw_alloc ?_ | refine blw_drew ?_ | assumption)) (noted_blw hN (by simp; omega) (by omega) (by intro k hk; cases hk))
theorem is_same (v : Nat) (w : World) : Calls Try.prog 9 #[sec v, u32 v] w fun e w' => e = .returned (.bool true) ∧ Below w.heap.size w w' := by
  have h := is_any v v w
  rw [beq_self_eq_true] at h
  exact h
set_option maxHeartbeats 400000 in
theorem all_any (b : Bool) (w : World) : Calls Try.prog 14 #[.bool b] w fun e w' => e = .returned (u32 (mk b : Nat)) ∧ w' = w := by
  cases b
  all_goals
    go_enter Try.func14, Try.ntmps14
    go_wp2
    go_ret
    exact ⟨rfl, rfl⟩
set_option maxHeartbeats 400000 in
theorem ris_any (p : Nat) (w : World) : Calls Try.prog 8 #[u32 p] w fun e w' => e = .returned (.bool (syl p)) ∧ w' = w := by
  by_cases h1 : 44032 ≤ p
  · by_cases h2 : p ≤ 55203
    · have e : syl p = true := by simp [syl, h1, h2]
      have i1 : (44032 : Int) ≤ (p : Int) := by omega
      have i2 : (p : Int) ≤ 55203 := by omega
      rw [e]
      go_enter Try.func8, Try.ntmps8
      go_wp2
      go_ret
      exact ⟨rfl, rfl⟩
    · have e : syl p = false := by simp [syl, h1, h2]
      have i1 : (44032 : Int) ≤ (p : Int) := by omega
      have i2 : ¬ (p : Int) ≤ 55203 := by omega
      rw [e]
      go_enter Try.func8, Try.ntmps8
      go_wp2
      go_ret
      exact ⟨rfl, rfl⟩
  · have e : syl p = false := by simp [syl, h1]
    have i1 : ¬ (44032 : Int) ≤ (p : Int) := by omega
    rw [e]
    go_enter Try.func8, Try.ntmps8
    go_wp2
    go_ret
    exact ⟨rfl, rfl⟩
set_option maxHeartbeats 400000 in
theorem spans_any (w : World) : Calls Try.prog 15 #[] w fun e w' => e = .returned (.slice (some ⟨w.heap.size, 0, none⟩) 1 1) ∧ w' = w.alloc (.cells #[.int .u32 44032, .int .u32 55203] 46) := by
  go_enter Try.func15, Try.ntmps15
  go_wp2
  go_ret
  exact ⟨rfl, rfl⟩
set_option maxHeartbeats 1600000 in
theorem rjoin_any (a b : Nat) (w : World) (ha : a < 4294967296) (hb : b < 4294967296) : Calls Try.prog 13 #[u32 a, u32 b] w fun e w' => e = .returned (u32 (hjn a b : Nat)) ∧ w' = w := by
  go_enter Try.func13, Try.ntmps13
  go_upto_region 1 with fail
  go_cut [18] from 5 to 46 (fun c wx => c = .bool (jvB a b) ∧ wx = w)
  case first =>
    by_cases h1 : 4352 ≤ a
    · by_cases h2 : a < 4371
      · by_cases h3 : 4449 ≤ b
        · by_cases h4 : b < 4470
          · have i1 : (4352 : Int) ≤ (a : Int) := by omega
            have i2 : (a : Int) < 4371 := by omega
            have i3 : (4449 : Int) ≤ (b : Int) := by omega
            have i4 : (b : Int) < 4470 := by omega
            go_wp2
            go_meet
            exact ⟨by simp [jvB, h1, h2, h3, h4], rfl⟩
          · have i1 : (4352 : Int) ≤ (a : Int) := by omega
            have i2 : (a : Int) < 4371 := by omega
            have i3 : (4449 : Int) ≤ (b : Int) := by omega
            have i4 : ¬ (b : Int) < 4470 := by omega
            go_wp2
            go_meet
            exact ⟨by simp [jvB, h1, h2, h3, h4], rfl⟩
        · have i1 : (4352 : Int) ≤ (a : Int) := by omega
          have i2 : (a : Int) < 4371 := by omega
          have i3 : ¬ (4449 : Int) ≤ (b : Int) := by omega
          go_wp2
          go_meet
          exact ⟨by simp [jvB, h1, h2, h3], rfl⟩
      · have i1 : (4352 : Int) ≤ (a : Int) := by omega
        have i2 : ¬ (a : Int) < 4371 := by omega
        go_wp2
        go_meet
        exact ⟨by simp [jvB, h1, h2], rfl⟩
    · have i1 : ¬ (4352 : Int) ≤ (a : Int) := by omega
      go_wp2
      go_meet
      exact ⟨by simp [jvB, h1], rfl⟩
  case rest =>
    obtain ⟨rfl, rfl⟩ := hcut
    obtain ⟨_, _, h3, _⟩ := join_said a b
    cases hv : jvB a b with
    | true =>
      have e : hjn a b = 44032 + (a - 4352) * 588 + (b - 4449) * 28 := by
        unfold hjn; rw [if_pos]
        simp only [jvB, Bool.and_eq_true, decide_eq_true_eq] at hv
        omega
      simp only [jvB, Bool.and_eq_true, decide_eq_true_eq] at hv
      go_wp2
      go_ret
      exact ⟨retI (by rw [e]; omega), rfl⟩
    | false =>
      have hn : ¬ (4352 ≤ a ∧ a < 4371 ∧ 4449 ≤ b ∧ b < 4470) := fun h => by
        have : jvB a b = true := by simp only [jvB, Bool.and_eq_true, decide_eq_true_eq]; omega
        rw [hv] at this; cases this
      have e : hjn a b = jt a b := by
        unfold hjn jt
        rw [if_neg hn]
        by_cases hx : syl a = true ∧ (a - 44032) % 28 = 0 ∧ 4520 ≤ b ∧ b ≤ 4546
        · rw [if_pos hx, if_pos (show jtB a b = true by simp only [jtB, Bool.and_eq_true, decide_eq_true_eq, beq_iff_eq]; exact ⟨⟨hx.1, hx.2.1⟩, hx.2.2.1, by omega⟩)]
        · rw [if_neg hx, if_neg (show ¬ jtB a b = true from fun h => by
            simp only [jtB, Bool.and_eq_true, decide_eq_true_eq, beq_iff_eq] at h
            exact hx ⟨h.1.1, h.1.2, h.2.1, by omega⟩)]
      have HE := hid e
      clear e hn h3
      go_upto_region 3 with fail
      go_cut [42] from 5 to 46 (fun c wx => c = .bool (jtB a b) ∧ wx = wc)
      case first =>
        go_wp2_with fail
        refine (ris_any a _).mono ?_
        rintro e w' ⟨rfl, rfl⟩
        cases hs : syl a with
        | false =>
          go_wp2
          go_meet
          exact ⟨by simp [jtB, hs], rfl⟩
        | true =>
          have hs' := hs
          simp only [syl, Bool.and_eq_true, decide_eq_true_eq] at hs'
          obtain ⟨s1, s2⟩ := hs'
          go_wp2
          all_goals
            go_meet
            refine ⟨?_, rfl⟩
            congr 1
            simp only [jtB, hs, Bool.true_and]
            rw [Bool.eq_iff_iff]
            simp only [Bool.and_eq_true, beq_iff_eq, decide_eq_true_eq, Bool.false_eq_true, false_iff]
            omega
      case rest =>
        obtain ⟨rfl, rfl⟩ := hcut
        cases hw : jtB a b with
        | true =>
          have e : jt a b = a + b - 4519 := by unfold jt; rw [if_pos hw]
          simp only [jtB, syl, Bool.and_eq_true, decide_eq_true_eq, beq_iff_eq] at hw
          go_wp2
          go_ret
          exact ⟨retI (by rw [HE.out, e]; omega), rfl⟩
        | false =>
          have e : jt a b = 0 := by unfold jt; rw [if_neg (by rw [hw]; decide)]
          go_wp2
          go_ret
          exact ⟨retI (by rw [HE.out, e]; rfl), rfl⟩
end Go.Proofs.Ytnablmiocbijgaa
