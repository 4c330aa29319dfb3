/- The calls of package scan, whether they go through (b) or refuse: what is taken stays, and how much is noted. Conditions: the numbers' bounds; the log has at most some hundred million events. -/
import Derived.Test.YtnnmaegpiddnbaaScT
import Derived.Test.YtnnmaegpiddnbaaScI
namespace Go.Proofs.Ytnnmaegpiddnbaa
open Go.RowKit

theorem evo_did (A : Ars) (p v : Nat → Nat) (n : Nat) : Did A (evo A p v n) true 2 (n : Int) := ⟨evo_top A p v n, by rw [evo_es]; simp⟩
theorem evf_did (A : Ars) (L H : Nat) (p v : Nat → Nat) (n : Nat) : Did A (evf A L H p v n) true 3 (n : Int) := ⟨evf_top A L H p v n, by rw [evf_es]; simp⟩
theorem evg_did (A : Ars) (L H : Nat) (p : Nat → Nat) (n : Nat) : Did A (evg A L H p n) true 2 (n : Int) := ⟨evg_top A L H p n, by rw [evg_es]; simp⟩
theorem sums_did (h : Hn) (F : Nat → Prop) (A : Ars) (at_ n : Int) (b : Bool) (w : World) (a : Ar w h F A) (hat : at_ < 9223372036854775808) (hb : A.fits at_ n = b) (hes : A.es.length ≤ 300000000) :
    Calls Try.prog 11 #[arPtr h, .int .i64 at_, .int .i64 n] w fun e w' => ∃ v : Nat, e = .returned (.tuple #[sec (v : Nat), .bool b]) ∧ ∃ F' A', Ar w' h F' A' ∧ Step w F w' F' ∧ Did A A' b 2 n := by
  cases b with
  | false =>
    refine (sums_no h F A at_ n w a hat hb).mono ?_
    rintro e w' ⟨rfl, hB⟩
    exact ⟨0, rfl, F, A, a.below hB, Step.ofBelow hB, did_no _ _ _⟩
  | true =>
    obtain ⟨L, N, rfl, rfl, hin⟩ := fits_nats hb
    refine (sums_yes h F A L N w a hin hes).mono ?_
    rintro e w' ⟨rfl, F', a', s'⟩
    exact ⟨_, rfl, F', _, a', s', evo_did _ _ _ _⟩
theorem before_did (h : Hn) (F : Nat → Prop) (A : Ars) (at_ n : Int) (b : Bool) (w : World) (a : Ar w h F A) (hat : at_ < 9223372036854775808) (hb : A.fits at_ n = b) (hes : A.es.length ≤ 300000000) :
    Calls Try.prog 12 #[arPtr h, .int .i64 at_, .int .i64 n] w fun e w' => ∃ v : Nat, e = .returned (.tuple #[sec (v : Nat), .bool b]) ∧ ∃ F' A', Ar w' h F' A' ∧ Step w F w' F' ∧ Did A A' b 2 n := by
  cases b with
  | false =>
    refine (before_no h F A at_ n w a hat hb).mono ?_
    rintro e w' ⟨rfl, hB⟩
    exact ⟨0, rfl, F, A, a.below hB, Step.ofBelow hB, did_no _ _ _⟩
  | true =>
    obtain ⟨L, N, rfl, rfl, hin⟩ := fits_nats hb
    refine (before_yes h F A L N w a hin hes).mono ?_
    rintro e w' ⟨rfl, F', a', s'⟩
    exact ⟨_, rfl, F', _, a', s', evo_did _ _ _ _⟩
theorem ors_did (h : Hn) (F : Nat → Prop) (A : Ars) (at_ n : Int) (b : Bool) (w : World) (a : Ar w h F A) (hat : at_ < 9223372036854775808) (hb : A.fits at_ n = b) (hes : A.es.length ≤ 300000000) :
    Calls Try.prog 13 #[arPtr h, .int .i64 at_, .int .i64 n] w fun e w' => ∃ v : Nat, e = .returned (.tuple #[sec (v : Nat), .bool b]) ∧ ∃ F' A', Ar w' h F' A' ∧ Step w F w' F' ∧ Did A A' b 2 n := by
  cases b with
  | false =>
    refine (ors_no h F A at_ n w a hat hb).mono ?_
    rintro e w' ⟨rfl, hB⟩
    exact ⟨0, rfl, F, A, a.below hB, Step.ofBelow hB, did_no _ _ _⟩
  | true =>
    obtain ⟨L, N, rfl, rfl, hin⟩ := fits_nats hb
    refine (ors_yes h F A L N w a hin hes).mono ?_
    rintro e w' ⟨rfl, F', a', s'⟩
    exact ⟨_, rfl, F', _, a', s', evo_did _ _ _ _⟩
theorem behind_did (h : Hn) (F : Nat → Prop) (A : Ars) (at_ n : Int) (b : Bool) (w : World) (a : Ar w h F A) (hat : at_ < 9223372036854775808) (hb : A.fits at_ n = b) (hes : A.es.length ≤ 300000000) :
    Calls Try.prog 15 #[arPtr h, .int .i64 at_, .int .i64 n] w fun e w' => ∃ v : Nat, e = .returned (.tuple #[sec (v : Nat), .bool b]) ∧ ∃ F' A', Ar w' h F' A' ∧ Step w F w' F' ∧ Did A A' b 2 n := by
  cases b with
  | false =>
    refine (behind_no h F A at_ n w a hat hb).mono ?_
    rintro e w' ⟨rfl, hB⟩
    exact ⟨0, rfl, F, A, a.below hB, Step.ofBelow hB, did_no _ _ _⟩
  | true =>
    obtain ⟨L, N, rfl, rfl, hin⟩ := fits_nats hb
    refine (behind_yes h F A L N w a hin hes).mono ?_
    rintro e w' ⟨rfl, F', a', s'⟩
    exact ⟨_, rfl, F', _, a', s', evo_did _ _ _ _⟩
theorem carry_did (h : Hn) (F : Nat → Prop) (A : Ars) (at_ has n : Int) (b : Bool) (w : World) (a : Ar w h F A) (h1 : at_ < 9223372036854775808) (h2 : has < 9223372036854775808) (hb : Rfine A [(at_, n), (has, n)] ↔ b = true) (hes : A.es.length ≤ 300000000) :
    Calls Try.prog 24 #[arPtr h, .int .i64 at_, .int .i64 has, .int .i64 n] w fun e w' => e = .returned (.bool b) ∧ ∃ F' A', Ar w' h F' A' ∧ Step w F w' F' ∧ Did A A' b 3 n := by
  cases b with
  | false =>
    refine (carry_no h F A at_ has n w a h1 h2 (fun hr => by cases hb.1 hr)).mono ?_
    rintro e w' ⟨rfl, hB⟩
    exact ⟨rfl, F, A, a.below hB, Step.ofBelow hB, did_no _ _ _⟩
  | true =>
    obtain ⟨L, H, N, rfl, rfl, rfl, hin, hin2, hap⟩ := rfine_nats (hb.2 rfl)
    refine (carry_yes h F A L H N w a hin hin2 hap hes).mono ?_
    rintro e w' ⟨rfl, F', a', s'⟩
    exact ⟨rfl, F', _, a', s', evf_did _ _ _ _ _ _⟩
theorem sback_did (h : Hn) (F : Nat → Prop) (A : Ars) (at_ has n : Int) (b : Bool) (w : World) (a : Ar w h F A) (h1 : at_ < 9223372036854775808) (h2 : has < 9223372036854775808) (hb : Rfine A [(at_, n), (has, n)] ↔ b = true) (hes : A.es.length ≤ 300000000) :
    Calls Try.prog 23 #[arPtr h, .int .i64 at_, .int .i64 has, .int .i64 n] w fun e w' => e = .returned (.bool b) ∧ ∃ F' A', Ar w' h F' A' ∧ Step w F w' F' ∧ Did A A' b 3 n := by
  cases b with
  | false =>
    refine (sback_no h F A at_ has n w a h1 h2 (fun hr => by cases hb.1 hr)).mono ?_
    rintro e w' ⟨rfl, hB⟩
    exact ⟨rfl, F, A, a.below hB, Step.ofBelow hB, did_no _ _ _⟩
  | true =>
    obtain ⟨L, H, N, rfl, rfl, rfl, hin, hin2, hap⟩ := rfine_nats (hb.2 rfl)
    refine (sback_yes h F A L H N w a hin hin2 hap hes).mono ?_
    rintro e w' ⟨rfl, F', a', s'⟩
    exact ⟨rfl, F', _, a', s', evf_did _ _ _ _ _ _⟩
theorem first_did (h : Hn) (F : Nat → Prop) (A : Ars) (at_ has n : Int) (b : Bool) (w : World) (a : Ar w h F A) (h1 : at_ < 9223372036854775808) (h2 : has < 9223372036854775808) (hb : Rfine A [(at_, n), (has, n)] ↔ b = true) (hes : A.es.length ≤ 300000000) :
    Calls Try.prog 19 #[arPtr h, .int .i64 at_, .int .i64 has, .int .i64 n] w fun e w' => (∃ u v : Nat, e = .returned (.tuple #[sec (u : Nat), sec (v : Nat), .bool b])) ∧ ∃ F' A', Ar w' h F' A' ∧ Step w F w' F' ∧ Did A A' b 2 n := by
  cases b with
  | false =>
    refine (first_no h F A at_ has n w a h1 h2 (fun hr => by cases hb.1 hr)).mono ?_
    rintro e w' ⟨rfl, hB⟩
    exact ⟨⟨0, 0, rfl⟩,  F, A, a.below hB, Step.ofBelow hB, did_no _ _ _⟩
  | true =>
    obtain ⟨L, H, N, rfl, rfl, rfl, hin, hin2, hap⟩ := rfine_nats (hb.2 rfl)
    refine (first_yes h F A L H N w a hin hin2 hap hes).mono ?_
    rintro e w' ⟨rfl, F', a', s'⟩
    exact ⟨⟨_, _, rfl⟩,  F', _, a', s', evg_did _ _ _ _ _⟩
theorem last_did (h : Hn) (F : Nat → Prop) (A : Ars) (at_ has n : Int) (b : Bool) (w : World) (a : Ar w h F A) (h1 : at_ < 9223372036854775808) (h2 : has < 9223372036854775808) (hb : Rfine A [(at_, n), (has, n)] ↔ b = true) (hes : A.es.length ≤ 300000000) :
    Calls Try.prog 20 #[arPtr h, .int .i64 at_, .int .i64 has, .int .i64 n] w fun e w' => (∃ u v : Nat, e = .returned (.tuple #[sec (u : Nat), sec (v : Nat), .bool b])) ∧ ∃ F' A', Ar w' h F' A' ∧ Step w F w' F' ∧ Did A A' b 2 n := by
  cases b with
  | false =>
    refine (last_no h F A at_ has n w a h1 h2 (fun hr => by cases hb.1 hr)).mono ?_
    rintro e w' ⟨rfl, hB⟩
    exact ⟨⟨0, 0, rfl⟩,  F, A, a.below hB, Step.ofBelow hB, did_no _ _ _⟩
  | true =>
    obtain ⟨L, H, N, rfl, rfl, rfl, hin, hin2, hap⟩ := rfine_nats (hb.2 rfl)
    refine (last_yes h F A L H N w a hin hin2 hap hes).mono ?_
    rintro e w' ⟨rfl, F', a', s'⟩
    exact ⟨⟨_, _, rfl⟩,  F', _, a', s', evg_did _ _ _ _ _⟩
end Go.Proofs.Ytnnmaegpiddnbaa
