/- The laws' first lines (awake) return true, over this seat's translation. No conditions. -/
import Derived.Test.YtajnegonagpjgaaArE
import Derived.Test.YtajnegonagpjgaaArQ
namespace Go.Proofs.Ytajnegonagpjgaa
open Go.RowKit

set_option maxHeartbeats 1600000 in
theorem awake_any (w : World) :
    Calls Try.prog 6 #[] w fun e w' => e = .returned (.bool true) ∧ Below w.heap.size w w' := by
  go_enter Try.func6, Try.ntmps6
  go_wp2_with fail
  refine (ar_new_at 10 10 _ (Or.inr rfl) (by decide)).mono ?_
  rintro e w1 ⟨h, F1, rfl, a1, hi, hb⟩
  obtain ⟨A1, e1, hA1⟩ : ∃ A1, A1 = Ars.new 10 ∧ Ar w1 h F1 A1 := ⟨_, rfl, a1⟩
  have k1 : A1.canTake 4 = true ∧ A1.takeAt 4 = 0 ∧ A1.es.length = 0 := by subst e1; decide
  clear a1
  have HA1 : Hid (Ar w1 h F1 A1) := hA1
  clear hA1
  obtain ⟨p1, q1, r1⟩ := k1
  go_wp2_with fail
  refine (ar_take h F1 A1 4 _ HA1.out (by omega)).mono ?_
  rintro e w2 ⟨rfl, F2, a2, s2⟩
  obtain ⟨A2, e2, hA2⟩ : ∃ A2, A2 = A1.take 4 ∧ Ar w2 h F2 A2 := ⟨_, rfl, a2⟩
  have k2 : A2.canTake 4 = true ∧ A2.takeAt 4 = 4 ∧ A2.es.length = 1 := by subst e2 e1; decide
  have HA2 : Hid (Ar w2 h F2 A2) := hA2
  clear a2 hA2
  obtain ⟨p2, q2, r2⟩ := k2
  have E1 : Hid (_) := e1
  have E2 : Hid (_) := e2
  clear e1 e2
  go_wp2_with fail
  refine (ar_take h F2 A2 4 _ HA2.out (by omega)).mono ?_
  rintro e w3 ⟨rfl, F3, a3, s3⟩
  obtain ⟨A3, e3, hA3⟩ : ∃ A3, A3 = A2.take 4 ∧ Ar w3 h F3 A3 := ⟨_, rfl, a3⟩
  have k3 : A3.canTake 4 = false ∧ A3.takeAt 4 = 0 ∧ A3.es.length = 2 := by
    have h1 := E1.out
    have h2 := E2.out
    subst e3 h2 h1; decide
  have HA3 : Hid (Ar w3 h F3 A3) := hA3
  clear a3 hA3
  obtain ⟨p3, q3, r3⟩ := k3
  have E3 : Hid (_) := e3
  clear e3
  go_wp2_with fail
  refine (ar_take h F3 A3 4 _ HA3.out (by omega)).mono ?_
  rintro e w4 ⟨rfl, F4, a4, s4⟩
  obtain ⟨A4, e4, hA4⟩ : ∃ A4, A4 = A3.take 4 ∧ Ar w4 h F4 A4 := ⟨_, rfl, a4⟩
  have k4 : A4.fits 5 1 = true ∧ A4.es.length = 2 ∧ (A4.store 5 9).loadV 5 = 9 ∧ (A4.store 5 9).es.length = 3 ∧ ((A4.store 5 9).rel 5).es.length = 5 := by
    have h1 := E1.out
    have h2 := E2.out
    have h3 := E3.out
    subst e4 h3 h2 h1; decide
  have HA4 : Hid (Ar w4 h F4 A4) := hA4
  clear a4 hA4 e4
  obtain ⟨p4, q4, r4, t4, u4⟩ := k4
  go_wp2_with (first
    | (go_at_call 28; refine (of_any _ _).mono ?_; rintro e w' ⟨rfl, rfl⟩)
    | (go_at_call 27; refine (ar_store h F4 A4 5 9 _ (HA4.out.alloc _) (by decide) (by decide) (by omega)).mono ?_; rintro e w5 ⟨rfl, F5, a5, s5⟩; have HA5 : Hid (_) := a5; clear a5)
    | (go_at_call 22; refine (ar_rel h F5 (A4.store 5 9) 5 _ HA5.out (by decide) (by omega)).mono ?_; rintro e w6 ⟨rfl, F6, a6, s6⟩; have HA6 : Hid (_) := a6; clear a6)
    | (go_at_call 15; refine (ar_log h F6 _ _ HA6.out).mono ?_; rintro e w' ⟨rfl, hw⟩; subst w')
    | (go_at_call 25; obtain ⟨ob, hL, hnext⟩ := HA6.out.log; clear hnext; refine (len_any _ _ _ _ _ hL).mono ?_; rintro e w' ⟨rfl, hw⟩; subst w'))
  go_ret
  exact ⟨rfl, hb.trans ((s2.trans (s3.trans (s4.trans (((Step.refl _ _).alloc _).trans (s5.trans s6))))).below hb.size hi)⟩
end Go.Proofs.Ytajnegonagpjgaa
