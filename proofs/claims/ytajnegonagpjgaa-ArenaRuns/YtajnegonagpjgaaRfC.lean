/- Contracts of the document's own arena (Take, Give), over this seat's translation. Conditions: at most a thousand million events; numbers are those of int. -/
import Derived.Test.YtajnegonagpjgaaRfB
namespace Go.Proofs.Ytajnegonagpjgaa
open Go.RowKit

theorem wrap_cnt (n : Nat) (h : n ≤ 4194304) : ((n : Int)) % 4294967296 = (n : Int) := by omega
theorem cnt_small (n : Nat) (h : n ≤ 4194304) : cnt (n : Int) = (n : Int) := by unfold cnt; omega
set_option maxHeartbeats 800000 in
theorem rf_take (h : Hr) (F : Nat → Prop) (A : Ars) (n : Int) (w : World) (a : Rf w h F A) (hn : A.es.length ≤ 1000000000) :
    Calls Try.prog 30 #[rfPtr h, .int .i64 n] w fun e w' => e = .returned (.tuple #[.int .i64 (A.takeAt n), .bool (A.canTake n)]) ∧ ∃ F', Rf w' h F' (A.take n) ∧ Step w F w' F' := by
  have HA := hid a
  have c0 := a.c0
  have c1 := a.c1
  have f1 := a.f1
  have hb1 := a.ok.1
  have hb2 := a.ok.2.1
  clear a
  cases hc : A.canTake n
  · have hc' : ¬ (0 ≤ n ∧ n ≤ (A.ws.length : Int) - (A.top : Int)) := by simpa [Ars.canTake] using hc
    have HE := hid (show A.take n = A ∧ A.takeAt n = 0 by simp [Ars.take, Ars.takeAt, hc])
    rw [HE.out.2]
    by_cases h1 : n < 0
    · clear hc' hc
      go_enter Try.func30, Try.ntmps30
      go_wp2
      go_quiet (fail)
      go_wp2
      go_ret2
      exact ⟨rfl, F, by rw [HE.out.1]; exact HA.out.drewN _, (Step.refl _ _).drewN _⟩
    · have h3 : decide (n < 0) = false := by simpa using h1
      by_cases h2 : (A.ws.length : Int) < n
      · clear hc' hc
        go_enter Try.func30, Try.ntmps30
        go_wp2
        go_quiet (fail)
        go_wp2
        go_ret2
        exact ⟨rfl, F, by rw [HE.out.1]; exact HA.out.drewN _, (Step.refl _ _).drewN _⟩
      · have h4 : (A.ws.length : Int) < (A.top : Int) + n := by omega
        have h5 : decide ((A.ws.length : Int) < n) = false := by simpa using h2
        clear hc' hc
        go_enter Try.func30, Try.ntmps30
        go_wp2
        go_quiet (fail)
        go_wp2
        go_ret2
        exact ⟨rfl, F, by rw [HE.out.1]; exact HA.out.drewN _, (Step.refl _ _).drewN _⟩
  · have hc' : 0 ≤ n ∧ n ≤ (A.ws.length : Int) - (A.top : Int) := by simpa [Ars.canTake] using hc
    obtain ⟨m, rfl⟩ := Int.eq_ofNat_of_zero_le hc'.1
    have HE := hid (show A.take m = (A.downTo (A.top + m)).note ⟨4, A.top, m⟩ ∧ A.takeAt m = A.top by rw [Ars.take_yes hc, cnt_small m (by omega)]; simp [Ars.takeAt, hc]; rfl)
    have hm : (m : Int) ≤ (A.ws.length : Int) - (A.top : Int) := hc'.2
    have h3 : decide ((m : Int) < 0) = false := by simp
    have h4 : decide (A.ws.length < m) = false := by simp; omega
    have h5 : ¬ ((A.ws.length : Int) < (A.top : Int) + (m : Int)) := by omega
    rw [HE.out.2]
    clear hc' hc
    go_enter Try.func30, Try.ntmps30
    go_wp2
    go_quiet (fail)
    go_wp2_with fail
    have a2 := (HA.out.drewN nq).setTop ((A.top : Int) + (m : Int)) (A.top + m) (by omega) (by omega)
    refine (rf_note h F _ ⟨4, A.top, m⟩ _ a2.1 hn).mono ?_
    rintro e w1 ⟨rfl, F1, a1, s1⟩
    have A1 := hid a1
    have S1 := hid (((Step.refl _ _).drewN nq).trans (a2.2.trans s1))
    clear a1 s1 a2
    go_wp2
    go_ret2
    exact ⟨rfl, F1, by rw [HE.out.1]; exact A1.out, S1.out⟩

theorem rzero_step {A : Ars} {j t : Nat} (hj : j < t) (ht : A.top = t) (z : Int) (hz : z = (t : Int) - 1 - (j : Int)) : (A.zeroK t j).store z 0 = A.zeroK t (j + 1) := by
  unfold Ars.store
  rw [if_pos (by rw [Ars.fits_iff, Ars.zeroK_top]; omega)]
  have e1 : z.toNat = t - 1 - j := by omega
  rw [e1]; rfl
set_option maxHeartbeats 1600000 in
theorem rf_give (h : Hr) (F : Nat → Prop) (A : Ars) (at_ : Int) (w : World) (a : Rf w h F A) (hn : A.es.length + A.top ≤ 1000000000) :
    Calls Try.prog 31 #[rfPtr h, .int .i64 at_] w fun e w' => e = .returned (.bool (A.fits at_ 0)) ∧ ∃ F', Rf w' h F' (A.give at_) ∧ Step w F w' F' := by
  have HA := hid a
  have c1 := a.c1
  have hb1 := a.ok.1
  have hb2 := a.ok.2.1
  clear a
  cases hf : A.fits at_ 0
  · have hc' := Ars.fits_no.1 hf
    have HE := hid (Ars.give_no hf)
    by_cases h1 : at_ < 0
    · clear hc' hf
      go_enter Try.func31, Try.ntmps31
      go_wp2
      go_ret
      exact ⟨rfl, F, by rw [HE.out]; exact HA.out, Step.refl _ _⟩
    · have h2 : (A.top : Int) < at_ := by omega
      clear hc' hf
      go_enter Try.func31, Try.ntmps31
      go_wp2
      go_ret
      exact ⟨rfl, F, by rw [HE.out]; exact HA.out, Step.refl _ _⟩
  · have hc' := Ars.fits_iff.1 hf
    obtain ⟨i, rfl⟩ := Int.eq_ofNat_of_zero_le hc'.1
    have hi : i ≤ A.top := by omega
    have HE := hid (show A.give i = A.giveN i by rw [Ars.give_yes hf]; simp)
    have hd : decide (A.top < i) = false := by simp; omega
    clear hc' hf
    go_enter Try.func31, Try.ntmps31
    go_wp2_with fail
    go_loopg [6] (A.top - i) (fun q c wr => ∃ (j : Nat) (F1 : Nat → Prop), j + i ≤ A.top ∧ q = A.top - i - j ∧ c = .int .i64 ((A.top : Int) - 1 - (j : Int)) ∧ Rf wr h F1 (A.zeroK A.top j) ∧ Step w F wr F1)
    case atStart => exact ⟨0, F, by omega, rfl, by simp, HA.out, Step.refl _ _⟩
    case round =>
      obtain ⟨j, F1, hj, hq, rfl, a1, s1⟩ := hrel
      have HQ := hid hq
      clear hq
      by_cases hlt : j + i < A.top
      · have A1 := hid a1
        have S1 := hid s1
        have HES := hid (show (A.zeroK A.top j).es.length ≤ 1000000000 by rw [Ars.zeroK_eslen]; omega)
        have HS := hid (rzero_step (A := A) (j := j) (by omega) rfl ((A.top : Int) - 1 - (j : Int)) rfl)
        have hge : (i : Int) ≤ (A.top : Int) - 1 - (j : Int) := by omega
        clear a1 s1 HA c1
        go_wp2_with (go_at_call 35; refine (rf_store h F1 _ _ 0 _ A1.out (by decide) HES.out).mono ?_; rintro e w2 ⟨rfl, F2, a2, s2⟩)
        go_roundg (A.top - i - (j + 1))
        case measure => rw [HQ.out]; omega
        case rel =>
          rw [HS.out] at a2
          exact ⟨j + 1, F2, by omega, rfl, by congr 1; omega, a2, S1.out.trans s2⟩
      · have e : j = A.top - i := by omega
        have hlt2 : ¬ ((i : Int) ≤ (A.top : Int) - 1 - (j : Int)) := by omega
        have f1 := a1.f1
        have c1' := a1.c1
        have hzt := Ars.zeroK_top (A := A) A.top j
        have a2 := a1.setTop (i : Int) i rfl (by rw [Ars.zeroK_wslen]; omega)
        have A2 := hid a2
        have S1 := hid s1
        have HES := hid (show ((A.zeroK A.top j).downTo i).es.length ≤ 1000000000 by show (A.zeroK A.top j).es.length ≤ _; rw [Ars.zeroK_eslen]; omega)
        have hcn : cnt ((A.top : Int) - (i : Int)) = (A.top : Int) - (i : Int) := by
          have h1 := cnt_small (A.top - i) (by omega)
          have e2 : ((A.top - i : Nat) : Int) = (A.top : Int) - (i : Int) := by omega
          rw [e2] at h1; exact h1
        have HG := hid (show A.giveN i = ((A.zeroK A.top j).downTo i).note ⟨5, i, (A.top : Int) - (i : Int)⟩ by rw [e]; unfold Ars.giveN; rw [hcn])
        clear hcn
        clear a1 s1 HA a2 hzt
        go_wp2_with fail
        refine (rf_note h F1 _ ⟨5, i, (A.top : Int) - (i : Int)⟩ _ A2.out.1 HES.out).mono ?_
        rintro e w3 ⟨rfl, F3, a3, s3⟩
        have A3 := hid a3
        have S3 := hid (S1.out.trans (A2.out.2.trans s3))
        clear a3 s3
        go_wp2
        go_ret
        exact ⟨rfl, F3, by rw [HE.out, HG.out]; exact A3.out, S3.out⟩
end Go.Proofs.Ytajnegonagpjgaa
