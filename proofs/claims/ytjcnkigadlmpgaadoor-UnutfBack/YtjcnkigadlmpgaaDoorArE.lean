/- Contracts of package arena (Show, Give), over this seat's translation. Conditions: the log has at most a thousand million events; numbers are those of int. -/
import Derived.Test.YtjcnkigadlmpgaaDoorArD
namespace Go.Proofs.YtjcnkigadlmpgaaDoor
open Go.RowKit

set_option maxHeartbeats 400000 in
theorem ar_show_no (h : Hn) (F : Nat → Prop) (A : Ars) (at_ n : Int) (w : World) (a : Ar w h F A) (ha : at_ < 9223372036854775808) (hc : A.fits at_ n = false) :
    Calls Tryd.prog 23 #[arPtr h, .int .i64 at_, .int .i64 n] w fun e w' => e = .returned (.slice none 0 0) ∧ w' = w := by
  have HA : Hid (Ar w h F A) := a
  clear a
  go_enter Tryd.func23, Tryd.ntmps23
  go_wp2_with (go_at_call 40; refine (ar_fits h F A _ _ _ HA.out ha).mono ?_; rintro e w' ⟨rfl, hw⟩; subst w')
  go_ret
  exact ⟨rfl, rfl⟩
/-- a slice of words that was made from block B on -/
def NewRow (w : World) (B : Nat) (F : Nat → Prop) (v : Value) (l : List Nat) : Prop :=
  ∃ ad cap, v = .slice ad l.length cap ∧ U32s w ad l ∧ ∀ x, ad = some x → B ≤ x.block ∧ x.block < w.heap.size ∧ ¬ F x.block
theorem secs_row {w : World} {g : Nat} {l : List Nat} (h : w.heap[g]? = some (.cells (secs l).toArray 30 (0, 0))) : U32s w (some ⟨g, 0, none⟩) l := by
  intro k hk
  refine ⟨_, rfl, ?_⟩
  have := u32_row_at h hk
  by_cases h0 : k = 0
  · subst h0; exact this
  · simpa [Addr.add, h0] using this
theorem ar_show (h : Hn) (F : Nat → Prop) (A : Ars) (at_ n : Int) (w : World) (a : Ar w h F A) (ha : at_ < 9223372036854775808) (hn : A.fits at_ n = true → A.es.length + 2 * n.toNat ≤ 1000000000) :
    Calls Tryd.prog 23 #[arPtr h, .int .i64 at_, .int .i64 n] w fun e w' => ∃ v F', e = .returned v ∧ NewRow w' w.heap.size F' v (A.showV at_ n) ∧ Ar w' h F' (A.shown at_ n) ∧ Step w F w' F' := by
  cases hf : A.fits at_ n
  · refine (ar_show_no h F A at_ n w a ha hf).mono ?_
    rintro e w' ⟨rfl, rfl⟩
    refine ⟨_, F, rfl, ?_, ?_, Step.refl _ _⟩
    · simp only [Ars.showV, hf]
      exact ⟨none, 0, rfl, fun k hk => absurd hk (Nat.not_lt_zero _), fun x hx => by cases hx⟩
    · simp only [Ars.shown, hf]; exact a
  · have h1 := Ars.fits_iff.1 hf
    obtain ⟨i, rfl⟩ := Int.eq_ofNat_of_zero_le h1.1
    obtain ⟨m, rfl⟩ := Int.eq_ofNat_of_zero_le h1.2.1
    refine (ar_show_yes h F A i m w a (by omega) (by simpa using hn hf)).mono ?_
    rintro e w' ⟨g, F', rfl, hr, hg, hng, a', s'⟩
    refine ⟨_, F', rfl, ?_, ?_, s'⟩
    · simp only [Ars.showV, hf, if_true, Int.toNat_natCast]
      refine ⟨_, m, by rw [Ars.told_len], secs_row hr, fun x hx => ?_⟩
      cases hx; exact ⟨hg, lt_of_heap hr, hng⟩
    · simp only [Ars.shown, hf]; exact a'

theorem zero_step {A : Ars} {m t : Nat} (hm : 0 < m) (hmt : m ≤ t) : ((A.zeroK t (t - m)).downTo m).store ((m : Int) - 1) 0 = (A.zeroK t (t - (m - 1))).downTo m := by
  unfold Ars.store
  rw [if_pos (by rw [Ars.fits_iff]; show 0 ≤ (m : Int) - 1 ∧ _ ∧ 1 ≤ (m : Int) - ((m : Int) - 1); omega)]
  have e1 : ((m : Int) - 1).toNat = t - 1 - (t - m) := by omega
  have e2 : t - (m - 1) = (t - m) + 1 := by omega
  rw [e1, e2, Ars.downTo_storeN]; rfl

set_option maxHeartbeats 400000 in
theorem ar_give_no (h : Hn) (F : Nat → Prop) (A : Ars) (at_ : Int) (w : World) (a : Ar w h F A) (ha : at_ < 9223372036854775808) (hc : A.fits at_ 0 = false) :
    Calls Tryd.prog 34 #[arPtr h, .int .i64 at_] w fun e w' => e = .returned (.bool false) ∧ w' = w := by
  have HA : Hid (Ar w h F A) := a
  clear a
  go_enter Tryd.func34, Tryd.ntmps34
  go_wp2_with (go_at_call 40; refine (ar_fits h F A _ _ _ HA.out ha).mono ?_; rintro e w' ⟨rfl, hw⟩; subst w')
  go_ret
  exact ⟨rfl, rfl⟩
set_option maxHeartbeats 1600000 in
theorem ar_give_yes (h : Hn) (F : Nat → Prop) (A : Ars) (i : Nat) (w : World) (a : Ar w h F A) (hi : i ≤ A.top) (hn : A.es.length + (A.top - i) ≤ 1000000000) :
    Calls Tryd.prog 34 #[arPtr h, .int .i64 (i : Int)] w fun e w' => e = .returned (.bool true) ∧ ∃ F', Ar w' h F' (A.giveN i) ∧ Step w F w' F' := by
  have hfit : A.fits (i : Int) 0 = true := by rw [Ars.fits_iff]; omega
  have hb1 := a.ok.1
  have hb2 := a.ok.2.1
  have hok := a.ok
  have c1 := a.c1
  have HA : Hid (Ar w h F A) := a
  clear a
  go_enter Tryd.func34, Tryd.ntmps34
  go_wp2_with (go_at_call 40; refine (ar_fits h F A _ _ _ HA.out (by omega)).mono ?_; rintro e w' ⟨rfl, hw⟩; subst w')
  go_loopg [] (A.top - i) (fun q wr => ∃ (m : Nat) (F1 : Nat → Prop), i ≤ m ∧ m ≤ A.top ∧ q = m - i ∧ Ar wr h F1 ((A.zeroK A.top (A.top - m)).downTo m) ∧ Step w F wr F1)
  case atStart => exact ⟨A.top, F, hi, Nat.le_refl _, rfl, by rw [Nat.sub_self]; exact HA.out, Step.refl _ _⟩
  case round =>
    obtain ⟨m, F1, hm1, hm2, hq, a1, s1⟩ := hrel
    have HQ : Hid (_) := hq
    clear hq c1
    have c1 : wr.cell? ⟨h.g, 1, none⟩ = some (.int .i64 (m : Int)) := a1.c1
    by_cases hlt : i < m
    · have HA1 : Hid (Ar wr h F1 ((A.zeroK A.top (A.top - m)).downTo m)) := a1
      have S1 : Hid (Step w F wr F1) := s1
      have HES : Hid (((A.zeroK A.top (A.top - m)).downTo m).es.length ≤ 1000000000) := by unfold Hid; show (A.zeroK A.top (A.top - m)).es.length ≤ _; rw [Ars.zeroK_eslen]; omega
      have HE : Hid (_) := zero_step (A := A) (m := m) (t := A.top) (by omega) hm2
      have HW : Hid (IntKind.i64.wrap ((m : Int) - 1) = (m : Int) - 1) := by unfold Hid; rw [IntKind.wrap_i64]; omega
      clear a1 s1 HA hfit
      go_wp2_with fail
      go_region_held3 (fun w' => w'.cell? ⟨h.g, 1, none⟩ = some (.int .i64 (m : Int))) (first | (exact Ar.c1 (h := h) (by assumption)) | (go_keep))
        (first
          | (go_at_call 22; refine (of_any _ _).mono ?_; rintro e w' ⟨rfl, rfl⟩)
          | (go_at_call 30; refine (ar_store h F1 _ _ 0 _ (HA1.out.drew.alloc _) (by rw [HW.out]; omega) (by decide) HES.out).mono ?_; rintro e w2 ⟨rfl, F2, a2, s2⟩; rw [HW.out, HE.out] at a2))
      all_goals
        have f1 := a2.f1
        have c1 := a2.c1
        have b1 := a2.setTop ((m : Int) - 1) (m - 1) (by omega) (by show m - 1 ≤ (A.zeroK A.top (A.top - (m - 1))).ws.length; rw [Ars.zeroK_wslen]; omega)
        have B1 : Hid (_) := b1
        have S2 : Hid (_) := s2
        clear a2 s2 b1
        go_wp2
        go_roundg (m - 1 - i)
        case measure => rw [HQ.out]; omega
        case rel => exact ⟨m - 1, F2, by omega, by omega, rfl, B1.out.1, S1.out.trans (((Step.refl _ _).drew.alloc _).trans (S2.out.trans B1.out.2))⟩
    · have e : m = i := by omega
      subst e
      obtain ⟨ob, hL, hnext⟩ := a1.log
      have c2 := a1.c2
      have HN : Hid (_) := hnext
      have S1 : Hid (Step w F wr F1) := s1
      have HES : Hid (((A.zeroK A.top (A.top - m)).downTo m).es.length ≤ 1000000000) := by unfold Hid; show (A.zeroK A.top (A.top - m)).es.length ≤ _; rw [Ars.zeroK_eslen]; omega
      clear hnext a1 s1 HA hfit
      go_wp2_with fail
      refine (give_any h.gl ob _ _ (m : Int) ((A.top : Int) - (m : Int)) _ hL HES.out).mono ?_
      rintro e w1 ⟨rfl, hN⟩
      obtain ⟨F', a3, s3⟩ := HN.out _ ⟨5, m, cnt ((A.top : Int) - (m : Int))⟩ hN
      have H3 : Hid (_) := a3
      have S3 : Hid (_) := s3
      clear hN a3 s3 hL
      go_wp2
      go_ret
      exact ⟨rfl, F', H3.out, S1.out.trans S3.out⟩
theorem ar_give (h : Hn) (F : Nat → Prop) (A : Ars) (at_ : Int) (w : World) (a : Ar w h F A) (ha : at_ < 9223372036854775808) (hn : A.es.length + A.top ≤ 1000000000) :
    Calls Tryd.prog 34 #[arPtr h, .int .i64 at_] w fun e w' => e = .returned (.bool (A.fits at_ 0)) ∧ ∃ F', Ar w' h F' (A.give at_) ∧ Step w F w' F' := by
  cases hf : A.fits at_ 0
  · refine (ar_give_no h F A at_ w a ha hf).mono ?_
    rintro e w' ⟨rfl, rfl⟩
    refine ⟨rfl, F, ?_, Step.refl _ _⟩
    simp only [Ars.give, hf]; exact a
  · have h1 := Ars.fits_iff.1 hf
    obtain ⟨i, rfl⟩ := Int.eq_ofNat_of_zero_le h1.1
    refine (ar_give_yes h F A i w a (by omega) (by omega)).mono ?_
    rintro e w' ⟨rfl, F', a', s'⟩
    refine ⟨rfl, F', ?_, s'⟩
    simp only [Ars.give, hf]; exact a'
end Go.Proofs.YtjcnkigadlmpgaaDoor
