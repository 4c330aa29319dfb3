/- Contracts of package arena (Show, Give), over this seat's translation. Conditions: the log has at most a thousand million events; numbers are those of int. -/
import Derived.Test.YtgkpmcmgkdmeeaaDoorArD
namespace Go.Proofs.YtgkpmcmgkdmeeaaDoor
open Go.RowKit

set_option maxHeartbeats 400000 in
theorem ar_show_no (h : Hn) (F : Nat → Prop) (A : Ars) (at_ n : Int) (w : World) (a : Ar w h F A) (ha : at_ < 9223372036854775808) (hc : A.fits at_ n = false) :
    Calls Tryd.prog 24 #[arPtr h, .int .i64 at_, .int .i64 n] w fun e w' => e = .returned (.slice none 0 0) ∧ w' = w := by
  have HA : Hid (Ar w h F A) := a
  clear a
  go_enter Tryd.func24, Tryd.ntmps24
  go_wp2_with (go_at_call 25; refine (ar_fits h F A _ _ _ HA.out ha).mono ?_; rintro e w' ⟨rfl, hw⟩; subst w')
  go_ret
  exact ⟨rfl, rfl⟩
/-- a slice of words that was made from block B on -/
def NewRow (w : World) (B : Nat) (F : Nat → Prop) (v : Value) (l : List Nat) : Prop :=
  ∃ ad cap, v = .slice ad l.length cap ∧ U32s w ad l ∧ ∀ x, ad = some x → B ≤ x.block ∧ x.block < w.heap.size ∧ ¬ F x.block
theorem secs_row {w : World} {g : Nat} {l : List Nat} (h : w.heap[g]? = some (.cells (secs l).toArray 23 (0, 0))) : U32s w (some ⟨g, 0, none⟩) l := by
  intro k hk
  refine ⟨_, rfl, ?_⟩
  have := u32_row_at h hk
  by_cases h0 : k = 0
  · subst h0; exact this
  · simpa [Addr.add, h0] using this
theorem ar_show (h : Hn) (F : Nat → Prop) (A : Ars) (at_ n : Int) (w : World) (a : Ar w h F A) (ha : at_ < 9223372036854775808) (hn : A.fits at_ n = true → A.es.length + 2 * n.toNat ≤ 1000000000) :
    Calls Tryd.prog 24 #[arPtr h, .int .i64 at_, .int .i64 n] w fun e w' => ∃ v F', e = .returned v ∧ NewRow w' w.heap.size F' v (A.showV at_ n) ∧ Ar w' h F' (A.shown at_ n) ∧ Step w F w' F' := by
  cases hf : A.fits at_ n
  · refine (ar_show_no h F A at_ n w a ha hf).mono ?_
    rintro e w' ⟨rfl, rfl⟩
    refine ⟨_, F, rfl, ?_, ?_, Step.refl _ _⟩
    · simp only [Ars.showV, hf]
      exact ⟨none, 0, rfl, fun k hk => absurd hk (Nat.not_lt_zero _), fun x hx => by cases hx⟩
    · simp only [Ars.shown, hf]; exact a
  · have h1 := Ars.fits_iff.1 hf
    obtain ⟨i, rfl⟩ := Int.eq_ofNat_of_zero_le h1.1
    obtain ⟨m, rfl⟩ := Int.eq_ofNat_of_zero_le h1.2.1
    refine (ar_show_yes h F A i m w a (by omega) (by simpa using hn hf)).mono ?_
    rintro e w' ⟨g, F', rfl, hr, hg, hng, a', s'⟩
    refine ⟨_, F', rfl, ?_, ?_, s'⟩
    · simp only [Ars.showV, hf, if_true, Int.toNat_natCast]
      refine ⟨_, m, by rw [Ars.told_len], secs_row hr, fun x hx => ?_⟩
      cases hx; exact ⟨hg, lt_of_heap hr, hng⟩
    · simp only [Ars.shown, hf]; exact a'

theorem zero_step {A : Ars} {m t : Nat} (hm : 0 < m) (hmt : m ≤ t) : ((A.zeroK t (t - m)).downTo m).store ((m : Int) - 1) 0 = (A.zeroK t (t - (m - 1))).downTo m := by
  unfold Ars.store
  rw [if_pos (by rw [Ars.fits_iff]; show 0 ≤ (m : Int) - 1 ∧ _ ∧ 1 ≤ (m : Int) - ((m : Int) - 1); omega)]
  have e1 : ((m : Int) - 1).toNat = t - 1 - (t - m) := by omega
  have e2 : t - (m - 1) = (t - m) + 1 := by omega
  rw [e1, e2, Ars.downTo_storeN]; rfl

end Go.Proofs.YtgkpmcmgkdmeeaaDoor
