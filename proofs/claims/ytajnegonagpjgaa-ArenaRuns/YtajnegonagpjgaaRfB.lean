/- Contracts of the document's own arena (New, In, Fits, Take, Store, Load, Release, Give), over this seat's translation. Conditions: at most a thousand million events; numbers are those of int. -/
import Derived.Test.YtajnegonagpjgaaRfA
namespace Go.Proofs.Ytajnegonagpjgaa
open Go.RowKit

theorem rf_made {w : World} {g r n : Nat} (hn : n ≤ 4194304) (h1 : w.heap[g]? = some (rfObj ⟨g, r⟩ n 0 (.slice none 0 0))) (h2 : w.heap[r]? = some (.cells (rowZ n) 29 (0, 0))) :
    Rf w ⟨g, r⟩ (fun i => i = g ∨ i = r ∨ none = some i) (Ars.new n) := by
  refine ⟨Ars.ok_new _ (by omega), ?_, none, 0, none, ?_, rfl, World.ownsRow_nil _ _ _ _, fun _ => Iff.rfl⟩
  · simpa [Ars.new, rowZ] using h2
  · simpa [Ars.new] using h1
theorem two_at (w : World) (a b : Obj) : ((w.alloc a).alloc b).heap[w.heap.size]? = some a ∧ ((w.alloc a).alloc b).heap[w.heap.size + 1]? = some b := by
  have e1 : (w.alloc a).heap.size = w.heap.size + 1 := by simp
  refine ⟨?_, ?_⟩
  · rw [heap_alloc_old _ _ _ (by omega)]; exact heap_alloc_at _ _
  · rw [← e1]; exact heap_alloc_at _ _
theorem rnew_high {s : Nat} : ∀ i, (i = s + 1 ∨ i = s ∨ none = some i) → s ≤ i := by
  rintro i (rfl | rfl | x)
  · omega
  · omega
  · cases x
set_option maxHeartbeats 800000 in
theorem rf_new_at (z : Int) (n : Nat) (w : World) (hz : z < 0 ∧ n = 0 ∨ z = (n : Int)) (hn : n ≤ 4194304) :
    Calls Try.prog 9 #[.int .i64 z] w fun e w' => ∃ h F, e = .returned (rfPtr h) ∧ Rf w' h F (Ars.new n) ∧ (∀ i, F i → w.heap.size ≤ i) ∧ Below w.heap.size w w' := by
  rcases hz with ⟨hz, rfl⟩ | rfl
  · have hmk := run_make_u32s 0 0 rfl (by decide)
    go_enter Try.func9, Try.ntmps9
    go_wp2
    go_ret
    exact ⟨⟨w.heap.size + 1, w.heap.size⟩, _, rfl, rf_made hn (two_at w _ _).2 (two_at w _ _).1, rnew_high, (by repeat (first | exact Below.refl _ _ | refine blw_alloc ?_ | refine blw_drew ?_ | assumption))⟩
  · have hmk := run_make_u32s n n rfl hn
    go_enter Try.func9, Try.ntmps9
    go_wp2
    go_ret
    exact ⟨⟨w.heap.size + 1, w.heap.size⟩, _, rfl, rf_made hn (two_at w _ _).2 (two_at w _ _).1, rnew_high, (by repeat (first | exact Below.refl _ _ | refine blw_alloc ?_ | refine blw_drew ?_ | assumption))⟩

set_option maxHeartbeats 400000 in
theorem rf_in (h : Hr) (F : Nat → Prop) (A : Ars) (at_ : Int) (w : World) (a : Rf w h F A) :
    Calls Try.prog 46 #[rfPtr h, .int .i64 at_] w fun e w' => e = .returned (.bool (A.fits at_ 1)) ∧ w' = w := by
  have c1 := a.c1
  have HF := hid (show A.fits at_ 1 = decide (0 ≤ at_ ∧ (0 : Int) ≤ 1 ∧ 1 ≤ (A.top : Int) - at_) from rfl)
  clear a
  by_cases h1 : 0 ≤ at_
  · by_cases h2 : at_ < (A.top : Int)
    · go_enter Try.func46, Try.ntmps46
      go_wp2
      go_ret
      exact ⟨ret_bool (by rw [HF.out]; simp; omega), rfl⟩
    · go_enter Try.func46, Try.ntmps46
      go_wp2
      go_ret
      exact ⟨ret_bool (by rw [HF.out]; simp; omega), rfl⟩
  · go_enter Try.func46, Try.ntmps46
    go_wp2
    go_ret
    exact ⟨ret_bool (by rw [HF.out]; simp; omega), rfl⟩

set_option maxHeartbeats 800000 in
theorem rf_fits (h : Hr) (F : Nat → Prop) (A : Ars) (at_ n : Int) (w : World) (a : Rf w h F A) :
    Calls Try.prog 14 #[rfPtr h, .int .i64 at_, .int .i64 n] w fun e w' => e = .returned (.bool (A.fits at_ n)) ∧ w' = w := by
  have c0 := a.c0
  have c1 := a.c1
  have hb1 := a.ok.1
  have hb2 := a.ok.2.1
  have HF := hid (show A.fits at_ n = decide (0 ≤ at_ ∧ 0 ≤ n ∧ n ≤ (A.top : Int) - at_) from rfl)
  clear a
  by_cases h1 : n < 0
  · go_enter Try.func14, Try.ntmps14
    go_wp2
    go_ret
    exact ⟨ret_bool (by rw [HF.out]; simp; omega), rfl⟩
  by_cases h2 : at_ < 0
  · go_enter Try.func14, Try.ntmps14
    go_wp2
    go_ret
    exact ⟨ret_bool (by rw [HF.out]; simp; omega), rfl⟩
  by_cases h3 : (A.top : Int) < at_
  · go_enter Try.func14, Try.ntmps14
    go_wp2
    go_ret
    exact ⟨ret_bool (by rw [HF.out]; simp; omega), rfl⟩
  by_cases h4 : (A.ws.length : Int) < n
  · go_enter Try.func14, Try.ntmps14
    go_wp2
    go_ret
    exact ⟨ret_bool (by rw [HF.out]; simp; omega), rfl⟩
  go_enter Try.func14, Try.ntmps14
  go_wp2
  go_ret
  exact ⟨ret_bool (by rw [HF.out, Bool.eq_iff_iff]; simp; omega), rfl⟩

set_option maxHeartbeats 800000 in
theorem rf_store (h : Hr) (F : Nat → Prop) (A : Ars) (at_ : Int) (v : Nat) (w : World) (a : Rf w h F A) (hv : v < 4294967296) (hn : A.es.length ≤ 1000000000) :
    Calls Try.prog 35 #[rfPtr h, .int .i64 at_, .int .u32 (v : Int)] w fun e w' => e = .returned (.bool (A.fits at_ 1)) ∧ ∃ F', Rf w' h F' (A.store at_ v) ∧ Step w F w' F' := by
  have HA := hid a
  cases hf : A.fits at_ 1
  · have HE := hid (show A.store at_ v = A by simp [Ars.store, hf])
    clear a
    go_enter Try.func35, Try.ntmps35
    go_wp2_with (go_at_call 46; refine (rf_in h F A _ _ HA.out).mono ?_; rintro e w' ⟨rfl, hw⟩; subst w')
    go_ret
    exact ⟨rfl, F, by rw [HE.out]; exact HA.out, Step.refl _ _⟩
  · have h1 := Ars.fits_iff.1 hf
    obtain ⟨i, rfl⟩ := Int.eq_ofNat_of_zero_le h1.1
    have HE := hid (show A.store i v = A.storeN i v by simp [Ars.store, hf])
    have hb1 := a.ok.1
    have hb2 := a.ok.2.1
    have c0 := a.c0
    have cw := a.cw i (by omega)
    have fw := a.fw i
    have hlen : (i : Int) < (A.ws.length : Int) := by omega
    have b1 := a.setWord i v hv
    have B1 := hid b1
    clear a b1 h1
    go_enter Try.func35, Try.ntmps35
    go_wp2_with (first
      | (go_at_call 46; refine (rf_in h F A _ _ HA.out).mono ?_; rintro e w' ⟨rfl, hw⟩; subst w')
      | (go_at_call 43; refine (rf_note h F _ ⟨2, i, 0⟩ _ B1.out.1 hn).mono ?_; rintro e w2 ⟨rfl, F2, a2, s2⟩; have A2 := hid a2; have S2 := hid s2; clear a2 s2))
    go_ret
    exact ⟨rfl, F2, by rw [HE.out]; exact A2.out, B1.out.2.trans S2.out⟩

set_option maxHeartbeats 800000 in
theorem rf_load (h : Hr) (F : Nat → Prop) (A : Ars) (at_ : Int) (w : World) (a : Rf w h F A) (hn : A.es.length ≤ 1000000000) :
    Calls Try.prog 34 #[rfPtr h, .int .i64 at_] w fun e w' => e = .returned (u32 (A.loadV at_ : Nat)) ∧ ∃ F', Rf w' h F' (A.load at_) ∧ Step w F w' F' := by
  have HA := hid a
  cases hf : A.fits at_ 1
  · have HE := hid (show A.load at_ = A ∧ A.loadV at_ = 0 by simp [Ars.load, Ars.loadV, hf])
    clear a
    rw [HE.out.2]
    go_enter Try.func34, Try.ntmps34
    go_wp2_with (go_at_call 46; refine (rf_in h F A _ _ HA.out).mono ?_; rintro e w' ⟨rfl, hw⟩; subst w')
    go_ret
    exact ⟨rfl, F, by rw [HE.out.1]; exact HA.out, Step.refl _ _⟩
  · have h1 := Ars.fits_iff.1 hf
    obtain ⟨i, rfl⟩ := Int.eq_ofNat_of_zero_le h1.1
    have HE := hid (show A.load i = A.loadN i ∧ A.loadV i = A.word i by simp [Ars.load, Ars.loadV, hf])
    have hb1 := a.ok.1
    have hb2 := a.ok.2.1
    have hlen : (i : Int) < (A.ws.length : Int) := by omega
    clear a h1
    rw [HE.out.2]
    go_enter Try.func34, Try.ntmps34
    go_wp2_with (first
      | (go_at_call 46; refine (rf_in h F A _ _ HA.out).mono ?_; rintro e w' ⟨rfl, hw⟩; subst w')
      | (go_at_call 43; refine (rf_note h F A ⟨1, i, 0⟩ _ HA.out hn).mono ?_; rintro e w2 ⟨rfl, F2, a2, s2⟩; have A2 := hid a2; have S2 := hid s2; have c0 : w2.cell? ⟨h.g, 0, none⟩ = some (.slice (some ⟨h.rw, 0, none⟩) A.ws.length A.ws.length) := a2.c0; have cw : w2.cell? ⟨h.rw, i, none⟩ = some (.int .u32 (A.word i : Nat)) := a2.cw i (by show i < A.ws.length; omega); clear a2 s2))
    go_ret
    exact ⟨rfl, F2, by rw [HE.out.1]; exact A2.out, S2.out⟩

set_option maxHeartbeats 800000 in
theorem rf_rel (h : Hr) (F : Nat → Prop) (A : Ars) (at_ : Int) (w : World) (a : Rf w h F A) (hn : A.es.length < 1000000000) :
    Calls Try.prog 36 #[rfPtr h, .int .i64 at_] w fun e w' => e = .returned (u32 (A.loadV at_ : Nat)) ∧ ∃ F', Rf w' h F' (A.rel at_) ∧ Step w F w' F' := by
  have HA := hid a
  clear a
  cases hf : A.fits at_ 1
  · have HE := hid (show A.rel at_ = A ∧ A.loadV at_ = 0 by simp [Ars.rel, Ars.loadV, hf])
    rw [HE.out.2]
    go_enter Try.func36, Try.ntmps36
    go_wp2_with (go_at_call 46; refine (rf_in h F A _ _ HA.out).mono ?_; rintro e w' ⟨rfl, hw⟩; subst w')
    go_ret
    exact ⟨rfl, F, by rw [HE.out.1]; exact HA.out, Step.refl _ _⟩
  · have h1 := Ars.fits_iff.1 hf
    obtain ⟨i, rfl⟩ := Int.eq_ofNat_of_zero_le h1.1
    have HE := hid (show A.rel i = (A.load i).note ⟨3, 0, A.loadV i⟩ by simp [Ars.rel, Ars.load, Ars.loadV, hf]; rfl)
    have HN := hid (show (A.load i).es.length ≤ 1000000000 by simp [Ars.load, hf, Ars.loadN, Ars.note]; omega)
    clear h1
    go_enter Try.func36, Try.ntmps36
    go_wp2_with (first
      | (go_at_call 46; refine (rf_in h F A _ _ HA.out).mono ?_; rintro e w' ⟨rfl, hw⟩; subst w')
      | (go_at_call 34; refine (rf_load h F A _ _ HA.out (by omega)).mono ?_; rintro e w2 ⟨rfl, F2, a2, s2⟩; have A2 := hid a2; have S2 := hid s2; clear a2 s2)
      | (go_at_call 43; refine (rf_note h F2 (A.load i) ⟨3, 0, A.loadV i⟩ _ A2.out HN.out).mono ?_; rintro e w3 ⟨rfl, F3, a3, s3⟩; have A3 := hid a3; have S3 := hid s3; clear a3 s3))
    go_ret
    exact ⟨rfl, F3, by rw [HE.out]; exact A3.out, S2.out.trans S3.out⟩
end Go.Proofs.Ytajnegonagpjgaa
