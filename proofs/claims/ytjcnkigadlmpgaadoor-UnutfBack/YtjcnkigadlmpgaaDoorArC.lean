/- Contracts of package arena (Fits, Top, Size, Log, Blank, Take, Store, Load, Release), over this seat's translation. Conditions: the log has at most a thousand million events; numbers are those of int. Contracts of package arena (New, Blank, Put, Show, Give), over this seat's translation. Conditions: the log has at most a thousand million events; numbers are those of int. -/
import Derived.Test.YtjcnkigadlmpgaaDoorArA
import Derived.Deep.RegionHeld3
import Derived.Deep.QuietTactic
import Derived.BigQuiet
namespace Go.Proofs.YtjcnkigadlmpgaaDoor
open Go.RowKit

set_option maxHeartbeats 400000 in
theorem ar_fits (h : Hn) (F : Nat → Prop) (A : Ars) (at_ n : Int) (w : World) (a : Ar w h F A) (ha : at_ < 9223372036854775808) :
    Calls Tryd.prog 40 #[arPtr h, .int .i64 at_, .int .i64 n] w fun e w' => e = .returned (.bool (A.fits at_ n)) ∧ w' = w := by
  have c1 := a.c1
  have hb1 := a.1.1
  have hb2 := a.1.2.1
  have hfd : A.fits at_ n = decide (0 ≤ at_ ∧ 0 ≤ n ∧ n ≤ (A.top : Int) - at_) := rfl
  have HF : Hid (_) := hfd
  clear hfd a
  by_cases h1 : 0 ≤ at_
  · by_cases h2 : 0 ≤ n
    · by_cases h3 : n ≤ (A.top : Int) - at_
      · go_enter Tryd.func40, Tryd.ntmps40
        go_wp2
        go_ret
        exact ⟨ret_bool (by rw [HF.out]; simp [h1, h2, h3]), rfl⟩
      · go_enter Tryd.func40, Tryd.ntmps40
        go_wp2
        go_ret
        exact ⟨ret_bool (by rw [HF.out]; simp [h1, h2, h3]), rfl⟩
    · go_enter Tryd.func40, Tryd.ntmps40
      go_wp2
      go_ret
      exact ⟨ret_bool (by rw [HF.out]; simp; omega), rfl⟩
  · go_enter Tryd.func40, Tryd.ntmps40
    go_wp2
    go_ret
    exact ⟨ret_bool (by rw [HF.out]; simp; omega), rfl⟩

set_option maxHeartbeats 400000 in
theorem ar_top (h : Hn) (F : Nat → Prop) (A : Ars) (w : World) (a : Ar w h F A) :
    Calls Tryd.prog 12 #[arPtr h] w fun e w' => e = .returned (.int .i64 A.top) ∧ w' = w := by
  have c1 := a.c1
  clear a
  go_enter Tryd.func12, Tryd.ntmps12
  go_wp2
  go_ret
  exact ⟨rfl, rfl⟩
set_option maxHeartbeats 400000 in
theorem ar_size (h : Hn) (F : Nat → Prop) (A : Ars) (w : World) (a : Ar w h F A) :
    Calls Tryd.prog 26 #[arPtr h] w fun e w' => e = .returned (.int .i64 A.ws.length) ∧ w' = w := by
  have c0 := a.c0
  clear a
  go_enter Tryd.func26, Tryd.ntmps26
  go_wp2
  go_ret
  exact ⟨rfl, rfl⟩
set_option maxHeartbeats 400000 in
theorem ar_log (h : Hn) (F : Nat → Prop) (A : Ars) (w : World) (a : Ar w h F A) :
    Calls Tryd.prog 8 #[arPtr h] w fun e w' => e = .returned (.pointer (some ⟨h.gl, 0, none⟩)) ∧ w' = w := by
  have c2 := a.c2
  clear a
  go_enter Tryd.func8, Tryd.ntmps8
  go_wp2
  go_ret
  exact ⟨rfl, rfl⟩

set_option maxHeartbeats 400000 in
theorem ar_take_no (h : Hn) (F : Nat → Prop) (A : Ars) (n : Int) (w : World) (a : Ar w h F A) (hc : A.canTake n = false) :
    Calls Tryd.prog 19 #[arPtr h, .int .i64 n] w fun e w' => e = .returned (.tuple #[.int .i64 0, .bool false]) ∧ ∃ k, w' = w.drewN k := by
  have c0 := a.c0
  have c1 := a.c1
  have hb1 := a.1.1
  have hb2 := a.1.2.1
  have hc' : ¬ (0 ≤ n ∧ n ≤ (A.ws.length : Int) - (A.top : Int)) := by simpa [Ars.canTake] using hc
  clear a hc
  by_cases h1 : n < 0
  · clear hc'
    go_enter Tryd.func19, Tryd.ntmps19
    go_wp2
    go_quiet (fail)
    go_wp2
    go_ret2
    exact ⟨rfl, _, rfl⟩
  · have h2 : (A.ws.length : Int) - (A.top : Int) < n := by omega
    have h3 : decide (n < 0) = false := by simpa using h1
    clear hc'
    go_enter Tryd.func19, Tryd.ntmps19
    go_wp2
    go_quiet (fail)
    go_wp2
    go_ret2
    exact ⟨rfl, _, rfl⟩

set_option maxHeartbeats 400000 in
theorem ar_take_yes (h : Hn) (F : Nat → Prop) (A : Ars) (n : Int) (w : World) (a : Ar w h F A) (hc : A.canTake n = true) (hn : A.es.length ≤ 1000000000) :
    Calls Tryd.prog 19 #[arPtr h, .int .i64 n] w fun e w' => e = .returned (.tuple #[.int .i64 A.top, .bool true]) ∧ ∃ F', Ar w' h F' (A.take n) ∧ Step w F w' F' := by
  have c0 := a.c0
  have c1 := a.c1
  have c2 := a.c2
  have f1 := a.f1
  have hb1 := a.1.1
  have hb2 := a.1.2.1
  have HT : Hid (A.take n = ⟨A.ws, A.top + n.toNat, A.es ++ [⟨4, A.top, cnt n⟩]⟩) := by unfold Hid Ars.take; rw [if_pos hc]
  have hc' : 0 ≤ n ∧ n ≤ (A.ws.length : Int) - (A.top : Int) := by simpa [Ars.canTake] using hc
  obtain ⟨h1, h2⟩ := hc'
  obtain ⟨m, rfl⟩ := Int.eq_ofNat_of_zero_le h1
  have h3 : decide ((m : Int) < 0) = false := by simp
  have HA : Hid (Ar w h F A) := a
  clear a hc
  go_enter Tryd.func19, Tryd.ntmps19
  go_wp2
  go_quiet (fail)
  go_wp2_with fail
  have a2 := (HA.out.drewN nq).setTop ((A.top : Int) + (m : Int)) (A.top + m) (by omega) (by omega)
  obtain ⟨ob, hL, hnext⟩ := a2.1.log
  have HN : Hid (_) := hnext
  have HS : Hid (_) := a2.2
  clear hnext a2
  refine (take_any h.gl ob _ _ A.top m _ hL hn).mono ?_
  rintro e w1 ⟨rfl, hN⟩
  obtain ⟨F', a3, s3⟩ := HN.out _ ⟨4, A.top, cnt m⟩ hN
  have H3 : Hid (_) := a3
  have S3 : Hid (_) := s3
  clear hN a3 s3 hL
  go_wp2
  go_ret2
  refine ⟨rfl, F', ?_, ((Step.refl _ _).drewN nq).trans (HS.out.trans S3.out)⟩
  rw [HT.out]; exact H3.out
theorem ar_take (h : Hn) (F : Nat → Prop) (A : Ars) (n : Int) (w : World) (a : Ar w h F A) (hn : A.es.length ≤ 1000000000) :
    Calls Tryd.prog 19 #[arPtr h, .int .i64 n] w fun e w' => e = .returned (.tuple #[.int .i64 (A.takeAt n), .bool (A.canTake n)]) ∧ ∃ F', Ar w' h F' (A.take n) ∧ Step w F w' F' := by
  cases hc : A.canTake n
  · refine (ar_take_no h F A n w a hc).mono ?_
    rintro e w' ⟨rfl, k, rfl⟩
    refine ⟨by simp [Ars.takeAt, hc], F, ?_, (Step.refl _ _).drewN k⟩
    simp only [Ars.take, hc]; exact a.drewN k
  · refine (ar_take_yes h F A n w a hc hn).mono ?_
    rintro e w' ⟨rfl, F', a', s'⟩
    exact ⟨by simp [Ars.takeAt, hc], F', a', s'⟩

set_option maxHeartbeats 400000 in
theorem ar_store_no (h : Hn) (F : Nat → Prop) (A : Ars) (at_ v : Int) (w : World) (a : Ar w h F A) (ha : at_ < 9223372036854775808) (hc : A.fits at_ 1 = false) :
    Calls Tryd.prog 30 #[arPtr h, .int .i64 at_, sec v] w fun e w' => e = .returned (.bool false) ∧ w' = w.alloc (sb v) := by
  have HA : Hid (Ar w h F A) := a
  clear a
  go_enter Tryd.func30, Tryd.ntmps30
  go_wp2_with (go_at_call 40; refine (ar_fits h F A _ _ _ (HA.out.alloc _) ha).mono ?_; rintro e w' ⟨rfl, rfl⟩)
  go_ret
  exact ⟨rfl, rfl⟩

set_option maxHeartbeats 800000 in
theorem ar_store_yes (h : Hn) (F : Nat → Prop) (A : Ars) (i v : Nat) (w : World) (a : Ar w h F A) (hi : i < A.top) (hv : v < 4294967296) (hn : A.es.length ≤ 1000000000) :
    Calls Tryd.prog 30 #[arPtr h, .int .i64 (i : Int), sec v] w fun e w' => e = .returned (.bool true) ∧ ∃ F', Ar w' h F' (A.storeN i v) ∧ Step w F w' F' := by
  have hf : A.fits (i : Int) 1 = true := by rw [Ars.fits_iff]; omega
  have hb1 := a.ok.1
  have hb2 := a.ok.2.1
  have c2 := a.c2
  have hglt : h.g < w.heap.size := a.lt _ a.gF
  have hnF : ¬ F w.heap.size := fun x => by have := a.lt _ x; omega
  have HA : Hid (Ar (w.alloc (sb v)) h F A) := a.alloc _
  clear a
  go_enter Tryd.func30, Tryd.ntmps30
  go_wp2_with (go_at_call 40; refine (ar_fits h F A _ _ _ HA.out (by omega)).mono ?_; rintro e w' ⟨rfl, rfl⟩)
  obtain ⟨ob, hL, hnext⟩ := HA.out.log
  have HN : Hid (_) := hnext
  clear hnext
  refine (store_any h.gl ob _ _ (i : Int) _ hL hn).mono ?_
  rintro e w1 ⟨rfl, hN⟩
  obtain ⟨F', a3, s3⟩ := HN.out _ ⟨2, i, 0⟩ hN
  have c0' := a3.c0
  have cv : w1.cell? ⟨w.heap.size, 0, none⟩ = some (.int .u32 v) := s3.cell (cell_of_heap (heap_alloc_at _ _) rfl) hnF
  have cw := a3.cw i (by show i < A.ws.length; omega)
  have fw := a3.fw i
  have hlen : (i : Int) < ((A.note ⟨2, i, 0⟩).ws.length : Int) := by show (i : Int) < (A.ws.length : Int); omega
  have H3 : Hid (_) := a3
  have S3 : Hid (_) := s3
  clear hN a3 s3 hL HN hf
  go_wp2
  go_region
  all_goals
    go_wp2
    go_ret
    refine ⟨rfl, F', ?_, ?_⟩
    · exact (H3.out.setWord i v hv).1.drew
    · exact ((Step.refl _ _).alloc _).trans (S3.out.trans (H3.out.setWord i v hv).2.drew)
theorem ar_store (h : Hn) (F : Nat → Prop) (A : Ars) (at_ : Int) (v : Nat) (w : World) (a : Ar w h F A) (ha : at_ < 9223372036854775808) (hv : v < 4294967296) (hn : A.es.length ≤ 1000000000) :
    Calls Tryd.prog 30 #[arPtr h, .int .i64 at_, sec v] w fun e w' => e = .returned (.bool (A.fits at_ 1)) ∧ ∃ F', Ar w' h F' (A.store at_ v) ∧ Step w F w' F' := by
  cases hc : A.fits at_ 1
  · refine (ar_store_no h F A at_ v w a ha hc).mono ?_
    rintro e w' ⟨rfl, rfl⟩
    refine ⟨rfl, F, ?_, (Step.refl _ _).alloc _⟩
    simp only [Ars.store, hc]; exact a.alloc _
  · have h1 := Ars.fits_iff.1 hc
    obtain ⟨i, rfl⟩ := Int.eq_ofNat_of_zero_le h1.1
    refine (ar_store_yes h F A i v w a (by omega) hv hn).mono ?_
    rintro e w' ⟨rfl, F', a', s'⟩
    refine ⟨rfl, F', ?_, s'⟩
    simp only [Ars.store, hc]; exact a'

set_option maxHeartbeats 400000 in
theorem ar_load_no (h : Hn) (F : Nat → Prop) (A : Ars) (at_ : Int) (w : World) (a : Ar w h F A) (ha : at_ < 9223372036854775808) (hc : A.fits at_ 1 = false) :
    Calls Tryd.prog 33 #[arPtr h, .int .i64 at_] w fun e w' => e = .returned (sec 0) ∧ Below w.heap.size w w' := by
  have HA : Hid (Ar w h F A) := a
  clear a
  go_enter Tryd.func33, Tryd.ntmps33
  go_wp2_with (first | (go_at_call 40; refine (ar_fits h F A _ _ _ (HA.out.alloc _) ha).mono ?_; rintro e w' ⟨rfl, rfl⟩) | (go_at_call 22; refine (of_any _ _).mono ?_; rintro e w' ⟨rfl, rfl⟩))
  refine bodyPost_ret (v := sec 0) (by simp [results, Tryd.results33, go_sem]) rfl ⟨rfl, ?_⟩
  exact (by repeat (first | exact Below.refl _ _ | refine blw_alloc ?_ | refine blw_drew ?_ | assumption))

set_option maxHeartbeats 800000 in
theorem ar_load_yes (h : Hn) (F : Nat → Prop) (A : Ars) (i : Nat) (w : World) (a : Ar w h F A) (hi : i < A.top) (hn : A.es.length ≤ 1000000000) :
    Calls Tryd.prog 33 #[arPtr h, .int .i64 (i : Int)] w fun e w' => e = .returned (sec (A.word i : Nat)) ∧ ∃ F', Ar w' h F' (A.loadN i) ∧ Step w F w' F' := by
  have hf : A.fits (i : Int) 1 = true := by rw [Ars.fits_iff]; omega
  have hb1 := a.ok.1
  have hb2 := a.ok.2.1
  have c2 := a.c2
  have hglt : h.g < w.heap.size := a.lt _ a.gF
  have hnF : ¬ F w.heap.size := fun x => by have := a.lt _ x; omega
  have HA : Hid (∀ o, Ar (w.alloc o) h F A) := fun o => a.alloc o
  clear a
  go_enter Tryd.func33, Tryd.ntmps33
  go_wp2_with (go_at_call 40; refine (ar_fits h F A _ _ _ (HA.out _) (by omega)).mono ?_; rintro e w' ⟨rfl, rfl⟩)
  obtain ⟨ob, hL, hnext⟩ := (HA.out (.cells #[.int .u32 0] 32)).log
  have HN : Hid (_) := hnext
  clear hnext
  refine (load_any h.gl ob _ _ (i : Int) _ hL hn).mono ?_
  rintro e w1 ⟨rfl, hN⟩
  obtain ⟨F', a3, s3⟩ := HN.out _ ⟨1, i, 0⟩ hN
  have c0' : w1.cell? ⟨h.g, 0, none⟩ = some (.slice (some ⟨h.rw, 0, none⟩) A.ws.length A.ws.length) := a3.c0
  have hb : w1.heap[w.heap.size]? = some (.cells #[.int .u32 0] 32) := s3.heap (heap_alloc_at _ _) hnF
  have cv := cell_of_heap (i := 0) hb rfl
  have fv := frozen_of_heap (i := 0) hb
  have cw : w1.cell? ⟨h.rw, i, none⟩ = some (.int .u32 (A.word i : Nat)) := a3.cw i (by show i < A.ws.length; omega)
  have hlen : (i : Int) < (A.ws.length : Int) := by omega
  have H3 : Hid (_) := a3
  have S3 : Hid (_) := s3
  clear hN a3 s3 hL HN hf hb
  go_wp2
  refine bodyPost_ret (v := sec (A.word i : Nat)) (by simp [results, Tryd.results33, go_sem, cv]) rfl ⟨rfl, F', ?_, ?_⟩
  · exact H3.out.setOther _ _ (S3.out.out hnF (by simp))
  · exact (((Step.refl _ _).alloc _).trans S3.out).setNew _ _ (Nat.le_refl _)
theorem ar_load (h : Hn) (F : Nat → Prop) (A : Ars) (at_ : Int) (w : World) (a : Ar w h F A) (ha : at_ < 9223372036854775808) (hn : A.es.length ≤ 1000000000) :
    Calls Tryd.prog 33 #[arPtr h, .int .i64 at_] w fun e w' => e = .returned (sec (A.loadV at_ : Nat)) ∧ ∃ F', Ar w' h F' (A.load at_) ∧ Step w F w' F' := by
  cases hc : A.fits at_ 1
  · refine (ar_load_no h F A at_ w a ha hc).mono ?_
    rintro e w' ⟨rfl, hb⟩
    refine ⟨by simp [Ars.loadV, hc], F, ?_, Step.ofBelow hb⟩
    simp only [Ars.load, hc]; exact a.below hb
  · have h1 := Ars.fits_iff.1 hc
    obtain ⟨i, rfl⟩ := Int.eq_ofNat_of_zero_le h1.1
    refine (ar_load_yes h F A i w a (by omega) hn).mono ?_
    rintro e w' ⟨rfl, F', a', s'⟩
    refine ⟨by simp [Ars.loadV, hc], F', ?_, s'⟩
    simp only [Ars.load, hc]; exact a'

set_option maxHeartbeats 400000 in
theorem ar_rel_no (h : Hn) (F : Nat → Prop) (A : Ars) (at_ : Int) (w : World) (a : Ar w h F A) (ha : at_ < 9223372036854775808) (hc : A.fits at_ 1 = false) :
    Calls Tryd.prog 16 #[arPtr h, .int .i64 at_] w fun e w' => e = .returned (u32 0) ∧ w' = w := by
  have HA : Hid (Ar w h F A) := a
  clear a
  go_enter Tryd.func16, Tryd.ntmps16
  go_wp2_with (first | (go_at_call 40; refine (ar_fits h F A _ _ _ HA.out ha).mono ?_; rintro e w' ⟨rfl, rfl⟩))
  go_ret
  exact ⟨rfl, rfl⟩

set_option maxHeartbeats 800000 in
theorem ar_rel_yes (h : Hn) (F : Nat → Prop) (A : Ars) (i : Nat) (w : World) (a : Ar w h F A) (hi : i < A.top) (hn : A.es.length < 1000000000) :
    Calls Tryd.prog 16 #[arPtr h, .int .i64 (i : Int)] w fun e w' => e = .returned (u32 (A.word i : Nat)) ∧ ∃ F', Ar w' h F' (A.relN i) ∧ Step w F w' F' := by
  have hf : A.fits (i : Int) 1 = true := by rw [Ars.fits_iff]; omega
  have hb1 := a.ok.1
  have hb2 := a.ok.2.1
  have c2 := a.c2
  have HA : Hid (Ar w h F A) := a
  clear a
  go_enter Tryd.func16, Tryd.ntmps16
  go_wp2_with (first | (go_at_call 40; refine (ar_fits h F A _ _ _ HA.out (by omega)).mono ?_; rintro e w' ⟨rfl, rfl⟩))
  go_region_held3 (fun w' => w'.cell? ⟨h.g, 2, none⟩ = some (.pointer (some ⟨h.gl, 0, none⟩))) (first | (exact Ar.c2 (by assumption)) | (go_keep))
    (first
      | (go_at_call 33; refine (ar_load_yes h F A i _ HA.out.drew hi (by omega)).mono ?_; rintro e w1 ⟨rfl, F1, a1, s1⟩)
      | (go_at_call 39; obtain ⟨ob, hL, hnext⟩ := a1.log; refine (release_any h.gl ob _ _ (A.word i : Nat) _ hL (by simp [Ars.loadN, Ars.note]; omega)).mono ?_; rintro e w2 ⟨rfl, hN⟩; obtain ⟨F', a3, s3⟩ := hnext _ ⟨3, 0, A.word i⟩ hN))
  all_goals
    have H3 : Hid (_) := a3
    have S3 : Hid (_) := s3
    have S1 : Hid (_) := s1
    clear hN a3 s3 hL hnext a1 s1
    go_wp2
    go_ret
    exact ⟨rfl, F', H3.out, ((Step.refl _ _).drew).trans (S1.out.trans S3.out)⟩

theorem ar_rel (h : Hn) (F : Nat → Prop) (A : Ars) (at_ : Int) (w : World) (a : Ar w h F A) (ha : at_ < 9223372036854775808) (hn : A.es.length < 1000000000) :
    Calls Tryd.prog 16 #[arPtr h, .int .i64 at_] w fun e w' => e = .returned (u32 (A.loadV at_ : Nat)) ∧ ∃ F', Ar w' h F' (A.rel at_) ∧ Step w F w' F' := by
  cases hc : A.fits at_ 1
  · refine (ar_rel_no h F A at_ w a ha hc).mono ?_
    rintro e w' ⟨rfl, rfl⟩
    refine ⟨by simp [Ars.loadV, hc], F, ?_, Step.refl _ _⟩
    simp only [Ars.rel, hc]; exact a
  · have h1 := Ars.fits_iff.1 hc
    obtain ⟨i, rfl⟩ := Int.eq_ofNat_of_zero_le h1.1
    refine (ar_rel_yes h F A i w a (by omega) hn).mono ?_
    rintro e w' ⟨rfl, F', a', s'⟩
    refine ⟨by simp [Ars.loadV, hc], F', ?_, s'⟩
    simp only [Ars.rel, hc]; exact a'

theorem Ar.words {w : World} {h : Hn} {F : Nat → Prop} {A : Ars} (a : Ar w h F A) : w.ownsRow 0 32 1 (.slice (some ⟨h.rw, 0, none⟩) A.ws.length A.ws.length) A.ws.length (secs A.ws) := by
  refine ⟨by simp [secs], Or.inr ⟨h.rw, A.ws.length, _, rfl, Nat.zero_le _, a.hw, Nat.le_refl _, ?_, by simp [secs], List.take_of_length_le (by simp [secs])⟩⟩
  have := a.ok.2.1
  unfold maxLen; omega
/-- n words 0 -/
def rowZ (n : Nat) : Array Value := (secs (List.replicate n 0)).toArray
theorem Tryd.infoSec : (Tryd.prog.info? 32).map (fun i => (i.zero, i.size, i.bytes)) = some (some (.agg #[.int .u32 0]), 1, 8) := by kernel_rfl
theorem made_rowZ (n : Nat) : madeCells #[Value.int .u32 0] n = rowZ n := by
  unfold rowZ madeCells secs
  apply Array.ext
  · simp
  · intro i h1 h2
    simp [Nat.mod_one]
theorem run_make_secs (z : Int) (n : Nat) (hz : z = (n : Int)) (hn : n ≤ 4194304) (w : World) :
    (Instr.makeSlice 59 (.int .i64 z) (.int .i64 z)).run Tryd.prog w = .ok (.slice (some ⟨w.heap.size, 0, none⟩) n n) (w.alloc (.cells (rowZ n) 32)) := by
  obtain ⟨i0, hi, hz0, hz1, hz2⟩ := info_parts Tryd.infoSec
  subst hz
  have := run_make (P := Tryd.prog) w 59 32 i0 _ Tryd.underlying59 hi hz0 .i64 .i64 n n (by omega) (Int.le_refl _) (by rw [hz2]; omega) (by omega)
  rw [this, hz1, ← made_rowZ]; simp [Value.cells]

theorem ar_made {w : World} {g r l n : Nat} (hn : n ≤ 4194304) (h1 : w.heap[g]? = some (arObj ⟨g, r, l⟩ n 0)) (h2 : w.heap[r]? = some (.cells (rowZ n) 32 (0, 0))) (h3 : w.heap[l]? = some (.cells #[.slice none 0 0] 63 (0, 0))) :
    Ar w ⟨g, r, l⟩ (fun i => i = g ∨ i = r ∨ i = l ∨ none = some i) (Ars.new n) := by
  refine ⟨Ars.ok_new _ (by omega), ?_, ?_, none, ?_, fun _ => Iff.rfl⟩
  · simpa [Ars.new] using h1
  · simpa [Ars.new, rowZ] using h2
  · exact ⟨.slice none 0 0, h3, rfl, World.ownsRow_nil _ _ _ _⟩

theorem three_at (w : World) (a b c : Obj) : (((w.alloc a).alloc b).alloc c).heap[w.heap.size]? = some a ∧ (((w.alloc a).alloc b).alloc c).heap[w.heap.size + 1]? = some b ∧ (((w.alloc a).alloc b).alloc c).heap[w.heap.size + 1 + 1]? = some c := by
  have e1 : (w.alloc a).heap.size = w.heap.size + 1 := by simp
  have e2 : ((w.alloc a).alloc b).heap.size = w.heap.size + 1 + 1 := by simp
  refine ⟨?_, ?_, ?_⟩
  · rw [heap_alloc_old _ _ _ (by omega), heap_alloc_old _ _ _ (by omega)]; exact heap_alloc_at _ _
  · rw [heap_alloc_old _ _ _ (by omega), ← e1]; exact heap_alloc_at _ _
  · rw [← e2]; exact heap_alloc_at _ _
theorem new_high {s g r l : Nat} (h1 : s ≤ g) (h2 : s ≤ r) (h3 : s ≤ l) : ∀ i, (i = g ∨ i = r ∨ i = l ∨ none = some i) → s ≤ i := by
  rintro i (rfl | rfl | rfl | x)
  · exact h1
  · exact h2
  · exact h3
  · cases x
set_option maxHeartbeats 800000 in
theorem ar_new_at (z : Int) (n : Nat) (w : World) (hz : z < 0 ∧ n = 0 ∨ z = (n : Int)) (hn : n ≤ 4194304) :
    Calls Tryd.prog 18 #[.int .i64 z] w fun e w' => ∃ h F, e = .returned (arPtr h) ∧ Ar w' h F (Ars.new n) ∧ (∀ i, F i → w.heap.size ≤ i) ∧ Below w.heap.size w w' := by
  rcases hz with ⟨hz, rfl⟩ | rfl
  · have hmk := run_make_secs 0 0 rfl (by decide)
    go_enter Tryd.func18, Tryd.ntmps18
    go_wp2
    go_region_with (first | (go_at_call 38; refine (newlog_any _).mono ?_; rintro e w1 ⟨rfl, rfl⟩))
    all_goals
      go_wp2
      go_ret
      first
        | exact ⟨⟨w.heap.size + 1 + 1, w.heap.size, w.heap.size + 1⟩, _, rfl, ar_made hn (three_at w _ _ _).2.2 (three_at w _ _ _).1 (three_at w _ _ _).2.1, new_high (by omega) (Nat.le_refl _) (by omega), (by repeat (first | exact Below.refl _ _ | refine blw_alloc ?_ | refine blw_drew ?_ | assumption))⟩
        | exact ⟨⟨w.heap.size + 1 + 1, w.heap.size + 1, w.heap.size⟩, _, rfl, ar_made hn (three_at w _ _ _).2.2 (three_at w _ _ _).2.1 (three_at w _ _ _).1, new_high (by omega) (by omega) (Nat.le_refl _), (by repeat (first | exact Below.refl _ _ | refine blw_alloc ?_ | refine blw_drew ?_ | assumption))⟩
  · have hmk := run_make_secs n n rfl hn
    go_enter Tryd.func18, Tryd.ntmps18
    go_wp2
    go_region_with (first | (go_at_call 38; refine (newlog_any _).mono ?_; rintro e w1 ⟨rfl, rfl⟩))
    all_goals
      go_wp2
      go_ret
      first
        | exact ⟨⟨w.heap.size + 1 + 1, w.heap.size, w.heap.size + 1⟩, _, rfl, ar_made hn (three_at w _ _ _).2.2 (three_at w _ _ _).1 (three_at w _ _ _).2.1, new_high (by omega) (Nat.le_refl _) (by omega), (by repeat (first | exact Below.refl _ _ | refine blw_alloc ?_ | refine blw_drew ?_ | assumption))⟩
        | exact ⟨⟨w.heap.size + 1 + 1, w.heap.size + 1, w.heap.size⟩, _, rfl, ar_made hn (three_at w _ _ _).2.2 (three_at w _ _ _).2.1 (three_at w _ _ _).1, new_high (by omega) (by omega) (Nat.le_refl _), (by repeat (first | exact Below.refl _ _ | refine blw_alloc ?_ | refine blw_drew ?_ | assumption))⟩
end Go.Proofs.YtjcnkigadlmpgaaDoor
