/- Contracts of package ct's plain words (what is made of them), over this seat's translation: what each answers, and which new blocks it leaves. No conditions but the words' bounds. -/
import Derived.Test.YtnablmiocbijgaaCt0
namespace Go.Proofs.Ytnablmiocbijgaa
open Go.RowKit

set_option maxHeartbeats 400000 in
theorem spread_any (b : Int) (w : World) :
    Calls Try.prog 28 #[u32 b] w fun e w' => e = .returned (sec (-b % 4294967296)) ∧ w' = (w.alloc (sb (-b % 4294967296))).alloc (sb (-b % 4294967296)) := by
  go_enter Try.func28, Try.ntmps28
  go_wp2_with (go_at_call 7; refine (of_any _ _).mono ?_; rintro e w' ⟨rfl, rfl⟩)
  exact bodyPost_ret (v := sec (-b % 4294967296)) (by simp [results, Try.results28, go_sem]) rfl ⟨rfl, rfl⟩

set_option maxHeartbeats 400000 in
theorem and_any (a b : Nat) (w : World) (ha : a < 4294967296) (hb : b < 4294967296) :
    Calls Try.prog 17 #[sec a, sec b] w fun e w' => e = .returned (sec (((andW a b) : Nat) : Int)) ∧ w' = (((w.alloc (sb (a : Int))).alloc (sb (b : Int))).alloc (sb (((andW a b) : Nat) : Int))).alloc (sb (((andW a b) : Nat) : Int)) := by
  go_enter Try.func17, Try.ntmps17
  go_wp2_with (first | (go_at_call 7; refine (of_any _ _).mono ?_; rintro e w' ⟨rfl, rfl⟩))
  have hf : bits .and .u32 (a : Int) (b : Int) = (((andW a b) : Nat) : Int) := u32_and_nat _ _ ha hb
  exact bodyPost_ret (v := sec (((andW a b) : Nat) : Int)) (by simp [results, Try.results17, go_sem, ← hf]) rfl ⟨rfl, by rw [← hf]⟩

set_option maxHeartbeats 400000 in
theorem or_any (a b : Nat) (w : World) (ha : a < 4294967296) (hb : b < 4294967296) :
    Calls Try.prog 25 #[sec a, sec b] w fun e w' => e = .returned (sec (((orW a b) : Nat) : Int)) ∧ w' = (((w.alloc (sb (a : Int))).alloc (sb (b : Int))).alloc (sb (((orW a b) : Nat) : Int))).alloc (sb (((orW a b) : Nat) : Int)) := by
  go_enter Try.func25, Try.ntmps25
  go_wp2_with (first | (go_at_call 7; refine (of_any _ _).mono ?_; rintro e w' ⟨rfl, rfl⟩))
  have hf : bits .or .u32 (a : Int) (b : Int) = (((orW a b) : Nat) : Int) := u32_or_nat _ _ ha hb
  exact bodyPost_ret (v := sec (((orW a b) : Nat) : Int)) (by simp [results, Try.results25, go_sem, ← hf]) rfl ⟨rfl, by rw [← hf]⟩

set_option maxHeartbeats 400000 in
theorem add_any (a b : Nat) (w : World) (_ha : a < 4294967296) (_hb : b < 4294967296) :
    Calls Try.prog 20 #[sec a, sec b] w fun e w' => e = .returned (sec (((addW a b) : Nat) : Int)) ∧ w' = (((w.alloc (sb (a : Int))).alloc (sb (b : Int))).alloc (sb (((addW a b) : Nat) : Int))).alloc (sb (((addW a b) : Nat) : Int)) := by
  go_enter Try.func20, Try.ntmps20
  go_wp2_with (first | (go_at_call 7; refine (of_any _ _).mono ?_; rintro e w' ⟨rfl, rfl⟩))
  have hf : ((a : Int) + (b : Int)) % 4294967296 = (((addW a b) : Nat) : Int) := by unfold addW; omega
  exact bodyPost_ret (v := sec (((addW a b) : Nat) : Int)) (by simp [results, Try.results20, go_sem, ← hf]) rfl ⟨rfl, by rw [← hf]⟩

set_option maxHeartbeats 400000 in
theorem sub_any (a b : Nat) (w : World) (ha : a < 4294967296) (hb : b < 4294967296) :
    Calls Try.prog 31 #[sec a, sec b] w fun e w' => e = .returned (sec (((subW a b) : Nat) : Int)) ∧ w' = (((w.alloc (sb (a : Int))).alloc (sb (b : Int))).alloc (sb (((subW a b) : Nat) : Int))).alloc (sb (((subW a b) : Nat) : Int)) := by
  go_enter Try.func31, Try.ntmps31
  go_wp2_with (first | (go_at_call 7; refine (of_any _ _).mono ?_; rintro e w' ⟨rfl, rfl⟩))
  have hf : ((a : Int) - (b : Int)) % 4294967296 = (((subW a b) : Nat) : Int) := by unfold subW; omega
  exact bodyPost_ret (v := sec (((subW a b) : Nat) : Int)) (by simp [results, Try.results31, go_sem, ← hf]) rfl ⟨rfl, by rw [← hf]⟩

set_option maxHeartbeats 400000 in
theorem not_any (a : Nat) (w : World) (ha : a < 4294967296) :
    Calls Try.prog 18 #[sec a] w fun e w' => e = .returned (sec (((notW a) : Nat) : Int)) ∧ w' = ((w.alloc (sb (a : Int))).alloc (sb (((notW a) : Nat) : Int))).alloc (sb (((notW a) : Nat) : Int)) := by
  go_enter Try.func18, Try.ntmps18
  go_wp2_with (first | (go_at_call 7; refine (of_any _ _).mono ?_; rintro e w' ⟨rfl, rfl⟩))
  have hf : bits .xor .u32 IntKind.u32.max (a : Int) = (((notW a) : Nat) : Int) := not_form a ha
  exact bodyPost_ret (v := sec (((notW a) : Nat) : Int)) (by simp [results, Try.results18, go_sem, ← hf]) rfl ⟨rfl, by rw [← hf]⟩

set_option maxHeartbeats 400000 in
theorem sel_any (m a b : Nat) (w : World) (hm : m < 4294967296) (ha : a < 4294967296) (hb : b < 4294967296) :
    Calls Try.prog 12 #[sec m, sec a, sec b] w fun e w' => e = .returned (sec (((selW m a b) : Nat) : Int)) ∧ w' = ((((w.alloc (sb (m : Int))).alloc (sb (a : Int))).alloc (sb (b : Int))).alloc (sb (((selW m a b) : Nat) : Int))).alloc (sb (((selW m a b) : Nat) : Int)) := by
  go_enter Try.func12, Try.ntmps12
  go_wp2_with (first | (go_at_call 7; refine (of_any _ _).mono ?_; rintro e w' ⟨rfl, rfl⟩))
  have hf : bits .or .u32 (bits .and .u32 (a : Int) (m : Int)) (bits .andNot .u32 (b : Int) (m : Int)) = (((selW m a b) : Nat) : Int) := sel_form m a b hm ha hb
  exact bodyPost_ret (v := sec (((selW m a b) : Nat) : Int)) (by simp [results, Try.results12, go_sem, ← hf]) rfl ⟨rfl, by rw [← hf]⟩

set_option maxHeartbeats 400000 in
theorem zero_any (a : Nat) (w : World) (ha : a < 4294967296) :
    Calls Try.prog 19 #[sec a] w fun e w' => e = .returned (sec (mk (a == 0) : Nat)) ∧ w' = (((w.alloc (sb (a : Int))).alloc (sb (mk (a == 0) : Nat))).alloc (sb (mk (a == 0) : Nat))).alloc (sb (mk (a == 0) : Nat)) := by
  go_enter Try.func19, Try.ntmps19
  go_wp2_with (go_at_call 28; refine (spread_any _ _).mono ?_; rintro e w' ⟨rfl, rfl⟩)
  have hf := zero_form a ha
  exact bodyPost_ret (v := sec (mk (a == 0) : Nat)) (by simp [results, Try.results19, go_sem, ← hf]) rfl ⟨rfl, by rw [← hf]⟩

set_option maxHeartbeats 400000 in
theorem lt_any (a b : Nat) (w : World) (ha : a < 4294967296) (hb : b < 4294967296) :
    Calls Try.prog 32 #[sec a, sec b] w fun e w' => e = .returned (sec (mk (decide (a < b)) : Nat)) ∧ Below w.heap.size w w' := by
  go_enter Try.func32, Try.ntmps32
  go_wp2_with (first | (go_at_call 28; refine (spread_any _ _).mono ?_; rintro e w' ⟨rfl, rfl⟩) | go_in)
  have hf := lt_form a b ha hb
  exact bodyPost_ret (v := sec (mk (decide (a < b)) : Nat)) (by simp [results, Try.results32, go_sem, ← hf]) rfl ⟨rfl, (by repeat (first | exact Below.refl _ _ | refine blw_alloc ?_ | refine blw_drew ?_ | assumption))⟩

theorem and_b (a b : Nat) (w : World) (ha : a < 4294967296) (hb : b < 4294967296) :
    Calls Try.prog 17 #[sec a, sec b] w fun e w' => e = .returned (sec ((andW a b : Nat) : Int)) ∧ Below w.heap.size w w' :=
  (and_any a b w ha hb).mono fun _ _ ⟨he, hw⟩ => ⟨he, by subst hw; exact (by repeat (first | exact Below.refl _ _ | refine blw_alloc ?_ | refine blw_drew ?_ | assumption))⟩

theorem or_b (a b : Nat) (w : World) (ha : a < 4294967296) (hb : b < 4294967296) :
    Calls Try.prog 25 #[sec a, sec b] w fun e w' => e = .returned (sec ((orW a b : Nat) : Int)) ∧ Below w.heap.size w w' :=
  (or_any a b w ha hb).mono fun _ _ ⟨he, hw⟩ => ⟨he, by subst hw; exact (by repeat (first | exact Below.refl _ _ | refine blw_alloc ?_ | refine blw_drew ?_ | assumption))⟩

theorem add_b (a b : Nat) (w : World) (ha : a < 4294967296) (hb : b < 4294967296) :
    Calls Try.prog 20 #[sec a, sec b] w fun e w' => e = .returned (sec ((addW a b : Nat) : Int)) ∧ Below w.heap.size w w' :=
  (add_any a b w ha hb).mono fun _ _ ⟨he, hw⟩ => ⟨he, by subst hw; exact (by repeat (first | exact Below.refl _ _ | refine blw_alloc ?_ | refine blw_drew ?_ | assumption))⟩

theorem sub_b (a b : Nat) (w : World) (ha : a < 4294967296) (hb : b < 4294967296) :
    Calls Try.prog 31 #[sec a, sec b] w fun e w' => e = .returned (sec ((subW a b : Nat) : Int)) ∧ Below w.heap.size w w' :=
  (sub_any a b w ha hb).mono fun _ _ ⟨he, hw⟩ => ⟨he, by subst hw; exact (by repeat (first | exact Below.refl _ _ | refine blw_alloc ?_ | refine blw_drew ?_ | assumption))⟩

theorem not_b (a : Nat) (w : World) (ha : a < 4294967296) :
    Calls Try.prog 18 #[sec a] w fun e w' => e = .returned (sec ((notW a : Nat) : Int)) ∧ Below w.heap.size w w' :=
  (not_any a w ha).mono fun _ _ ⟨he, hw⟩ => ⟨he, by subst hw; exact (by repeat (first | exact Below.refl _ _ | refine blw_alloc ?_ | refine blw_drew ?_ | assumption))⟩

theorem sel_b (m a b : Nat) (w : World) (hm : m < 4294967296) (ha : a < 4294967296) (hb : b < 4294967296) :
    Calls Try.prog 12 #[sec m, sec a, sec b] w fun e w' => e = .returned (sec ((selW m a b : Nat) : Int)) ∧ Below w.heap.size w w' :=
  (sel_any m a b w hm ha hb).mono fun _ _ ⟨he, hw⟩ => ⟨he, by subst hw; exact (by repeat (first | exact Below.refl _ _ | refine blw_alloc ?_ | refine blw_drew ?_ | assumption))⟩

theorem of_b (v : Int) (w : World) : Calls Try.prog 7 #[u32 v] w fun e w' => e = .returned (sec v) ∧ Below w.heap.size w w' :=
  (of_any v w).mono fun _ _ ⟨he, hw⟩ => ⟨he, by subst hw; exact (by repeat (first | exact Below.refl _ _ | refine blw_alloc ?_ | refine blw_drew ?_ | assumption))⟩
theorem zero_b (a : Nat) (w : World) (ha : a < 4294967296) : Calls Try.prog 19 #[sec a] w fun e w' => e = .returned (sec (mk (a == 0) : Nat)) ∧ Below w.heap.size w w' :=
  (zero_any a w ha).mono fun _ _ ⟨he, hw⟩ => ⟨he, by subst hw; exact (by repeat (first | exact Below.refl _ _ | refine blw_alloc ?_ | refine blw_drew ?_ | assumption))⟩
end Go.Proofs.Ytnablmiocbijgaa
