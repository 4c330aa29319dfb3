/- The contracts of package scan's whole and fill, over this seat's translation. Conditions: the log has at most some hundred million events. -/
import Derived.Test.YtnnmaegpiddnbaaScI
import Derived.Test.YtnnmaegpiddnbaaRwC
namespace Go.Proofs.Ytnnmaegpiddnbaa
open Go.RowKit

set_option maxHeartbeats 1600000 in
theorem whole5_any (x : Nat) (w : World) (hx : x < 4294967296) :
    Calls Try.prog 52 #[sec x] w fun e w' => e = .returned (sec (mk (x % 2 == 1) : Nat)) ∧ Below w.heap.size w w' := by
  have HW := hid (whole_w x hx)
  go_enter Try.func52, Try.ntmps52
  go_wp2_with fail
  go_region_with (first | (go_at_call 31; refine (of_any _ _).mono ?_; rintro e w' ⟨rfl, rfl⟩) | (go_at_call 53; refine (and_any x 1 _ hx (by decide)).mono ?_; rintro e w' ⟨rfl, rfl⟩) | (go_at_call 60; refine (sub_any 0 (andW x 1) _ (by decide) (andW_lt hx)).mono ?_; rintro e w' ⟨rfl, rfl⟩; rw [HW.out]))
  all_goals
    go_wp2
    exact bodyPost_ret (v := sec (mk (x % 2 == 1) : Nat)) (by simp [results, Try.results52, go_sem]) rfl ⟨rfl, (by repeat (first | exact Below.refl _ _ | refine blw_alloc ?_ | refine blw_drew ?_ | assumption))⟩

/-- two lanes gone over: one word of each is loaded, that of the first one is stored -/
def evf (A : Ars) (L H : Nat) (p v : Nat → Nat) : Nat → Ars
  | 0 => A
  | k + 1 => (((evf A L H p v k).loadN (H + p k)).loadN (L + p k)).storeN (L + p k) (v k)
theorem evf_top (A : Ars) (L H : Nat) (p v : Nat → Nat) (k : Nat) : (evf A L H p v k).top = A.top := by
  induction k with
  | zero => rfl
  | succ k ih => exact ih
theorem evf_wl (A : Ars) (L H : Nat) (p v : Nat → Nat) (k : Nat) : (evf A L H p v k).ws.length = A.ws.length := by
  induction k with
  | zero => rfl
  | succ k ih => simp only [evf, Ars.storeN_wslen]; exact ih
theorem evf_es (A : Ars) (L H : Nat) (p v : Nat → Nat) (k : Nat) : (evf A L H p v k).es.length = A.es.length + 3 * k := by
  induction k with
  | zero => rfl
  | succ k ih => simp only [evf, Ars.storeN_eslen, Ars.loadN, Ars.note, List.length_append, List.length_cons, List.length_nil]; omega
theorem evf_word (A : Ars) (L H : Nat) (p v : Nat → Nat) (k : Nat) (hp : ∀ j, j < k → L + p j < A.ws.length) : ∀ q, (∀ j, j < k → L + p j ≠ q) → (evf A L H p v k).word q = A.word q := by
  induction k with
  | zero => intro q _; rfl
  | succ k ih =>
    intro q hq
    have h1 := ih (fun j hj => hp j (by omega)) q (fun j hj => hq j (by omega))
    simp only [evf]
    rw [word_st _ _ _ (by show L + p k < (evf A L H p v k).ws.length; rw [evf_wl]; exact hp k (by omega))]
    show (if q = L + p k then v k else (evf A L H p v k).word q) = _
    rw [if_neg (fun e => hq k (by omega) e.symm), h1]
theorem evf_at (A : Ars) (L H : Nat) (p v : Nat → Nat) (k : Nat) (hp : ∀ j, j < k → L + p j < A.ws.length) (hi : ∀ i j, i < k → j < k → p i = p j → i = j) : ∀ j, j < k → (evf A L H p v k).word (L + p j) = v j := by
  induction k with
  | zero => intro j h; omega
  | succ k ih =>
    intro j hj
    simp only [evf]
    rw [word_st _ _ _ (by show L + p k < (evf A L H p v k).ws.length; rw [evf_wl]; exact hp k (by omega))]
    show (if L + p j = L + p k then v k else (evf A L H p v k).word (L + p j)) = _
    by_cases e : j = k
    · subst e; simp
    · rw [if_neg (fun h => e (hi j k hj (by omega) (by omega)))]
      exact ih (fun j hj => hp j (by omega)) (fun i j h1 h2 => hi i j (by omega) (by omega)) j (by omega)
/-- what is carried -/
def cv (A : Ars) (L H : Nat) (p : Nat → Nat) : Nat → Nat
  | 0 => 0
  | k + 1 => if A.word (H + p k) % 2 == 1 then A.word (L + p k) else cv A L H p k
theorem cv_lt (A : Ars) (L H : Nat) (p : Nat → Nat) (h : A.ok) (k : Nat) : cv A L H p k < 4294967296 := by
  induction k with
  | zero => exact (by decide : (0 : Nat) < 4294967296)
  | succ k ih => unfold cv; split; exact Ars.word_lt h _; exact ih
theorem sel5 (b : Bool) (u v : Nat) (hu : u < 4294967296) (hv : v < 4294967296) : selW (mk b) u v = if b then u else v := by
  cases b
  · rw [selW_no _ _ hv]; rfl
  · rw [selW_yes _ _ hu]; rfl
/-- two places and a number, as rows -/
theorem cells_two {w : World} {g : Nat} {a b : Int} {t : TypeId} (h : w.heap[g]? = some (.cells #[.int .i64 a, .int .i64 b] t (0, 0))) : ∀ j, j < [a, b].length → w.cell? ⟨g, j, none⟩ = some (.int .i64 ([a, b][j]?.getD 0)) := fun j hj => by
  match j, hj with
  | 0, _ => exact cell_of_heap h rfl
  | 1, _ => exact cell_of_heap h rfl

theorem of2_any (n a b : Int) (g : Nat) (w : World) (hg : w.heap[g]? = some (.cells #[.int .i64 a, .int .i64 b] 3 (0, 0))) :
    Calls Try.prog 51 #[.int .i64 n, .slice (some ⟨g, 0, none⟩) 2 2] w fun e w' => e = .returned (.slice (some ⟨w.heap.size, 0, none⟩) 2 2) ∧
      (∀ j (h : j < [(a, n), (b, n)].length), w'.cell? ⟨w.heap.size, j * 2, none⟩ = some (.int .i64 [(a, n), (b, n)][j].1) ∧ w'.cell? ⟨w.heap.size, j * 2 + 1, none⟩ = some (.int .i64 [(a, n), (b, n)][j].2)) ∧ Below w.heap.size w w' ∧ w.heap.size < w'.heap.size :=
  (ofRows_any n g 2 [a, b] w (by simp) (lt_of_heap hg) (cells_two hg)).mono fun _ _ ⟨h1, h2, h3, h4⟩ => ⟨h1, h2, h3, h4⟩
theorem apart2_any (h : Hn) (F : Nat → Prop) (A : Ars) (g : Nat) (a b n : Int) (w : World) (ar : Ar w h F A) (h1 : a < 9223372036854775808) (h2 : b < 9223372036854775808) (hg : g < w.heap.size)
    (hc : ∀ j (h : j < [(a, n), (b, n)].length), w.cell? ⟨g, j * 2, none⟩ = some (.int .i64 [(a, n), (b, n)][j].1) ∧ w.cell? ⟨g, j * 2 + 1, none⟩ = some (.int .i64 [(a, n), (b, n)][j].2)) :
    Calls Try.prog 50 #[arPtr h, .slice (some ⟨g, 0, none⟩) 2 2] w fun e w' => ∃ r : Bool, e = .returned (.bool r) ∧ (r = true ↔ Rfine A [(a, n), (b, n)]) ∧ Below w.heap.size w w' :=
  apart_any h F A g 2 [(a, n), (b, n)] w ar (by simp) (by intro x hx; simp at hx; rcases hx with rfl | rfl; exact h1; exact h2) hg hc

set_option maxHeartbeats 800000 in
theorem fill_no (h : Hn) (F : Nat → Prop) (A : Ars) (at_ has n f b : Int) (w : World) (a : Ar w h F A) (h1 : at_ < 9223372036854775808) (h2 : has < 9223372036854775808) (hr : ¬ Rfine A [(at_, n), (has, n)]) :
    Calls Try.prog 43 #[arPtr h, .int .i64 at_, .int .i64 has, .int .i64 n, wyV f b] w fun e w' => e = .returned (.bool false) ∧ Below w.heap.size w w' := by
  have HA := hid a
  have HR := hid hr
  clear a hr
  have H0 := hid (show ((w.alloc (wyO f b)).alloc (.cells #[.int .i64 at_, .int .i64 has] 3)).heap[w.heap.size + 1]? = some (.cells #[.int .i64 at_, .int .i64 has] 3 (0, 0)) by have := heap_alloc_at (w.alloc (wyO f b)) (.cells #[.int .i64 at_, .int .i64 has] 3); rw [World.size_alloc] at this; exact this)
  have BB := hid (show Below w.heap.size w ((w.alloc (wyO f b)).alloc (.cells #[.int .i64 at_, .int .i64 has] 3)) from (by repeat (first | exact Below.refl _ _ | refine blw_alloc ?_ | refine blw_drew ?_ | assumption)))
  go_enter Try.func43, Try.ntmps43
  go_wp2_with fail
  refine (of2_any n at_ has (w.heap.size + 1) _ H0.out).mono ?_
  rintro e w1 ⟨rfl, hcs, hB1, hl1⟩
  simp only [World.size_alloc] at hcs hl1
  have HC := hid hcs
  have B1 := hid (show Below w.heap.size w w1 from BB.out.trans (hB1.mono BB.out.size))
  have A1 := hid (((HA.out.alloc _).alloc _).below hB1)
  clear hcs hB1
  go_wp2_with fail
  refine (apart2_any h F A (w.heap.size + 1 + 1) at_ has n _ A1.out h1 h2 hl1 HC.out).mono ?_
  rintro e w2 ⟨r, rfl, hr, hB2⟩
  have B2 := hid (B1.out.trans (hB2.mono B1.out.size))
  obtain rfl : r = false := by cases r; rfl; exact absurd (hr.1 rfl) HR.out
  clear hr hB2
  go_wp2
  go_ret
  exact ⟨rfl, B2.out⟩
end Go.Proofs.Ytnnmaegpiddnbaa
