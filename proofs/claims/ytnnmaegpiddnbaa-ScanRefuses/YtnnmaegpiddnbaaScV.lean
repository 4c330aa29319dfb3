/- What ScanRefuses asks of its numbers, as plain Booleans, and its closure 'within', over this seat's translation. No conditions. -/
import Derived.Test.YtnnmaegpiddnbaaScU
namespace Go.Proofs.Ytnnmaegpiddnbaa
open Go.RowKit

def InW (n z : Int) : Bool := decide (0 ≤ n ∧ n ≤ 20 ∧ 0 ≤ z ∧ z ≤ 20 - n)
def Both (n x y : Int) : Bool := InW n x && InW n y && (decide (n = 0) || decide (n ≤ x - y) || decide (n ≤ y - x))
theorem inw_yes {n z : Int} : InW n z = true ↔ 0 ≤ n ∧ n ≤ 20 ∧ 0 ≤ z ∧ z ≤ 20 - n := by unfold InW; exact decide_eq_true_iff
theorem fits_inw {A : Ars} (h : A.top = 20) (n z : Int) : A.fits z n = InW n z := by
  unfold Ars.fits InW
  rw [h]
  exact decide_eq_decide.2 (by omega)
theorem both_yes {n x y : Int} : Both n x y = true ↔ InW n x = true ∧ InW n y = true ∧ (n = 0 ∨ n ≤ x - y ∨ n ≤ y - x) := by
  unfold Both
  simp only [Bool.and_eq_true, Bool.or_eq_true, decide_eq_true_eq, or_assoc, and_assoc]
theorem rfine_both {A : Ars} (h : A.top = 20) (n x y : Int) : Rfine A [(x, n), (y, n)] ↔ Both n x y = true := by
  rw [both_yes]
  by_cases h0 : 0 ≤ n
  · have e := rfine_of A n [x, y] h0
    rw [show ([x, y].map fun z => (z, n)) = [(x, n), (y, n)] from rfl] at e
    rw [e]
    simp only [List.mem_cons, List.not_mem_nil, or_false, forall_eq_or_imp, forall_eq, List.pairwise_cons, List.Pairwise.nil, and_true, fits_inw h]
    unfold ApartZ
    simp only [inw_yes, false_implies, implies_true, and_true]
    omega
  · refine ⟨fun hr => ?_, fun hb => ?_⟩
    · have := hr.1 (x, n) (by simp)
      rw [Ars.fits_iff] at this
      omega
    · have := inw_yes.1 hb.1
      omega
set_option maxHeartbeats 800000 in
theorem within5_any (g : Nat) (n z : Int) (w : World) (hg : w.heap[g]? = some (.cells #[.int .i64 n] 3 (0, 0))) :
    Calls Try.prog 28 #[.int .i64 z, .pointer (some ⟨g, 0, none⟩)] w fun e w' => e = .returned (.bool (InW n z)) ∧ w' = w := by
  have c0 := cell_of_heap (i := 0) hg rfl
  clear hg
  by_cases q0 : 0 ≤ n
  case neg =>
    rw [show InW n z = false from decide_eq_false (by omega)]
    go_enter Try.func28, Try.ntmps28
    go_wp2
    go_ret
    exact ⟨rfl, rfl⟩
  by_cases q1 : n ≤ 20
  case neg =>
    rw [show InW n z = false from decide_eq_false (by omega)]
    go_enter Try.func28, Try.ntmps28
    go_wp2
    go_ret
    exact ⟨rfl, rfl⟩
  by_cases q2 : 0 ≤ z
  case neg =>
    rw [show InW n z = false from decide_eq_false (by omega)]
    go_enter Try.func28, Try.ntmps28
    go_wp2
    go_ret
    exact ⟨rfl, rfl⟩
  by_cases q3 : z ≤ 20 - n
  case neg =>
    rw [show InW n z = false from decide_eq_false (by omega)]
    go_enter Try.func28, Try.ntmps28
    go_wp2
    go_ret
    exact ⟨rfl, rfl⟩
  rw [show InW n z = true from decide_eq_true (by omega)]
  go_enter Try.func28, Try.ntmps28
  go_wp2
  go_ret
  exact ⟨rfl, rfl⟩
theorem take20 : ((Ars.new ((20 : Nat) : Int)).take 20).top = 20 ∧ ((Ars.new ((20 : Nat) : Int)).take 20).es.length = 1 := ⟨(taken 20).1, (taken 20).2.2⟩
end Go.Proofs.Ytnnmaegpiddnbaa
