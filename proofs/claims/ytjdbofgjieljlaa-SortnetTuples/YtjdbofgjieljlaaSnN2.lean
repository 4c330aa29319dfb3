/- The contract of package sortnet's Sort for the lanes of the law SortnetTuples (0, n, 2n ..), over this seat's translation. Conditions: at most 60 tuples of at most 5 words; the lanes' row lies apart from the arena. -/
import Derived.Test.YtjdbofgjieljlaaSnL2
import Derived.Test.YtjdbofgjieljlaaPkT
namespace Go.Proofs.Ytjdbofgjieljlaa
open Go.RowKit

theorem lanesOf_in (n W : Nat) : ∀ z ∈ lanesK n W, ∃ L : Nat, z = (L : Int) ∧ L + n ≤ n * W := fun z hz => by
  obtain ⟨j, hj, rfl⟩ := List.mem_map.1 hz
  refine ⟨j * n, rfl, ?_⟩
  rw [Nat.mul_comm n W, ← Nat.succ_mul]; exact Nat.mul_le_mul_right _ (by have := List.mem_range.1 hj; omega)
theorem lanesOf_pw (n W : Nat) : (lanesK n W).Pairwise (ApartZ (n : Int)) := by
  refine List.pairwise_map.2 (List.pairwise_lt_range.imp fun {a b} hab => Or.inl ?_)
  have : a * n + n ≤ b * n := by rw [← Nat.succ_mul]; exact Nat.mul_le_mul_right _ (by omega)
  omega
/-- what Sort of these lanes notes -/
def evLaw (n W : Nat) : List Ev := if 2 ≤ W then evN (netOf n) (lanesOf n W) else []
theorem sort_law (h : Hn) (F : Nat → Prop) (A : Ars) (n W base : Nat) (sd : Option Addr) (sc : Nat) (wo w : World) (a : Ar w h F A) (hn : n ≤ 60) (hW : W ≤ 5) (htop : A.top = n * W) (hes : A.es.length ≤ 1000)
    (o : wo.ownsRow base 3 1 (.slice sd W sc) W (ints (lanesK n W))) (hk : ∀ q, (Value.slice sd W sc).ownBlock = some q → w.heap[q]? = wo.heap[q]? ∧ ¬ F q) :
    Calls Try.prog 15 #[arPtr h, .int .i64 (n : Int), .slice sd W sc] w fun e w' => e = .returned (.bool (decide (2 ≤ W))) ∧ ∃ F' A', Ar w' h F' A' ∧ Step w F w' F' ∧ A'.top = A.top ∧ A'.ws.length = A.ws.length ∧ A'.es = A.es ++ evLaw n W ∧ (2 ≤ W → tups A'.word (lanesOf n W) n = thru tkey (tups A.word (lanesOf n W) n) (netOf n)) := by
  by_cases h2 : 2 ≤ W
  · rcases o.2 with ⟨h3, h4⟩ | ⟨g, cap, cur, hv, hb, hg, k1, k2, k3, k4⟩
    · omega
    · cases hv
      obtain ⟨q1, q2⟩ := hk g rfl
      have hg' := q1.trans hg
      have hl : (lanesK n W).length = W := by simp
      have hcell : ∀ j, j < (lanesK n W).length → w.cell? ⟨g, j, none⟩ = some (.int .i64 ((lanesK n W)[j]?.getD 0)) := fun j hj => by
        have hj' : j < W := by simpa using hj
        have : (cur.toList.take (W * 1))[j]? = some (.int .i64 ((lanesK n W)[j]?.getD 0)) := by rw [k4]; exact ints_get _ j hj
        rw [List.getElem?_take] at this
        simp only [Nat.mul_one, hj', if_true] at this
        exact cell_of_heap hg' (by simpa using this)
      have hnet : (netOf n).length ≤ 2408448 := by rw [net_len]; exact cnt_small _
      have hfine : Fine A n (lanesK n W) := ⟨by rw [hl]; exact h2, fun z hz => by
        obtain ⟨L, rfl, hL⟩ := lanesOf_in n W z hz
        rw [Ars.fits_iff, htop]; omega, lanesOf_pw n W⟩
      have hc := sort_any h F A n g sc (lanesK n W) w a (by omega) (by rw [hl]; exact h2) (by rw [hl]; omega) (by rw [hl]; exact k1) (by have := k2; unfold maxLen at this; omega) (fun z hz => by
        obtain ⟨L, rfl, hL⟩ := lanesOf_in n W z hz
        have : n * W ≤ 60 * 5 := Nat.mul_le_mul hn hW
        omega) (lt_of_heap hg') q2 hcell (by
        rw [hl]
        have : (netOf n).length * (4 * W) ≤ 2408448 * 20 := Nat.mul_le_mul hnet (by omega)
        omega)
      rw [hl] at hc
      refine hc.mono ?_
      rintro e w' ⟨r, rfl, F', A', a', s', hd⟩
      rcases hd with ⟨rfl, hnf, _⟩ | ⟨rfl, _, hdone⟩
      · exact absurd hfine hnf
      · have d := hdone (lanesOf n W) (lanesK_eq n W)
        exact ⟨by rw [decide_eq_true h2], F', A', a', s', d.top, d.wl, by unfold evLaw; rw [if_pos h2]; exact d.es, fun _ => d.tu⟩
  · refine (sort_few (arPtr h) n sd W sc (by omega) w).mono ?_
    rintro e w' ⟨rfl, rfl⟩
    exact ⟨by rw [decide_eq_false h2], F, A, a, Step.refl _ _, rfl, rfl, by unfold evLaw; rw [if_neg h2]; simp, fun h => absurd h h2⟩
end Go.Proofs.Ytjdbofgjieljlaa
