/- What the law's 'awake' answers; package sortnet's Cost; the document's Bits, over this seat's translation. Conditions: at most a thousand lanes; of Bits: a number of at most 400. -/
import Derived.Test.YtjdbofgjieljlaaSnC
import Derived.ChangeKeysEq
namespace Go.Proofs.Ytjdbofgjieljlaa
open Go.RowKit

theorem net2 : netOf 2 = [(0, 1)] := by decide
theorem cnt4 : cntOf 4 = 5 := by decide
theorem thru2 : thruI [7, 5] [(0, 1)] = [5, 7] := by decide
theorem prs_of {w : World} {base n cap : Nat} {ad : Option Addr} {ps : List (Nat × Nat)} (h : w.ownsRow base 78 2 (.slice ad n cap) n (prcells ps)) (hn : n = ps.length) : Prs w ad (ps.map fun p => ((p.1 : Int), (p.2 : Int))) := by
  intro k hk
  rw [List.length_map] at hk
  obtain ⟨g, rfl, _, _, hc⟩ := owns_cell h (by omega)
  obtain ⟨a, b⟩ := prcells_at ps k hk
  refine ⟨_, rfl, ?_, ?_⟩
  · rw [add_plain]; simpa using hc _ _ a
  · simp only [add_plain]; simpa using hc _ _ b

theorem eq_pair01 (w : World) : (Op.equalIn 10000 78 (.agg #[.int .i64 0, .int .i64 1]) (.agg #[.int .i64 0, .int .i64 1])).run Try.prog w = .ok true w := by
  have hi : ∃ i, Try.prog.info? 3 = some i := by
    cases h : Try.prog.info? 3 with
    | none => exact absurd (show (Try.prog.info? 3).isSome = true by kernel_rfl) (by rw [h]; decide)
    | some i => exact ⟨i, rfl⟩
  obtain ⟨i, hi⟩ := hi
  have hu : Try.prog.underlying 78 = some (.array 2 3) := by kernel_rfl
  rw [show (10000 : Nat) = 9998 + 1 + 1 from rfl, run_equalIn_array w (9998 + 1) _ _ hu hi]
  obtain ⟨r, h1, h2⟩ := run_eqItems_plain (P := Try.prog) (D := 5) (D' := 5) w 9998 (e := 3) (by kernel_rfl) #[.int .i64 0, .int .i64 1] #[.int .i64 0, .int .i64 1] (List.range 2) [[.int .i64 0], [.int .i64 1]] [[.int .i64 0], [.int .i64 1]] (by kernel_rfl) (by kernel_rfl)
  rw [h1, h2.2 rfl]
set_option maxHeartbeats 1600000 in
theorem awake_any (w : World) : Calls Try.prog 9 #[] w fun e w' => e = .returned (.bool true) ∧ Below w.heap.size w w' := by
  have HP := hid (show ∀ w : World, Calls Try.prog 48 #[.int .i64 2] w fun e w' => ∃ ad cap, e = .returned (.slice ad 1 cap) ∧ w'.ownsRow w.heap.size 78 2 (.slice ad 1 cap) 1 (prcells [(0, 1)]) ∧ Below w.heap.size w w' from fun w => by
    have := pairs_net 2 w
    rw [show (2 : Int).toNat = 2 from rfl, net2] at this; exact this)
  go_enter Try.func9, Try.ntmps9
  go_wp2_with fail
  refine (HP.out _).mono ?_
  rintro e w1 ⟨ad, cap, rfl, hown, hB1⟩
  have HO1 := hid hown
  have HB1 := hid hB1
  clear hown hB1
  go_wp2_with fail
  have hb : Below w1.heap.size w1 (w1.alloc (.cells #[.int .u32 7, .int .u32 5] 31)) := (Below.refl _ w1).alloc (Nat.le_refl _) _
  have hP := prs_of (owns_below HO1.out hb) rfl
  refine (apply_any ad cap [(0, 1)] (some ⟨w1.heap.size, 0, none⟩) 2 [7, 5] _ hP (by simp) ?u (fun h => by cases h) (by simp) (by decide) (by decide)).mono ?_
  case u =>
    have hblk := heap_alloc_at w1 (.cells #[.int .u32 7, .int .u32 5] 31)
    intro k hk
    refine ⟨_, rfl, ?_⟩
    rw [add_plain]
    have : k = 0 ∨ k = 1 := by simp at hk; omega
    rcases this with rfl | rfl
    · exact cell_of_heap hblk rfl
    · exact cell_of_heap hblk rfl
  clear hP
  rintro e w2 ⟨ad2, cap2, rfl, hown, hB2⟩
  rw [thru2] at hown
  simp only [List.length_cons, List.length_nil, Nat.zero_add, Nat.reduceAdd] at hown ⊢
  obtain ⟨g1, rfl, q1, q2, qc⟩ := owns_cell HO1.out (by decide)
  obtain ⟨g2, rfl, r1, r2, rc⟩ := owns_cell hown (by decide)
  have hB12 : Below w1.heap.size w1 w2 := hb.trans (hB2.mono (by simp))
  have a0 : w2.cell? ⟨g1, 0, none⟩ = some (.int .i64 0) := cell_below hB12 (qc 0 _ rfl) q2
  have a1 : w2.cell? ⟨g1, 1, none⟩ = some (.int .i64 1) := cell_below hB12 (qc 1 _ rfl) q2
  have b0 : w2.cell? ⟨g2, 0, none⟩ = some (.int .u32 5) := rc 0 _ rfl
  have b1 : w2.cell? ⟨g2, 1, none⟩ = some (.int .u32 7) := rc 1 _ rfl
  have HB2 := hid hB12
  clear hown hB2 hB12 qc rc hb q1 q2 r1 r2
  have heq := eq_pair01
  go_wp2_with fail
  refine (count_net 4 _).mono ?_
  rintro e w3 ⟨rfl, hB3⟩
  rw [show (4 : Int).toNat = 4 from rfl, cnt4]
  have HB3 := hid hB3
  clear hB3 a0 a1 b0 b1 heq
  go_wp2
  go_ret
  exact ⟨rfl, (HB1.out.trans (HB2.out.mono HB1.out.size)).trans (HB3.out.mono (Nat.le_trans HB1.out.size HB2.out.size))⟩

theorem cnt_none (z : Int) (h : ¬ (0 ≤ z ∧ z ≤ 12288)) : cntOf z.toNat = 0 := by
  unfold cntOf swsOf; rw [if_pos (by omega)]; rfl
def costOf (la : Int) (C : Nat) : Int := if 2 ≤ la then (C : Int) * 4 * la else 0
theorem cost_yes {la : Int} (C : Nat) (h : 2 ≤ la) : costOf la C = (C : Int) * 4 * la := if_pos h
theorem cost_no {la : Int} (C : Nat) (h : la < 2) : costOf la C = 0 := if_neg (by omega)
set_option maxHeartbeats 1600000 in
theorem cost_any (z la : Int) (w : World) (h0 : -9223372036854775808 ≤ z) (h1 : z < 9223372036854775808) (h2 : -9223372036854775808 ≤ la) (h3 : la ≤ 1000) :
    Calls Try.prog 16 #[.int .i64 z, .int .i64 la] w fun e w' => e = .returned (.int .i64 (costOf la (cntOf z.toNat))) ∧ Below w.heap.size w w' := by
  have HC := hid (cnt_small z.toNat)
  have HN := hid (cnt_none z)
  have HCN := hid (fun w => count_net z w)
  obtain ⟨C, hC⟩ : ∃ C, cntOf z.toNat = C := ⟨_, rfl⟩
  rw [hC] at HC HN HCN ⊢
  clear hC
  have hcb : C ≤ 2408448 := HC.out
  by_cases d2 : 2 ≤ la
  · by_cases d0 : 0 ≤ z
    · by_cases d1 : z ≤ 12288
      · have HM := hid (show 0 ≤ (C : Int) * 4 * la ∧ (C : Int) * 4 * la ≤ 2408448 * 4 * 1000 from ⟨Int.mul_nonneg (by omega) (by omega), Int.mul_le_mul (by omega) h3 (by omega) (by omega)⟩)
        go_enter Try.func16, Try.ntmps16
        go_wp2_with (first | (go_at_call 50; refine (HCN.out _).mono ?_; rintro e w1 ⟨rfl, hB1⟩; have HB1 := hid hB1; clear hB1) | go_in)
        go_ret
        refine ⟨retI ?_, HB1.out⟩
        rw [cost_yes C d2]
        have hm := HM.out
        generalize (C : Int) * 4 * la = X at *
        unfold wrap64; omega
      · have hc0 := HN.out (by omega)
        subst hc0
        go_enter Try.func16, Try.ntmps16
        go_wp2_with (first | go_in)
        go_ret
        exact ⟨retI (by rw [cost_yes 0 d2]; simp), Below.refl _ _⟩
    · have hc0 := HN.out (by omega)
      subst hc0
      go_enter Try.func16, Try.ntmps16
      go_wp2_with (first | go_in)
      go_ret
      exact ⟨retI (by rw [cost_yes 0 d2]; simp), Below.refl _ _⟩
  · go_enter Try.func16, Try.ntmps16
    go_wp2_with (first | go_in)
    go_ret
    exact ⟨retI (by rw [cost_no C (by omega)]), Below.refl _ _⟩

end Go.Proofs.Ytjdbofgjieljlaa
