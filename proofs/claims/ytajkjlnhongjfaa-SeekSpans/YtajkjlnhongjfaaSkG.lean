/- The laws' awake of layer 6, and the law SeekPairs, over this seat's translation. No conditions. -/
import Derived.Test.YtajkjlnhongjfaaSkE
import Derived.Test.YtajkjlnhongjfaaSkF
namespace Go.Proofs.Ytajkjlnhongjfaa
open Go.RowKit

def tb0 (N : Nat) : Tb := ⟨some ⟨N, 0, none⟩, 2, [4, 7], some ⟨N + 1 + 1 + 1, 0, none⟩, 2, [⟨some ⟨N + 1, 0, none⟩, 2, [1, 2]⟩, ⟨some ⟨N + 1 + 1, 0, none⟩, 2, [3, 4]⟩]⟩
theorem uw_two {w : World} {g a b : Nat} {t : TypeId} (h : w.heap[g]? = some (.cells #[.int .u32 (a : Int), .int .u32 (b : Int)] t (0, 0))) : Uw w (some ⟨g, 0, none⟩) [a, b] := fun k hk => by
  refine ⟨_, rfl, ?_⟩
  rw [add_plain]
  match k, hk with
  | 0, _ => exact cell_of_heap h rfl
  | 1, _ => exact cell_of_heap h rfl
theorem tb0_ok {w : World} {N : Nat} {t u : TypeId} (h0 : w.heap[N]? = some (.cells #[.int .u32 4, .int .u32 7] t (0, 0))) (h1 : w.heap[N + 1]? = some (.cells #[.int .u32 1, .int .u32 2] t (0, 0))) (h2 : w.heap[N + 1 + 1]? = some (.cells #[.int .u32 3, .int .u32 4] t (0, 0)))
    (h3 : w.heap[N + 1 + 1 + 1]? = some (.cells #[.slice (some ⟨N + 1, 0, none⟩) 2 2, .slice (some ⟨N + 1 + 1, 0, none⟩) 2 2] u (0, 0))) : (tb0 N).Ok w := by
  refine ⟨uw_two (a := 4) (b := 7) h0, fun x hx => ?_, fun k hk => ⟨_, rfl, ?_⟩⟩
  · simp [tb0] at hx; omega
  · rw [add_plain]
    match k, hk with
    | 0, _ => exact ⟨cell_of_heap h3 rfl, uw_two (a := 1) (b := 2) h1, fun x hx => by simp [tb0] at hx; omega, by simp [tb0], by simp [tb0]⟩
    | 1, _ => exact ⟨cell_of_heap h3 rfl, uw_two (a := 3) (b := 4) h2, fun x hx => by simp [tb0] at hx; omega, by simp [tb0], by simp [tb0]⟩

theorem tb0_wd (N : Nat) : (tb0 N).wd = 2 := rfl
theorem tb0_ks (N : Nat) : (tb0 N).ks.length = 2 := rfl
theorem tb0_m (N : Nat) : fdM (tb0 N) 7 2 = true := rfl
theorem tb0_0 (N : Nat) : fdT (tb0 N) 7 2 0 = 3 := by simp [fdT, tb0, Tb.cl, gat, List.range_succ]
theorem tb0_1 (N : Nat) : fdT (tb0 N) 7 2 1 = 4 := by simp [fdT, tb0, Tb.cl, gat, List.range_succ]
set_option maxHeartbeats 1600000 in
theorem awake6_any (w : World) : Calls Try.prog 6 #[] w fun e w' => e = .returned (.bool true) ∧ Below w.heap.size w w' := by
  go_enter Try.func6, Try.ntmps6
  go_wp2_with (go_at_call 8; refine (of_any _ _).mono ?_; rintro e w' ⟨rfl, rfl⟩)
  have HOK := hid (tb0_ok (w := ((((w.alloc (.cells #[.int .u32 4, .int .u32 7] 24)).alloc (.cells #[.int .u32 1, .int .u32 2] 24)).alloc (.cells #[.int .u32 3, .int .u32 4] 24)).alloc (.cells #[.slice (some ⟨w.heap.size + 1, 0, none⟩) 2 2, .slice (some ⟨w.heap.size + 1 + 1, 0, none⟩) 2 2] 22)).alloc (sb 7)) (N := w.heap.size) (t := 24) (u := 22) (by simp only [hp_get, World.size_alloc]; repeat (first | rw [if_pos trivial] | rw [if_pos rfl] | rw [if_neg (by omega)])) (by simp only [hp_get, World.size_alloc]; repeat (first | rw [if_pos trivial] | rw [if_pos rfl] | rw [if_neg (by omega)])) (by simp only [hp_get, World.size_alloc]; repeat (first | rw [if_pos trivial] | rw [if_pos rfl] | rw [if_neg (by omega)])) (by simp only [hp_get, World.size_alloc]; repeat (first | rw [if_pos trivial] | rw [if_pos rfl] | rw [if_neg (by omega)])))
  refine (find_any (tb0 w.heap.size) 7 _ HOK.out (by decide) (by rw [tb0_ks]; decide) (by rw [tb0_wd]; decide)).mono ?_
  rw [tb0_ks, tb0_wd, tb0_m]
  rintro e w1 ⟨g, rfl, hg, hc, hB1⟩
  have HB1 := hid (belowCat (show Below w.heap.size w _ from (by repeat (first | exact Below.refl _ _ | refine blw_alloc ?_ | refine blw_drew ?_ | assumption))) hB1)
  have k0 := cell_of_heap (i := 0) hc (rowF_get (by decide))
  have k1 := cell_of_heap (i := 1) hc (rowF_get (by decide))
  rw [tb0_0] at k0
  rw [tb0_1] at k1
  have HK := hid (And.intro k0 k1)
  clear hc hB1 hg HOK
  go_wp2_with (go_at_call 8; refine (of_any _ _).mono ?_; rintro e w' ⟨rfl, rfl⟩)
  have HS := hid (show SpsAt (((w1.alloc (sb (mk true : Nat))).alloc (spO ⟨5, 9⟩)).alloc (sb 7)) (some ⟨w1.heap.size + 1, 0, none⟩) [⟨5, 9⟩] from ⟨fun s hs => (by simp at hs; subst hs; exact ⟨by decide, by decide⟩), fun k hk => by
    have h0 : k = 0 := by simp at hk; exact hk
    subst h0
    refine ⟨_, rfl, ?_⟩
    rw [Nat.zero_mul, add_plain]
    exact cell_sp (s := ⟨5, 9⟩) (by simp only [hp_get, World.size_alloc]; repeat (first | rw [if_pos trivial] | rw [if_pos rfl] | rw [if_neg (by omega)]))⟩)
  have H1 := hid (show (((w1.alloc (sb (mk true : Nat))).alloc (spO ⟨5, 9⟩)).alloc (sb 7)).heap[w1.heap.size]? = some (sb (mk true : Nat)) from (by simp only [hp_get, World.size_alloc]; repeat (first | rw [if_pos trivial] | rw [if_pos rfl] | rw [if_neg (by omega)])))
  have HBA := hid (show Below w1.heap.size w1 (((w1.alloc (sb (mk true : Nat))).alloc (spO ⟨5, 9⟩)).alloc (sb 7)) from (by repeat (first | exact Below.refl _ _ | refine blw_alloc ?_ | refine blw_drew ?_ | assumption)))
  refine (in_any 7 1 (some ⟨w1.heap.size + 1, 0, none⟩) [⟨5, 9⟩] _ (by decide) HS.out (by decide)).mono ?_
  rintro e w2 ⟨rfl, hB2⟩
  have J2 := hid (hpB hB2 H1.out)
  have L2 := hid (belowCat HBA.out hB2)
  have e1 : mk (inM [⟨5, 9⟩] 7 ([⟨5, 9⟩] : List Sp).length) = 4294967295 := rfl
  rw [e1]
  clear hB2 e1 HS H1 HBA k0 k1
  have a0 := blw_cell L2.out HK.out.1
  have a1 := blw_cell L2.out HK.out.2
  go_wp2_with fail
  refine (is_any 4294967295 4294967295 _).mono ?_
  rintro e w3 ⟨rfl, hB3⟩
  have J3 := hid (hpB hB3 J2.out)
  have L3 := hid (belowCat L2.out hB3)
  have d0 := blw_cell L3.out HK.out.1
  have d1 := blw_cell L3.out HK.out.2
  clear hB3 a0 a1
  go_wp2_with fail
  refine (is_any 3 3 _).mono ?_
  rintro e w4 ⟨rfl, hB4⟩
  have J4 := hid (hpB hB4 J3.out)
  have L4 := hid (belowCat L3.out hB4)
  have f1 := blw_cell L4.out HK.out.2
  clear hB4 d0 d1
  go_wp2_with fail
  refine (is_any 4 4 _).mono ?_
  rintro e w5 ⟨rfl, hB5⟩
  have J5 := hid (hpB hB5 J4.out)
  have L5 := hid (belowCat L4.out hB5)
  have g1 : w5.cell? ⟨w1.heap.size, 0, none⟩ = some (.int .u32 4294967295) := cell_sb J5.out
  clear hB5 f1
  go_wp2_with fail
  refine (is_any 4294967295 4294967295 _).mono ?_
  rintro e w6 ⟨rfl, hB6⟩
  have L6 := hid (belowCat L5.out hB6)
  clear hB6 g1
  go_wp2
  go_ret
  exact ⟨rfl, belowCat HB1.out L6.out⟩
end Go.Proofs.Ytajkjlnhongjfaa
