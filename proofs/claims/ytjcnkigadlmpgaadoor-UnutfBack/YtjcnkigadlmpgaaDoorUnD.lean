/- Contracts of package unutf's may and Encode, over this seat's translation. Conditions: numbers are those of int; where it writes: rows that lie apart, at most 12288 points, at most four bytes for each, room, the log has at most 100 million events, the variable places holds what the program's text lays there and is no part of the arena. -/
import Derived.Test.YtjcnkigadlmpgaaDoorUnB
import Derived.Test.YtjcnkigadlmpgaaDoorRwC
import Derived.Test.YtjcnkigadlmpgaaDoorArE
import Derived.Test.YtjcnkigadlmpgaaDoorUnG
import Derived.Test.YtjcnkigadlmpgaaDoorPkL
namespace Go.Proofs.YtjcnkigadlmpgaaDoor
open Go.RowKit
set_option linter.unusedVariables false

set_option maxHeartbeats 800000 in
theorem unmay_any (n m : Int) (w : World) (hn : -9223372036854775808 ≤ n ∧ n < 9223372036854775808) : Calls Tryd.prog 24 #[.int .i64 n, .int .i64 m] w fun e w' => e = .returned (.bool (decide (0 ≤ n ∧ n ≤ 12288 ∧ 0 ≤ m ∧ m ≤ 4 * n))) ∧ w' = w := by
  by_cases h1 : 0 ≤ n
  · by_cases h2 : n ≤ 12288
    · by_cases h3 : 0 ≤ m
      · by_cases h4 : m ≤ 4 * n
        · rw [decide_eq_true (show 0 ≤ n ∧ n ≤ 12288 ∧ 0 ≤ m ∧ m ≤ 4 * n by omega)]
          clear hn
          go_enter Tryd.func24, Tryd.ntmps24
          go_wp2
          go_ret
          exact ⟨rfl, rfl⟩
        · rw [decide_eq_false (show ¬ (0 ≤ n ∧ n ≤ 12288 ∧ 0 ≤ m ∧ m ≤ 4 * n) by omega)]
          clear hn
          go_enter Tryd.func24, Tryd.ntmps24
          go_wp2
          go_ret
          exact ⟨rfl, rfl⟩
      · rw [decide_eq_false (show ¬ (0 ≤ n ∧ n ≤ 12288 ∧ 0 ≤ m ∧ m ≤ 4 * n) by omega)]
        clear hn
        go_enter Tryd.func24, Tryd.ntmps24
        go_wp2
        go_ret
        exact ⟨rfl, rfl⟩
    · rw [decide_eq_false (show ¬ (0 ≤ n ∧ n ≤ 12288 ∧ 0 ≤ m ∧ m ≤ 4 * n) by omega)]
      clear hn
      go_enter Tryd.func24, Tryd.ntmps24
      go_wp2
      go_ret
      exact ⟨rfl, rfl⟩
  · rw [decide_eq_false (show ¬ (0 ≤ n ∧ n ≤ 12288 ∧ 0 ≤ m ∧ m ≤ 4 * n) by omega)]
    clear hn
    go_enter Tryd.func24, Tryd.ntmps24
    go_wp2
    go_ret
    exact ⟨rfl, rfl⟩
abbrev rw6 (a n b c m : Int) : Obj := .cells #[.int .i64 a, .int .i64 n, .int .i64 b, .int .i64 n, .int .i64 c, .int .i64 m] 65 (0, 0)
theorem cells_six {w : World} {g : Nat} {a n b c m : Int} (h : w.heap[g]? = some (rw6 a n b c m)) : ∀ j (hj : j < [(a, n), (b, n), (c, m)].length), w.cell? ⟨g, j * 2, none⟩ = some (.int .i64 [(a, n), (b, n), (c, m)][j].1) ∧ w.cell? ⟨g, j * 2 + 1, none⟩ = some (.int .i64 [(a, n), (b, n), (c, m)][j].2) := fun j hj => by
  have : j = 0 ∨ j = 1 ∨ j = 2 := by simp at hj; omega
  rcases this with rfl | rfl | rfl
  · exact ⟨cell_of_heap h rfl, cell_of_heap h rfl⟩
  · exact ⟨cell_of_heap h rfl, cell_of_heap h rfl⟩
  · exact ⟨cell_of_heap h rfl, cell_of_heap h rfl⟩
theorem unapart_any (h : Hn) (F : Nat → Prop) (A : Ars) (g : Nat) (a n b c m : Int) (w : World) (ar : Ar w h F A) (h1 : a < 9223372036854775808) (h2 : b < 9223372036854775808) (h3 : c < 9223372036854775808) (hg : w.heap[g]? = some (rw6 a n b c m)) :
    Calls Tryd.prog 25 #[arPtr h, .slice (some ⟨g, 0, none⟩) 3 3] w fun e w' => ∃ r : Bool, e = .returned (.bool r) ∧ (r = true ↔ Rfine A [(a, n), (b, n), (c, m)]) ∧ Below w.heap.size w w' :=
  apart_any h F A g 3 [(a, n), (b, n), (c, m)] w ar (by simp) (by intro x hx; simp at hx; rcases hx with rfl | rfl | rfl; exact h1; exact h2; exact h3) (lt_of_heap hg) (cells_six hg)
/-- a block that stays -/
def Kp (w : World) (F : Nat → Prop) (g : Nat) (o : Obj) : Prop := w.heap[g]? = some o ∧ ¬ F g
theorem Kp.below {w w' : World} {F : Nat → Prop} {g : Nat} {o : Obj} (k : Kp w F g o) (hB : Below w.heap.size w w') : Kp w' F g o := ⟨bk hB k.1, k.2⟩
theorem Kp.step {w w' : World} {F F' : Nat → Prop} {g : Nat} {o : Obj} (k : Kp w F g o) (s : Step w F w' F') : Kp w' F' g o := ⟨s.heap k.1 k.2, s.out k.2 (lt_of_heap k.1)⟩

set_option maxHeartbeats 1600000 in
theorem encode_no (h : Hn) (F : Nat → Prop) (A : Ars) (P K n O M : Int) (w : World) (a : Ar w h F A) (hn : -9223372036854775808 ≤ n ∧ n < 9223372036854775808) (h1 : P < 9223372036854775808) (h2 : K < 9223372036854775808) (h3 : O < 9223372036854775808)
    (hr : ¬ ((0 ≤ n ∧ n ≤ 12288 ∧ 0 ≤ M ∧ M ≤ 4 * n) ∧ Rfine A [(P, n), (K, n), (O, M)] ∧ (A.top : Int) + 12 * n ≤ A.ws.length)) :
    Calls Tryd.prog 10 #[arPtr h, .int .i64 P, .int .i64 K, .int .i64 n, .int .i64 O, .int .i64 M] w fun e w' => e = .returned (.tuple #[sec 0, sec 0, .bool false]) ∧ Below w.heap.size w w' := by
  have HA := hid a
  have HR := hid hr
  have HM := hid (fun w' => unmay_any n M w' hn)
  have hb1 := a.ok.1
  have hb2 := a.ok.2.1
  have H0 := hid (show (((w.alloc (sb 0)).alloc (sb 0)).alloc (rw6 P n K O M)).heap[w.heap.size + 1 + 1]? = some (rw6 P n K O M) from (by simp only [hp_get, World.size_alloc]; repeat (first | rw [if_pos trivial] | rw [if_pos rfl] | rw [if_neg (by omega)])))
  have X0 := hid (show (((w.alloc (sb 0)).alloc (sb 0)).alloc (rw6 P n K O M)).heap[w.heap.size]? = some (sb 0) from (by simp only [hp_get, World.size_alloc]; repeat (first | rw [if_pos trivial] | rw [if_pos rfl] | rw [if_neg (by omega)])))
  have X1 := hid (show (((w.alloc (sb 0)).alloc (sb 0)).alloc (rw6 P n K O M)).heap[w.heap.size + 1]? = some (sb 0) from (by simp only [hp_get, World.size_alloc]; repeat (first | rw [if_pos trivial] | rw [if_pos rfl] | rw [if_neg (by omega)])))
  have BB := hid (show Below w.heap.size w (((w.alloc (sb 0)).alloc (sb 0)).alloc (rw6 P n K O M)) from (by repeat (first | exact Below.refl _ _ | refine blw_alloc ?_ | refine blw_drew ?_ | assumption)))
  clear a hr hn
  by_cases hm : 0 ≤ n ∧ n ≤ 12288 ∧ 0 ≤ M ∧ M ≤ 4 * n
  · rw [decide_eq_true hm] at HM
    obtain ⟨m1, m2, m3, m4⟩ := hm
    go_enter Tryd.func10, Tryd.ntmps10
    go_wp2_with (go_at_call 24; refine (HM.out _).mono ?_; rintro e w' ⟨rfl, hw⟩; subst w')
    refine (unapart_any h F A (w.heap.size + 1 + 1) P n K O M _ (HA.out.below BB.out) h1 h2 h3 H0.out).mono ?_
    rintro e w2 ⟨r, rfl, hr, hB2⟩
    have B2 := hid (belowCat BB.out hB2)
    have Y0 := hid (bk hB2 X0.out)
    have Y1 := hid (bk hB2 X1.out)
    have HRF := hid hr
    clear hB2 hr
    cases r with
    | false =>
      go_wp2_with fail
      refine (of_b _ _).mono ?_
      rintro e w3 ⟨rfl, hB3⟩
      have B3 := hid (belowCat B2.out hB3)
      have Z0 := hid (bk hB3 Y0.out)
      have Z1 := hid (bk hB3 Y1.out)
      clear hB3
      go_wp2_with fail
      refine (of_b _ _).mono ?_
      rintro e w4 ⟨rfl, hB4⟩
      have B4 := hid (belowCat B3.out hB4)
      have V0 := hid (bk hB4 Z0.out)
      have V1 := hid (bk hB4 Z1.out)
      have hq1 := cell_s1 V0.out
      have hq2 := frozen_of_heap (i := 0) V0.out
      have U1 := hid ((Below.heap_setCell w4 ⟨w.heap.size, 0, none⟩ (.int .u32 0) (w.heap.size + 1) (by show w.heap.size + 1 ≠ w.heap.size; omega)).trans V1.out)
      have hq3 := cell_s1 U1.out
      have hq4 := frozen_of_heap (i := 0) U1.out
      clear hB4
      go_wp2
      have d0 : ((w4.setCell ⟨w.heap.size, 0, none⟩ (.int .u32 0)).setCell ⟨w.heap.size + 1, 0, none⟩ (.int .u32 0)).cell? ⟨w.heap.size, 0, none⟩ = some (.int .u32 0) := cell_off (cell_s1 (vset1 V0.out)) (by omega)
      have d1 := cell_of_heap (i := 0) (vset1 (a := .int .u32 0) U1.out) rfl
      exact bodyPost_ret (v := .tuple #[sec 0, sec 0, .bool false]) (by simp only [results, Tryd.results10]; simp [go_sem, d0, d1]) rfl ⟨rfl, (B4.out.setCell (Nat.le_refl _) _).setCell (by show w.heap.size ≤ w.heap.size + 1; omega) _⟩
    | true =>
      have hroom : (A.ws.length : Int) - (A.top : Int) < 12 * n := by
        have h1 : ¬ ((A.top : Int) + 12 * n ≤ A.ws.length) := fun h => HR.out ⟨⟨m1, m2, m3, m4⟩, HRF.out.1 rfl, h⟩
        omega
      go_wp2_with (first | (go_at_call 26; refine (ar_size h F A _ (HA.out.below B2.out)).mono ?_; rintro e w' ⟨rfl, hw⟩; subst w') | (go_at_call 12; refine (ar_top h F A _ (HA.out.below B2.out)).mono ?_; rintro e w' ⟨rfl, hw⟩; subst w'))
      refine (of_b _ _).mono ?_
      rintro e w3 ⟨rfl, hB3⟩
      have B3 := hid (belowCat B2.out hB3)
      have Z0 := hid (bk hB3 Y0.out)
      have Z1 := hid (bk hB3 Y1.out)
      clear hB3
      go_wp2_with fail
      refine (of_b _ _).mono ?_
      rintro e w4 ⟨rfl, hB4⟩
      have B4 := hid (belowCat B3.out hB4)
      have V0 := hid (bk hB4 Z0.out)
      have V1 := hid (bk hB4 Z1.out)
      have hq1 := cell_s1 V0.out
      have hq2 := frozen_of_heap (i := 0) V0.out
      have U1 := hid ((Below.heap_setCell w4 ⟨w.heap.size, 0, none⟩ (.int .u32 0) (w.heap.size + 1) (by show w.heap.size + 1 ≠ w.heap.size; omega)).trans V1.out)
      have hq3 := cell_s1 U1.out
      have hq4 := frozen_of_heap (i := 0) U1.out
      clear hB4
      go_wp2
      have d0 : ((w4.setCell ⟨w.heap.size, 0, none⟩ (.int .u32 0)).setCell ⟨w.heap.size + 1, 0, none⟩ (.int .u32 0)).cell? ⟨w.heap.size, 0, none⟩ = some (.int .u32 0) := cell_off (cell_s1 (vset1 V0.out)) (by omega)
      have d1 := cell_of_heap (i := 0) (vset1 (a := .int .u32 0) U1.out) rfl
      exact bodyPost_ret (v := .tuple #[sec 0, sec 0, .bool false]) (by simp only [results, Tryd.results10]; simp [go_sem, d0, d1]) rfl ⟨rfl, (B4.out.setCell (Nat.le_refl _) _).setCell (by show w.heap.size ≤ w.heap.size + 1; omega) _⟩
  · rw [decide_eq_false hm] at HM
    have Y0 := hid X0.out
    have Y1 := hid X1.out
    have B2 := hid BB.out
    clear hm
    go_enter Tryd.func10, Tryd.ntmps10
    go_wp2_with (go_at_call 24; refine (HM.out _).mono ?_; rintro e w' ⟨rfl, hw⟩; subst w')
    refine (of_b _ _).mono ?_
    rintro e w3 ⟨rfl, hB3⟩
    have B3 := hid (belowCat B2.out hB3)
    have Z0 := hid (bk hB3 Y0.out)
    have Z1 := hid (bk hB3 Y1.out)
    clear hB3
    go_wp2_with fail
    refine (of_b _ _).mono ?_
    rintro e w4 ⟨rfl, hB4⟩
    have B4 := hid (belowCat B3.out hB4)
    have V0 := hid (bk hB4 Z0.out)
    have V1 := hid (bk hB4 Z1.out)
    have hq1 := cell_s1 V0.out
    have hq2 := frozen_of_heap (i := 0) V0.out
    have U1 := hid ((Below.heap_setCell w4 ⟨w.heap.size, 0, none⟩ (.int .u32 0) (w.heap.size + 1) (by show w.heap.size + 1 ≠ w.heap.size; omega)).trans V1.out)
    have hq3 := cell_s1 U1.out
    have hq4 := frozen_of_heap (i := 0) U1.out
    clear hB4
    go_wp2
    have d0 : ((w4.setCell ⟨w.heap.size, 0, none⟩ (.int .u32 0)).setCell ⟨w.heap.size + 1, 0, none⟩ (.int .u32 0)).cell? ⟨w.heap.size, 0, none⟩ = some (.int .u32 0) := cell_off (cell_s1 (vset1 V0.out)) (by omega)
    have d1 := cell_of_heap (i := 0) (vset1 (a := .int .u32 0) U1.out) rfl
    exact bodyPost_ret (v := .tuple #[sec 0, sec 0, .bool false]) (by simp only [results, Tryd.results10]; simp [go_sem, d0, d1]) rfl ⟨rfl, (B4.out.setCell (Nat.le_refl _) _).setCell (by show w.heap.size ≤ w.heap.size + 1; omega) _⟩

theorem pc1_le (n : Nat) (hn : n ≤ 49152) : pc n 1 ≤ 5100000 := by
  have h := (stp_facts n hn).2.1
  have h1 : 3 * n * stp n ≤ 3 * n * 16 := Nat.mul_le_mul_left _ h
  unfold pc
  omega
theorem unpack_yes (h : Hn) (F : Nat → Prop) (A : Ars) (N K L g : Nat) (w : World) (a : Ar w h F A) (hN : N ≤ 49152) (hg : Kp w F g (.cells #[.int .i64 (L : Int)] 3 (0, 0))) (hK : K + N ≤ A.top) (hL : L + N ≤ A.top) (hp : K + N ≤ L ∨ L + N ≤ K) (hroom : A.top + N ≤ A.ws.length) (hes : A.es.length ≤ 200000000) :
    Calls Tryd.prog 28 #[arPtr h, .int .i64 (K : Int), .int .i64 (N : Int), .slice (some ⟨g, 0, none⟩) 1 1] w fun e w' => e = .returned (.tuple #[sec (rk (fun i => A.word (K + i) % 2 == 1) N : Nat), .bool true]) ∧ ∃ F' A', Ar w' h F' A' ∧ Step w F w' F' ∧ Packed A A' K N [L] :=
  pack_yes h F A N K (N : Int) (K : Int) 1 (some ⟨g, 0, none⟩) [(L : Int)] [L] w a rfl rfl rfl hN (by simp)
    (Or.inr ⟨g, rfl, lt_of_heap hg.1, hg.2, fun j hj => by
      have : j = 0 := by simpa using hj
      subst this; exact cell_of_heap hg.1 rfl⟩)
    (fun x hx => by
      rcases List.mem_cons.1 hx with rfl | hx
      · exact hK
      · rw [List.mem_singleton.1 hx]; exact hL)
    (List.pairwise_cons.2 ⟨fun x hx => by rw [List.mem_singleton.1 hx]; exact ⟨hp⟩, List.pairwise_cons.2 ⟨fun x hx => by (cases hx), List.Pairwise.nil⟩⟩) hroom hes
/-- what stands behind some rounds of the telling -/
structure En (w wr : World) (h : Hn) (F Fk : Nat → Prop) (y z : Nat) (B : Ars) (C : Nat) (ov : Bool) : Prop where
  ar : Ar wr h Fk B
  st : Step w F wr Fk
  k0 : Kp wr Fk w.heap.size (sb 0)
  k1 : Kp wr Fk (w.heap.size + 1) (sb 0)
  k2 : Kp wr Fk y (sb (C : Nat))
  k3 : Kp wr Fk z (sb (mk ov : Nat))
theorem En.below {w wr w' : World} {h : Hn} {F Fk : Nat → Prop} {y z C : Nat} {B : Ars} {ov : Bool} (d : En w wr h F Fk y z B C ov) (hB : Below wr.heap.size wr w') : En w w' h F Fk y z B C ov :=
  ⟨d.ar.below hB, d.st.trans (Step.ofBelow hB), d.k0.below hB, d.k1.below hB, d.k2.below hB, d.k3.below hB⟩
theorem En.step {w wr w' : World} {h : Hn} {F Fk F' : Nat → Prop} {y z C : Nat} {B B' : Ars} {ov : Bool} (d : En w wr h F Fk y z B C ov) (a : Ar w' h F' B') (s : Step wr Fk w' F') : En w w' h F F' y z B' C ov :=
  ⟨a, d.st.trans s, d.k0.step s, d.k1.step s, d.k2.step s, d.k3.step s⟩

set_option maxHeartbeats 6400000 in
set_option maxRecDepth 20000 in
theorem encode_yes (h : Hn) (F : Nat → Prop) (A : Ars) (P K n O M : Nat) (w : World) (a : Ar w h F A) (hn : n ≤ 12288) (hM : M ≤ 4 * n) (hr : Rfine A [((P : Int), (n : Int)), ((K : Int), (n : Int)), ((O : Int), (M : Int))]) (hroom : A.top + 12 * n ≤ A.ws.length) (hes : A.es.length ≤ 100000000) (t : Pv w) (hnf : ¬ F 0) :
    Calls Tryd.prog 10 #[arPtr h, .int .i64 (P : Int), .int .i64 (K : Int), .int .i64 (n : Int), .int .i64 (O : Int), .int .i64 (M : Int)] w fun e w' => e = .returned (.tuple #[sec ((encL (fun i => A.word (P + i)) (fun i => A.word (K + i)) n).length : Nat), sec (mk (decide (M < (encL (fun i => A.word (P + i)) (fun i => A.word (K + i)) n).length)) : Nat), .bool true]) ∧
      ∃ F' A', Ar w' h F' A' ∧ Step w F w' F' ∧ Encd A A' P K n O M := by
  have hb1 := a.ok.1
  have hb2 := a.ok.2.1
  have hP : P + n ≤ A.top := by have h := Ars.fits_iff.1 (hr.1 ((P : Int), (n : Int)) (by simp)); simp only at h; omega
  have hK : K + n ≤ A.top := by have h := Ars.fits_iff.1 (hr.1 ((K : Int), (n : Int)) (by simp)); simp only at h; omega
  have hO : O + M ≤ A.top := by have h := Ars.fits_iff.1 (hr.1 ((O : Int), (M : Int)) (by simp)); simp only at h; omega
  have hct : A.canTake ((8 * n : Nat) : Int) = true := decide_eq_true (by omega)
  have HTK := hid (show (A.take ((8 * n : Nat) : Int)).word = A.word ∧ (A.take ((8 * n : Nat) : Int)).es.length = A.es.length + 1 ∧ (A.take ((8 * n : Nat) : Int)).top = A.top + 8 * n ∧ (A.take ((8 * n : Nat) : Int)).ws.length = A.ws.length by
    rw [Ars.take_yes hct]; refine ⟨rfl, by simp, ?_, rfl⟩; show A.top + ((8 * n : Nat) : Int).toNat = _; omega)
  have HA := hid a
  have HT := hid t
  have HNG := hid hnf
  have HRF := hid hr
  have HES := hid hes
  have HCT := hid hct
  have HSP := hid (spA_facts A P K n hroom a.ok)
  have HSPD := hid (show spA A P K n = spI (A.take ((8 * n : Nat) : Int)) P K A.top (A.top + 4 * n) (fun i => A.word (P + i)) (fun i => A.word (K + i)) n from rfl)
  have HED := hid (fun B1 B2 => @Encd.of A B1 B2 P K n O M a.ok hroom hO hM)
  have HRK := hid (show rk (fun i => (spA A P K n).word (A.top + 4 * n + i) % 2 == 1) (4 * n) = (encL (fun i => A.word (P + i)) (fun i => A.word (K + i)) n).length by
    have e : kp (fun i => (spA A P K n).word (A.top + 4 * n + i) % 2 == 1) (4 * n) = kp (bK (fun i => A.word (P + i)) (fun i => A.word (K + i))) (4 * n) := kp_congr fun i hi => (HSP.out.2.2.2.2.1 i hi).2
    rw [← rk_enc]; unfold rk; rw [e])
  have HCL := hid (encL_len (fun i => A.word (P + i)) (fun i => A.word (K + i)) n)
  have HFL := hid (evFull_len (A.top + 8 * n) (A.top + 4 * n) (4 * n) [A.top] (by omega))
  have HPC := hid (pc1_le (4 * n) (by omega))
  have HEI := hid (evI_len P K A.top (A.top + 4 * n) n)
  have HMAY := hid (fun w' => unmay_any (n : Int) (M : Int) w' (by omega))
  rw [decide_eq_true (show 0 ≤ (n : Int) ∧ (n : Int) ≤ 12288 ∧ 0 ≤ (M : Int) ∧ (M : Int) ≤ 4 * (n : Int) by omega)] at HMAY
  obtain ⟨C, hC⟩ : ∃ C, (encL (fun i => A.word (P + i)) (fun i => A.word (K + i)) n).length = C := ⟨_, rfl⟩
  rw [hC] at HRK HCL HED ⊢
  have HCE := hid hC
  obtain ⟨ov, hov⟩ : ∃ b, decide (M < C) = b := ⟨_, rfl⟩
  rw [hov] at HED ⊢
  have HOV := hid hov
  obtain ⟨T, hT⟩ : ∃ T, A.top = T := ⟨_, rfl⟩
  rw [hT] at hb1 hP hK hO hroom HTK HSP HSPD HED HRK HFL HEI
  have HTE := hid hT
  clear a t hnf hr hes hct hC hov hT
  have H0 := hid (show (((w.alloc (sb 0)).alloc (sb 0)).alloc (rw6 P n K O M)).heap[w.heap.size + 1 + 1]? = some (rw6 P n K O M) from (by simp only [hp_get, World.size_alloc]; repeat (first | rw [if_pos trivial] | rw [if_pos rfl] | rw [if_neg (by omega)])))
  have X0 := hid (show (((w.alloc (sb 0)).alloc (sb 0)).alloc (rw6 P n K O M)).heap[w.heap.size]? = some (sb 0) from (by simp only [hp_get, World.size_alloc]; repeat (first | rw [if_pos trivial] | rw [if_pos rfl] | rw [if_neg (by omega)])))
  have X1 := hid (show (((w.alloc (sb 0)).alloc (sb 0)).alloc (rw6 P n K O M)).heap[w.heap.size + 1]? = some (sb 0) from (by simp only [hp_get, World.size_alloc]; repeat (first | rw [if_pos trivial] | rw [if_pos rfl] | rw [if_neg (by omega)])))
  have BB := hid (show Below w.heap.size w (((w.alloc (sb 0)).alloc (sb 0)).alloc (rw6 P n K O M)) from (by repeat (first | exact Below.refl _ _ | refine blw_alloc ?_ | refine blw_drew ?_ | assumption)))
  have HN8 := hid (show 8 * (n : Int) = ((8 * n : Nat) : Int) by omega)
  have HN4 := hid (show 4 * (n : Int) = ((4 * n : Nat) : Int) by omega)
  have HNH := hid (show (T : Int) + 4 * (n : Int) = ((T + 4 * n : Nat) : Int) by omega)
  have hrm : ¬ ((A.ws.length : Int) - (T : Int) < 12 * (n : Int)) := by omega
  have htb : T + 4 * n < 4194304 ∨ n = 0 := by omega
  have htc : T + 4 * n ≤ 4194304 := by omega
  clear htb
  go_enter Tryd.func10, Tryd.ntmps10
  go_wp2_with (go_at_call 24; refine (HMAY.out _).mono ?_; rintro e w' ⟨rfl, hw⟩; subst w')
  refine (unapart_any h F A (w.heap.size + 1 + 1) P n K O M _ (HA.out.below BB.out) (by omega) (by omega) (by omega) H0.out).mono ?_
  rintro e w2 ⟨r, rfl, hr, hB2⟩
  obtain rfl : r = true := hr.2 HRF.out
  have B2 := hid (belowCat BB.out hB2)
  have A2 := hid (HA.out.below B2.out)
  have Y0 := hid (show Kp w2 F w.heap.size (sb 0) from ⟨bk hB2 X0.out, fun x => by have := HA.out.lt _ x; omega⟩)
  have Y1 := hid (show Kp w2 F (w.heap.size + 1) (sb 0) from ⟨bk hB2 X1.out, fun x => by have := HA.out.lt _ x; omega⟩)
  have T2 := hid (HT.out.below B2.out)
  clear hB2 hr X0 X1 H0 BB
  go_wp2_with (first | (go_at_call 26; refine (ar_size h F A _ A2.out).mono ?_; rintro e w' ⟨rfl, hw⟩; subst w') | (go_at_call 12; refine (ar_top h F A _ A2.out).mono ?_; rintro e w' ⟨rfl, hw⟩; subst w'; rw [HTE.out]))
  rw [HN8.out]
  refine (ar_take_yes h F A ((8 * n : Nat) : Int) _ A2.out HCT.out (by have := HES.out; omega)).mono ?_
  rintro e w3 ⟨rfl, F3, a3, s3⟩
  rw [HTE.out]
  have A3 := hid a3
  have S3 := hid ((Step.ofBelow (F := F) B2.out).trans s3)
  have Y03 := hid (Y0.out.step s3)
  have Y13 := hid (Y1.out.step s3)
  have T3 := hid (T2.out.step s3 HNG.out)
  have G3 := hid (s3.out HNG.out T2.out.pos)
  clear a3 s3 A2 B2 Y0 Y1 T2
  go_wp2_with fail
  rw [HNH.out]
  refine (unspread_any h F3 (A.take ((8 * n : Nat) : Int)) P K n T (T + 4 * n) _ A3.out hP hK (Nat.le_refl _) (by rw [HTK.out.2.2.1]; omega) hn (by rw [HTK.out.2.1]; have := HES.out; omega) T3.out G3.out).mono ?_
  rintro e w4 ⟨rfl, F4, a4, s4⟩
  rw [HTK.out.1, ← HSPD.out] at a4
  have A4 := hid a4
  have S4 := hid (S3.out.trans s4)
  have Y04 := hid (Y03.out.step s4)
  have Y14 := hid (Y13.out.step s4)
  clear a4 s4 A3 S3 Y03 Y13 T3 G3
  go_wp2_with fail
  have hBi : Below w4.heap.size w4 (w4.alloc (.cells #[.int .i64 (T : Int)] 3 (0, 0))) := (by repeat (first | exact Below.refl _ _ | refine blw_alloc ?_ | refine blw_drew ?_ | assumption))
  have A5 := hid (A4.out.below hBi)
  have S5 := hid (S4.out.trans (Step.ofBelow hBi))
  have Y05 := hid (Y04.out.below hBi)
  have Y15 := hid (Y14.out.below hBi)
  have KI := hid (show Kp (w4.alloc (.cells #[.int .i64 (T : Int)] 3 (0, 0))) F4 w4.heap.size (.cells #[.int .i64 (T : Int)] 3 (0, 0)) from ⟨heap_alloc_at _ _, fun x => absurd (A4.out.lt _ x) (Nat.lt_irrefl _)⟩)
  clear hBi A4 S4 Y04 Y14
  rw [HN4.out]
  refine (unpack_yes h F4 (spA A P K n) (4 * n) (T + 4 * n) T w4.heap.size _ A5.out (by omega) KI.out (by rw [HSP.out.1]; omega) (by rw [HSP.out.1]; omega) (Or.inr (Nat.le_refl _)) (by rw [HSP.out.1, HSP.out.2.1]; omega) (by rw [HSP.out.2.2.1, List.length_append, List.length_cons, HEI.out]; have := HES.out; omega)).mono ?_
  rintro e w6 ⟨rfl, F6, B2, a6, s6, pk⟩
  rw [HRK.out]
  have hok2 := a6.ok
  have HWL := hid (fun i => Ars.word_lt hok2 i)
  have HPK := hid pk
  have hBc : Below w6.heap.size w6 (w6.alloc (sb (C : Nat))) := (by repeat (first | exact Below.refl _ _ | refine blw_alloc ?_ | refine blw_drew ?_ | assumption))
  have A7 := hid (a6.below hBc)
  have S7 := hid ((S5.out.trans s6).trans (Step.ofBelow hBc))
  have Y07 := hid ((Y05.out.step s6).below hBc)
  have Y17 := hid ((Y15.out.step s6).below hBc)
  have Y27 := hid (show Kp (w6.alloc (sb (C : Nat))) F6 w6.heap.size (sb (C : Nat)) from ⟨heap_alloc_at _ _, fun x => absurd (a6.lt _ x) (Nat.lt_irrefl _)⟩)
  have HZL := hid (show w.heap.size + 1 < w6.heap.size from lt_of_heap (Y15.out.step s6).1)
  clear hok2 pk a6 s6 hBc A5 S5 Y05 Y15 KI HRK HSPD HMAY HRF HCT
  go_wp2_with fail
  generalize (w6.alloc (.cells #[.int .u32 (C : Int)] 32)) = w7 at *
  obtain ⟨y, hy⟩ : ∃ y, w6.heap.size = y := ⟨_, rfl⟩
  rw [hy] at Y27 HZL ⊢
  clear hy
  have hcm : IntKind.u32.wrap (M : Int) = (M : Int) := by rw [IntKind.wrap_u32]; omega
  have HLT := hid (fun w' => HOV.out ▸ lt_any M C w' (by omega) (by have := HCL.out; omega))
  have KB := hid (show ∀ w' : World, Below w7.heap.size w7 w' → w'.cell? ⟨y, 0, none⟩ = some (.int .u32 (C : Int)) from fun w' hb => cell_s1 (bk hb Y27.out.1))
  refine wp_region_held_drew (S := (fun w' => w'.cell? ⟨y, 0, none⟩ = some (.int .u32 (C : Int)))) (by kernel_rfl) (KB.out _ (blw_drew (Below.refl _ _))) (fun hHeld => ?_)
  refine tk_at (i := 0) (d := some 84) (v := ?_) rfl rfl (by kernel_rfl) (by kernel_rfl) (by kernel_rfl) (fun _ _ _ h => h) (Or.inl ⟨by rfl, ?_⟩) (by assumption) ?_
  rotate_left
  · (intro w hSw; (try dsimp only at hSw); go_simp; try (with_reducible rfl))
  simp only [Act.put, List.setIfInBounds_toArray, List.set_cons_zero, List.set_cons_succ]
  refine tk_at (i := 1) (d := some 85) (v := ?_) rfl rfl (by kernel_rfl) (by kernel_rfl) (by kernel_rfl) (fun _ _ _ h => h) (Or.inl ⟨by rfl, ?_⟩) (by assumption) ?_
  rotate_left
  · (intro w hSw; (try dsimp only at hSw); go_simp; try (with_reducible rfl))
  simp only [Act.put, List.setIfInBounds_toArray, List.set_cons_zero, List.set_cons_succ]
  refine tk_at (i := 3) (d := some 87) (v := ?_) rfl rfl (by kernel_rfl) (by kernel_rfl) (by kernel_rfl) (fun _ _ _ h => h) (Or.inl ⟨by rfl, ?_⟩) (by assumption) ?_
  rotate_left
  · (intro w hSw; (try dsimp only at hSw); go_simp; try (with_reducible rfl))
  simp only [Act.put, List.setIfInBounds_toArray, List.set_cons_zero, List.set_cons_succ]
  clear hHeld
  refine wpAnyH_inv0 (fun aC0 lsC aC wCA => ∃ (kC : Nat) (b5 b6 : Bool) (pv0 x2 x4 : Value), kC < 3 ∧ lsC = #[true, true, decide (1 ≤ kC), true, decide (2 ≤ kC), b5, b6] ∧ aC = { aC0 with tmps := (((aC0.tmps.setIfInBounds 86 x2).setIfInBounds 88 x4).setIfInBounds 22 pv0) } ∧ (1 ≤ kC → x2 = sec (M : Nat)) ∧ (2 ≤ kC → x4 = sec (mk ov : Nat)) ∧ Below w7.heap.size w7 wCA ∧ OwnV w7 wCA b5 b6 pv0 #[.int .u32 0] #[.int .u32 (mk ov : Nat)] 32 ∧ (b5 || !b6) = true ∧ True) ?_ _ _ _ (by decide +kernel) (fun aS => ⟨0, false, false, aS.tmps.getD 22 undef, aS.tmps.getD 86 undef, aS.tmps.getD 88 undef, by decide, by kernel_rfl, by simp only [set_self], fun h => absurd h (by decide), fun h => absurd h (by decide), blw_drew (Below.refl _ _), OwnV.non, rfl, trivial⟩)
  intro lsC aC wCA ⟨kC, b5, b6, pv0, x2, x4, hk, hl, ha, hx2, hx4, hBw, hw0, hc0, _⟩
  subst hl ha
  have Hhx2 := hid hx2
  have Hhx4 := hid hx4
  have HhBw := hid hBw
  have Hhw0 := hid hw0
  have Hhc0 := hid hc0
  clear hx2 hx4 hBw hw0 hc0
  simp only [List.setIfInBounds_toArray, List.set_cons_zero, List.set_cons_succ]
  refine ⟨fun hr => ?_, fun i hi => ?_⟩
  rotate_left
  · have hcase : (i = 2 ∧ kC = 0) ∨ (i = 4 ∧ kC = 1) ∨ (i = 5 ∧ b5 = false) ∨ (i = 6 ∧ b6 = false ∧ b5 = true ∧ kC = 2) := by
      refine of_decide_eq_true ((List.all_eq_true (p := fun i => decide ((i = 2 ∧ kC = 0) ∨ (i = 4 ∧ kC = 1) ∨ (i = 5 ∧ b5 = false) ∨ (i = 6 ∧ b6 = false ∧ b5 = true ∧ kC = 2)))).1 ?_ i hi)
      clear Hhx2 Hhx4 HhBw Hhw0 Hhc0 hi
      revert b5 b6
      revert kC
      decide +kernel
    clear hi
    rcases hcase with ⟨rfl, rfl⟩ | ⟨rfl, rfl⟩ | ⟨rfl, rfl⟩ | ⟨rfl, rfl, rfl, rfl⟩
    · refine wpOp_shut rfl (fun K hK => ?_)
      go_simp
      refine (of_b _ _).mono ?_
      rintro e wa ⟨rfl, hBa⟩
      have HBa := hid hBa
      clear hBa
      go_wp2_with fail
      have hB3 := belowCat HhBw.out HBa.out
      exact hK.out _ _ ⟨KB.out _ hB3, 1, b5, b6, _, _, _, by first | exact hk | decide, by kernel_rfl, rfl, fun _ => rfl, fun h => absurd h (by decide), hB3, (Hhw0.out.below HBa.out), (by first | exact Hhc0.out | rfl), trivial⟩
    · obtain rfl := Hhx2.out (by decide)
      refine wpOp_shut rfl (fun K hK => ?_)
      go_simp
      refine (HLT.out _).mono ?_
      rintro e wa ⟨rfl, hBa⟩
      have HBa := hid hBa
      clear hBa
      go_wp2_with fail
      have hB3 := belowCat HhBw.out HBa.out
      exact hK.out _ _ ⟨KB.out _ hB3, 2, b5, b6, _, _, _, by first | exact hk | decide, by kernel_rfl, rfl, fun _ => rfl, fun _ => rfl, hB3, (Hhw0.out.below HBa.out), (by first | exact Hhc0.out | rfl), trivial⟩
    · obtain rfl : b6 = false := by have := Hhc0.out; revert this; cases b6 <;> simp
      refine wpOp_shut rfl (fun K hK => ?_)
      go_simp
      go_wp2_with fail
      have hBa := (Below.refl wCA.heap.size wCA).alloc (Nat.le_refl _) (.cells #[.int .u32 0] 32 (0, 0))
      have hB3 := belowCat HhBw.out hBa
      exact hK.out _ _ ⟨KB.out _ hB3, kC, true, false, _, _, _, by first | exact hk | decide, by kernel_rfl, rfl, Hhx2.out, Hhx4.out, hB3, (OwnV.new HhBw.out), (by first | exact Hhc0.out | rfl), trivial⟩
    · obtain ⟨z, rfl, hz1, hz2⟩ := Hhw0.out rfl
      obtain rfl := Hhx2.out (by decide)
      obtain rfl := Hhx4.out (by decide)
      have c0 := cell_of_heap (i := 0) hz2 rfl
      have g0 := frozen_of_heap (i := 0) hz2
      have HZ := hid (And.intro hz1 hz2)
      clear hz1 hz2
      refine wpOp_shut rfl (fun K hK => ?_)
      go_simp
      go_wp2_with fail
      exact hK.out _ _ ⟨KB.out _ (HhBw.out.setCell (p := ⟨z, 0, none⟩) HZ.out.1 _), 2, true, true, _, _, _, by first | exact hk | decide, by kernel_rfl, rfl, fun _ => rfl, fun _ => rfl, (HhBw.out.setCell (p := ⟨z, 0, none⟩) HZ.out.1 _), (fun _ => ⟨z, rfl, HZ.out.1, vset1 HZ.out.2⟩), (by first | exact Hhc0.out | rfl), trivial⟩
  have hall : (b5 && b6 && decide (kC = 2)) = true := by
    clear Hhx2 Hhx4 HhBw Hhw0 Hhc0
    revert b5 b6
    revert kC
    decide +kernel
  simp only [Bool.and_eq_true, decide_eq_true_eq] at hall
  obtain ⟨⟨rfl, rfl⟩, rfl⟩ := hall
  obtain ⟨z0A, hpz0, hy01, hy02⟩ := Hhw0.out rfl
  subst hpz0
  have HZ0A := hid (show w7.heap.size ≤ z0A ∧ wCA.heap[z0A]? = some (.cells #[.int .u32 (mk ov : Nat)] 32 (0, 0)) from (by first | exact And.intro hy01 hy02 | simpa using And.intro hy01 hy02))
  clear hy01 hy02
  obtain rfl := Hhx2.out (by decide)
  obtain rfl := Hhx4.out (by decide)
  have HRA := hid HhBw.out
  clear Hhx2 Hhx4 HhBw Hhw0 Hhc0 hr hk
  (try dsimp only)
  have E0 := hid (show En w wCA h F F6 y z0A B2 C ov from ⟨A7.out.below HRA.out, S7.out.trans (Step.ofBelow HRA.out), Y07.out.below HRA.out, Y17.out.below HRA.out, Y27.out.below HRA.out, ⟨HZ0A.out.2, fun x => by have h1 := A7.out.lt _ x; have h2 := HZ0A.out.1; omega⟩⟩)
  have HZM := hid (show y < z0A from Nat.lt_of_lt_of_le (lt_of_heap Y27.out.1) HZ0A.out.1)
  have HT2 := hid (show B2.top = T + 8 * n by rw [HPK.out.top, HSP.out.1])
  have HE2 := hid (show B2.es.length ≤ 106000000 by rw [HPK.out.es, List.length_append, HSP.out.2.2.1, List.length_append, List.length_cons, HEI.out, HSP.out.1, HFL.out]; have h1 := HES.out; have h2 := HPC.out; simp only [List.length_singleton]; omega)
  have HNO := hid (fun w' => not_c ov w')
  clear KB HZ0A HRA A7 S7 Y07 Y17 Y27 HLT hcm HFL HPC HEI HTK
  go_wp2_with fail
  go_loopw [90] (fun c wr => ∃ (i : Nat) (Fi : Nat → Prop), i ≤ M ∧ c = .int .i64 (i : Int) ∧ En w wr h F Fi y z0A (otI B2 T O (fun i => tellW ov (B2.word (T + i))) i) C ov) (fun c _ => M - (intOf c).toNat)
  case atStart => exact ⟨0, F6, Nat.zero_le _, rfl, E0.out⟩
  case round =>
    clear E0
    obtain ⟨i, Fi, hi, rfl, ei⟩ := hrel
    have EI := hid ei
    clear ei
    by_cases hlt : i < M
    · have hw0 : (otI B2 T O (fun i => tellW ov (B2.word (T + i))) i).word (T + i) = B2.word (T + i) := otI_word B2 T O _ i (by rw [HPK.out.wl, HSP.out.2.1]; omega) _ (by omega)
      have htp : (otI B2 T O (fun i => tellW ov (B2.word (T + i))) i).top = T + 8 * n := (otI_top ..).trans HT2.out
      have hel : (otI B2 T O (fun i => tellW ov (B2.word (T + i))) i).es.length ≤ 107000000 := by rw [otI_es, List.length_append, evO_len]; have := HE2.out; omega
      have HSU := hid (show otI B2 T O (fun i => tellW ov (B2.word (T + i))) (i + 1) = ((otI B2 T O (fun i => tellW ov (B2.word (T + i))) i).loadN (T + i)).storeN (O + i) (tellW ov (B2.word (T + i))) from rfl)
      have hxl := HWL.out (T + i)
      have HTW := hid (show andW (mk (!ov)) (B2.word (T + i)) = tellW ov (B2.word (T + i)) by unfold tellW; rw [notW_mk])
      have HTL := hid (show tellW ov (B2.word (T + i)) < 4294967296 by rw [← HTW.out]; exact andW_lt (mk_lt _))
      have HND := hid (fun w' => HTW.out ▸ and_b (mk (!ov)) (B2.word (T + i)) w' (mk_lt _) hxl)
      obtain ⟨tv, htv⟩ : ∃ v, tellW ov (B2.word (T + i)) = v := ⟨_, rfl⟩
      obtain ⟨x, hx⟩ : ∃ v, B2.word (T + i) = v := ⟨_, rfl⟩
      rw [htv] at HSU HTL HND
      rw [hx] at hw0 HND
      obtain ⟨Bi, hBi⟩ : ∃ D, otI B2 T O (fun i => tellW ov (B2.word (T + i))) i = D := ⟨_, rfl⟩
      rw [hBi] at EI hw0 htp hel HSU
      have HL1 := hid (unld_at (A := Bi) (L := T) (i := i) (by omega))
      rw [hw0] at HL1
      have HS1 := hid (unst_at (A := Bi.loadN (T + i)) (L := O) (i := i) (v := tv) (by show _ < Bi.top; omega))
      have HEL := hid hel
      have hti : T + i < 4194304 := by omega
      have hoi : O + i < 4194304 := by omega
      have c22 := cell_s1 EI.out.k3.1
      clear htv hx hBi hw0 htp hel hxl HTW
      go_wp2_with fail
      refine (HNO.out _).mono ?_
      rintro e w8 ⟨rfl, hB8⟩
      have E8 := hid (EI.out.below hB8)
      clear hB8 EI c22
      go_wp2_with fail
      refine (ar_load h Fi Bi ((T : Int) + (i : Int)) _ E8.out.ar (by omega) (by have := HEL.out; omega)).mono ?_
      rintro e w9 ⟨rfl, F9, a9, s9⟩
      rw [HL1.out.1]
      rw [HL1.out.2] at a9
      have E9 := hid (E8.out.step a9 s9)
      clear a9 s9 E8
      go_wp2_with fail
      refine (HND.out _).mono ?_
      rintro e w10 ⟨rfl, hB10⟩
      have E10 := hid (E9.out.below hB10)
      clear hB10 E9
      go_wp2_with fail
      refine (ar_store h F9 (Bi.loadN (T + i)) ((O : Int) + (i : Int)) tv _ E10.out.ar (by omega) HTL.out (by show (Bi.es ++ _).length ≤ _; rw [List.length_append]; have := HEL.out; simp; omega)).mono ?_
      rintro e w11 ⟨rfl, F11, a11, s11⟩
      rw [HS1.out] at a11
      have E11 := hid (E10.out.step a11 s11)
      clear a11 s11 E10
      go_wp2
      go_roundw
      case rel => exact ⟨i + 1, F11, by omega, by go_num, by rw [HSU.out]; exact E11.out⟩
      case measure => simp [intOf]; omega
    · have him : i = M := by omega
      subst him
      have HTP := hid (show (otI B2 T O (fun i => tellW ov (B2.word (T + i))) i).top = T + 8 * n from (otI_top ..).trans HT2.out)
      have HEL := hid (show (otI B2 T O (fun i => tellW ov (B2.word (T + i))) i).es.length ≤ 107000000 by rw [otI_es, List.length_append, evO_len]; have := HE2.out; omega)
      clear hlt
      go_wp2_with fail
      refine (ar_give_yes h Fi _ T _ EI.out.ar (by rw [HTP.out]; omega) (by rw [HTP.out]; have := HEL.out; omega)).mono ?_
      rintro e w8 ⟨rfl, F8, a8, s8⟩
      have E8 := hid (EI.out.step a8 s8)
      have ENC := hid (HED.out _ B2 rfl HPK.out HWL.out)
      clear a8 s8 EI
      have q0 := cell_s1 E8.out.k0.1
      have q1 := cell_s1 E8.out.k1.1
      have q2 := cell_s1 E8.out.k2.1
      have q3 := cell_s1 E8.out.k3.1
      have f0 := frozen_of_heap (i := 0) E8.out.k0.1
      have f1 := frozen_of_heap (i := 0) E8.out.k1.1
      have hz := HZL.out
      have hz2 := HZM.out
      have U1 := hid ((Below.heap_setCell w8 ⟨w.heap.size, 0, none⟩ (.int .u32 (C : Int)) (w.heap.size + 1) (by show w.heap.size + 1 ≠ w.heap.size; omega)).trans E8.out.k1.1)
      have U3 := hid ((Below.heap_setCell w8 ⟨w.heap.size, 0, none⟩ (.int .u32 (C : Int)) z0A (by show z0A ≠ w.heap.size; omega)).trans E8.out.k3.1)
      have p1 := cell_s1 U1.out
      have p3 := cell_s1 U3.out
      have g1 := frozen_of_heap (i := 0) U1.out
      clear hz hz2
      have HD0 := hid (show ((w8.setCell ⟨w.heap.size, 0, none⟩ (.int .u32 (C : Int))).setCell ⟨w.heap.size + 1, 0, none⟩ (.int .u32 (mk ov : Nat))).heap[w.heap.size]? = some (sb (C : Nat)) from (Below.heap_setCell _ _ _ _ (by show w.heap.size ≠ w.heap.size + 1; omega)).trans (vset1 E8.out.k0.1))
      have HD1 := hid (show ((w8.setCell ⟨w.heap.size, 0, none⟩ (.int .u32 (C : Int))).setCell ⟨w.heap.size + 1, 0, none⟩ (.int .u32 (mk ov : Nat))).heap[w.heap.size + 1]? = some (sb (mk ov : Nat)) from vset1 U1.out)
      have AF := hid ((E8.out.ar.setOther ⟨w.heap.size, 0, none⟩ (.int .u32 (C : Int)) E8.out.k0.2).setOther ⟨w.heap.size + 1, 0, none⟩ (.int .u32 (mk ov : Nat)) E8.out.k1.2)
      have SF := hid ((E8.out.st.setNew ⟨w.heap.size, 0, none⟩ (.int .u32 (C : Int)) (Nat.le_refl _)).setNew ⟨w.heap.size + 1, 0, none⟩ (.int .u32 (mk ov : Nat)) (by show w.heap.size ≤ w.heap.size + 1; omega))
      go_wp2_with fail
      go_region
      all_goals
        go_wp2
        have d0 := cell_of_heap (i := 0) HD0.out rfl
        have d1 := cell_of_heap (i := 0) HD1.out rfl
        exact bodyPost_ret (v := .tuple #[sec (C : Nat), sec (mk ov : Nat), .bool true]) (by simp only [results, Tryd.results10]; simp [go_sem, d0, d1]) rfl ⟨rfl, F8, _, AF.out.drew, SF.out.drew, ENC.out⟩
end Go.Proofs.YtjcnkigadlmpgaaDoor
