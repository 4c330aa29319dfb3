/- The contract of package utf's reader: read and failed, over this seat's translation. Conditions: the words' bounds; the variable leads holds what the program's text lays there; the reader is a block of its own. -/
import Derived.Test.YtjcnkigadlmpgaaDoorUfC
import Derived.Deep.CutRange
namespace Go.Proofs.YtjcnkigadlmpgaaDoor
open Go.RowKit
set_option linter.unusedVariables false

abbrev rdO (s : Us) (q : Bool) : Obj := .cells #[.int .u32 s.pt, .int .u32 s.mo, .int .u32 s.lo, .int .u32 s.hi, .int .u32 (mk q : Nat)] 84 (0, 0)
theorem bk {w w' : World} {i : Nat} {o : Obj} (hB : Below w.heap.size w w') (h : w.heap[i]? = some o) : w'.heap[i]? = some o := (hB.block _ (lt_of_heap h)).trans h
theorem vset4r {w : World} {g : Nat} {u0 u1 u2 u3 u4 a b c d : Value} {t : TypeId} (h : w.heap[g]? = some (.cells #[u0, u1, u2, u3, u4] t (0, 0))) : ((((w.setCell ⟨g, 0, none⟩ a).setCell ⟨g, 1, none⟩ b).setCell ⟨g, 2, none⟩ c).setCell ⟨g, 3, none⟩ d).heap[g]? = some (.cells #[a, b, c, d, u4] t (0, 0)) :=
  heap_setCell_at _ _ 3 _ _ _ d (heap_setCell_at _ _ 2 _ _ _ c (heap_setCell_at _ _ 1 _ _ _ b (heap_setCell_at _ _ 0 _ _ _ a h)))
theorem fr_set4 {w0 w : World} {g : Nat} {a b c d : Value} (h : Fr (fun i => i = g) w0 w) : Fr (fun i => i = g) w0 ((((w.setCell ⟨g, 0, none⟩ a).setCell ⟨g, 1, none⟩ b).setCell ⟨g, 2, none⟩ c).setCell ⟨g, 3, none⟩ d) :=
  (((h.setCell (p := ⟨g, 0, none⟩) a (fun _ => rfl)).setCell (p := ⟨g, 1, none⟩) b (fun _ => rfl)).setCell (p := ⟨g, 2, none⟩) c (fun _ => rfl)).setCell (p := ⟨g, 3, none⟩) d (fun _ => rfl)
theorem vset_5 {w : World} {g : Nat} {u0 u1 u2 u3 u4 a : Value} {t : TypeId} (h : w.heap[g]? = some (.cells #[u0, u1, u2, u3, u4] t (0, 0))) : (w.setCell ⟨g, 4, none⟩ a).heap[g]? = some (.cells #[u0, u1, u2, u3, a] t (0, 0)) := heap_setCell_at _ _ 4 _ _ _ a h
/-- one more byte, if it counts -/
def rdc (c : Bool) (r : Us × Bool) (b : Nat) : Us × Bool := if c then stp1 r b else r
theorem rdc_parts (c : Bool) (s : Us) (q : Bool) (b : Nat) : rdc c (s, q) b = (cho c (cho (s.mo == 0) (bgK b 9).1 (flw s b)) s, q || (c && !(if s.mo == 0 then (bgK b 9).2 else btw b s.lo s.hi))) := by
  cases c <;> simp [rdc, stp1, cho]
theorem and_c (a b : Bool) (w : World) : Calls Tryd.prog 31 #[sec (mk a : Nat), sec (mk b : Nat)] w fun e w' => e = .returned (sec (mk (a && b) : Nat)) ∧ Below w.heap.size w w' :=
  (and_b (mk a) (mk b) w (mk_lt a) (mk_lt b)).mono fun e w' ⟨he, hB⟩ => ⟨by rw [he]; cases a <;> cases b <;> rfl, hB⟩
theorem not_c (a : Bool) (w : World) : Calls Tryd.prog 32 #[sec (mk a : Nat)] w fun e w' => e = .returned (sec (mk (!a) : Nat)) ∧ Below w.heap.size w w' :=
  (not_b (mk a) w (mk_lt a)).mono fun e w' ⟨he, hB⟩ => ⟨by rw [he]; cases a <;> rfl, hB⟩
theorem sel_m (c a b : Bool) (w : World) : Calls Tryd.prog 67 #[sec (mk c : Nat), sec (mk a : Nat), sec (mk b : Nat)] w fun e w' => e = .returned (sec (mk (if c then a else b) : Nat)) ∧ Below w.heap.size w w' :=
  (sel_c c (mk a) (mk b) w (mk_lt a) (mk_lt b)).mono fun e w' ⟨he, hB⟩ => ⟨by rw [he]; cases c <;> rfl, hB⟩
theorem andW255 (x : Nat) : andW x 255 = x % 256 := by
  unfold andW
  rw [show (255 : Nat) = 2 ^ 8 - 1 from rfl, Nat.and_two_pow_sub_one_eq_mod]
theorem cell_rd {w : World} {g : Nat} {s : Us} {q : Bool} (h : w.heap[g]? = some (rdO s q)) : w.cell? ⟨g, 0, none⟩ = some (.int .u32 s.pt) ∧ w.cell? ⟨g, 1, none⟩ = some (.int .u32 s.mo) ∧ w.cell? ⟨g, 2, none⟩ = some (.int .u32 s.lo) ∧ w.cell? ⟨g, 3, none⟩ = some (.int .u32 s.hi) ∧ w.cell? ⟨g, 4, none⟩ = some (.int .u32 (mk q : Nat)) := ⟨cell_of_heap h rfl, cell_of_heap h rfl, cell_of_heap h rfl, cell_of_heap h rfl, cell_of_heap h rfl⟩

set_option maxHeartbeats 6400000 in
theorem read_any (g : Nat) (s : Us) (q c : Bool) (x : Nat) (w : World) (hr : w.heap[g]? = some (rdO s q)) (hs : s.ok) (hx : x < 4294967296) (t : Lv w) :
    Calls Tryd.prog 45 #[.pointer (some ⟨g, 0, none⟩), sec x, sec (mk c : Nat)] w fun e w' => e = .returned (sec (mk (c && ((rdc c (s, q) (x % 256)).1.mo == 0)) : Nat)) ∧
      w'.heap[g]? = some (rdO (rdc c (s, q) (x % 256)).1 (rdc c (s, q) (x % 256)).2) ∧ Fr (fun i => i = g) w w' := by
  rw [rdc_parts]
  have hb : x % 256 < 256 := Nat.mod_lt _ (by decide)
  have HCA := hid (fun w => andW255 x ▸ and_b x 255 w hx (by decide))
  obtain ⟨b, hbe⟩ : ∃ b, x % 256 = b := ⟨_, rfl⟩
  rw [hbe] at hb HCA ⊢
  have HBG := hid (fun w' (t' : Lv w') => begin_any b w' hb t')
  have hbk := bgK_ok b hb 9
  have hfl := flw_ok (s := s) (show b < 4294967296 by omega)
  have HFL := hid (fun w' => follow_any s b w' hs (by omega))
  have HZM := hid (fun w' => zero_b s.mo w' hs.m)
  have HC1 := hid (fun w' => choose_any (s.mo == 0) (bgK b 9).1 (flw s b) w' hbk hfl)
  have hch := cho_ok (c := s.mo == 0) hbk hfl
  have HC2 := hid (fun w' => choose_any c (cho (s.mo == 0) (bgK b 9).1 (flw s b)) s w' hch hs)
  have HFI := hid (fun w' => sel_m (s.mo == 0) (bgK b 9).2 (btw b s.lo s.hi) w')
  have HOK := hid (cho_ok (c := c) hch hs)
  obtain ⟨f, hf⟩ : ∃ f, (s.mo == 0) = f := ⟨_, rfl⟩
  obtain ⟨u, hu⟩ : ∃ u, (bgK b 9).1 = u := ⟨_, rfl⟩
  obtain ⟨p1, hp1⟩ : ∃ p, (bgK b 9).2 = p := ⟨_, rfl⟩
  obtain ⟨v, hv⟩ : ∃ v, flw s b = v := ⟨_, rfl⟩
  obtain ⟨p2, hp2⟩ : ∃ p, btw b s.lo s.hi = p := ⟨_, rfl⟩
  rw [hf] at HZM HC1 HC2 HFI HOK ⊢
  rw [hu] at HBG HC1 HC2 HOK ⊢
  rw [hv] at HFL HC1 HC2 HOK ⊢
  rw [hp1] at HBG HFI ⊢
  rw [hp2] at HFL HFI ⊢
  obtain ⟨p3, hp3⟩ : ∃ p, (if f = true then p1 else p2) = p := ⟨_, rfl⟩
  obtain ⟨m1, hm1⟩ : ∃ m, cho f u v = m := ⟨_, rfl⟩
  rw [hp3] at HFI ⊢
  rw [hm1] at HC1 HC2 HOK ⊢
  obtain ⟨m2, hm2⟩ : ∃ m, cho c m1 s = m := ⟨_, rfl⟩
  rw [hm2] at HC2 HOK ⊢
  have HZ2 := hid (fun w' => zero_b m2.mo w' HOK.out.m)
  have HLV := hid t
  have HR0 := hid hr
  clear hbe hb hbk hfl hch hf hu hp1 hv hp2 hp3 hm1 hm2 hs hx t hr
  go_enter Tryd.func45, Tryd.ntmps45
  go_wp2_with fail
  have G := hid (show (((w.alloc (sb x)).alloc (sb (mk c : Nat))).alloc (sb 0)).heap[g]? = some (rdO s q) from bk (w := w) (by repeat (first | exact Below.refl _ _ | refine blw_alloc ?_ | refine blw_drew ?_ | assumption)) HR0.out)
  have X0 := hid (show (((w.alloc (sb x)).alloc (sb (mk c : Nat))).alloc (sb 0)).heap[w.heap.size]? = some (sb x) from (by simp only [hp_get, World.size_alloc]; repeat (first | rw [if_pos trivial] | rw [if_pos rfl] | rw [if_neg (by omega)])))
  have X1 := hid (show (((w.alloc (sb x)).alloc (sb (mk c : Nat))).alloc (sb 0)).heap[w.heap.size + 1]? = some (sb (mk c : Nat)) from (by simp only [hp_get, World.size_alloc]; repeat (first | rw [if_pos trivial] | rw [if_pos rfl] | rw [if_neg (by omega)])))
  have X2 := hid (show (((w.alloc (sb x)).alloc (sb (mk c : Nat))).alloc (sb 0)).heap[w.heap.size + 1 + 1]? = some (sb 0) from (by simp only [hp_get, World.size_alloc]; repeat (first | rw [if_pos trivial] | rw [if_pos rfl] | rw [if_neg (by omega)])))
  have HB := hid (show Below w.heap.size w (((w.alloc (sb x)).alloc (sb (mk c : Nat))).alloc (sb 0)) from (by repeat (first | exact Below.refl _ _ | refine blw_alloc ?_ | refine blw_drew ?_ | assumption)))
  have HGL := hid (show g < w.heap.size from lt_of_heap HR0.out)
  generalize (((w.alloc (sb x)).alloc (sb (mk c : Nat))).alloc (sb 0)) = W at *
  have KB := hid (show ∀ w' : World, Below W.heap.size W w' → w'.cell? ⟨w.heap.size, 0, none⟩ = some (.int .u32 (x : Int)) from fun w' hb => cell_s1 (bk hb X0.out))
  refine wp_region_held_drew (S := (fun w' => w'.cell? ⟨w.heap.size, 0, none⟩ = some (.int .u32 (x : Int)))) (by kernel_rfl) (KB.out _ (blw_drew (Below.refl _ _))) (fun hHeld => ?_)
  refine tk_at (i := 0) (d := some 14) (v := ?_) rfl rfl (by kernel_rfl) (by kernel_rfl) (by kernel_rfl) (fun _ _ _ h => h) (Or.inl ⟨by rfl, ?_⟩) (by assumption) ?_
  rotate_left
  · (intro w hSw; (try dsimp only at hSw); go_simp; try (with_reducible rfl))
  simp only [Act.put, List.setIfInBounds_toArray, List.set_cons_zero, List.set_cons_succ]
  clear hHeld
  refine wpAnyH_inv0 (fun aC0 lsC aC wCA => ∃ (kC : Nat) (b3 b4 : Bool) (pv0 x1 x2 : Value), kC < 3 ∧ lsC = #[true, decide (1 ≤ kC), decide (2 ≤ kC), b3, b4] ∧ aC = { aC0 with tmps := (((aC0.tmps.setIfInBounds 15 x1).setIfInBounds 16 x2).setIfInBounds 7 pv0) } ∧ (1 ≤ kC → x1 = sec ((255 : Nat) : Int)) ∧ (2 ≤ kC → x2 = sec (b : Nat)) ∧ Below W.heap.size W wCA ∧ OwnV W wCA b3 b4 pv0 #[.int .u32 0] #[.int .u32 (b : Int)] 32 ∧ (b3 || !b4) = true ∧ True) ?_ _ _ _ (by decide +kernel) (fun aS => ⟨0, false, false, aS.tmps.getD 7 undef, aS.tmps.getD 15 undef, aS.tmps.getD 16 undef, by decide, by kernel_rfl, by simp only [set_self], fun h => absurd h (by decide), fun h => absurd h (by decide), blw_drew (Below.refl _ _), OwnV.non, rfl, trivial⟩)
  intro lsC aC wCA ⟨kC, b3, b4, pv0, x1, x2, hk, hl, ha, hx1, hx2, hBw, hw0, hc0, _⟩
  subst hl ha
  have Hhx1 := hid hx1
  have Hhx2 := hid hx2
  have HhBw := hid hBw
  have Hhw0 := hid hw0
  have Hhc0 := hid hc0
  clear hx1 hx2 hBw hw0 hc0
  simp only [List.setIfInBounds_toArray, List.set_cons_zero, List.set_cons_succ]
  refine ⟨fun hr => ?_, fun i hi => ?_⟩
  rotate_left
  · have hcase : (i = 1 ∧ kC = 0) ∨ (i = 2 ∧ kC = 1) ∨ (i = 3 ∧ b3 = false) ∨ (i = 4 ∧ b4 = false ∧ b3 = true ∧ kC = 2) := by
      refine of_decide_eq_true ((List.all_eq_true (p := fun i => decide ((i = 1 ∧ kC = 0) ∨ (i = 2 ∧ kC = 1) ∨ (i = 3 ∧ b3 = false) ∨ (i = 4 ∧ b4 = false ∧ b3 = true ∧ kC = 2)))).1 ?_ i hi)
      clear Hhx1 Hhx2 HhBw Hhw0 Hhc0 hi
      revert b3 b4
      revert kC
      decide +kernel
    clear hi
    rcases hcase with ⟨rfl, rfl⟩ | ⟨rfl, rfl⟩ | ⟨rfl, rfl⟩ | ⟨rfl, rfl, rfl, rfl⟩
    · refine wpOp_shut rfl (fun K hK => ?_)
      go_simp
      refine (of_b _ _).mono ?_
      rintro e wa ⟨rfl, hBa⟩
      have HBa := hid hBa
      clear hBa
      go_wp2_with fail
      have hB3 := belowCat HhBw.out HBa.out
      exact hK.out _ _ ⟨KB.out _ hB3, 1, b3, b4, _, _, _, by first | exact hk | decide, by kernel_rfl, rfl, fun _ => rfl, fun h => absurd h (by decide), hB3, (Hhw0.out.below HBa.out), (by first | exact Hhc0.out | rfl), trivial⟩
    · obtain rfl := Hhx1.out (by decide)
      refine wpOp_shut rfl (fun K hK => ?_)
      go_simp
      refine (HCA.out _).mono ?_
      rintro e wa ⟨rfl, hBa⟩
      have HBa := hid hBa
      clear hBa
      go_wp2_with fail
      have hB3 := belowCat HhBw.out HBa.out
      exact hK.out _ _ ⟨KB.out _ hB3, 2, b3, b4, _, _, _, by first | exact hk | decide, by kernel_rfl, rfl, fun _ => rfl, fun _ => rfl, hB3, (Hhw0.out.below HBa.out), (by first | exact Hhc0.out | rfl), trivial⟩
    · obtain rfl : b4 = false := by have := Hhc0.out; revert this; cases b4 <;> simp
      refine wpOp_shut rfl (fun K hK => ?_)
      go_simp
      go_wp2_with fail
      have hBa := (Below.refl wCA.heap.size wCA).alloc (Nat.le_refl _) (.cells #[.int .u32 0] 32 (0, 0))
      have hB3 := belowCat HhBw.out hBa
      exact hK.out _ _ ⟨KB.out _ hB3, kC, true, false, _, _, _, by first | exact hk | decide, by kernel_rfl, rfl, Hhx1.out, Hhx2.out, hB3, (OwnV.new HhBw.out), (by first | exact Hhc0.out | rfl), trivial⟩
    · obtain ⟨z, rfl, hz1, hz2⟩ := Hhw0.out rfl
      obtain rfl := Hhx1.out (by decide)
      obtain rfl := Hhx2.out (by decide)
      have c0 := cell_of_heap (i := 0) hz2 rfl
      have g0 := frozen_of_heap (i := 0) hz2
      have HZ := hid (And.intro hz1 hz2)
      clear hz1 hz2
      refine wpOp_shut rfl (fun K hK => ?_)
      go_simp
      go_wp2_with fail
      exact hK.out _ _ ⟨KB.out _ (HhBw.out.setCell (p := ⟨z, 0, none⟩) HZ.out.1 _), 2, true, true, _, _, _, by first | exact hk | decide, by kernel_rfl, rfl, fun _ => rfl, fun _ => rfl, (HhBw.out.setCell (p := ⟨z, 0, none⟩) HZ.out.1 _), (fun _ => ⟨z, rfl, HZ.out.1, vset1 HZ.out.2⟩), (by first | exact Hhc0.out | rfl), trivial⟩
  have hall : (b3 && b4 && decide (kC = 2)) = true := by
    clear Hhx1 Hhx2 HhBw Hhw0 Hhc0
    revert b3 b4
    revert kC
    decide +kernel
  simp only [Bool.and_eq_true, decide_eq_true_eq] at hall
  obtain ⟨⟨rfl, rfl⟩, rfl⟩ := hall
  obtain ⟨z0A, hpz0, hy01, hy02⟩ := Hhw0.out rfl
  subst hpz0
  have HZ0A := hid (show W.heap.size ≤ z0A ∧ wCA.heap[z0A]? = some (.cells #[.int .u32 (b : Int)] 32 (0, 0)) from (by first | exact And.intro hy01 hy02 | simpa using And.intro hy01 hy02))
  clear hy01 hy02
  obtain rfl := Hhx1.out (by decide)
  obtain rfl := Hhx2.out (by decide)
  have HRA := hid HhBw.out
  clear Hhx1 Hhx2 HhBw Hhw0 Hhc0 hr hk
  (try dsimp only)
  have BA := hid (belowCat HB.out HRA.out)
  have XA := hid (show wCA.heap[z0A]? = some (sb b) from HZ0A.out.2)
  have ZA := hid (show w.heap.size + 1 + 1 < z0A from Nat.lt_of_lt_of_le (lt_of_heap X2.out) HZ0A.out.1)
  have eA := cell_s1 XA.out
  clear KB
  go_wp2_with fail
  refine (HBG.out _ (HLV.out.below BA.out)).mono ?_
  rintro e w2 ⟨rfl, hB2⟩
  have B2 := hid (belowCat HRA.out hB2)
  have XA2 := hid (bk hB2 XA.out)
  clear hB2 eA
  go_wp2_with fail
  have hq := w2.heap.size
  have B3 := hid (show Below W.heap.size W ((w2.alloc (usO u)).alloc (sb (mk p1 : Nat))) from belowCat B2.out (by repeat (first | exact Below.refl _ _ | refine blw_alloc ?_ | refine blw_drew ?_ | assumption)))
  have X8 := hid (show ((w2.alloc (usO u)).alloc (sb (mk p1 : Nat))).heap[w2.heap.size]? = some (usO u) from (by simp only [hp_get, World.size_alloc]; repeat (first | rw [if_pos trivial] | rw [if_pos rfl] | rw [if_neg (by omega)])))
  have X9 := hid (show ((w2.alloc (usO u)).alloc (sb (mk p1 : Nat))).heap[w2.heap.size + 1]? = some (sb (mk p1 : Nat)) from (by simp only [hp_get, World.size_alloc]; repeat (first | rw [if_pos trivial] | rw [if_pos rfl] | rw [if_neg (by omega)])))
  have XA3 := hid (show ((w2.alloc (usO u)).alloc (sb (mk p1 : Nat))).heap[z0A]? = some (sb b) from bk (w := w2) (by repeat (first | exact Below.refl _ _ | refine blw_alloc ?_ | refine blw_drew ?_ | assumption)) XA2.out)
  have Z8 := hid (show z0A < w2.heap.size from lt_of_heap XA2.out)
  clear XA2 XA
  generalize ((w2.alloc (usO u)).alloc (sb (mk p1 : Nat))) = w3 at *
  obtain ⟨y8, hy8⟩ : ∃ y, w2.heap.size = y := ⟨_, rfl⟩
  rw [hy8] at X8 X9 Z8 ⊢
  clear hy8 hq
  have G3 := hid (bk B3.out G.out)
  have KB := hid (show ∀ w' : World, Below w3.heap.size w3 w' → w'.cell? ⟨z0A, 0, none⟩ = some (.int .u32 (b : Int)) ∧ (w'.cell? ⟨g, 0, none⟩ = some (.int .u32 s.pt) ∧ w'.cell? ⟨g, 1, none⟩ = some (.int .u32 s.mo) ∧ w'.cell? ⟨g, 2, none⟩ = some (.int .u32 s.lo) ∧ w'.cell? ⟨g, 3, none⟩ = some (.int .u32 s.hi) ∧ w'.cell? ⟨g, 4, none⟩ = some (.int .u32 (mk q : Nat))) from fun w' hb => ⟨cell_s1 (bk hb XA3.out), cell_rd (bk hb G3.out)⟩)
  refine wp_region_held_drew (S := (fun w' => w'.cell? ⟨z0A, 0, none⟩ = some (.int .u32 (b : Int)) ∧ (w'.cell? ⟨g, 0, none⟩ = some (.int .u32 s.pt) ∧ w'.cell? ⟨g, 1, none⟩ = some (.int .u32 s.mo) ∧ w'.cell? ⟨g, 2, none⟩ = some (.int .u32 s.lo) ∧ w'.cell? ⟨g, 3, none⟩ = some (.int .u32 s.hi) ∧ w'.cell? ⟨g, 4, none⟩ = some (.int .u32 (mk q : Nat))))) (by kernel_rfl) (KB.out _ (blw_drew (Below.refl _ _))) (fun hHeld => ?_)
  refine tk_at (i := 0) (d := some 23) (v := ?_) rfl rfl (by kernel_rfl) (by kernel_rfl) (by kernel_rfl) (fun _ _ _ h => h) (Or.inl ⟨by rfl, ?_⟩) (by assumption) ?_
  rotate_left
  · (intro w hSw; (try dsimp only at hSw); go_simp; try (with_reducible rfl))
  simp only [Act.put, List.setIfInBounds_toArray, List.set_cons_zero, List.set_cons_succ]
  refine tk_at (i := 1) (d := some 24) (v := ?_) rfl rfl (by kernel_rfl) (by kernel_rfl) (by kernel_rfl) (fun _ _ _ h => h) (Or.inl ⟨by rfl, ?_⟩) (by assumption) ?_
  rotate_left
  · (intro w hSw; (try dsimp only at hSw); go_simp; try (with_reducible rfl))
  simp only [Act.put, List.setIfInBounds_toArray, List.set_cons_zero, List.set_cons_succ]
  refine tk_at (i := 2) (d := some 25) (v := ?_) rfl rfl (by kernel_rfl) (by kernel_rfl) (by kernel_rfl) (fun _ _ _ h => h) (Or.inl ⟨by rfl, ?_⟩) (by assumption) ?_
  rotate_left
  · (intro w hSw; (try dsimp only at hSw); go_simp; try (with_reducible rfl))
  simp only [Act.put, List.setIfInBounds_toArray, List.set_cons_zero, List.set_cons_succ]
  refine tk_at (i := 3) (d := some 26) (v := ?_) rfl rfl (by kernel_rfl) (by kernel_rfl) (by kernel_rfl) (fun _ _ _ h => h) (Or.inl ⟨by rfl, ?_⟩) (by assumption) ?_
  rotate_left
  · (intro w hSw; (try dsimp only at hSw); go_simp; try (with_reducible rfl))
  simp only [Act.put, List.setIfInBounds_toArray, List.set_cons_zero, List.set_cons_succ]
  refine tk_at (i := 4) (d := some 27) (v := ?_) rfl rfl (by kernel_rfl) (by kernel_rfl) (by kernel_rfl) (fun _ _ _ h => h) (Or.inl ⟨by rfl, ?_⟩) (by assumption) ?_
  rotate_left
  · (intro w hSw; (try dsimp only at hSw); go_simp; try (with_reducible rfl))
  simp only [Act.put, List.setIfInBounds_toArray, List.set_cons_zero, List.set_cons_succ]
  clear hHeld
  refine wpAnyH_inv0 (fun aC0 lsC aC wCB => ∃ (kC : Nat) (b9 b11 b10 b12 b8 : Bool) (pv0 pv1 x5 x6 x7 x8 : Value), kC < 4 ∧ lsC = #[true, true, true, true, true, decide (1 ≤ kC), decide (2 ≤ kC), decide (3 ≤ kC), b8, b9, b10, b11, b12] ∧ aC = { aC0 with tmps := ((((((aC0.tmps.setIfInBounds 28 x5).setIfInBounds 22 x6).setIfInBounds 29 x7).setIfInBounds 30 x8).setIfInBounds 10 pv0).setIfInBounds 11 pv1) } ∧ (1 ≤ kC → x5 = .tuple #[usV v, sec (mk p2 : Nat)]) ∧ (2 ≤ kC → x6 = .tuple #[usV v, sec (mk p2 : Nat)]) ∧ (3 ≤ kC → x7 = usV v) ∧ (b8 = true → x8 = sec (mk p2 : Nat)) ∧ Below w3.heap.size w3 wCB ∧ OwnV w3 wCB b9 b11 pv0 #[.int .u32 0, .int .u32 0, .int .u32 0, .int .u32 0] (usC v) 82 ∧ OwnV w3 wCB b10 b12 pv1 #[.int .u32 0] #[.int .u32 (mk p2 : Nat)] 32 ∧ (b9 || !b11) = true ∧ (b10 || !b12) = true ∧ (b9 = true → b10 = true → pv0 ≠ pv1) ∧ (b10 = true → b9 = true → pv1 ≠ pv0) ∧ True) ?_ _ _ _ (by decide +kernel) (fun aS => ⟨0, false, false, false, false, false, aS.tmps.getD 10 undef, aS.tmps.getD 11 undef, aS.tmps.getD 28 undef, aS.tmps.getD 22 undef, aS.tmps.getD 29 undef, aS.tmps.getD 30 undef, by decide, by kernel_rfl, by simp only [set_self], fun h => absurd h (by decide), fun h => absurd h (by decide), fun h => absurd h (by decide), fun h => (by cases h), blw_drew (Below.refl _ _), OwnV.non, OwnV.non, rfl, rfl, fun h => (by cases h), fun h => (by cases h), trivial⟩)
  intro lsC aC wCB ⟨kC, b9, b11, b10, b12, b8, pv0, pv1, x5, x6, x7, x8, hk, hl, ha, hx5, hx6, hx7, hx8, hBw, hw0, hw1, hc0, hc1, hn01, hn10, _⟩
  subst hl ha
  have Hhx5 := hid hx5
  have Hhx6 := hid hx6
  have Hhx7 := hid hx7
  have Hhx8 := hid hx8
  have HhBw := hid hBw
  have Hhw0 := hid hw0
  have Hhw1 := hid hw1
  have Hhc0 := hid hc0
  have Hhc1 := hid hc1
  have Hhn01 := hid hn01
  have Hhn10 := hid hn10
  clear hx5 hx6 hx7 hx8 hBw hw0 hw1 hc0 hc1 hn01 hn10
  simp only [List.setIfInBounds_toArray, List.set_cons_zero, List.set_cons_succ]
  refine ⟨fun hr => ?_, fun i hi => ?_⟩
  rotate_left
  · have hcase : (i = 5 ∧ kC = 0) ∨ (i = 6 ∧ kC = 1) ∨ (i = 7 ∧ kC = 2) ∨ (i = 9 ∧ b9 = false) ∨ (i = 10 ∧ b10 = false) ∨ (i = 11 ∧ b11 = false ∧ b9 = true ∧ kC = 3) ∨ (i = 12 ∧ b12 = false ∧ b10 = true ∧ kC = 3 ∧ b8 = true ∧ b11 = true) ∨ (i = 8 ∧ b8 = false ∧ 2 ≤ kC) := by
      refine of_decide_eq_true ((List.all_eq_true (p := fun i => decide ((i = 5 ∧ kC = 0) ∨ (i = 6 ∧ kC = 1) ∨ (i = 7 ∧ kC = 2) ∨ (i = 9 ∧ b9 = false) ∨ (i = 10 ∧ b10 = false) ∨ (i = 11 ∧ b11 = false ∧ b9 = true ∧ kC = 3) ∨ (i = 12 ∧ b12 = false ∧ b10 = true ∧ kC = 3 ∧ b8 = true ∧ b11 = true) ∨ (i = 8 ∧ b8 = false ∧ 2 ≤ kC)))).1 ?_ i hi)
      clear Hhx5 Hhx6 Hhx7 Hhx8 HhBw Hhw0 Hhw1 Hhc0 Hhc1 Hhn01 Hhn10 hi
      revert b9 b11 b10 b12 b8
      revert kC
      decide +kernel
    clear hi
    rcases hcase with ⟨rfl, rfl⟩ | ⟨rfl, rfl⟩ | ⟨rfl, rfl⟩ | ⟨rfl, rfl⟩ | ⟨rfl, rfl⟩ | ⟨rfl, rfl, rfl, rfl⟩ | ⟨rfl, rfl, rfl, rfl, rfl, rfl⟩ | ⟨rfl, rfl, hle⟩
    · refine wpOp_shut rfl (fun K hK => ?_)
      go_simp
      refine (HFL.out _).mono ?_
      rintro e wa ⟨rfl, hBa⟩
      have HBa := hid hBa
      clear hBa
      go_wp2_with fail
      have hB3 := belowCat HhBw.out HBa.out
      exact hK.out _ _ ⟨KB.out _ hB3, 1, b9, b11, b10, b12, b8, _, _, _, _, _, _, by first | exact hk | decide, by kernel_rfl, rfl, fun _ => rfl, fun h => absurd h (by decide), fun h => absurd h (by decide), Hhx8.out, hB3, (Hhw0.out.below HBa.out), (Hhw1.out.below HBa.out), (by first | exact Hhc0.out | rfl), (by first | exact Hhc1.out | rfl), (by first | exact Hhn01.out | exact fun _ => Hhn01.out trivial | exact fun a _ => Hhn01.out a trivial | exact fun _ _ => Hhn01.out trivial trivial), (by first | exact Hhn10.out | exact fun _ => Hhn10.out trivial | exact fun a _ => Hhn10.out a trivial | exact fun _ _ => Hhn10.out trivial trivial), trivial⟩
    · obtain rfl := Hhx5.out (by decide)
      refine wpOp_shut rfl (fun K hK => ?_)
      go_simp
      go_wp2_with fail
      exact hK.out _ _ ⟨KB.out _ HhBw.out, 2, b9, b11, b10, b12, b8, _, _, _, _, _, _, by first | exact hk | decide, by kernel_rfl, rfl, fun _ => rfl, fun _ => rfl, fun h => absurd h (by decide), Hhx8.out, HhBw.out, Hhw0.out, Hhw1.out, (by first | exact Hhc0.out | rfl), (by first | exact Hhc1.out | rfl), (by first | exact Hhn01.out | exact fun _ => Hhn01.out trivial | exact fun a _ => Hhn01.out a trivial | exact fun _ _ => Hhn01.out trivial trivial), (by first | exact Hhn10.out | exact fun _ => Hhn10.out trivial | exact fun a _ => Hhn10.out a trivial | exact fun _ _ => Hhn10.out trivial trivial), trivial⟩
    · obtain rfl := Hhx5.out (by decide)
      obtain rfl := Hhx6.out (by decide)
      refine wpOp_shut rfl (fun K hK => ?_)
      go_simp
      go_wp2_with fail
      exact hK.out _ _ ⟨KB.out _ HhBw.out, 3, b9, b11, b10, b12, b8, _, _, _, _, _, _, by first | exact hk | decide, by kernel_rfl, rfl, fun _ => rfl, fun _ => rfl, fun _ => rfl, Hhx8.out, HhBw.out, Hhw0.out, Hhw1.out, (by first | exact Hhc0.out | rfl), (by first | exact Hhc1.out | rfl), (by first | exact Hhn01.out | exact fun _ => Hhn01.out trivial | exact fun a _ => Hhn01.out a trivial | exact fun _ _ => Hhn01.out trivial trivial), (by first | exact Hhn10.out | exact fun _ => Hhn10.out trivial | exact fun a _ => Hhn10.out a trivial | exact fun _ _ => Hhn10.out trivial trivial), trivial⟩
    · obtain rfl : b11 = false := by have := Hhc0.out; revert this; cases b11 <;> simp
      refine wpOp_shut rfl (fun K hK => ?_)
      go_simp
      go_wp2_with fail
      have hBa := (Below.refl wCB.heap.size wCB).alloc (Nat.le_refl _) (.cells #[.int .u32 0, .int .u32 0, .int .u32 0, .int .u32 0] 82 (0, 0))
      have hB3 := belowCat HhBw.out hBa
      exact hK.out _ _ ⟨KB.out _ hB3, kC, true, false, b10, b12, b8, _, _, _, _, _, _, by first | exact hk | decide, by kernel_rfl, rfl, Hhx5.out, Hhx6.out, Hhx7.out, Hhx8.out, hB3, (OwnV.new HhBw.out), (Hhw1.out.below hBa), (by first | exact Hhc0.out | rfl), (by first | exact Hhc1.out | rfl), (fun _ h => Hhw1.out.fresh h), (fun h _ => (Hhw1.out.fresh h).symm), trivial⟩
    · obtain rfl : b12 = false := by have := Hhc1.out; revert this; cases b12 <;> simp
      refine wpOp_shut rfl (fun K hK => ?_)
      go_simp
      go_wp2_with fail
      have hBa := (Below.refl wCB.heap.size wCB).alloc (Nat.le_refl _) (.cells #[.int .u32 0] 32 (0, 0))
      have hB3 := belowCat HhBw.out hBa
      exact hK.out _ _ ⟨KB.out _ hB3, kC, b9, b11, true, false, b8, _, _, _, _, _, _, by first | exact hk | decide, by kernel_rfl, rfl, Hhx5.out, Hhx6.out, Hhx7.out, Hhx8.out, hB3, (Hhw0.out.below hBa), (OwnV.new HhBw.out), (by first | exact Hhc0.out | rfl), (by first | exact Hhc1.out | rfl), (fun h _ => (Hhw0.out.fresh h).symm), (fun _ h => Hhw0.out.fresh h), trivial⟩
    · obtain ⟨z, rfl, hz1, hz2⟩ := Hhw0.out rfl
      obtain rfl := Hhx5.out (by decide)
      obtain rfl := Hhx6.out (by decide)
      obtain rfl := Hhx7.out (by decide)
      have c0 := cell_of_heap (i := 0) hz2 rfl
      have c1 := cell_of_heap (i := 1) hz2 rfl
      have c2 := cell_of_heap (i := 2) hz2 rfl
      have c3 := cell_of_heap (i := 3) hz2 rfl
      have g0 := frozen_of_heap (i := 0) hz2
      have g1 := frozen_of_heap (i := 1) hz2
      have g2 := frozen_of_heap (i := 2) hz2
      have g3 := frozen_of_heap (i := 3) hz2
      have HZ := hid (And.intro hz1 hz2)
      clear hz1 hz2
      refine wpOp_shut rfl (fun K hK => ?_)
      go_simp
      go_wp2_with fail
      exact hK.out _ _ ⟨KB.out _ ((((HhBw.out.setCell (p := ⟨z, 0, none⟩) HZ.out.1 _).setCell (p := ⟨z, 1, none⟩) HZ.out.1 _).setCell (p := ⟨z, 2, none⟩) HZ.out.1 _).setCell (p := ⟨z, 3, none⟩) HZ.out.1 _), 3, true, true, b10, b12, b8, _, _, _, _, _, _, by first | exact hk | decide, by kernel_rfl, rfl, fun _ => rfl, fun _ => rfl, fun _ => rfl, Hhx8.out, ((((HhBw.out.setCell (p := ⟨z, 0, none⟩) HZ.out.1 _).setCell (p := ⟨z, 1, none⟩) HZ.out.1 _).setCell (p := ⟨z, 2, none⟩) HZ.out.1 _).setCell (p := ⟨z, 3, none⟩) HZ.out.1 _), (fun _ => ⟨z, rfl, HZ.out.1, vset4 HZ.out.2⟩), (Hhw1.out.other (z := z) (fun h => by first | exact Hhn01.out rfl h | exact Hhn01.out trivial h) (off_set (off_set (off_set (off_set (fun _ _ => rfl)))))), (by first | exact Hhc0.out | rfl), (by first | exact Hhc1.out | rfl), (by first | exact Hhn01.out | exact fun _ => Hhn01.out trivial | exact fun a _ => Hhn01.out a trivial | exact fun _ _ => Hhn01.out trivial trivial), (by first | exact Hhn10.out | exact fun _ => Hhn10.out trivial | exact fun a _ => Hhn10.out a trivial | exact fun _ _ => Hhn10.out trivial trivial), trivial⟩
    · obtain ⟨z, rfl, hz1, hz2⟩ := Hhw1.out rfl
      obtain rfl := Hhx5.out (by decide)
      obtain rfl := Hhx6.out (by decide)
      obtain rfl := Hhx7.out (by decide)
      obtain rfl := Hhx8.out rfl
      have c0 := cell_of_heap (i := 0) hz2 rfl
      have g0 := frozen_of_heap (i := 0) hz2
      have HZ := hid (And.intro hz1 hz2)
      clear hz1 hz2
      refine wpOp_shut rfl (fun K hK => ?_)
      go_simp
      go_wp2_with fail
      exact hK.out _ _ ⟨KB.out _ (HhBw.out.setCell (p := ⟨z, 0, none⟩) HZ.out.1 _), 3, b9, true, true, true, true, _, _, _, _, _, _, by first | exact hk | decide, by kernel_rfl, rfl, fun _ => rfl, fun _ => rfl, fun _ => rfl, fun _ => rfl, (HhBw.out.setCell (p := ⟨z, 0, none⟩) HZ.out.1 _), (Hhw0.out.other (z := z) (fun h => by first | exact Hhn10.out rfl h | exact Hhn10.out trivial h) (off_set (fun _ _ => rfl))), (fun _ => ⟨z, rfl, HZ.out.1, vset1 HZ.out.2⟩), (by first | exact Hhc0.out | rfl), (by first | exact Hhc1.out | rfl), (by first | exact Hhn01.out | exact fun _ => Hhn01.out trivial | exact fun a _ => Hhn01.out a trivial | exact fun _ _ => Hhn01.out trivial trivial), (by first | exact Hhn10.out | exact fun _ => Hhn10.out trivial | exact fun a _ => Hhn10.out a trivial | exact fun _ _ => Hhn10.out trivial trivial), trivial⟩
    · obtain rfl := Hhx5.out (Nat.le_trans (by decide) hle)
      obtain rfl := Hhx6.out (Nat.le_trans (by decide) hle)
      refine wpOp_shut rfl (fun K hK => ?_)
      go_simp
      go_wp2_with fail
      exact hK.out _ _ ⟨KB.out _ HhBw.out, kC, b9, b11, b10, b12, true, _, _, _, _, _, _, by first | exact hk | decide, by kernel_rfl, rfl, fun _ => rfl, fun _ => rfl, Hhx7.out, fun _ => rfl, HhBw.out, Hhw0.out, Hhw1.out, (by first | exact Hhc0.out | rfl), (by first | exact Hhc1.out | rfl), (by first | exact Hhn01.out | exact fun _ => Hhn01.out trivial | exact fun a _ => Hhn01.out a trivial | exact fun _ _ => Hhn01.out trivial trivial), (by first | exact Hhn10.out | exact fun _ => Hhn10.out trivial | exact fun a _ => Hhn10.out a trivial | exact fun _ _ => Hhn10.out trivial trivial), trivial⟩
  have hall : (b9 && b11 && b10 && b12 && b8 && decide (kC = 3)) = true := by
    clear Hhx5 Hhx6 Hhx7 Hhx8 HhBw Hhw0 Hhw1 Hhc0 Hhc1 Hhn01 Hhn10
    revert b9 b11 b10 b12 b8
    revert kC
    decide +kernel
  simp only [Bool.and_eq_true, decide_eq_true_eq] at hall
  obtain ⟨⟨⟨⟨⟨rfl, rfl⟩, rfl⟩, rfl⟩, rfl⟩, rfl⟩ := hall
  obtain ⟨z0B, hpz0, hy01, hy02⟩ := Hhw0.out rfl
  subst hpz0
  have HZ0B := hid (show w3.heap.size ≤ z0B ∧ wCB.heap[z0B]? = some (.cells (usC v) 82 (0, 0)) from (by first | exact And.intro hy01 hy02 | simpa using And.intro hy01 hy02))
  clear hy01 hy02
  obtain ⟨z1B, hpz1, hy11, hy12⟩ := Hhw1.out rfl
  subst hpz1
  have HZ1B := hid (show w3.heap.size ≤ z1B ∧ wCB.heap[z1B]? = some (.cells #[.int .u32 (mk p2 : Nat)] 32 (0, 0)) from (by first | exact And.intro hy11 hy12 | simpa using And.intro hy11 hy12))
  clear hy11 hy12
  have HNE01B := hid (show z0B ≠ z1B from ptr_ne (by first | exact Hhn01.out rfl rfl | exact Hhn01.out trivial trivial | exact Hhn01.out rfl trivial | exact Hhn01.out trivial rfl))
  obtain rfl := Hhx5.out (by decide)
  obtain rfl := Hhx6.out (by decide)
  obtain rfl := Hhx7.out (by decide)
  obtain rfl := Hhx8.out rfl
  have HRB := hid HhBw.out
  clear Hhx5 Hhx6 Hhx7 Hhx8 HhBw Hhw0 Hhw1 Hhc0 Hhc1 Hhn01 Hhn10 hr hk
  (try dsimp only)
  have BB := hid (belowCat B3.out HRB.out)
  have GB := hid (bk BB.out G.out)
  have X1B := hid (bk BB.out X1.out)
  have X2B := hid (bk BB.out X2.out)
  have X8B := hid (bk HRB.out X8.out)
  have X9B := hid (bk HRB.out X9.out)
  have Y0B := hid HZ0B.out.2
  have Y1B := hid HZ1B.out.2
  have WB := hid (belowCat HB.out BB.out)
  have ZB := hid (show g < w.heap.size + 1 ∧ w.heap.size + 1 + 1 < y8 from ⟨by have := HGL.out; omega, by have := ZA.out; have := Z8.out; omega⟩)
  have ZB2 := hid (show w.heap.size + 1 + 1 < z0B from Nat.lt_of_lt_of_le (lt_of_heap (bk B3.out X2.out)) HZ0B.out.1)
  obtain ⟨e0, e1, e2, e3, e4⟩ := cell_rd GB.out
  clear G X0 X1 X2 X8 X9 HZ0B HZ1B HRB BA ZA HRA B2 B3 BB XA3 G3 KB HNE01B HBG HFL HCA HZ0A Z8 HB
  go_wp2_with fail
  refine (HZM.out _).mono ?_
  rintro e w4 ⟨rfl, hB4⟩
  have W4 := hid (belowCat WB.out hB4)
  have G4 := hid (bk hB4 GB.out)
  have X14 := hid (bk hB4 X1B.out)
  have X24 := hid (bk hB4 X2B.out)
  have X84 := hid (bk hB4 X8B.out)
  have Y04 := hid (bk hB4 Y0B.out)
  have k9 : (w4.alloc (.cells #[.int .u32 (mk f : Nat)] 32)).cell? ⟨y8 + 1, 0, none⟩ = some (.int .u32 (mk p1 : Nat)) := keepA (cell_s1 (bk hB4 X9B.out))
  have k11 : (w4.alloc (.cells #[.int .u32 (mk f : Nat)] 32)).cell? ⟨z1B, 0, none⟩ = some (.int .u32 (mk p2 : Nat)) := keepA (cell_s1 (bk hB4 Y1B.out))
  clear hB4 e0 e1 e2 e3 e4 GB X1B X2B X8B X9B Y0B Y1B WB HZM
  go_wp2_with fail
  have A4 := hid (show Below w4.heap.size w4 (w4.alloc (sb (mk f : Nat))) from (by repeat (first | exact Below.refl _ _ | refine blw_alloc ?_ | refine blw_drew ?_ | assumption)))
  have XF := hid (show (w4.alloc (sb (mk f : Nat))).heap[w4.heap.size]? = some (sb (mk f : Nat)) from heap_alloc_at _ _)
  refine (HFI.out _).mono ?_
  rintro e w5 ⟨rfl, hB5⟩
  have B5 := hid (belowCat A4.out hB5)
  have XF5 := hid (bk hB5 XF.out)
  have ZF := hid (show y8 < w4.heap.size ∧ z0B < w4.heap.size from ⟨lt_of_heap X84.out, lt_of_heap Y04.out⟩)
  clear hB5 k9 k11 A4 XF HFI
  go_wp2_with fail
  have A5 := hid (show Below w5.heap.size w5 (w5.alloc (sb (mk p3 : Nat))) from (by repeat (first | exact Below.refl _ _ | refine blw_alloc ?_ | refine blw_drew ?_ | assumption)))
  have XP := hid (show (w5.alloc (sb (mk p3 : Nat))).heap[w5.heap.size]? = some (sb (mk p3 : Nat)) from heap_alloc_at _ _)
  generalize (w5.alloc (sb (mk p3 : Nat))) = w6 at *
  have B6 := hid (belowCat B5.out A5.out)
  have XF6 := hid (bk A5.out XF5.out)
  have Z13 := hid (show w4.heap.size < w5.heap.size from lt_of_heap XF5.out)
  obtain ⟨y13, hy13⟩ : ∃ y, w5.heap.size = y := ⟨_, rfl⟩
  obtain ⟨y12, hy12⟩ : ∃ y, w4.heap.size = y := ⟨_, rfl⟩
  have G6 := hid (bk B6.out G4.out)
  have X16 := hid (bk B6.out X14.out)
  have X26 := hid (bk B6.out X24.out)
  have X86 := hid (bk B6.out X84.out)
  have Y06 := hid (bk B6.out Y04.out)
  have W6 := hid (belowCat W4.out B6.out)
  rw [hy13] at XP Z13 ⊢
  rw [hy12] at XF6 ZF Z13 ⊢
  clear hy12 hy13 B6 A5 B5 XF5 G4 X14 X24 X84 Y04 W4
  have KB := hid (show ∀ w' : World, Below w6.heap.size w6 w' → w'.cell? ⟨w.heap.size + 1, 0, none⟩ = some (.int .u32 (mk c : Nat)) ∧ w'.cell? ⟨y12, 0, none⟩ = some (.int .u32 (mk f : Nat)) ∧ (w'.cell? ⟨y8, 0, none⟩ = some (.int .u32 u.pt) ∧ w'.cell? ⟨y8, 1, none⟩ = some (.int .u32 u.mo) ∧ w'.cell? ⟨y8, 2, none⟩ = some (.int .u32 u.lo) ∧ w'.cell? ⟨y8, 3, none⟩ = some (.int .u32 u.hi)) ∧ (w'.cell? ⟨z0B, 0, none⟩ = some (.int .u32 v.pt) ∧ w'.cell? ⟨z0B, 1, none⟩ = some (.int .u32 v.mo) ∧ w'.cell? ⟨z0B, 2, none⟩ = some (.int .u32 v.lo) ∧ w'.cell? ⟨z0B, 3, none⟩ = some (.int .u32 v.hi)) from fun w' hb => ⟨cell_s1 (bk hb X16.out), cell_s1 (bk hb XF6.out), cell_us (bk hb X86.out), cell_us (bk hb Y06.out)⟩)
  go_cut [41] from 41 to 53 (fun cc wx => cc = .pointer (some ⟨g, 0, none⟩) ∧ wx.heap[g]? = some (rdO m2 q) ∧ Fr (fun i => i = g) w6 wx)
  case first =>
    have NE := hid (show w.heap.size + 1 ≠ g ∧ y12 ≠ g ∧ y8 ≠ g ∧ z0B ≠ g from by have := ZB.out; have := ZB2.out; have := ZF.out; exact ⟨by omega, by omega, by omega, by omega⟩)
    have KS := hid (show ∀ (w' : World) (a b e d : Value), ((fun w' => w'.cell? ⟨w.heap.size + 1, 0, none⟩ = some (.int .u32 (mk c : Nat)) ∧ w'.cell? ⟨y12, 0, none⟩ = some (.int .u32 (mk f : Nat)) ∧ (w'.cell? ⟨y8, 0, none⟩ = some (.int .u32 u.pt) ∧ w'.cell? ⟨y8, 1, none⟩ = some (.int .u32 u.mo) ∧ w'.cell? ⟨y8, 2, none⟩ = some (.int .u32 u.lo) ∧ w'.cell? ⟨y8, 3, none⟩ = some (.int .u32 u.hi)) ∧ (w'.cell? ⟨z0B, 0, none⟩ = some (.int .u32 v.pt) ∧ w'.cell? ⟨z0B, 1, none⟩ = some (.int .u32 v.mo) ∧ w'.cell? ⟨z0B, 2, none⟩ = some (.int .u32 v.lo) ∧ w'.cell? ⟨z0B, 3, none⟩ = some (.int .u32 v.hi)))) w' → ((fun w' => w'.cell? ⟨w.heap.size + 1, 0, none⟩ = some (.int .u32 (mk c : Nat)) ∧ w'.cell? ⟨y12, 0, none⟩ = some (.int .u32 (mk f : Nat)) ∧ (w'.cell? ⟨y8, 0, none⟩ = some (.int .u32 u.pt) ∧ w'.cell? ⟨y8, 1, none⟩ = some (.int .u32 u.mo) ∧ w'.cell? ⟨y8, 2, none⟩ = some (.int .u32 u.lo) ∧ w'.cell? ⟨y8, 3, none⟩ = some (.int .u32 u.hi)) ∧ (w'.cell? ⟨z0B, 0, none⟩ = some (.int .u32 v.pt) ∧ w'.cell? ⟨z0B, 1, none⟩ = some (.int .u32 v.mo) ∧ w'.cell? ⟨z0B, 2, none⟩ = some (.int .u32 v.lo) ∧ w'.cell? ⟨z0B, 3, none⟩ = some (.int .u32 v.hi)))) ((((w'.setCell ⟨g, 0, none⟩ a).setCell ⟨g, 1, none⟩ b).setCell ⟨g, 2, none⟩ e).setCell ⟨g, 3, none⟩ d) from fun w' a b e d h => ⟨cell_off (cell_off (cell_off (cell_off h.1 NE.out.1) NE.out.1) NE.out.1) NE.out.1, cell_off (cell_off (cell_off (cell_off h.2.1 NE.out.2.1) NE.out.2.1) NE.out.2.1) NE.out.2.1, us_set (us_set (us_set (us_set h.2.2.1 NE.out.2.2.1) NE.out.2.2.1) NE.out.2.2.1) NE.out.2.2.1, us_set (us_set (us_set (us_set h.2.2.2 NE.out.2.2.2) NE.out.2.2.2) NE.out.2.2.2) NE.out.2.2.2⟩)
    refine wp_region_held_drew (S := (fun w' => w'.cell? ⟨w.heap.size + 1, 0, none⟩ = some (.int .u32 (mk c : Nat)) ∧ w'.cell? ⟨y12, 0, none⟩ = some (.int .u32 (mk f : Nat)) ∧ (w'.cell? ⟨y8, 0, none⟩ = some (.int .u32 u.pt) ∧ w'.cell? ⟨y8, 1, none⟩ = some (.int .u32 u.mo) ∧ w'.cell? ⟨y8, 2, none⟩ = some (.int .u32 u.lo) ∧ w'.cell? ⟨y8, 3, none⟩ = some (.int .u32 u.hi)) ∧ (w'.cell? ⟨z0B, 0, none⟩ = some (.int .u32 v.pt) ∧ w'.cell? ⟨z0B, 1, none⟩ = some (.int .u32 v.mo) ∧ w'.cell? ⟨z0B, 2, none⟩ = some (.int .u32 v.lo) ∧ w'.cell? ⟨z0B, 3, none⟩ = some (.int .u32 v.hi)))) (by kernel_rfl) (KB.out _ (blw_drew (Below.refl _ _))) (fun hHeld => ?_)
    refine tk_at (i := 0) (d := some 41) (v := ?_) rfl rfl (by kernel_rfl) (by kernel_rfl) (by kernel_rfl) (fun _ _ _ h => h) (Or.inl ⟨by rfl, ?_⟩) (by assumption) ?_
    rotate_left
    · (intro w hSw; (try dsimp only at hSw); go_simp; try (with_reducible rfl))
    simp only [Act.put, List.setIfInBounds_toArray, List.set_cons_zero, List.set_cons_succ]
    refine tk_at (i := 1) (d := some 42) (v := ?_) rfl rfl (by kernel_rfl) (by kernel_rfl) (by kernel_rfl) (fun _ _ _ h => h) (Or.inl ⟨by rfl, ?_⟩) (by assumption) ?_
    rotate_left
    · (intro w hSw; (try dsimp only at hSw); go_simp; try (with_reducible rfl))
    simp only [Act.put, List.setIfInBounds_toArray, List.set_cons_zero, List.set_cons_succ]
    refine tk_at (i := 2) (d := some 43) (v := ?_) rfl rfl (by kernel_rfl) (by kernel_rfl) (by kernel_rfl) (fun _ _ _ h => h) (Or.inl ⟨by rfl, ?_⟩) (by assumption) ?_
    rotate_left
    · (intro w hSw; (try dsimp only at hSw); go_simp; try (with_reducible rfl))
    simp only [Act.put, List.setIfInBounds_toArray, List.set_cons_zero, List.set_cons_succ]
    refine tk_at (i := 3) (d := some 44) (v := ?_) rfl rfl (by kernel_rfl) (by kernel_rfl) (by kernel_rfl) (fun _ _ _ h => h) (Or.inl ⟨by rfl, ?_⟩) (by assumption) ?_
    rotate_left
    · (intro w hSw; (try dsimp only at hSw); go_simp; try (with_reducible rfl))
    simp only [Act.put, List.setIfInBounds_toArray, List.set_cons_zero, List.set_cons_succ]
    refine tk_at (i := 4) (d := some 45) (v := ?_) rfl rfl (by kernel_rfl) (by kernel_rfl) (by kernel_rfl) (fun _ _ _ h => h) (Or.inl ⟨by rfl, ?_⟩) (by assumption) ?_
    rotate_left
    · (intro w hSw; (try dsimp only at hSw); go_simp; try (with_reducible rfl))
    simp only [Act.put, List.setIfInBounds_toArray, List.set_cons_zero, List.set_cons_succ]
    refine tk_at (i := 6) (d := some 47) (v := ?_) rfl rfl (by kernel_rfl) (by kernel_rfl) (by kernel_rfl) (fun _ _ _ h => h) (Or.inl ⟨by rfl, ?_⟩) (by assumption) ?_
    rotate_left
    · (intro w hSw; (try dsimp only at hSw); go_simp; try (with_reducible rfl))
    simp only [Act.put, List.setIfInBounds_toArray, List.set_cons_zero, List.set_cons_succ]
    refine tk_at (i := 7) (d := some 48) (v := ?_) rfl rfl (by kernel_rfl) (by kernel_rfl) (by kernel_rfl) (fun _ _ _ h => h) (Or.inl ⟨by rfl, ?_⟩) (by assumption) ?_
    rotate_left
    · (intro w hSw; (try dsimp only at hSw); go_simp; try (with_reducible rfl))
    simp only [Act.put, List.setIfInBounds_toArray, List.set_cons_zero, List.set_cons_succ]
    refine tk_at (i := 8) (d := some 49) (v := ?_) rfl rfl (by kernel_rfl) (by kernel_rfl) (by kernel_rfl) (fun _ _ _ h => h) (Or.inl ⟨by rfl, ?_⟩) (by assumption) ?_
    rotate_left
    · (intro w hSw; (try dsimp only at hSw); go_simp; try (with_reducible rfl))
    simp only [Act.put, List.setIfInBounds_toArray, List.set_cons_zero, List.set_cons_succ]
    obtain ⟨d0, d1, d2, d3, d4⟩ := cell_rd (show w6.drew.heap[g]? = some (rdO s q) from G6.out)
    refine wpAnyH_ready (rs := [5, 9]) (by kernel_rfl) (by simp) ?_
    refine AllReadyH.cons rfl (fun K hK => ?_) (AllReadyH.cons rfl (fun K hK => ?_) AllReadyH.nil)
    · go_simp
      clear d0 d1 d2 d3 d4
      refine (HC1.out _).mono ?_
      rintro e w7 ⟨rfl, hBd⟩
      have B7 := hid (belowCat (blw_drew (Below.refl w6.heap.size w6)) hBd)
      clear hBd
      have G7 := hid (bk B7.out G6.out)
      obtain ⟨e0, e1, e2, e3, e4⟩ := cell_rd G7.out
      go_wp2_with fail
      refine hK.out _ _ (KB.out _ B7.out) (fun hHeld => ?_)
      clear hK K
      try simp only [Act.put, List.setIfInBounds_toArray, List.set_cons_zero, List.set_cons_succ]
      refine wpAnyH_ready (rs := [9]) (by kernel_rfl) (by simp) ?_
      refine AllReadyH.cons rfl (fun K hK => ?_) AllReadyH.nil
      go_simp
      clear e0 e1 e2 e3 e4
      go_wp2_with fail
      refine hK.out _ _ (KB.out _ B7.out) (fun hHeld => ?_)
      clear hK K
      try simp only [Act.put, List.setIfInBounds_toArray, List.set_cons_zero, List.set_cons_succ]
      refine wpAnyH_ready (rs := [10]) (by kernel_rfl) (by simp) ?_
      refine AllReadyH.cons rfl (fun K hK => ?_) AllReadyH.nil
      go_simp
      refine (HC2.out _).mono ?_
      rintro e w8 ⟨rfl, hBd⟩
      have B8 := hid (belowCat B7.out hBd)
      clear hBd
      have G8 := hid (bk B8.out G6.out)
      obtain ⟨e0, e1, e2, e3, e4⟩ := cell_rd G8.out
      have f0 := frozen_of_heap (i := 0) G8.out
      have f1 := frozen_of_heap (i := 1) G8.out
      have f2 := frozen_of_heap (i := 2) G8.out
      have f3 := frozen_of_heap (i := 3) G8.out
      go_wp2_with fail
      refine hK.out _ _ (KB.out _ B8.out) (fun hHeld => ?_)
      clear hK K
      try simp only [Act.put, List.setIfInBounds_toArray, List.set_cons_zero, List.set_cons_succ]
      refine wpAnyH_ready (rs := [11]) (by kernel_rfl) (by simp) ?_
      refine AllReadyH.cons rfl (fun K hK => ?_) AllReadyH.nil
      go_simp
      go_wp2_with fail
      refine hK.out _ _ (KB.out _ B8.out) (fun hHeld => ?_)
      clear hK K
      try simp only [Act.put, List.setIfInBounds_toArray, List.set_cons_zero, List.set_cons_succ]
      refine wpAnyH_ready (rs := [12]) (by kernel_rfl) (by simp) ?_
      refine AllReadyH.cons rfl (fun K hK => ?_) AllReadyH.nil
      go_simp
      go_wp2_with fail
      refine hK.out _ _ (KB.out _ B8.out) (fun hHeld => ?_)
      clear hK K
      try simp only [Act.put, List.setIfInBounds_toArray, List.set_cons_zero, List.set_cons_succ]
      refine wpAnyH_ready (rs := [13]) (by kernel_rfl) (by simp) ?_
      refine AllReadyH.cons rfl (fun K hK => ?_) AllReadyH.nil
      go_simp
      go_wp2_with fail
      refine hK.out _ _ (KS.out _ _ _ _ _ (KB.out _ B8.out)) (fun hHeld => ?_)
      clear hK K
      try simp only [Act.put, List.setIfInBounds_toArray, List.set_cons_zero, List.set_cons_succ]
      refine wpAnyH_done (by kernel_rfl) ?_ _
      clear hHeld
      go_wp2_with fail
      go_meet
      case rel => exact ⟨rfl, vset4r G8.out, fr_set4 (Fr.ofBelow B8.out)⟩
    · go_simp
      go_wp2_with fail
      refine hK.out _ _ (KB.out _ (blw_drew (Below.refl _ _))) (fun hHeld => ?_)
      clear hK K
      try simp only [Act.put, List.setIfInBounds_toArray, List.set_cons_zero, List.set_cons_succ]
      refine wpAnyH_ready (rs := [5]) (by kernel_rfl) (by simp) ?_
      refine AllReadyH.cons rfl (fun K hK => ?_) AllReadyH.nil
      go_simp
      clear d0 d1 d2 d3 d4
      refine (HC1.out _).mono ?_
      rintro e w7 ⟨rfl, hBd⟩
      have B7 := hid (belowCat (blw_drew (Below.refl w6.heap.size w6)) hBd)
      clear hBd
      go_wp2_with fail
      refine hK.out _ _ (KB.out _ B7.out) (fun hHeld => ?_)
      clear hK K
      try simp only [Act.put, List.setIfInBounds_toArray, List.set_cons_zero, List.set_cons_succ]
      refine wpAnyH_ready (rs := [10]) (by kernel_rfl) (by simp) ?_
      refine AllReadyH.cons rfl (fun K hK => ?_) AllReadyH.nil
      go_simp
      refine (HC2.out _).mono ?_
      rintro e w8 ⟨rfl, hBd⟩
      have B8 := hid (belowCat B7.out hBd)
      clear hBd
      have G8 := hid (bk B8.out G6.out)
      obtain ⟨e0, e1, e2, e3, e4⟩ := cell_rd G8.out
      have f0 := frozen_of_heap (i := 0) G8.out
      have f1 := frozen_of_heap (i := 1) G8.out
      have f2 := frozen_of_heap (i := 2) G8.out
      have f3 := frozen_of_heap (i := 3) G8.out
      go_wp2_with fail
      refine hK.out _ _ (KB.out _ B8.out) (fun hHeld => ?_)
      clear hK K
      try simp only [Act.put, List.setIfInBounds_toArray, List.set_cons_zero, List.set_cons_succ]
      refine wpAnyH_ready (rs := [11]) (by kernel_rfl) (by simp) ?_
      refine AllReadyH.cons rfl (fun K hK => ?_) AllReadyH.nil
      go_simp
      go_wp2_with fail
      refine hK.out _ _ (KB.out _ B8.out) (fun hHeld => ?_)
      clear hK K
      try simp only [Act.put, List.setIfInBounds_toArray, List.set_cons_zero, List.set_cons_succ]
      refine wpAnyH_ready (rs := [12]) (by kernel_rfl) (by simp) ?_
      refine AllReadyH.cons rfl (fun K hK => ?_) AllReadyH.nil
      go_simp
      go_wp2_with fail
      refine hK.out _ _ (KB.out _ B8.out) (fun hHeld => ?_)
      clear hK K
      try simp only [Act.put, List.setIfInBounds_toArray, List.set_cons_zero, List.set_cons_succ]
      refine wpAnyH_ready (rs := [13]) (by kernel_rfl) (by simp) ?_
      refine AllReadyH.cons rfl (fun K hK => ?_) AllReadyH.nil
      go_simp
      go_wp2_with fail
      refine hK.out _ _ (KS.out _ _ _ _ _ (KB.out _ B8.out)) (fun hHeld => ?_)
      clear hK K
      try simp only [Act.put, List.setIfInBounds_toArray, List.set_cons_zero, List.set_cons_succ]
      refine wpAnyH_done (by kernel_rfl) ?_ _
      clear hHeld
      go_wp2_with fail
      go_meet
      case rel => exact ⟨rfl, vset4r G8.out, fr_set4 (Fr.ofBelow B8.out)⟩
  case rest =>
    obtain ⟨rfl, hg7, hf7⟩ := hcut
    have G0 := hid hg7
    have F0 := hid hf7
    have NG0 := hid (show w.heap.size + 1 ≠ g ∧ w.heap.size + 1 + 1 ≠ g ∧ y13 ≠ g from by have := HGL.out; have := Z13.out; have := ZF.out; have := ZB.out; exact ⟨by omega, by omega, by omega⟩)
    have X1 := hid ((hf7.block _ (lt_of_heap X16.out) NG0.out.1).trans X16.out)
    have X2 := hid ((hf7.block _ (lt_of_heap X26.out) NG0.out.2.1).trans X26.out)
    have XQ := hid ((hf7.block _ (lt_of_heap XP.out) NG0.out.2.2).trans XP.out)
    clear hg7 hf7 X16 X26 XP KB G6 XF6 X86 Y06 HC1 HC2
    generalize hvv : wc = v0 at *
    clear hvv
    have HN7 := hid (fun w' => not_c p3 w')
    have HN8 := hid (fun w' => and_c c (!p3) w')
    have HN9 := hid (fun w' => or_c q (c && !p3) w')
    have KB := hid (show ∀ w' : World, Below v0.heap.size v0 w' → w'.cell? ⟨w.heap.size + 1, 0, none⟩ = some (.int .u32 (mk c : Nat)) ∧ w'.cell? ⟨y13, 0, none⟩ = some (.int .u32 (mk p3 : Nat)) from fun w' hb => ⟨cell_s1 (bk hb X1.out), cell_s1 (bk hb XQ.out)⟩)
    have KS := hid (show ∀ (w' : World) (a : Value), (fun w' => w'.cell? ⟨w.heap.size + 1, 0, none⟩ = some (.int .u32 (mk c : Nat)) ∧ w'.cell? ⟨y13, 0, none⟩ = some (.int .u32 (mk p3 : Nat))) w' → (fun w' => w'.cell? ⟨w.heap.size + 1, 0, none⟩ = some (.int .u32 (mk c : Nat)) ∧ w'.cell? ⟨y13, 0, none⟩ = some (.int .u32 (mk p3 : Nat))) (w'.setCell ⟨g, 4, none⟩ a) from fun w' a h => ⟨cell_off h.1 NG0.out.1, cell_off h.2 NG0.out.2.2⟩)
    go_wp2_with fail
    go_cut [54] from 54 to 65 (fun cc wx => cc = .pointer (some ⟨g, 0, none⟩) ∧ wx.heap[g]? = some (rdO m2 (q || (c && !p3))) ∧ Fr (fun i => i = g) v0 wx)
    case first =>
      refine wp_region_held_drew (S := (fun w' => w'.cell? ⟨w.heap.size + 1, 0, none⟩ = some (.int .u32 (mk c : Nat)) ∧ w'.cell? ⟨y13, 0, none⟩ = some (.int .u32 (mk p3 : Nat)))) (by kernel_rfl) (KB.out _ (blw_drew (Below.refl _ _))) (fun hHeld => ?_)
      refine tk_at (i := 0) (d := some 54) (v := ?_) rfl rfl (by kernel_rfl) (by kernel_rfl) (by kernel_rfl) (fun _ _ _ h => h) (Or.inl ⟨by rfl, ?_⟩) (by assumption) ?_
      rotate_left
      · (intro w hSw; (try dsimp only at hSw); go_simp; try (with_reducible rfl))
      simp only [Act.put, List.setIfInBounds_toArray, List.set_cons_zero, List.set_cons_succ]
      refine tk_at (i := 1) (d := some 55) (v := ?_) rfl rfl (by kernel_rfl) (by kernel_rfl) (by kernel_rfl) (fun _ _ _ h => h) (Or.inl ⟨by rfl, ?_⟩) (by assumption) ?_
      rotate_left
      · (intro w hSw; (try dsimp only at hSw); go_simp; try (with_reducible rfl))
      simp only [Act.put, List.setIfInBounds_toArray, List.set_cons_zero, List.set_cons_succ]
      refine tk_at (i := 2) (d := some 56) (v := ?_) rfl rfl (by kernel_rfl) (by kernel_rfl) (by kernel_rfl) (fun _ _ _ h => h) (Or.inl ⟨by rfl, ?_⟩) (by assumption) ?_
      rotate_left
      · (intro w hSw; (try dsimp only at hSw); go_simp; try (with_reducible rfl))
      simp only [Act.put, List.setIfInBounds_toArray, List.set_cons_zero, List.set_cons_succ]
      refine tk_at (i := 3) (d := some 57) (v := ?_) rfl rfl (by kernel_rfl) (by kernel_rfl) (by kernel_rfl) (fun _ _ _ h => h) (Or.inl ⟨by rfl, ?_⟩) (by assumption) ?_
      rotate_left
      · (intro w hSw; (try dsimp only at hSw); go_simp; try (with_reducible rfl))
      simp only [Act.put, List.setIfInBounds_toArray, List.set_cons_zero, List.set_cons_succ]
      refine tk_at (i := 5) (d := some 59) (v := ?_) rfl rfl (by kernel_rfl) (by kernel_rfl) (by kernel_rfl) (fun _ _ _ h => h) (Or.inl ⟨by rfl, ?_⟩) (by assumption) ?_
      rotate_left
      · (intro w hSw; (try dsimp only at hSw); go_simp; try (with_reducible rfl))
      simp only [Act.put, List.setIfInBounds_toArray, List.set_cons_zero, List.set_cons_succ]
      refine tk_at (i := 6) (d := some 60) (v := ?_) rfl rfl (by kernel_rfl) (by kernel_rfl) (by kernel_rfl) (fun _ _ _ h => h) (Or.inl ⟨by rfl, ?_⟩) (by assumption) ?_
      rotate_left
      · (intro w hSw; (try dsimp only at hSw); go_simp; try (with_reducible rfl))
      simp only [Act.put, List.setIfInBounds_toArray, List.set_cons_zero, List.set_cons_succ]
      obtain ⟨d0, d1, d2, d3, d4⟩ := cell_rd (show v0.drew.heap[g]? = some (rdO m2 q) from G0.out)
      refine wpAnyH_ready (rs := [4, 7]) (by kernel_rfl) (by simp) ?_
      refine AllReadyH.cons rfl (fun K hK => ?_) (AllReadyH.cons rfl (fun K hK => ?_) AllReadyH.nil)
      · go_simp
        go_wp2_with fail
        refine hK.out _ _ (KB.out _ (blw_drew (Below.refl _ _))) (fun hHeld => ?_)
        clear hK K
        try simp only [Act.put, List.setIfInBounds_toArray, List.set_cons_zero, List.set_cons_succ]
        clear d0 d1 d2 d3 d4
        refine wpAnyH_ready (rs := [7]) (by kernel_rfl) (by simp) ?_
        refine AllReadyH.cons rfl (fun K hK => ?_) AllReadyH.nil
        go_simp
        refine (HN7.out _).mono ?_
        rintro e q7 ⟨rfl, hBd⟩
        have Q7 := hid (belowCat (blw_drew (Below.refl v0.heap.size v0)) hBd)
        clear hBd
        go_wp2_with fail
        refine hK.out _ _ (KB.out _ Q7.out) (fun hHeld => ?_)
        clear hK K
        try simp only [Act.put, List.setIfInBounds_toArray, List.set_cons_zero, List.set_cons_succ]
        refine wpAnyH_ready (rs := [8]) (by kernel_rfl) (by simp) ?_
        refine AllReadyH.cons rfl (fun K hK => ?_) AllReadyH.nil
        go_simp
        refine (HN8.out _).mono ?_
        rintro e q8 ⟨rfl, hBd⟩
        have Q8 := hid (belowCat Q7.out hBd)
        clear hBd
        go_wp2_with fail
        refine hK.out _ _ (KB.out _ Q8.out) (fun hHeld => ?_)
        clear hK K
        try simp only [Act.put, List.setIfInBounds_toArray, List.set_cons_zero, List.set_cons_succ]
        refine wpAnyH_ready (rs := [9]) (by kernel_rfl) (by simp) ?_
        refine AllReadyH.cons rfl (fun K hK => ?_) AllReadyH.nil
        go_simp
        refine (HN9.out _).mono ?_
        rintro e q9 ⟨rfl, hBd⟩
        have Q9 := hid (belowCat Q8.out hBd)
        clear hBd
        have G9 := hid (bk Q9.out G0.out)
        obtain ⟨e0, e1, e2, e3, e4⟩ := cell_rd G9.out
        have f4 := frozen_of_heap (i := 4) G9.out
        go_wp2_with fail
        refine hK.out _ _ (KB.out _ Q9.out) (fun hHeld => ?_)
        clear hK K
        try simp only [Act.put, List.setIfInBounds_toArray, List.set_cons_zero, List.set_cons_succ]
        refine wpAnyH_ready (rs := [10]) (by kernel_rfl) (by simp) ?_
        refine AllReadyH.cons rfl (fun K hK => ?_) AllReadyH.nil
        go_simp
        go_wp2_with fail
        refine hK.out _ _ (KB.out _ Q9.out) (fun hHeld => ?_)
        clear hK K
        try simp only [Act.put, List.setIfInBounds_toArray, List.set_cons_zero, List.set_cons_succ]
        refine wpAnyH_ready (rs := [11]) (by kernel_rfl) (by simp) ?_
        refine AllReadyH.cons rfl (fun K hK => ?_) AllReadyH.nil
        go_simp
        go_wp2_with fail
        refine hK.out _ _ (KB.out _ Q9.out) (fun hHeld => ?_)
        clear hK K
        try simp only [Act.put, List.setIfInBounds_toArray, List.set_cons_zero, List.set_cons_succ]
        refine wpAnyH_ready (rs := [12]) (by kernel_rfl) (by simp) ?_
        refine AllReadyH.cons rfl (fun K hK => ?_) AllReadyH.nil
        go_simp
        go_wp2_with fail
        refine hK.out _ _ (KS.out _ _ (KB.out _ Q9.out)) (fun hHeld => ?_)
        clear hK K
        try simp only [Act.put, List.setIfInBounds_toArray, List.set_cons_zero, List.set_cons_succ]
        refine wpAnyH_done (by kernel_rfl) ?_ _
        clear hHeld
        go_wp2_with fail
        go_meet
        case rel => exact ⟨rfl, vset_5 G9.out, (Fr.ofBelow Q9.out).setCell (p := ⟨g, 4, none⟩) _ (fun _ => rfl)⟩
      · go_simp
        clear d0 d1 d2 d3 d4
        refine (HN7.out _).mono ?_
        rintro e q7 ⟨rfl, hBd⟩
        have Q7 := hid (belowCat (blw_drew (Below.refl v0.heap.size v0)) hBd)
        clear hBd
        have GL := hid (bk Q7.out G0.out)
        obtain ⟨d0, d1, d2, d3, d4⟩ := cell_rd GL.out
        go_wp2_with fail
        refine hK.out _ _ (KB.out _ Q7.out) (fun hHeld => ?_)
        clear hK K
        try simp only [Act.put, List.setIfInBounds_toArray, List.set_cons_zero, List.set_cons_succ]
        refine wpAnyH_ready (rs := [4, 8]) (by kernel_rfl) (by simp) ?_
        refine AllReadyH.cons rfl (fun K hK => ?_) (AllReadyH.cons rfl (fun K hK => ?_) AllReadyH.nil)
        · go_simp
          go_wp2_with fail
          refine hK.out _ _ (KB.out _ Q7.out) (fun hHeld => ?_)
          clear hK K
          try simp only [Act.put, List.setIfInBounds_toArray, List.set_cons_zero, List.set_cons_succ]
          clear d0 d1 d2 d3 d4
          refine wpAnyH_ready (rs := [8]) (by kernel_rfl) (by simp) ?_
          refine AllReadyH.cons rfl (fun K hK => ?_) AllReadyH.nil
          go_simp
          refine (HN8.out _).mono ?_
          rintro e q8 ⟨rfl, hBd⟩
          have Q8 := hid (belowCat Q7.out hBd)
          clear hBd
          go_wp2_with fail
          refine hK.out _ _ (KB.out _ Q8.out) (fun hHeld => ?_)
          clear hK K
          try simp only [Act.put, List.setIfInBounds_toArray, List.set_cons_zero, List.set_cons_succ]
          refine wpAnyH_ready (rs := [9]) (by kernel_rfl) (by simp) ?_
          refine AllReadyH.cons rfl (fun K hK => ?_) AllReadyH.nil
          go_simp
          refine (HN9.out _).mono ?_
          rintro e q9 ⟨rfl, hBd⟩
          have Q9 := hid (belowCat Q8.out hBd)
          clear hBd
          have G9 := hid (bk Q9.out G0.out)
          obtain ⟨e0, e1, e2, e3, e4⟩ := cell_rd G9.out
          have f4 := frozen_of_heap (i := 4) G9.out
          go_wp2_with fail
          refine hK.out _ _ (KB.out _ Q9.out) (fun hHeld => ?_)
          clear hK K
          try simp only [Act.put, List.setIfInBounds_toArray, List.set_cons_zero, List.set_cons_succ]
          refine wpAnyH_ready (rs := [10]) (by kernel_rfl) (by simp) ?_
          refine AllReadyH.cons rfl (fun K hK => ?_) AllReadyH.nil
          go_simp
          go_wp2_with fail
          refine hK.out _ _ (KB.out _ Q9.out) (fun hHeld => ?_)
          clear hK K
          try simp only [Act.put, List.setIfInBounds_toArray, List.set_cons_zero, List.set_cons_succ]
          refine wpAnyH_ready (rs := [11]) (by kernel_rfl) (by simp) ?_
          refine AllReadyH.cons rfl (fun K hK => ?_) AllReadyH.nil
          go_simp
          go_wp2_with fail
          refine hK.out _ _ (KB.out _ Q9.out) (fun hHeld => ?_)
          clear hK K
          try simp only [Act.put, List.setIfInBounds_toArray, List.set_cons_zero, List.set_cons_succ]
          refine wpAnyH_ready (rs := [12]) (by kernel_rfl) (by simp) ?_
          refine AllReadyH.cons rfl (fun K hK => ?_) AllReadyH.nil
          go_simp
          go_wp2_with fail
          refine hK.out _ _ (KS.out _ _ (KB.out _ Q9.out)) (fun hHeld => ?_)
          clear hK K
          try simp only [Act.put, List.setIfInBounds_toArray, List.set_cons_zero, List.set_cons_succ]
          refine wpAnyH_done (by kernel_rfl) ?_ _
          clear hHeld
          go_wp2_with fail
          go_meet
          case rel => exact ⟨rfl, vset_5 G9.out, (Fr.ofBelow Q9.out).setCell (p := ⟨g, 4, none⟩) _ (fun _ => rfl)⟩
        · go_simp
          clear d0 d1 d2 d3 d4
          refine (HN8.out _).mono ?_
          rintro e q8 ⟨rfl, hBd⟩
          have Q8 := hid (belowCat Q7.out hBd)
          clear hBd
          have GM := hid (bk Q8.out G0.out)
          obtain ⟨d0, d1, d2, d3, d4⟩ := cell_rd GM.out
          go_wp2_with fail
          refine hK.out _ _ (KB.out _ Q8.out) (fun hHeld => ?_)
          clear hK K
          try simp only [Act.put, List.setIfInBounds_toArray, List.set_cons_zero, List.set_cons_succ]
          refine wpAnyH_ready (rs := [4]) (by kernel_rfl) (by simp) ?_
          refine AllReadyH.cons rfl (fun K hK => ?_) AllReadyH.nil
          go_simp
          go_wp2_with fail
          refine hK.out _ _ (KB.out _ Q8.out) (fun hHeld => ?_)
          clear hK K
          try simp only [Act.put, List.setIfInBounds_toArray, List.set_cons_zero, List.set_cons_succ]
          clear d0 d1 d2 d3 d4
          refine wpAnyH_ready (rs := [9]) (by kernel_rfl) (by simp) ?_
          refine AllReadyH.cons rfl (fun K hK => ?_) AllReadyH.nil
          go_simp
          refine (HN9.out _).mono ?_
          rintro e q9 ⟨rfl, hBd⟩
          have Q9 := hid (belowCat Q8.out hBd)
          clear hBd
          have G9 := hid (bk Q9.out G0.out)
          obtain ⟨e0, e1, e2, e3, e4⟩ := cell_rd G9.out
          have f4 := frozen_of_heap (i := 4) G9.out
          go_wp2_with fail
          refine hK.out _ _ (KB.out _ Q9.out) (fun hHeld => ?_)
          clear hK K
          try simp only [Act.put, List.setIfInBounds_toArray, List.set_cons_zero, List.set_cons_succ]
          refine wpAnyH_ready (rs := [10]) (by kernel_rfl) (by simp) ?_
          refine AllReadyH.cons rfl (fun K hK => ?_) AllReadyH.nil
          go_simp
          go_wp2_with fail
          refine hK.out _ _ (KB.out _ Q9.out) (fun hHeld => ?_)
          clear hK K
          try simp only [Act.put, List.setIfInBounds_toArray, List.set_cons_zero, List.set_cons_succ]
          refine wpAnyH_ready (rs := [11]) (by kernel_rfl) (by simp) ?_
          refine AllReadyH.cons rfl (fun K hK => ?_) AllReadyH.nil
          go_simp
          go_wp2_with fail
          refine hK.out _ _ (KB.out _ Q9.out) (fun hHeld => ?_)
          clear hK K
          try simp only [Act.put, List.setIfInBounds_toArray, List.set_cons_zero, List.set_cons_succ]
          refine wpAnyH_ready (rs := [12]) (by kernel_rfl) (by simp) ?_
          refine AllReadyH.cons rfl (fun K hK => ?_) AllReadyH.nil
          go_simp
          go_wp2_with fail
          refine hK.out _ _ (KS.out _ _ (KB.out _ Q9.out)) (fun hHeld => ?_)
          clear hK K
          try simp only [Act.put, List.setIfInBounds_toArray, List.set_cons_zero, List.set_cons_succ]
          refine wpAnyH_done (by kernel_rfl) ?_ _
          clear hHeld
          go_wp2_with fail
          go_meet
          case rel => exact ⟨rfl, vset_5 G9.out, (Fr.ofBelow Q9.out).setCell (p := ⟨g, 4, none⟩) _ (fun _ => rfl)⟩
    case rest =>
      obtain ⟨rfl, hg8, hf8⟩ := hcut
      have G1 := hid hg8
      have F1 := hid (F0.out.trans hf8 (fun _ _ h => h))
      have X18 := hid ((hf8.block _ (lt_of_heap X1.out) NG0.out.1).trans X1.out)
      have X28 := hid ((hf8.block _ (lt_of_heap X2.out) NG0.out.2.1).trans X2.out)
      clear hg8 hf8 X1 X2 XQ KB KS G0 F0 HN7 HN8 HN9
      generalize hvv : wc = v0 at *
      clear hvv
      have X2 := hid X28.out
      have NG := hid NG0.out.2.1.symm
      have HND := hid (fun w' => and_c c (m2.mo == 0) w')
      have KB := hid (show ∀ w' : World, Below v0.heap.size v0 w' → w'.cell? ⟨w.heap.size + 1, 0, none⟩ = some (.int .u32 (mk c : Nat)) ∧ (w'.cell? ⟨g, 0, none⟩ = some (.int .u32 m2.pt) ∧ w'.cell? ⟨g, 1, none⟩ = some (.int .u32 m2.mo) ∧ w'.cell? ⟨g, 2, none⟩ = some (.int .u32 m2.lo) ∧ w'.cell? ⟨g, 3, none⟩ = some (.int .u32 m2.hi) ∧ w'.cell? ⟨g, 4, none⟩ = some (.int .u32 (mk (q || (c && !p3)) : Nat))) from fun w' hb => ⟨cell_s1 (bk hb X18.out), cell_rd (bk hb G1.out)⟩)
      go_wp2_with fail
      refine wp_region_held_drew (S := (fun w' => w'.cell? ⟨w.heap.size + 1, 0, none⟩ = some (.int .u32 (mk c : Nat)) ∧ (w'.cell? ⟨g, 0, none⟩ = some (.int .u32 m2.pt) ∧ w'.cell? ⟨g, 1, none⟩ = some (.int .u32 m2.mo) ∧ w'.cell? ⟨g, 2, none⟩ = some (.int .u32 m2.lo) ∧ w'.cell? ⟨g, 3, none⟩ = some (.int .u32 m2.hi) ∧ w'.cell? ⟨g, 4, none⟩ = some (.int .u32 (mk (q || (c && !p3)) : Nat))))) (by kernel_rfl) (KB.out _ (blw_drew (Below.refl _ _))) (fun hHeld => ?_)
      refine tk_at (i := 0) (d := some 66) (v := ?_) rfl rfl (by kernel_rfl) (by kernel_rfl) (by kernel_rfl) (fun _ _ _ h => h) (Or.inl ⟨by rfl, ?_⟩) (by assumption) ?_
      rotate_left
      · (intro w hSw; (try dsimp only at hSw); go_simp; try (with_reducible rfl))
      simp only [Act.put, List.setIfInBounds_toArray, List.set_cons_zero, List.set_cons_succ]
      refine tk_at (i := 1) (d := some 67) (v := ?_) rfl rfl (by kernel_rfl) (by kernel_rfl) (by kernel_rfl) (fun _ _ _ h => h) (Or.inl ⟨by rfl, ?_⟩) (by assumption) ?_
      rotate_left
      · (intro w hSw; (try dsimp only at hSw); go_simp; try (with_reducible rfl))
      simp only [Act.put, List.setIfInBounds_toArray, List.set_cons_zero, List.set_cons_succ]
      refine tk_at (i := 2) (d := some 68) (v := ?_) rfl rfl (by kernel_rfl) (by kernel_rfl) (by kernel_rfl) (fun _ _ _ h => h) (Or.inl ⟨by rfl, ?_⟩) (by assumption) ?_
      rotate_left
      · (intro w hSw; (try dsimp only at hSw); go_simp; try (with_reducible rfl))
      simp only [Act.put, List.setIfInBounds_toArray, List.set_cons_zero, List.set_cons_succ]
      refine tk_at (i := 3) (d := some 69) (v := ?_) rfl rfl (by kernel_rfl) (by kernel_rfl) (by kernel_rfl) (fun _ _ _ h => h) (Or.inl ⟨by rfl, ?_⟩) (by assumption) ?_
      rotate_left
      · (intro w hSw; (try dsimp only at hSw); go_simp; try (with_reducible rfl))
      simp only [Act.put, List.setIfInBounds_toArray, List.set_cons_zero, List.set_cons_succ]
      refine tk_at (i := 4) (d := some 70) (v := ?_) rfl rfl (by kernel_rfl) (by kernel_rfl) (by kernel_rfl) (fun _ _ _ h => h) (Or.inl ⟨by rfl, ?_⟩) (by assumption) ?_
      rotate_left
      · (intro w hSw; (try dsimp only at hSw); go_simp; try (with_reducible rfl))
      simp only [Act.put, List.setIfInBounds_toArray, List.set_cons_zero, List.set_cons_succ]
      refine tk_at (i := 5) (d := some 71) (v := ?_) rfl rfl (by kernel_rfl) (by kernel_rfl) (by kernel_rfl) (fun _ _ _ h => h) (Or.inl ⟨by rfl, ?_⟩) (by assumption) ?_
      rotate_left
      · (intro w hSw; (try dsimp only at hSw); go_simp; try (with_reducible rfl))
      simp only [Act.put, List.setIfInBounds_toArray, List.set_cons_zero, List.set_cons_succ]
      refine wpAnyH_ready (rs := [6]) (by kernel_rfl) (by simp) ?_
      refine AllReadyH.cons rfl (fun K hK => ?_) AllReadyH.nil
      go_simp
      refine (HZ2.out _).mono ?_
      rintro e q6 ⟨rfl, hBd⟩
      have Q6 := hid (belowCat (blw_drew (Below.refl v0.heap.size v0)) hBd)
      clear hBd
      go_wp2_with fail
      refine hK.out _ _ (KB.out _ Q6.out) (fun hHeld => ?_)
      clear hK K
      try simp only [Act.put, List.setIfInBounds_toArray, List.set_cons_zero, List.set_cons_succ]
      refine wpAnyH_ready (rs := [7]) (by kernel_rfl) (by simp) ?_
      refine AllReadyH.cons rfl (fun K hK => ?_) AllReadyH.nil
      go_simp
      refine (HND.out _).mono ?_
      rintro e q7 ⟨rfl, hBd⟩
      have Q7 := hid (belowCat Q6.out hBd)
      clear hBd
      have HQ := hid (bk Q7.out X2.out)
      have hq1 := cell_s1 HQ.out
      have hq2 := frozen_of_heap (i := 0) HQ.out
      go_wp2_with fail
      refine hK.out _ _ (KB.out _ Q7.out) (fun hHeld => ?_)
      clear hK K
      try simp only [Act.put, List.setIfInBounds_toArray, List.set_cons_zero, List.set_cons_succ]
      refine wpAnyH_ready (rs := [8]) (by kernel_rfl) (by simp) ?_
      refine AllReadyH.cons rfl (fun K hK => ?_) AllReadyH.nil
      go_simp
      go_wp2_with fail
      refine hK.out _ _ (⟨cell_off (KB.out _ Q7.out).1 (by show w.heap.size + 1 ≠ w.heap.size + 1 + 1; omega), cell_off (KB.out _ Q7.out).2.1 NG.out, cell_off (KB.out _ Q7.out).2.2.1 NG.out, cell_off (KB.out _ Q7.out).2.2.2.1 NG.out, cell_off (KB.out _ Q7.out).2.2.2.2.1 NG.out, cell_off (KB.out _ Q7.out).2.2.2.2.2 NG.out⟩) (fun hHeld => ?_)
      clear hK K
      try simp only [Act.put, List.setIfInBounds_toArray, List.set_cons_zero, List.set_cons_succ]
      refine wpAnyH_done (by kernel_rfl) ?_ _
      clear hHeld
      clear hq1 hq2
      have GZ := hid (bk Q7.out G1.out)
      have FZ := hid (F1.out.trans (Fr.ofBelow (S := fun i => i = g) Q7.out) (fun _ _ h => h))
      have hb9 := heap_setCell_at _ _ 0 _ _ _ (.int .u32 (mk (c && (m2.mo == 0)) : Nat)) HQ.out
      have d0 := cell_of_heap (i := 0) hb9 rfl
      go_wp2
      exact bodyPost_ret (v := sec (mk (c && (m2.mo == 0)) : Nat)) (by simp only [results, Tryd.results45]; simp [go_sem, d0]) rfl ⟨rfl, (Below.heap_setCell _ _ _ _ NG.out).trans GZ.out, ((Fr.ofBelow (S := fun i => i = g) W6.out).trans FZ.out (fun _ _ h => h)).setCell (p := ⟨w.heap.size + 1 + 1, 0, none⟩) _ (fun h => by have h : w.heap.size + 1 + 1 < w.heap.size := h; omega)⟩
end Go.Proofs.YtjcnkigadlmpgaaDoor
