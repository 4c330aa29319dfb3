/- The contract of package utf's begin, over this seat's translation. Conditions: the words' bounds; the variable leads holds what the program's text lays there. -/
import Derived.Test.YtjcnkigadlmpgaaDoorUfB
import Derived.Deep.WholeRow
namespace Go.Proofs.YtjcnkigadlmpgaaDoor
open Go.RowKit
set_option linter.unusedVariables false

def ldC (d : Ld) : List Value := [.int .u32 d.a, .int .u32 d.z, .int .u32 d.m, .int .u32 d.o, .int .u32 d.l, .int .u32 d.h]
def leadsL : List Value := lds.flatMap ldC
/-- the variable leads as the program's text lays it -/
def Lv (w : World) : Prop := ∀ i (h : i < leadsL.length), w.cell? ⟨1, i, none⟩ = some leadsL[i]
theorem Lv.below {w w' : World} (t : Lv w) (h : Below w.heap.size w w') : Lv w' := fun i hi => cell_later h (t i hi)
theorem leads_len : leadsL.length = 54 := by decide
theorem Lv.load {w : World} (t : Lv w) : (loadCells ⟨1, 0, none⟩ 54).run Tryd.prog w = .ok leadsL.toArray w := by
  have := run_loadCells_list (P := Tryd.prog) (w := w) ⟨1, 0, none⟩ leadsL (fun j v hj => by
    have hadd : (⟨1, 0, none⟩ : Addr).add j = ⟨1, j, none⟩ := by unfold Addr.add; split <;> simp_all
    rw [hadd]
    obtain ⟨h, e⟩ := List.getElem?_eq_some_iff.1 hj
    rw [t j h, e])
  rwa [leads_len] at this
theorem Lv.vr {w : World} (t : Lv w) : (loadVar 119 ⟨1, 0, none⟩).run Tryd.prog w = .ok (.agg leadsL.toArray) w := by
  have h1 : (isAgg 119).run Tryd.prog w = .ok true w := Tryd.isAgg119 w
  have h2 : (sizeOf 119).run Tryd.prog w = .ok 54 w := Tryd.sizeOf119 w
  have h3 := t.load
  simp only [loadVar, Sem.run_bind, h1, h2, h3, Result.andThen, if_true, Sem.run_pure]
theorem Lv.ld {w : World} (t : Lv w) (v0 : Int) : (loadVar 119 ⟨1, 0, none⟩).run Tryd.prog (((w.alloc (.cells #[.int .u32 v0] 32)).alloc (.cells #[.int .u32 0, .int .u32 0, .int .u32 0, .int .u32 0] 82)).alloc (.cells #[.int .u32 0] 32)) = .ok (.agg leadsL.toArray) (((w.alloc (.cells #[.int .u32 v0] 32)).alloc (.cells #[.int .u32 0, .int .u32 0, .int .u32 0, .int .u32 0] 82)).alloc (.cells #[.int .u32 0] 32)) :=
  (((t.below ((Below.refl _ _).alloc (Nat.le_refl _) _)).below ((Below.refl _ _).alloc (Nat.le_refl _) _)).below ((Below.refl _ _).alloc (Nat.le_refl _) _)).vr
theorem Lv.la {w : World} (t : Lv w) (v0 : Int) : (Instr.loadAt 119 (.pointer (some ⟨1, 0, none⟩))).run Tryd.prog (((w.alloc (.cells #[.int .u32 v0] 32)).alloc (.cells #[.int .u32 0, .int .u32 0, .int .u32 0, .int .u32 0] 82)).alloc (.cells #[.int .u32 0] 32)) = .ok (.agg leadsL.toArray) (((w.alloc (.cells #[.int .u32 v0] 32)).alloc (.cells #[.int .u32 0, .int .u32 0, .int .u32 0, .int .u32 0] 82)).alloc (.cells #[.int .u32 0] 32)) := by
  simp only [Instr.loadAt, Instr.sureAddr, Sem.run_bind, Sem.run_pure, Result.andThen]
  exact t.ld v0

theorem ld_lt : ∀ k, k < 9 → (ldA k).a < 256 ∧ (ldA k).z < 256 ∧ (ldA k).m < 256 ∧ (ldA k).o < 256 ∧ (ldA k).l < 256 ∧ (ldA k).h < 256 := by decide +kernel
theorem or_c (a b : Bool) (w : World) : Calls Tryd.prog 69 #[sec (mk a : Nat), sec (mk b : Nat)] w fun e w' => e = .returned (sec (mk (a || b) : Nat)) ∧ Below w.heap.size w w' :=
  (or_b (mk a) (mk b) w (mk_lt a) (mk_lt b)).mono fun e w' ⟨he, hB⟩ => ⟨by rw [he]; cases a <;> cases b <;> rfl, hB⟩
theorem bgK_ok (b : Nat) (hb : b < 256) (k : Nat) : (bgK b k).1.ok := by
  induction k with
  | zero => exact us_okay (by decide) (by decide) (by decide) (by decide)
  | succ k ih =>
    refine cho_ok ?_ ih
    have hl : k < 9 ∨ 9 ≤ k := by omega
    rcases hl with h | h
    · obtain ⟨l1, l2, l3, l4, l5, l6⟩ := ld_lt k h
      exact us_okay (andW_lt (by omega)) (by omega) (by omega) (by omega)
    · have : ldA k = ld 0 0 0 0 0 0 := by unfold ldA; rw [List.getD_eq_getElem?_getD, List.getElem?_eq_none (show lds.length ≤ k from h)]; rfl
      rw [this]
      exact us_okay (andW_lt (by omega)) (by decide) (by decide) (by decide)
theorem leads_part (k : Nat) (hk : k < 9) : List.take 6 (List.drop (k * 6) leadsL) = ldC (ldA k) := by
  have : k = 0 ∨ k = 1 ∨ k = 2 ∨ k = 3 ∨ k = 4 ∨ k = 5 ∨ k = 6 ∨ k = 7 ∨ k = 8 := by omega
  rcases this with rfl | rfl | rfl | rfl | rfl | rfl | rfl | rfl | rfl <;> rfl
theorem run_lead (k : Nat) (w : World) (hk : k < 9) : (Instr.index 119 (.agg leadsL.toArray) (.int .i64 (k : Int))).run Tryd.prog w = .ok (.agg #[.int .u32 (ldA k).a, .int .u32 (ldA k).z, .int .u32 (ldA k).m, .int .u32 (ldA k).o, .int .u32 (ldA k).l, .int .u32 (ldA k).h]) w := by
  have h0 : 0 ≤ (k : Int) ∧ (k : Int) < 9 := by omega
  have h1 := leads_part k hk
  simp [Instr.index, run_underlying Tryd.underlying119, asIntOf, h0, part, Tryd.isAgg118, Tryd.sizeOf118, h1, Result.andThen, hk, ldC]

set_option maxHeartbeats 3200000 in
set_option maxRecDepth 100000 in
theorem begin_any (b : Nat) (w : World) (hb : b < 256) (t : Lv w) :
    Calls Tryd.prog 64 #[sec b] w fun e w' => e = .returned (.tuple #[usV (bgK b 9).1, sec (mk (bgK b 9).2 : Nat)]) ∧ Below w.heap.size w w' := by
  have HLA := hid (t.la (b : Int))
  go_enter Tryd.func64, Tryd.ntmps64
  iterate 19 go_step
  simp only [Oper.wp, execOp, Sem.run_bind]
  erw [HLA.out]
  simp only [Result.andThen, Sem.run_pure, Oper.upon_value, Act.put, List.setIfInBounds_toArray, List.set_cons_zero, List.set_cons_succ]
  have H0 := hid (show (((w.alloc (sb b)).alloc (usO us00)).alloc (sb 0)).heap[w.heap.size]? = some (sb b) from (by simp only [hp_get, World.size_alloc]; repeat (first | rw [if_pos trivial] | rw [if_pos rfl] | rw [if_neg (by omega)])))
  have H1 := hid (show (((w.alloc (sb b)).alloc (usO us00)).alloc (sb 0)).heap[w.heap.size + 1]? = some (usO us00) from (by simp only [hp_get, World.size_alloc]; repeat (first | rw [if_pos trivial] | rw [if_pos rfl] | rw [if_neg (by omega)])))
  have H2 := hid (show (((w.alloc (sb b)).alloc (usO us00)).alloc (sb 0)).heap[w.heap.size + 1 + 1]? = some (sb 0) from (by simp only [hp_get, World.size_alloc]; repeat (first | rw [if_pos trivial] | rw [if_pos rfl] | rw [if_neg (by omega)])))
  have HB := hid (show Below w.heap.size w (((w.alloc (sb b)).alloc (usO us00)).alloc (sb 0)) from (by repeat (first | exact Below.refl _ _ | refine blw_alloc ?_ | refine blw_drew ?_ | assumption)))
  rw [show (Obj.cells #[.int .u32 0, .int .u32 0, .int .u32 0, .int .u32 0] 82) = usO us00 from rfl]
  generalize (((w.alloc (sb b)).alloc (usO us00)).alloc (sb 0)) = w1 at *
  go_wp2_with fail
  clear HLA t
  go_loopw [9] (fun c wr => ∃ k : Nat, k ≤ 9 ∧ c = .int .i64 (k : Int) ∧ Below w.heap.size w wr ∧ wr.heap[w.heap.size]? = some (sb b) ∧ wr.heap[w.heap.size + 1]? = some (usO (bgK b k).1) ∧ wr.heap[w.heap.size + 1 + 1]? = some (sb (mk (bgK b k).2 : Nat))) (fun c _ => 9 - (intOf c).toNat)
  case atStart => exact ⟨0, by decide, rfl, HB.out, H0.out, H1.out, H2.out⟩
  case round =>
    obtain ⟨k, hk, rfl, hB, h0, h1, h2⟩ := hrel
    by_cases hlt : k < 9
    · have HBR := hid hB
      have HH := hid (And.intro h0 (And.intro h1 h2))
      have hlt' : (k : Int) < 9 := by omega
      have hix := run_lead k wr hlt
      obtain ⟨l1, l2, l3, l4, l5, l6⟩ := ld_lt k hlt
      have HBG := hid (show bgK b (k + 1) = (cho (btw b (ldA k).a (ldA k).z) ((ldA k).st b) (bgK b k).1, (bgK b k).2 || btw b (ldA k).a (ldA k).z) from rfl)
      obtain ⟨d, hd⟩ : ∃ d, ldA k = d := ⟨_, rfl⟩
      rw [hd] at hix l1 l2 l3 l4 l5 l6 HBG
      clear hd
      obtain ⟨s, hs⟩ : ∃ s, (bgK b k).1 = s := ⟨_, rfl⟩
      obtain ⟨q, hq⟩ : ∃ q, (bgK b k).2 = q := ⟨_, rfl⟩
      have hsk : s.ok := hs ▸ bgK_ok b hb k
      rw [hs, hq] at HH HBG
      have HLE := hid (And.intro l1 (And.intro l2 (And.intro l3 (And.intro l4 (And.intro l5 l6)))))
      have HSK := hid hsk
      clear hs hq l1 l2 l3 l4 l5 l6 hsk
      go_wp2_with fail
      have G0 := hid ((heap_alloc_old wr (.cells #[.int .u32 d.a, .int .u32 d.z, .int .u32 d.m, .int .u32 d.o, .int .u32 d.l, .int .u32 d.h] 118) _ (lt_of_heap HH.out.1)).trans HH.out.1)
      have G1 := hid ((heap_alloc_old wr (.cells #[.int .u32 d.a, .int .u32 d.z, .int .u32 d.m, .int .u32 d.o, .int .u32 d.l, .int .u32 d.h] 118) _ (lt_of_heap HH.out.2.1)).trans HH.out.2.1)
      have G2 := hid ((heap_alloc_old wr (.cells #[.int .u32 d.a, .int .u32 d.z, .int .u32 d.m, .int .u32 d.o, .int .u32 d.l, .int .u32 d.h] 118) _ (lt_of_heap HH.out.2.2)).trans HH.out.2.2)
      have G3 := hid (heap_alloc_at wr (.cells #[.int .u32 d.a, .int .u32 d.z, .int .u32 d.m, .int .u32 d.o, .int .u32 d.l, .int .u32 d.h] 118))
      have GB := hid (belowCat HBR.out ((Below.refl wr.heap.size wr).alloc (Nat.le_refl _) (.cells #[.int .u32 d.a, .int .u32 d.z, .int .u32 d.m, .int .u32 d.o, .int .u32 d.l, .int .u32 d.h] 118)))
      have GY := hid (show w.heap.size + 1 + 1 < wr.heap.size from lt_of_heap HH.out.2.2)
      clear HBR HH hix
      generalize wr.alloc (.cells #[.int .u32 d.a, .int .u32 d.z, .int .u32 d.m, .int .u32 d.o, .int .u32 d.l, .int .u32 d.h] 118) = W at *
      obtain ⟨y, hy⟩ : ∃ y, wr.heap.size = y := ⟨_, rfl⟩
      rw [hy] at G3 GY ⊢
      clear hy
      have HC1 := hid (fun w => between_any b d.a d.z w (by omega) (by have := HLE.out.1; omega) (by have := HLE.out.2.1; omega))
      have HC2 := hid (fun w => and_b b d.m w (by omega) (by have := HLE.out.2.2.1; omega))
      obtain ⟨c, hc⟩ : ∃ c, btw b d.a d.z = c := ⟨_, rfl⟩
      obtain ⟨n2, hn2⟩ : ∃ x, andW b d.m = x := ⟨_, rfl⟩
      have HST := hid (show d.st b = us n2 d.o d.l d.h by unfold Ld.st; rw [hn2])
      have HN2 := hid (show n2 < 4294967296 from hn2 ▸ andW_lt (by omega))
      rw [HST.out, hc] at HBG
      rw [hc] at HC1
      rw [hn2] at HC2
      clear hc hn2 HST
      have KB := hid (show ∀ w' : World, Below W.heap.size W w' → w'.cell? ⟨w.heap.size, 0, none⟩ = some (.int .u32 (b : Int)) ∧ (w'.cell? ⟨y, 0, none⟩ = some (.int .u32 d.a) ∧ w'.cell? ⟨y, 1, none⟩ = some (.int .u32 d.z) ∧ w'.cell? ⟨y, 2, none⟩ = some (.int .u32 d.m) ∧ w'.cell? ⟨y, 3, none⟩ = some (.int .u32 d.o) ∧ w'.cell? ⟨y, 4, none⟩ = some (.int .u32 d.l) ∧ w'.cell? ⟨y, 5, none⟩ = some (.int .u32 d.h)) from fun w' hb =>
        have h3 := (hb.block _ (lt_of_heap G3.out)).trans G3.out
        ⟨cell_s1 ((hb.block _ (lt_of_heap G0.out)).trans G0.out), cell_of_heap h3 rfl, cell_of_heap h3 rfl, cell_of_heap h3 rfl, cell_of_heap h3 rfl, cell_of_heap h3 rfl, cell_of_heap h3 rfl⟩)
      refine wp_region_held_drew (S := (fun w' => w'.cell? ⟨w.heap.size, 0, none⟩ = some (.int .u32 (b : Int)) ∧ (w'.cell? ⟨y, 0, none⟩ = some (.int .u32 d.a) ∧ w'.cell? ⟨y, 1, none⟩ = some (.int .u32 d.z) ∧ w'.cell? ⟨y, 2, none⟩ = some (.int .u32 d.m) ∧ w'.cell? ⟨y, 3, none⟩ = some (.int .u32 d.o) ∧ w'.cell? ⟨y, 4, none⟩ = some (.int .u32 d.l) ∧ w'.cell? ⟨y, 5, none⟩ = some (.int .u32 d.h)))) (by kernel_rfl) (KB.out _ (blw_drew (Below.refl _ _))) (fun hHeld => ?_)
      refine tk_at (i := 0) (d := some 12) (v := ?_) rfl rfl (by kernel_rfl) (by kernel_rfl) (by kernel_rfl) (fun _ _ _ h => h) (Or.inl ⟨by rfl, ?_⟩) (by assumption) ?_
      rotate_left
      · (intro w hSw; (try dsimp only at hSw); go_simp; try (with_reducible rfl))
      simp only [Act.put, List.setIfInBounds_toArray, List.set_cons_zero, List.set_cons_succ]
      refine tk_at (i := 1) (d := some 13) (v := ?_) rfl rfl (by kernel_rfl) (by kernel_rfl) (by kernel_rfl) (fun _ _ _ h => h) (Or.inl ⟨by rfl, ?_⟩) (by assumption) ?_
      rotate_left
      · (intro w hSw; (try dsimp only at hSw); go_simp; try (with_reducible rfl))
      simp only [Act.put, List.setIfInBounds_toArray, List.set_cons_zero, List.set_cons_succ]
      refine tk_at (i := 2) (d := some 14) (v := ?_) rfl rfl (by kernel_rfl) (by kernel_rfl) (by kernel_rfl) (fun _ _ _ h => h) (Or.inl ⟨by rfl, ?_⟩) (by assumption) ?_
      rotate_left
      · (intro w hSw; (try dsimp only at hSw); go_simp; try (with_reducible rfl))
      simp only [Act.put, List.setIfInBounds_toArray, List.set_cons_zero, List.set_cons_succ]
      refine tk_at (i := 4) (d := some 16) (v := ?_) rfl rfl (by kernel_rfl) (by kernel_rfl) (by kernel_rfl) (fun _ _ _ h => h) (Or.inl ⟨by rfl, ?_⟩) (by assumption) ?_
      rotate_left
      · (intro w hSw; (try dsimp only at hSw); go_simp; try (with_reducible rfl))
      simp only [Act.put, List.setIfInBounds_toArray, List.set_cons_zero, List.set_cons_succ]
      refine tk_at (i := 5) (d := some 17) (v := ?_) rfl rfl (by kernel_rfl) (by kernel_rfl) (by kernel_rfl) (fun _ _ _ h => h) (Or.inl ⟨by rfl, ?_⟩) (by assumption) ?_
      rotate_left
      · (intro w hSw; (try dsimp only at hSw); go_simp; try (with_reducible rfl))
      simp only [Act.put, List.setIfInBounds_toArray, List.set_cons_zero, List.set_cons_succ]
      clear hHeld
      refine wpAnyH_inv0 (fun aC0 lsC aC wCA => ∃ (kC : Nat) (b8 b9 : Bool) (pv0 x3 x6 x7 : Value), kC < 4 ∧ lsC = #[true, true, true, decide (1 ≤ kC), true, true, decide (2 ≤ kC), decide (3 ≤ kC), b8, b9] ∧ aC = { aC0 with tmps := ((((aC0.tmps.setIfInBounds 15 x3).setIfInBounds 18 x6).setIfInBounds 19 x7).setIfInBounds 6 pv0) } ∧ (1 ≤ kC → x3 = sec (d.a : Nat)) ∧ (2 ≤ kC → x6 = sec (d.z : Nat)) ∧ (3 ≤ kC → x7 = sec (mk c : Nat)) ∧ Below W.heap.size W wCA ∧ OwnV W wCA b8 b9 pv0 #[.int .u32 0] #[.int .u32 (mk c : Nat)] 32 ∧ (b8 || !b9) = true ∧ True) ?_ _ _ _ (by decide +kernel) (fun aS => ⟨0, false, false, aS.tmps.getD 6 undef, aS.tmps.getD 15 undef, aS.tmps.getD 18 undef, aS.tmps.getD 19 undef, by decide, by kernel_rfl, by simp only [set_self], fun h => absurd h (by decide), fun h => absurd h (by decide), fun h => absurd h (by decide), blw_drew (Below.refl _ _), OwnV.non, rfl, trivial⟩)
      intro lsC aC wCA ⟨kC, b8, b9, pv0, x3, x6, x7, hk, hl, ha, hx3, hx6, hx7, hBw, hw0, hc0, _⟩
      subst hl ha
      have Hhx3 := hid hx3
      have Hhx6 := hid hx6
      have Hhx7 := hid hx7
      have HhBw := hid hBw
      have Hhw0 := hid hw0
      have Hhc0 := hid hc0
      clear hx3 hx6 hx7 hBw hw0 hc0
      simp only [List.setIfInBounds_toArray, List.set_cons_zero, List.set_cons_succ]
      refine ⟨fun hr => ?_, fun i hi => ?_⟩
      rotate_left
      · have hcase : (i = 3 ∧ kC = 0) ∨ (i = 6 ∧ kC = 1) ∨ (i = 7 ∧ kC = 2) ∨ (i = 8 ∧ b8 = false) ∨ (i = 9 ∧ b9 = false ∧ b8 = true ∧ kC = 3) := by
          refine of_decide_eq_true ((List.all_eq_true (p := fun i => decide ((i = 3 ∧ kC = 0) ∨ (i = 6 ∧ kC = 1) ∨ (i = 7 ∧ kC = 2) ∨ (i = 8 ∧ b8 = false) ∨ (i = 9 ∧ b9 = false ∧ b8 = true ∧ kC = 3)))).1 ?_ i hi)
          clear Hhx3 Hhx6 Hhx7 HhBw Hhw0 Hhc0 hi
          revert b8 b9
          revert kC
          decide +kernel
        clear hi
        rcases hcase with ⟨rfl, rfl⟩ | ⟨rfl, rfl⟩ | ⟨rfl, rfl⟩ | ⟨rfl, rfl⟩ | ⟨rfl, rfl, rfl, rfl⟩
        · refine wpOp_shut rfl (fun K hK => ?_)
          go_simp
          refine (of_b _ _).mono ?_
          rintro e wa ⟨rfl, hBa⟩
          have HBa := hid hBa
          clear hBa
          go_wp2_with fail
          have hB3 := belowCat HhBw.out HBa.out
          exact hK.out _ _ ⟨KB.out _ hB3, 1, b8, b9, _, _, _, _, by first | exact hk | decide, by kernel_rfl, rfl, fun _ => rfl, fun h => absurd h (by decide), fun h => absurd h (by decide), hB3, (Hhw0.out.below HBa.out), (by first | exact Hhc0.out | rfl), trivial⟩
        · obtain rfl := Hhx3.out (by decide)
          refine wpOp_shut rfl (fun K hK => ?_)
          go_simp
          refine (of_b _ _).mono ?_
          rintro e wa ⟨rfl, hBa⟩
          have HBa := hid hBa
          clear hBa
          go_wp2_with fail
          have hB3 := belowCat HhBw.out HBa.out
          exact hK.out _ _ ⟨KB.out _ hB3, 2, b8, b9, _, _, _, _, by first | exact hk | decide, by kernel_rfl, rfl, fun _ => rfl, fun _ => rfl, fun h => absurd h (by decide), hB3, (Hhw0.out.below HBa.out), (by first | exact Hhc0.out | rfl), trivial⟩
        · obtain rfl := Hhx3.out (by decide)
          obtain rfl := Hhx6.out (by decide)
          refine wpOp_shut rfl (fun K hK => ?_)
          go_simp
          refine (HC1.out _).mono ?_
          rintro e wa ⟨rfl, hBa⟩
          have HBa := hid hBa
          clear hBa
          go_wp2_with fail
          have hB3 := belowCat HhBw.out HBa.out
          exact hK.out _ _ ⟨KB.out _ hB3, 3, b8, b9, _, _, _, _, by first | exact hk | decide, by kernel_rfl, rfl, fun _ => rfl, fun _ => rfl, fun _ => rfl, hB3, (Hhw0.out.below HBa.out), (by first | exact Hhc0.out | rfl), trivial⟩
        · obtain rfl : b9 = false := by have := Hhc0.out; revert this; cases b9 <;> simp
          refine wpOp_shut rfl (fun K hK => ?_)
          go_simp
          go_wp2_with fail
          have hBa := (Below.refl wCA.heap.size wCA).alloc (Nat.le_refl _) (.cells #[.int .u32 0] 32 (0, 0))
          have hB3 := belowCat HhBw.out hBa
          exact hK.out _ _ ⟨KB.out _ hB3, kC, true, false, _, _, _, _, by first | exact hk | decide, by kernel_rfl, rfl, Hhx3.out, Hhx6.out, Hhx7.out, hB3, (OwnV.new HhBw.out), (by first | exact Hhc0.out | rfl), trivial⟩
        · obtain ⟨z, rfl, hz1, hz2⟩ := Hhw0.out rfl
          obtain rfl := Hhx3.out (by decide)
          obtain rfl := Hhx6.out (by decide)
          obtain rfl := Hhx7.out (by decide)
          have c0 := cell_of_heap (i := 0) hz2 rfl
          have g0 := frozen_of_heap (i := 0) hz2
          have HZ := hid (And.intro hz1 hz2)
          clear hz1 hz2
          refine wpOp_shut rfl (fun K hK => ?_)
          go_simp
          go_wp2_with fail
          exact hK.out _ _ ⟨KB.out _ (HhBw.out.setCell (p := ⟨z, 0, none⟩) HZ.out.1 _), 3, true, true, _, _, _, _, by first | exact hk | decide, by kernel_rfl, rfl, fun _ => rfl, fun _ => rfl, fun _ => rfl, (HhBw.out.setCell (p := ⟨z, 0, none⟩) HZ.out.1 _), (fun _ => ⟨z, rfl, HZ.out.1, vset1 HZ.out.2⟩), (by first | exact Hhc0.out | rfl), trivial⟩
      have hall : (b8 && b9 && decide (kC = 3)) = true := by
        clear Hhx3 Hhx6 Hhx7 HhBw Hhw0 Hhc0
        revert b8 b9
        revert kC
        decide +kernel
      simp only [Bool.and_eq_true, decide_eq_true_eq] at hall
      obtain ⟨⟨rfl, rfl⟩, rfl⟩ := hall
      obtain ⟨z0A, hpz0, hy01, hy02⟩ := Hhw0.out rfl
      subst hpz0
      have HZ0A := hid (show W.heap.size ≤ z0A ∧ wCA.heap[z0A]? = some (.cells #[.int .u32 (mk c : Nat)] 32 (0, 0)) from (by first | exact And.intro hy01 hy02 | simpa using And.intro hy01 hy02))
      clear hy01 hy02
      obtain rfl := Hhx3.out (by decide)
      obtain rfl := Hhx6.out (by decide)
      obtain rfl := Hhx7.out (by decide)
      have HRA := hid HhBw.out
      clear Hhx3 Hhx6 Hhx7 HhBw Hhw0 Hhc0 hr hk
      (try dsimp only)
      have KC := hid (fun (w' : World) (hb : Below wCA.heap.size wCA w') => KB.out w' (belowCat HRA.out hb))
      go_wp2_with fail
      refine wp_region_held_drew (S := (fun w' => w'.cell? ⟨w.heap.size, 0, none⟩ = some (.int .u32 (b : Int)) ∧ (w'.cell? ⟨y, 0, none⟩ = some (.int .u32 d.a) ∧ w'.cell? ⟨y, 1, none⟩ = some (.int .u32 d.z) ∧ w'.cell? ⟨y, 2, none⟩ = some (.int .u32 d.m) ∧ w'.cell? ⟨y, 3, none⟩ = some (.int .u32 d.o) ∧ w'.cell? ⟨y, 4, none⟩ = some (.int .u32 d.l) ∧ w'.cell? ⟨y, 5, none⟩ = some (.int .u32 d.h)))) (by kernel_rfl) (KC.out _ (blw_drew (Below.refl _ _))) (fun hHeld => ?_)
      refine tk_at (i := 0) (d := some 20) (v := ?_) rfl rfl (by kernel_rfl) (by kernel_rfl) (by kernel_rfl) (fun _ _ _ h => h) (Or.inl ⟨by rfl, ?_⟩) (by assumption) ?_
      rotate_left
      · (intro w hSw; (try dsimp only at hSw); go_simp; try (with_reducible rfl))
      simp only [Act.put, List.setIfInBounds_toArray, List.set_cons_zero, List.set_cons_succ]
      refine tk_at (i := 1) (d := some 21) (v := ?_) rfl rfl (by kernel_rfl) (by kernel_rfl) (by kernel_rfl) (fun _ _ _ h => h) (Or.inl ⟨by rfl, ?_⟩) (by assumption) ?_
      rotate_left
      · (intro w hSw; (try dsimp only at hSw); go_simp; try (with_reducible rfl))
      simp only [Act.put, List.setIfInBounds_toArray, List.set_cons_zero, List.set_cons_succ]
      refine tk_at (i := 2) (d := some 22) (v := ?_) rfl rfl (by kernel_rfl) (by kernel_rfl) (by kernel_rfl) (fun _ _ _ h => h) (Or.inl ⟨by rfl, ?_⟩) (by assumption) ?_
      rotate_left
      · (intro w hSw; (try dsimp only at hSw); go_simp; try (with_reducible rfl))
      simp only [Act.put, List.setIfInBounds_toArray, List.set_cons_zero, List.set_cons_succ]
      refine tk_at (i := 5) (d := some 25) (v := ?_) rfl rfl (by kernel_rfl) (by kernel_rfl) (by kernel_rfl) (fun _ _ _ h => h) (Or.inl ⟨by rfl, ?_⟩) (by assumption) ?_
      rotate_left
      · (intro w hSw; (try dsimp only at hSw); go_simp; try (with_reducible rfl))
      simp only [Act.put, List.setIfInBounds_toArray, List.set_cons_zero, List.set_cons_succ]
      refine tk_at (i := 6) (d := some 26) (v := ?_) rfl rfl (by kernel_rfl) (by kernel_rfl) (by kernel_rfl) (fun _ _ _ h => h) (Or.inl ⟨by rfl, ?_⟩) (by assumption) ?_
      rotate_left
      · (intro w hSw; (try dsimp only at hSw); go_simp; try (with_reducible rfl))
      simp only [Act.put, List.setIfInBounds_toArray, List.set_cons_zero, List.set_cons_succ]
      refine tk_at (i := 8) (d := some 28) (v := ?_) rfl rfl (by kernel_rfl) (by kernel_rfl) (by kernel_rfl) (fun _ _ _ h => h) (Or.inl ⟨by rfl, ?_⟩) (by assumption) ?_
      rotate_left
      · (intro w hSw; (try dsimp only at hSw); go_simp; try (with_reducible rfl))
      simp only [Act.put, List.setIfInBounds_toArray, List.set_cons_zero, List.set_cons_succ]
      refine tk_at (i := 9) (d := some 29) (v := ?_) rfl rfl (by kernel_rfl) (by kernel_rfl) (by kernel_rfl) (fun _ _ _ h => h) (Or.inl ⟨by rfl, ?_⟩) (by assumption) ?_
      rotate_left
      · (intro w hSw; (try dsimp only at hSw); go_simp; try (with_reducible rfl))
      simp only [Act.put, List.setIfInBounds_toArray, List.set_cons_zero, List.set_cons_succ]
      refine tk_at (i := 11) (d := some 31) (v := ?_) rfl rfl (by kernel_rfl) (by kernel_rfl) (by kernel_rfl) (fun _ _ _ h => h) (Or.inl ⟨by rfl, ?_⟩) (by assumption) ?_
      rotate_left
      · (intro w hSw; (try dsimp only at hSw); go_simp; try (with_reducible rfl))
      simp only [Act.put, List.setIfInBounds_toArray, List.set_cons_zero, List.set_cons_succ]
      refine tk_at (i := 12) (d := some 32) (v := ?_) rfl rfl (by kernel_rfl) (by kernel_rfl) (by kernel_rfl) (fun _ _ _ h => h) (Or.inl ⟨by rfl, ?_⟩) (by assumption) ?_
      rotate_left
      · (intro w hSw; (try dsimp only at hSw); go_simp; try (with_reducible rfl))
      simp only [Act.put, List.setIfInBounds_toArray, List.set_cons_zero, List.set_cons_succ]
      clear hHeld
      refine wpAnyH_inv0 (fun aC0 lsC aC wCB => ∃ (kC : Nat) (b15 b16 : Bool) (pv0 x3 x4 x7 x10 x13 x14 : Value), kC < 7 ∧ lsC = #[true, true, true, decide (1 ≤ kC), decide (2 ≤ kC), true, true, decide (3 ≤ kC), true, true, decide (4 ≤ kC), true, true, decide (5 ≤ kC), decide (6 ≤ kC), b15, b16] ∧ aC = { aC0 with tmps := (((((((aC0.tmps.setIfInBounds 23 x3).setIfInBounds 24 x4).setIfInBounds 27 x7).setIfInBounds 30 x10).setIfInBounds 33 x13).setIfInBounds 34 x14).setIfInBounds 7 pv0) } ∧ (1 ≤ kC → x3 = sec (d.m : Nat)) ∧ (2 ≤ kC → x4 = sec (n2 : Nat)) ∧ (3 ≤ kC → x7 = sec (d.o : Nat)) ∧ (4 ≤ kC → x10 = sec (d.l : Nat)) ∧ (5 ≤ kC → x13 = sec (d.h : Nat)) ∧ (6 ≤ kC → x14 = usV (us n2 d.o d.l d.h)) ∧ Below wCA.heap.size wCA wCB ∧ OwnV wCA wCB b15 b16 pv0 #[.int .u32 0, .int .u32 0, .int .u32 0, .int .u32 0] (usC (us n2 d.o d.l d.h)) 82 ∧ (b15 || !b16) = true ∧ True) ?_ _ _ _ (by decide +kernel) (fun aS => ⟨0, false, false, aS.tmps.getD 7 undef, aS.tmps.getD 23 undef, aS.tmps.getD 24 undef, aS.tmps.getD 27 undef, aS.tmps.getD 30 undef, aS.tmps.getD 33 undef, aS.tmps.getD 34 undef, by decide, by kernel_rfl, by simp only [set_self], fun h => absurd h (by decide), fun h => absurd h (by decide), fun h => absurd h (by decide), fun h => absurd h (by decide), fun h => absurd h (by decide), fun h => absurd h (by decide), blw_drew (Below.refl _ _), OwnV.non, rfl, trivial⟩)
      intro lsC aC wCB ⟨kC, b15, b16, pv0, x3, x4, x7, x10, x13, x14, hk, hl, ha, hx3, hx4, hx7, hx10, hx13, hx14, hBw, hw0, hc0, _⟩
      subst hl ha
      have Hhx3 := hid hx3
      have Hhx4 := hid hx4
      have Hhx7 := hid hx7
      have Hhx10 := hid hx10
      have Hhx13 := hid hx13
      have Hhx14 := hid hx14
      have HhBw := hid hBw
      have Hhw0 := hid hw0
      have Hhc0 := hid hc0
      clear hx3 hx4 hx7 hx10 hx13 hx14 hBw hw0 hc0
      simp only [List.setIfInBounds_toArray, List.set_cons_zero, List.set_cons_succ]
      refine ⟨fun hr => ?_, fun i hi => ?_⟩
      rotate_left
      · have hcase : (i = 3 ∧ kC = 0) ∨ (i = 4 ∧ kC = 1) ∨ (i = 7 ∧ kC = 2) ∨ (i = 10 ∧ kC = 3) ∨ (i = 13 ∧ kC = 4) ∨ (i = 14 ∧ kC = 5) ∨ (i = 15 ∧ b15 = false) ∨ (i = 16 ∧ b16 = false ∧ b15 = true ∧ kC = 6) := by
          refine of_decide_eq_true ((List.all_eq_true (p := fun i => decide ((i = 3 ∧ kC = 0) ∨ (i = 4 ∧ kC = 1) ∨ (i = 7 ∧ kC = 2) ∨ (i = 10 ∧ kC = 3) ∨ (i = 13 ∧ kC = 4) ∨ (i = 14 ∧ kC = 5) ∨ (i = 15 ∧ b15 = false) ∨ (i = 16 ∧ b16 = false ∧ b15 = true ∧ kC = 6)))).1 ?_ i hi)
          clear Hhx3 Hhx4 Hhx7 Hhx10 Hhx13 Hhx14 HhBw Hhw0 Hhc0 hi
          revert b15 b16
          revert kC
          decide +kernel
        clear hi
        rcases hcase with ⟨rfl, rfl⟩ | ⟨rfl, rfl⟩ | ⟨rfl, rfl⟩ | ⟨rfl, rfl⟩ | ⟨rfl, rfl⟩ | ⟨rfl, rfl⟩ | ⟨rfl, rfl⟩ | ⟨rfl, rfl, rfl, rfl⟩
        · refine wpOp_shut rfl (fun K hK => ?_)
          go_simp
          refine (of_b _ _).mono ?_
          rintro e wa ⟨rfl, hBa⟩
          have HBa := hid hBa
          clear hBa
          go_wp2_with fail
          have hB3 := belowCat HhBw.out HBa.out
          exact hK.out _ _ ⟨KC.out _ hB3, 1, b15, b16, _, _, _, _, _, _, _, by first | exact hk | decide, by kernel_rfl, rfl, fun _ => rfl, fun h => absurd h (by decide), fun h => absurd h (by decide), fun h => absurd h (by decide), fun h => absurd h (by decide), fun h => absurd h (by decide), hB3, (Hhw0.out.below HBa.out), (by first | exact Hhc0.out | rfl), trivial⟩
        · obtain rfl := Hhx3.out (by decide)
          refine wpOp_shut rfl (fun K hK => ?_)
          go_simp
          refine (HC2.out _).mono ?_
          rintro e wa ⟨rfl, hBa⟩
          have HBa := hid hBa
          clear hBa
          go_wp2_with fail
          have hB3 := belowCat HhBw.out HBa.out
          exact hK.out _ _ ⟨KC.out _ hB3, 2, b15, b16, _, _, _, _, _, _, _, by first | exact hk | decide, by kernel_rfl, rfl, fun _ => rfl, fun _ => rfl, fun h => absurd h (by decide), fun h => absurd h (by decide), fun h => absurd h (by decide), fun h => absurd h (by decide), hB3, (Hhw0.out.below HBa.out), (by first | exact Hhc0.out | rfl), trivial⟩
        · obtain rfl := Hhx3.out (by decide)
          obtain rfl := Hhx4.out (by decide)
          refine wpOp_shut rfl (fun K hK => ?_)
          go_simp
          refine (of_b _ _).mono ?_
          rintro e wa ⟨rfl, hBa⟩
          have HBa := hid hBa
          clear hBa
          go_wp2_with fail
          have hB3 := belowCat HhBw.out HBa.out
          exact hK.out _ _ ⟨KC.out _ hB3, 3, b15, b16, _, _, _, _, _, _, _, by first | exact hk | decide, by kernel_rfl, rfl, fun _ => rfl, fun _ => rfl, fun _ => rfl, fun h => absurd h (by decide), fun h => absurd h (by decide), fun h => absurd h (by decide), hB3, (Hhw0.out.below HBa.out), (by first | exact Hhc0.out | rfl), trivial⟩
        · obtain rfl := Hhx3.out (by decide)
          obtain rfl := Hhx4.out (by decide)
          obtain rfl := Hhx7.out (by decide)
          refine wpOp_shut rfl (fun K hK => ?_)
          go_simp
          refine (of_b _ _).mono ?_
          rintro e wa ⟨rfl, hBa⟩
          have HBa := hid hBa
          clear hBa
          go_wp2_with fail
          have hB3 := belowCat HhBw.out HBa.out
          exact hK.out _ _ ⟨KC.out _ hB3, 4, b15, b16, _, _, _, _, _, _, _, by first | exact hk | decide, by kernel_rfl, rfl, fun _ => rfl, fun _ => rfl, fun _ => rfl, fun _ => rfl, fun h => absurd h (by decide), fun h => absurd h (by decide), hB3, (Hhw0.out.below HBa.out), (by first | exact Hhc0.out | rfl), trivial⟩
        · obtain rfl := Hhx3.out (by decide)
          obtain rfl := Hhx4.out (by decide)
          obtain rfl := Hhx7.out (by decide)
          obtain rfl := Hhx10.out (by decide)
          refine wpOp_shut rfl (fun K hK => ?_)
          go_simp
          refine (of_b _ _).mono ?_
          rintro e wa ⟨rfl, hBa⟩
          have HBa := hid hBa
          clear hBa
          go_wp2_with fail
          have hB3 := belowCat HhBw.out HBa.out
          exact hK.out _ _ ⟨KC.out _ hB3, 5, b15, b16, _, _, _, _, _, _, _, by first | exact hk | decide, by kernel_rfl, rfl, fun _ => rfl, fun _ => rfl, fun _ => rfl, fun _ => rfl, fun _ => rfl, fun h => absurd h (by decide), hB3, (Hhw0.out.below HBa.out), (by first | exact Hhc0.out | rfl), trivial⟩
        · obtain rfl := Hhx3.out (by decide)
          obtain rfl := Hhx4.out (by decide)
          obtain rfl := Hhx7.out (by decide)
          obtain rfl := Hhx10.out (by decide)
          obtain rfl := Hhx13.out (by decide)
          refine wpOp_shut rfl (fun K hK => ?_)
          go_simp
          go_wp2_with fail
          exact hK.out _ _ ⟨KC.out _ HhBw.out, 6, b15, b16, _, _, _, _, _, _, _, by first | exact hk | decide, by kernel_rfl, rfl, fun _ => rfl, fun _ => rfl, fun _ => rfl, fun _ => rfl, fun _ => rfl, fun _ => rfl, HhBw.out, Hhw0.out, (by first | exact Hhc0.out | rfl), trivial⟩
        · obtain rfl : b16 = false := by have := Hhc0.out; revert this; cases b16 <;> simp
          refine wpOp_shut rfl (fun K hK => ?_)
          go_simp
          go_wp2_with fail
          have hBa := (Below.refl wCB.heap.size wCB).alloc (Nat.le_refl _) (.cells #[.int .u32 0, .int .u32 0, .int .u32 0, .int .u32 0] 82 (0, 0))
          have hB3 := belowCat HhBw.out hBa
          exact hK.out _ _ ⟨KC.out _ hB3, kC, true, false, _, _, _, _, _, _, _, by first | exact hk | decide, by kernel_rfl, rfl, Hhx3.out, Hhx4.out, Hhx7.out, Hhx10.out, Hhx13.out, Hhx14.out, hB3, (OwnV.new HhBw.out), (by first | exact Hhc0.out | rfl), trivial⟩
        · obtain ⟨z, rfl, hz1, hz2⟩ := Hhw0.out rfl
          obtain rfl := Hhx3.out (by decide)
          obtain rfl := Hhx4.out (by decide)
          obtain rfl := Hhx7.out (by decide)
          obtain rfl := Hhx10.out (by decide)
          obtain rfl := Hhx13.out (by decide)
          obtain rfl := Hhx14.out (by decide)
          have c0 := cell_of_heap (i := 0) hz2 rfl
          have c1 := cell_of_heap (i := 1) hz2 rfl
          have c2 := cell_of_heap (i := 2) hz2 rfl
          have c3 := cell_of_heap (i := 3) hz2 rfl
          have g0 := frozen_of_heap (i := 0) hz2
          have g1 := frozen_of_heap (i := 1) hz2
          have g2 := frozen_of_heap (i := 2) hz2
          have g3 := frozen_of_heap (i := 3) hz2
          have HZ := hid (And.intro hz1 hz2)
          clear hz1 hz2
          refine wpOp_shut rfl (fun K hK => ?_)
          go_simp
          go_wp2_with fail
          exact hK.out _ _ ⟨KC.out _ ((((HhBw.out.setCell (p := ⟨z, 0, none⟩) HZ.out.1 _).setCell (p := ⟨z, 1, none⟩) HZ.out.1 _).setCell (p := ⟨z, 2, none⟩) HZ.out.1 _).setCell (p := ⟨z, 3, none⟩) HZ.out.1 _), 6, true, true, _, _, _, _, _, _, _, by first | exact hk | decide, by kernel_rfl, rfl, fun _ => rfl, fun _ => rfl, fun _ => rfl, fun _ => rfl, fun _ => rfl, fun _ => rfl, ((((HhBw.out.setCell (p := ⟨z, 0, none⟩) HZ.out.1 _).setCell (p := ⟨z, 1, none⟩) HZ.out.1 _).setCell (p := ⟨z, 2, none⟩) HZ.out.1 _).setCell (p := ⟨z, 3, none⟩) HZ.out.1 _), (fun _ => ⟨z, rfl, HZ.out.1, vset4 HZ.out.2⟩), (by first | exact Hhc0.out | rfl), trivial⟩
      have hall : (b15 && b16 && decide (kC = 6)) = true := by
        clear Hhx3 Hhx4 Hhx7 Hhx10 Hhx13 Hhx14 HhBw Hhw0 Hhc0
        revert b15 b16
        revert kC
        decide +kernel
      simp only [Bool.and_eq_true, decide_eq_true_eq] at hall
      obtain ⟨⟨rfl, rfl⟩, rfl⟩ := hall
      obtain ⟨z0B, hpz0, hy01, hy02⟩ := Hhw0.out rfl
      subst hpz0
      have HZ0B := hid (show wCA.heap.size ≤ z0B ∧ wCB.heap[z0B]? = some (.cells (usC (us n2 d.o d.l d.h)) 82 (0, 0)) from (by first | exact And.intro hy01 hy02 | simpa using And.intro hy01 hy02))
      clear hy01 hy02
      obtain rfl := Hhx3.out (by decide)
      obtain rfl := Hhx4.out (by decide)
      obtain rfl := Hhx7.out (by decide)
      obtain rfl := Hhx10.out (by decide)
      obtain rfl := Hhx13.out (by decide)
      obtain rfl := Hhx14.out (by decide)
      have HRB := hid HhBw.out
      clear Hhx3 Hhx4 Hhx7 Hhx10 Hhx13 Hhx14 HhBw Hhw0 Hhc0 hr hk
      (try dsimp only)
      have HOR := hid (fun w => or_c q c w)
      have HBW := hid (show Below W.heap.size W wCB from belowCat HRA.out HRB.out)
      have M0 := hid ((HBW.out.block _ (lt_of_heap G0.out)).trans G0.out)
      have M1 := hid ((HBW.out.block _ (lt_of_heap G1.out)).trans G1.out)
      have M2 := hid ((HBW.out.block _ (lt_of_heap G2.out)).trans G2.out)
      have MA := hid ((HRB.out.block _ (lt_of_heap HZ0A.out.2)).trans HZ0A.out.2)
      have MB := hid HZ0B.out.2
      have MZ := hid (show w.heap.size + 1 ≠ z0A ∧ w.heap.size + 1 + 1 ≠ z0A from by
        have h1 := HZ0A.out.1
        have h2 := lt_of_heap G2.out
        exact ⟨by omega, by omega⟩)
      have MW := hid (show Below w.heap.size w wCB from belowCat GB.out HBW.out)
      have HCH := hid (fun w' => choose_any c (us n2 d.o d.l d.h) s w' (us_okay HN2.out (by have := HLE.out; omega) (by have := HLE.out; omega) (by have := HLE.out; omega)) HSK.out)
      obtain ⟨r, hr⟩ : ∃ r, cho c (us n2 d.o d.l d.h) s = r := ⟨_, rfl⟩
      rw [hr] at HCH HBG
      clear hr KB KC HRA HRB HZ0A HZ0B HBW GB G0 G1 G2 G3 HC1 HC2
      have e0 := cell_s1 MA.out
      obtain ⟨e1, e2, e3, e4⟩ := cell_us MB.out
      obtain ⟨e5, e6, e7, e8⟩ := cell_us M1.out
      go_wp2_with fail
      refine (HCH.out _).mono ?_
      rintro e w6 ⟨rfl, hB6⟩
      have B6 := hid (belowCat MW.out hB6)
      have N0 := hid ((hB6.block _ (lt_of_heap M0.out)).trans M0.out)
      have N1 := hid ((hB6.block _ (lt_of_heap M1.out)).trans M1.out)
      have N2 := hid ((hB6.block _ (lt_of_heap M2.out)).trans M2.out)
      have NA := hid ((hB6.block _ (lt_of_heap MA.out)).trans MA.out)
      clear hB6 e0 e1 e2 e3 e4 e5 e6 e7 e8 M0 M1 M2 MA MB
      obtain ⟨e5, e6, e7, e8⟩ := cell_us N1.out
      have f0 := frozen_of_heap (i := 0) N1.out
      have f1 := frozen_of_heap (i := 1) N1.out
      have f2 := frozen_of_heap (i := 2) N1.out
      have f3 := frozen_of_heap (i := 3) N1.out
      have U1 := hid (vset4 (a := .int .u32 r.pt) (b := .int .u32 r.mo) (c := .int .u32 r.lo) (d := .int .u32 r.hi) N1.out)
      have U0 := hid (vset4_off (a := .int .u32 r.pt) (b := .int .u32 r.mo) (c := .int .u32 r.lo) (d := .int .u32 r.hi) N0.out (show w.heap.size ≠ w.heap.size + 1 by omega))
      have U2 := hid (vset4_off (a := .int .u32 r.pt) (b := .int .u32 r.mo) (c := .int .u32 r.lo) (d := .int .u32 r.hi) N2.out (show w.heap.size + 1 + 1 ≠ w.heap.size + 1 by omega))
      have UA := hid (vset4_off (a := .int .u32 r.pt) (b := .int .u32 r.mo) (c := .int .u32 r.lo) (d := .int .u32 r.hi) NA.out MZ.out.1.symm)
      have UB := hid (below_set4 (a := .int .u32 r.pt) (b := .int .u32 r.mo) (c := .int .u32 r.lo) (d := .int .u32 r.hi) B6.out (show w.heap.size ≤ w.heap.size + 1 by omega))
      have k2 := cell_s1 U2.out
      have kA := cell_s1 UA.out
      go_wp2_with fail
      clear e5 e6 e7 e8 f0 f1 f2 f3
      generalize ((((w6.setCell ⟨w.heap.size + 1, 0, none⟩ (.int .u32 r.pt)).setCell ⟨w.heap.size + 1, 1, none⟩ (.int .u32 r.mo)).setCell ⟨w.heap.size + 1, 2, none⟩ (.int .u32 r.lo)).setCell ⟨w.heap.size + 1, 3, none⟩ (.int .u32 r.hi)) = w7 at *
      refine (HOR.out _).mono ?_
      rintro e w8 ⟨rfl, hB8⟩
      have V0 := hid ((hB8.block _ (lt_of_heap U0.out)).trans U0.out)
      have V1 := hid ((hB8.block _ (lt_of_heap U1.out)).trans U1.out)
      have V2 := hid ((hB8.block _ (lt_of_heap U2.out)).trans U2.out)
      have VB := hid (belowCat UB.out hB8)
      clear hB8 k2 kA
      have k2 := cell_s1 V2.out
      have f2 := frozen_of_heap (i := 0) V2.out
      go_wp2
      go_roundw
      case rel => exact ⟨k + 1, by omega, by go_num, VB.out.setCell (by show w.heap.size ≤ w.heap.size + 1 + 1; omega) _, (Below.heap_setCell _ _ _ _ (by show w.heap.size ≠ w.heap.size + 1 + 1; omega)).trans V0.out, by rw [HBG.out]; exact (Below.heap_setCell _ _ _ _ (by show w.heap.size + 1 ≠ w.heap.size + 1 + 1; omega)).trans V1.out, by rw [HBG.out]; exact heap_setCell_at _ _ 0 _ _ _ _ V2.out⟩
      case measure => simp [intOf]; omega
    · have hk9 : k = 9 := by omega
      subst hk9
      have HBR := hid hB
      have HH := hid (And.intro h0 (And.intro h1 h2))
      obtain ⟨e5, e6, e7, e8⟩ := cell_us HH.out.2.1
      have k2 := cell_s1 HH.out.2.2
      clear hB h0 h1 h2 H0 H1 H2 HB
      have f0 := frozen_of_heap (i := 0) HH.out.2.1
      have f1 := frozen_of_heap (i := 1) HH.out.2.1
      have f2 := frozen_of_heap (i := 2) HH.out.2.1
      have f3 := frozen_of_heap (i := 3) HH.out.2.1
      have f4 := frozen_of_heap (i := 0) HH.out.2.2
      obtain ⟨s, hs⟩ : ∃ s, (bgK b 9).1 = s := ⟨_, rfl⟩
      obtain ⟨q, hq⟩ : ∃ q, mk (bgK b 9).2 = q := ⟨_, rfl⟩
      have HSE := hid hs
      have HQE := hid hq
      rw [hs] at HH e5 e6 e7 e8
      rw [hq] at HH k2
      clear hs hq
      go_wp2_with fail
      go_region
      have hb8 := vset4 (a := .int .u32 s.pt) (b := .int .u32 s.mo) (c := .int .u32 s.lo) (d := .int .u32 s.hi) HH.out.2.1
      have hb9 : ((((((wr.setCell ⟨w.heap.size + 1, 0, none⟩ (.int .u32 s.pt)).setCell ⟨w.heap.size + 1, 1, none⟩ (.int .u32 s.mo)).setCell ⟨w.heap.size + 1, 2, none⟩ (.int .u32 s.lo)).setCell ⟨w.heap.size + 1, 3, none⟩ (.int .u32 s.hi)).setCell ⟨w.heap.size + 1 + 1, 0, none⟩ (.int .u32 (q : Int))).drew).heap[w.heap.size + 1]? = some (usO s) := (Below.heap_setCell _ _ _ _ (show w.heap.size + 1 ≠ w.heap.size + 1 + 1 by omega)).trans hb8
      have hb10 : ((((((wr.setCell ⟨w.heap.size + 1, 0, none⟩ (.int .u32 s.pt)).setCell ⟨w.heap.size + 1, 1, none⟩ (.int .u32 s.mo)).setCell ⟨w.heap.size + 1, 2, none⟩ (.int .u32 s.lo)).setCell ⟨w.heap.size + 1, 3, none⟩ (.int .u32 s.hi)).setCell ⟨w.heap.size + 1 + 1, 0, none⟩ (.int .u32 (q : Int))).drew).heap[w.heap.size + 1 + 1]? = some (sb q) := heap_setCell_at _ _ 0 _ _ _ (.int .u32 (q : Int)) (vset4_off (a := .int .u32 s.pt) (b := .int .u32 s.mo) (c := .int .u32 s.lo) (d := .int .u32 s.hi) HH.out.2.2 (show w.heap.size + 1 + 1 ≠ w.heap.size + 1 by omega))
      have HBE := hid (blw_drew ((below_set4 (a := .int .u32 s.pt) (b := .int .u32 s.mo) (c := .int .u32 s.lo) (d := .int .u32 s.hi) HBR.out (show w.heap.size ≤ w.heap.size + 1 by omega)).setCell (show w.heap.size ≤ w.heap.size + 1 + 1 by omega) (.int .u32 (q : Int)) (p := ⟨w.heap.size + 1 + 1, 0, none⟩)))
      clear e5 e6 e7 e8 k2 f0 f1 f2 f3 f4
      generalize (((((wr.setCell ⟨w.heap.size + 1, 0, none⟩ (.int .u32 s.pt)).setCell ⟨w.heap.size + 1, 1, none⟩ (.int .u32 s.mo)).setCell ⟨w.heap.size + 1, 2, none⟩ (.int .u32 s.lo)).setCell ⟨w.heap.size + 1, 3, none⟩ (.int .u32 s.hi)).setCell ⟨w.heap.size + 1 + 1, 0, none⟩ (.int .u32 (q : Int))).drew = w9 at *
      go_wp2
      obtain ⟨d0, d1, d2, d3⟩ := cell_us (s := s) hb9
      have d4 := cell_of_heap (i := 0) hb10 rfl
      exact bodyPost_ret (v := .tuple #[usV s, sec (q : Int)]) (by simp only [results, Tryd.results64]; simp [go_sem, d0, d1, d2, d3, d4]) rfl ⟨by rw [HSE.out, HQE.out], HBE.out⟩
end Go.Proofs.YtjcnkigadlmpgaaDoor
