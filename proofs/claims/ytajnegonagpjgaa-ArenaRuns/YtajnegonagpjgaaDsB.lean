/- 'does' at acts of kind 2 (Load), 5 (Put) and 6 (Show), over this seat's translation: both arenas go on alike. Conditions: as the law's. -/
import Derived.Test.YtajnegonagpjgaaDsA
namespace Go.Proofs.Ytajnegonagpjgaa
open Go.RowKit
set_option linter.unusedVariables false

set_option maxRecDepth 100000 in
set_option maxHeartbeats 3200000 in
theorem does_2 (h : Hn) (r : Hr) (F G : Nat → Prop) (A : Ars) (t : Act) (S : Nat → Prop) (w0 w : World) (x : Both2 h r A A S w0 w F G) (o : Act.Ok w t) (hu : U32s w0 t.ad t.l) (hS : Off S t.ad t.l.length) (hn : A.es.length ≤ 100000000) (ht : A.top ≤ 100000000) (hl : t.l.length ≤ 100000000) (hr : (t.kd : Int) % 7 = 2) :
    Calls Try.prog 10 #[arPtr h, rfPtr r, t.agg] w fun e w' => e = .returned (.bool true) ∧ ∃ F' G', Both2 h r (A.load t.at_) (A.load t.at_) S w0 w' F' G' := by
  have X := hid (x.below (w' := w.alloc (actObj t)) (by repeat (first | exact Below.refl _ _ | refine blw_alloc ?_ | refine blw_drew ?_ | assumption)))
  obtain ⟨nf, ng⟩ := x.nF
  have hkd := o.kd
  have OK := hid o
  clear x o
  go_enter Try.func10, Try.ntmps10
  go_wp2_with fail
  refine (ar_load h F A t.at_ _ X.out.p OK.out.at1 (by omega)).mono ?_
  rintro e w2 ⟨rfl, F2, a2, s2⟩
  have X2 := hid (X.out.left a2 s2)
  have bx2 := s2.heap (o := actObj t) (heap_alloc_at _ _) nf
  have hp2 := lt_of_heap bx2
  have BX2 := hid bx2
  obtain ⟨v, hv⟩ : ∃ v, v = A.loadV t.at_ := ⟨_, rfl⟩
  rw [← hv]
  have HV := hid hv
  have HL := hid (show LogAt ((w2.alloc (sb (v : Int))).alloc (.cells #[.slice none 0 0] 69)).drew (w2.heap.size + 1) none 0 [] by
    have := (newlog_at (w2.alloc (sb (v : Int)))).drew; simpa using this)
  have G0 := hid (show (w2.alloc (sb (v : Int))).drew.cell? ⟨w2.heap.size, 0, none⟩ = some (.int .u32 (v : Int)) ∧ (w2.alloc (sb (v : Int))).drew.cell? ⟨w.heap.size, 1, none⟩ = some (.int .i64 t.at_) from ⟨cell_of_heap (heap_alloc_at _ _) rfl, cell_of_heap ((heap_alloc_old _ _ _ hp2).trans bx2) rfl⟩)
  have G1 := hid (show ((w2.alloc (sb (v : Int))).alloc (.cells #[.slice none 0 0] 69)).drew.cell? ⟨w2.heap.size, 0, none⟩ = some (.int .u32 (v : Int)) ∧ ((w2.alloc (sb (v : Int))).alloc (.cells #[.slice none 0 0] 69)).drew.cell? ⟨w.heap.size, 1, none⟩ = some (.int .i64 t.at_) from ⟨cell_of_heap (two_at w2 _ _).1 rfl, cell_of_heap ((heap_alloc_old _ _ _ (by simp; omega)).trans ((heap_alloc_old _ _ _ hp2).trans bx2)) rfl⟩)
  clear a2 s2 hv bx2
  go_wp2_with fail
  go_region_held3 (fun w' => w'.cell? ⟨w2.heap.size, 0, none⟩ = some (.int .u32 (v : Int)) ∧ w'.cell? ⟨w.heap.size, 1, none⟩ = some (.int .i64 t.at_)) (first | (exact G0.out) | (exact G1.out) | (exact ⟨c31, c32⟩) | (exact ⟨c41, c42⟩))
    (first
      | (go_at_call 29; refine (newlog_any _).mono ?_; rintro e w' ⟨rfl, rfl⟩)
      | (go_at_call 33; refine (release_any (w2.heap.size + 1) none 0 [] (v : Int) _ HL.out (by decide)).mono ?_; rintro e w3 ⟨rfl, hN⟩; have hB3 : Below (w2.heap.size + 1) ((w2.alloc (sb (v : Int))).alloc (.cells #[.slice none 0 0] 69)).drew w3 := hN.below (by simp) (Nat.le_refl _) (by intro k hk; cases hk); have c31 := (hB3.cell (p := ⟨w2.heap.size, 0, none⟩) (by simp)).trans G1.out.1; have c32 := (hB3.cell (p := ⟨w.heap.size, 1, none⟩) (by show w.heap.size < _; omega)).trans G1.out.2; have X3 := hid (X2.out.below (w' := w3) ((show Below w2.heap.size w2 ((w2.alloc (sb (v : Int))).alloc (.cells #[.slice none 0 0] 69)).drew from (by repeat (first | exact Below.refl _ _ | refine blw_alloc ?_ | refine blw_drew ?_ | assumption))).trans (hB3.mono (by omega)))); have hx3 : w3.heap[w.heap.size]? = some (actObj t) := (hB3.block _ (by omega)).trans ((heap_alloc_old _ _ _ (by simp; omega)).trans ((heap_alloc_old _ _ _ hp2).trans BX2.out)); have c3b := hB3.size; clear hN)
      | (go_at_call 34; refine (rf_load r G A t.at_ _ X3.out.q (by omega)).mono ?_; rintro e w4 ⟨rfl, G4, a4, s4⟩; have X4 := hid (X3.out.right a4 s4); have ng2 : ¬ G w2.heap.size := (fun y => by have := X2.out.q.lt _ y; omega); have c41 := s4.cell c31 ng2; have c42 := s4.cell c32 ng; clear a4 s4))
  all_goals
    clear c31 c32 c41 c42 hx3
    rw [← HV.out]
    go_wp2_with fail
    go_ret
    exact ⟨ret_bool (by simp), F2, G4, X4.out⟩

theorem put_stepI {A : Ars} {i k : Nat} {l : List Nat} (hk : k < l.length) (hf : i + l.length ≤ A.top) : (A.putK i l k).store ((i : Int) + (k : Int)) l[k] = A.putK i l (k + 1) := Ars.put_step hk hf
set_option maxRecDepth 100000 in
set_option maxHeartbeats 3200000 in
theorem does_5n (h : Hn) (r : Hr) (F G : Nat → Prop) (A : Ars) (t : Act) (S : Nat → Prop) (w0 w : World) (x : Both2 h r A A S w0 w F G) (o : Act.Ok w t) (hu : U32s w0 t.ad t.l) (hS : Off S t.ad t.l.length) (hn : A.es.length ≤ 100000000) (ht : A.top ≤ 100000000) (hl : t.l.length ≤ 100000000) (hr : (t.kd : Int) % 7 = 5) (hf : A.fits t.at_ t.l.length = false) :
    Calls Try.prog 10 #[arPtr h, rfPtr r, t.agg] w fun e w' => e = .returned (.bool true) ∧ ∃ F' G', Both2 h r (A.put t.at_ t.l) (A.put t.at_ t.l) S w0 w' F' G' := by
  have X := hid (x.below (w' := w.alloc (actObj t)) (by repeat (first | exact Below.refl _ _ | refine blw_alloc ?_ | refine blw_drew ?_ | assumption)))
  have hkd := o.kd
  have OK := hid o
  have HE := hid (show A.put t.at_ t.l = A by unfold Ars.put; rw [hf]; rfl)
  have BX := hid (show (w.alloc (actObj t)).heap[w.heap.size]? = some (actObj t) from heap_alloc_at _ _)
  clear x o hu hS
  go_enter Try.func10, Try.ntmps10
  go_wp2_with (first
    | (go_at_call 14; refine (rf_fits r G A _ _ _ X.out.q).mono ?_; rintro e w' ⟨rfl, hw⟩; subst w'))
  go_loopw [13] (fun c wr => c = .int .i64 0 ∧ wr = w.alloc (actObj t)) (fun _ _ => 0)
  case atStart => exact ⟨rfl, rfl⟩
  case round =>
    obtain ⟨rfl, hwr⟩ := hrel
    subst hwr
    go_wp2_with fail
    refine (ar_put_no h F A t.at_ t.ad t.l.length t.cap _ X.out.p OK.out.at1 hf).mono ?_
    rintro e w' ⟨rfl, hw⟩
    subst w'
    go_wp2_with fail
    go_ret
    exact ⟨ret_bool (by simp), F, G, by rw [HE.out]; exact X.out⟩
end Go.Proofs.Ytajnegonagpjgaa
