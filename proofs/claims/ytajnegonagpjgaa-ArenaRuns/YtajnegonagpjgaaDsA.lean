/- The law's 'same', and 'does' at acts of kinds 0 to 4, over this seat's translation: both arenas go on alike. Conditions: as the law's. -/
import Derived.Test.YtajnegonagpjgaaRfC
namespace Go.Proofs.Ytajnegonagpjgaa
open Go.RowKit
set_option linter.unusedVariables false

set_option maxHeartbeats 800000 in
theorem same_any (ad1 ad2 : Option Addr) (cap1 cap2 : Nat) (l : List Nat) (w : World) (h1 : U32s w ad1 l) (h2 : U32s w ad2 l) (hn : l.length ≤ 1000000000) :
    Calls Try.prog 37 #[.slice ad1 l.length cap1, .slice ad2 l.length cap2] w fun e w' => e = .returned (.bool true) ∧ Below w.heap.size w w' := by
  have H1 := hid h1
  have H2 := hid h2
  clear h1 h2
  go_enter Try.func37, Try.ntmps37
  go_wp2
  go_loopw [13] (fun c wr => ∃ q : Nat, q ≤ l.length ∧ c = .int .i64 q ∧ Below w.heap.size w wr) (fun c _ => l.length - (intOf c).toNat)
  case atStart => exact ⟨0, Nat.zero_le _, rfl, Below.refl _ _⟩
  case round =>
    obtain ⟨q, hq, rfl, hB⟩ := hrel
    by_cases hql : q < l.length
    · obtain ⟨x, rfl, c1⟩ := H1.out q hql
      obtain ⟨y, rfl, c2⟩ := H2.out q hql
      replace c1 := cell_later hB c1
      replace c2 := cell_later hB c2
      have hql' : (q : Int) < (l.length : Int) := by omega
      clear H1 H2
      go_wp2_with fail
      go_quiet (fail)
      go_wp2_with fail
      go_roundw
      case rel => exact ⟨q + 1, by omega, by go_num, hB.trans (below_drewN (Below.refl _ _) _)⟩
      case measure => simp [intOf]; omega
    · clear H1 H2
      go_wp2
      go_ret
      exact ⟨rfl, hB⟩

/-- both arenas, each in its state, apart from one another; since w0 no old block but those of S has turned -/
structure Both2 (h : Hn) (r : Hr) (A B : Ars) (S : Nat → Prop) (w0 w : World) (F G : Nat → Prop) : Prop where
  p : Ar w h F A
  q : Rf w r G B
  d : ∀ i, F i → ¬ G i
  hf : ∀ i, F i → S i ∨ w0.heap.size ≤ i
  hg : ∀ i, G i → S i ∨ w0.heap.size ≤ i
  fr : Fr S w0 w
theorem Both2.left {h : Hn} {r : Hr} {A A' B : Ars} {S : Nat → Prop} {w0 w w' : World} {F F' G : Nat → Prop} (x : Both2 h r A B S w0 w F G) (a : Ar w' h F' A') (s : Step w F w' F') : Both2 h r A' B S w0 w' F' G :=
  ⟨a, x.q.kept s.fr fun i hg hf => x.d i hf hg, fun i hf hg => (s.sub i hf).elim (fun y => x.d i y hg) (fun y => by have := x.q.lt i hg; omega),
    fun i hf => (s.sub i hf).elim (x.hf i) (fun y => Or.inr (Nat.le_trans x.fr.size y)), x.hg, x.fr.trans s.fr fun i hi hf => (x.hf i hf).resolve_right (by omega)⟩
theorem Both2.right {h : Hn} {r : Hr} {A B B' : Ars} {S : Nat → Prop} {w0 w w' : World} {F G G' : Nat → Prop} (x : Both2 h r A B S w0 w F G) (b : Rf w' r G' B') (s : Step w G w' G') : Both2 h r A B' S w0 w' F G' :=
  ⟨x.p.kept s.fr x.d, b, fun i hf hg => (s.sub i hg).elim (fun y => x.d i hf y) (fun y => by have := x.p.lt i hf; omega),
    x.hf, fun i hg => (s.sub i hg).elim (x.hg i) (fun y => Or.inr (Nat.le_trans x.fr.size y)), x.fr.trans s.fr fun i hi hg => (x.hg i hg).resolve_right (by omega)⟩
theorem Both2.below {h : Hn} {r : Hr} {A B : Ars} {S : Nat → Prop} {w0 w w' : World} {F G : Nat → Prop} (x : Both2 h r A B S w0 w F G) (hb : Below w.heap.size w w') : Both2 h r A B S w0 w' F G :=
  ⟨x.p.below hb, x.q.below hb, x.d, x.hf, x.hg, x.fr.trans (T := fun _ => False) (Fr.ofBelow hb) fun _ _ y => y.elim⟩
theorem Both2.nF {h : Hn} {r : Hr} {A B : Ars} {S : Nat → Prop} {w0 w : World} {F G : Nat → Prop} (x : Both2 h r A B S w0 w F G) : ¬ F w.heap.size ∧ ¬ G w.heap.size :=
  ⟨fun y => by have := x.p.lt _ y; omega, fun y => by have := x.q.lt _ y; omega⟩
theorem off_sub {w : World} {S F : Nat → Prop} {ad : Option Addr} {l : List Nat} (h : U32s w ad l) (ho : Off S ad l.length) (hF : ∀ i, F i → S i ∨ w.heap.size ≤ i) : Off F ad l.length := fun x hx hn hf => by
  have := h.lt x hx hn
  exact (hF _ hf).elim (ho x hx hn) fun y => by omega
theorem U32s.fr {w w' : World} {S : Nat → Prop} {ad : Option Addr} {l : List Nat} (h : U32s w ad l) (f : Fr S w w') (ho : Off S ad l.length) : U32s w' ad l := by
  intro k hk
  obtain ⟨x, rfl, hc⟩ := h k hk
  refine ⟨x, rfl, cell_add_kept (f.block _ (h.lt x rfl (by omega)) (ho x rfl (by omega))) hc⟩

set_option maxRecDepth 100000 in
set_option maxHeartbeats 1600000 in
theorem does_0 (h : Hn) (r : Hr) (F G : Nat → Prop) (A : Ars) (t : Act) (S : Nat → Prop) (w0 w : World) (x : Both2 h r A A S w0 w F G) (o : Act.Ok w t) (hu : U32s w0 t.ad t.l) (hS : Off S t.ad t.l.length) (hn : A.es.length ≤ 100000000) (ht : A.top ≤ 100000000) (hl : t.l.length ≤ 100000000) (hr : (t.kd : Int) % 7 = 0) :
    Calls Try.prog 10 #[arPtr h, rfPtr r, t.agg] w fun e w' => e = .returned (.bool true) ∧ ∃ F' G', Both2 h r (A.take t.n) (A.take t.n) S w0 w' F' G' := by
  have X := hid (x.below (w' := w.alloc (actObj t)) (by repeat (first | exact Below.refl _ _ | refine blw_alloc ?_ | refine blw_drew ?_ | assumption)))
  obtain ⟨nf, ng⟩ := x.nF
  have hkd := o.kd
  clear x o hu hS
  go_enter Try.func10, Try.ntmps10
  go_wp2_with fail
  refine (ar_take h F A t.n _ X.out.p (by omega)).mono ?_
  rintro e w2 ⟨rfl, F2, a2, s2⟩
  have X2 := hid (X.out.left a2 s2)
  have bx := s2.heap (o := actObj t) (heap_alloc_at _ _) nf
  obtain ⟨b0, b1, b2, b3, b4⟩ := box_cells bx
  clear bx a2 s2
  go_wp2_with fail
  refine (rf_take r G A t.n _ X2.out.q (by omega)).mono ?_
  rintro e w3 ⟨rfl, G3, a3, s3⟩
  have X3 := hid (X2.out.right a3 s3)
  clear a3 s3
  go_wp2_with fail
  go_ret
  exact ⟨ret_bool (by simp), F2, G3, X3.out⟩

set_option maxRecDepth 100000 in
set_option maxHeartbeats 3200000 in
theorem does_1 (h : Hn) (r : Hr) (F G : Nat → Prop) (A : Ars) (t : Act) (S : Nat → Prop) (w0 w : World) (x : Both2 h r A A S w0 w F G) (o : Act.Ok w t) (hu : U32s w0 t.ad t.l) (hS : Off S t.ad t.l.length) (hn : A.es.length ≤ 100000000) (ht : A.top ≤ 100000000) (hl : t.l.length ≤ 100000000) (hr : (t.kd : Int) % 7 = 1) :
    Calls Try.prog 10 #[arPtr h, rfPtr r, t.agg] w fun e w' => e = .returned (.bool true) ∧ ∃ F' G', Both2 h r (A.give t.at_) (A.give t.at_) S w0 w' F' G' := by
  have X := hid (x.below (w' := w.alloc (actObj t)) (by repeat (first | exact Below.refl _ _ | refine blw_alloc ?_ | refine blw_drew ?_ | assumption)))
  have XD := hid (x.below (w' := (w.alloc (actObj t)).drew) (by repeat (first | exact Below.refl _ _ | refine blw_alloc ?_ | refine blw_drew ?_ | assumption)))
  obtain ⟨nf, ng⟩ := x.nF
  have hkd := o.kd
  have OK := hid o
  have HWS := hid (show w.heap.size < (w.alloc (actObj t)).heap.size by simp)
  clear x o
  go_enter Try.func10, Try.ntmps10
  go_wp2_with fail
  go_region_held3 (fun w' => w'.cell? ⟨w.heap.size, 1, none⟩ = some (.int .i64 t.at_)) (first | (exact cell_of_heap bx3 rfl) | (exact cell_of_heap bx2 rfl) | (go_keep))
    (first
      | (go_at_call 20; refine (ar_give h F A t.at_ _ XD.out.p OK.out.at1 (by omega)).mono ?_; rintro e w2 ⟨rfl, F2, a2, s2⟩; have X2 := hid (XD.out.left a2 s2); have bx2 := s2.heap (o := actObj t) (heap_alloc_at _ _) nf; clear a2 s2)
      | (go_at_call 31; refine (rf_give r G A t.at_ _ X2.out.q (by omega)).mono ?_; rintro e w3 ⟨rfl, G3, a3, s3⟩; have X3 := hid (X2.out.right a3 s3); have bx3 := s3.heap bx2 ng; clear a3 s3))
  all_goals
    clear bx2 bx3
    go_wp2_with fail
    go_ret
    exact ⟨ret_bool (by simp), F2, G3, X3.out⟩

set_option maxRecDepth 100000 in
set_option maxHeartbeats 3200000 in
theorem does_4 (h : Hn) (r : Hr) (F G : Nat → Prop) (A : Ars) (t : Act) (S : Nat → Prop) (w0 w : World) (x : Both2 h r A A S w0 w F G) (o : Act.Ok w t) (hu : U32s w0 t.ad t.l) (hS : Off S t.ad t.l.length) (hn : A.es.length ≤ 100000000) (ht : A.top ≤ 100000000) (hl : t.l.length ≤ 100000000) (hr : (t.kd : Int) % 7 = 4) :
    Calls Try.prog 10 #[arPtr h, rfPtr r, t.agg] w fun e w' => e = .returned (.bool true) ∧ ∃ F' G', Both2 h r (A.rel t.at_) (A.rel t.at_) S w0 w' F' G' := by
  have X := hid (x.below (w' := w.alloc (actObj t)) (by repeat (first | exact Below.refl _ _ | refine blw_alloc ?_ | refine blw_drew ?_ | assumption)))
  have XD := hid (x.below (w' := (w.alloc (actObj t)).drew) (by repeat (first | exact Below.refl _ _ | refine blw_alloc ?_ | refine blw_drew ?_ | assumption)))
  obtain ⟨nf, ng⟩ := x.nF
  have hkd := o.kd
  have OK := hid o
  have HWS := hid (show w.heap.size < (w.alloc (actObj t)).heap.size by simp)
  clear x o
  go_enter Try.func10, Try.ntmps10
  go_wp2_with fail
  go_region_held3 (fun w' => w'.cell? ⟨w.heap.size, 1, none⟩ = some (.int .i64 t.at_)) (first | (exact cell_of_heap bx3 rfl) | (exact cell_of_heap bx2 rfl) | (go_keep))
    (first
      | (go_at_call 22; refine (ar_rel h F A t.at_ _ XD.out.p OK.out.at1 (by omega)).mono ?_; rintro e w2 ⟨rfl, F2, a2, s2⟩; have X2 := hid (XD.out.left a2 s2); have bx2 := s2.heap (o := actObj t) (heap_alloc_at _ _) nf; clear a2 s2)
      | (go_at_call 36; refine (rf_rel r G A t.at_ _ X2.out.q (by omega)).mono ?_; rintro e w3 ⟨rfl, G3, a3, s3⟩; have X3 := hid (X2.out.right a3 s3); have bx3 := s3.heap bx2 ng; clear a3 s3))
  all_goals
    clear bx2 bx3
    go_wp2_with fail
    go_ret
    exact ⟨ret_bool (by simp), F2, G3, X3.out⟩

set_option maxRecDepth 100000 in
set_option maxHeartbeats 3200000 in
theorem does_3 (h : Hn) (r : Hr) (F G : Nat → Prop) (A : Ars) (t : Act) (S : Nat → Prop) (w0 w : World) (x : Both2 h r A A S w0 w F G) (o : Act.Ok w t) (hu : U32s w0 t.ad t.l) (hS : Off S t.ad t.l.length) (hn : A.es.length ≤ 100000000) (ht : A.top ≤ 100000000) (hl : t.l.length ≤ 100000000) (hr : (t.kd : Int) % 7 = 3) :
    Calls Try.prog 10 #[arPtr h, rfPtr r, t.agg] w fun e w' => e = .returned (.bool true) ∧ ∃ F' G', Both2 h r (A.store t.at_ t.v) (A.store t.at_ t.v) S w0 w' F' G' := by
  have X := hid (x.below (w' := w.alloc (actObj t)) (by repeat (first | exact Below.refl _ _ | refine blw_alloc ?_ | refine blw_drew ?_ | assumption)))
  have XD := hid (x.below (w' := (w.alloc (actObj t)).drew) (by repeat (first | exact Below.refl _ _ | refine blw_alloc ?_ | refine blw_drew ?_ | assumption)))
  obtain ⟨nf, ng⟩ := x.nF
  have hkd := o.kd
  have OK := hid o
  have HWS := hid (show w.heap.size < (w.alloc (actObj t)).heap.size by simp)
  clear x o
  go_enter Try.func10, Try.ntmps10
  go_wp2_with fail
  go_region_held3 (fun w' => w'.cell? ⟨w.heap.size, 1, none⟩ = some (.int .i64 t.at_) ∧ w'.cell? ⟨w.heap.size, 3, none⟩ = some (.int .u32 (t.v : Int))) (first | (exact ⟨cell_of_heap bx3 rfl, cell_of_heap bx3 rfl⟩) | (exact ⟨cell_of_heap bx2 rfl, cell_of_heap bx2 rfl⟩) | (go_keep))
    (first
      | (go_at_call 28; refine (of_any _ _).mono ?_; rintro e w' ⟨rfl, rfl⟩)
      | (go_at_call 27; refine (ar_store h F A t.at_ t.v _ (XD.out.p.alloc _) OK.out.at1 OK.out.v (by omega)).mono ?_; rintro e w2 ⟨rfl, F2, a2, s2⟩; have X2 := hid ((XD.out.below (w' := (w.alloc (actObj t)).drew.alloc (sb (t.v : Int))) (by repeat (first | exact Below.refl _ _ | refine blw_alloc ?_ | refine blw_drew ?_ | assumption))).left a2 s2); have bx2 := s2.heap (o := actObj t) ((heap_alloc_old _ _ _ (by simp)).trans (heap_alloc_at _ _)) nf; clear a2 s2)
      | (go_at_call 35; refine (rf_store r G A t.at_ t.v _ X2.out.q OK.out.v (by omega)).mono ?_; rintro e w3 ⟨rfl, G3, a3, s3⟩; have X3 := hid (X2.out.right a3 s3); have bx3 := s3.heap bx2 ng; clear a3 s3))
  all_goals
    clear bx2 bx3
    go_wp2_with fail
    go_ret
    exact ⟨ret_bool (by simp), F2, G3, X3.out⟩
end Go.Proofs.Ytajnegonagpjgaa
