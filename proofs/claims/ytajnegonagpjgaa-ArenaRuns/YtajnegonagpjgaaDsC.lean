/- 'does' at acts of kind 5 (Put) that fit, over this seat's translation: both arenas go on alike. Conditions: as the law's. -/
import Derived.Test.YtajnegonagpjgaaDsB
namespace Go.Proofs.Ytajnegonagpjgaa
open Go.RowKit
set_option linter.unusedVariables false

set_option maxRecDepth 100000 in
set_option maxHeartbeats 3200000 in
theorem does_5y (h : Hn) (r : Hr) (F G : Nat → Prop) (A : Ars) (t : Act) (i : Nat) (S : Nat → Prop) (w0 w : World) (x : Both2 h r A A S w0 w F G) (o : Act.Ok w t) (hu : U32s w0 t.ad t.l) (hS : Off S t.ad t.l.length) (hn : A.es.length ≤ 100000000) (ht : A.top ≤ 100000000) (hl : t.l.length ≤ 100000000) (hr : (t.kd : Int) % 7 = 5) (hat : t.at_ = (i : Int)) (hf : A.fits t.at_ t.l.length = true) :
    Calls Try.prog 10 #[arPtr h, rfPtr r, t.agg] w fun e w' => e = .returned (.bool true) ∧ ∃ F' G', Both2 h r (A.put t.at_ t.l) (A.put t.at_ t.l) S w0 w' F' G' := by
  have X := hid (x.below (w' := w.alloc (actObj t)) (by repeat (first | exact Below.refl _ _ | refine blw_alloc ?_ | refine blw_drew ?_ | assumption)))
  obtain ⟨nf, ng⟩ := x.nF
  have hkd := o.kd
  have OK := hid o
  have HU := hid hu
  have HSS := hid hS
  have hf2 := Ars.fits_iff.1 hf
  have hfi : i + t.l.length ≤ A.top := by omega
  have hwl := x.p.ok.1
  have hwm := x.p.ok.2.1
  have HE := hid (show A.put t.at_ t.l = A.putK i t.l t.l.length by rw [Ars.put_yes hf, hat]; simp)
  have BX := hid (show (w.alloc (actObj t)).heap[w.heap.size]? = some (actObj t) from heap_alloc_at _ _)
  have HAT := hid hat
  obtain ⟨kd, z, n, v, ad, cap, l⟩ := t
  simp only at hat hkd hr hl hf hfi
  subst hat
  clear x o hu hS hf2
  go_enter Try.func10, Try.ntmps10
  go_wp2_with (first
    | (go_at_call 14; refine (rf_fits r G A _ _ _ X.out.q).mono ?_; rintro e w' ⟨rfl, hw⟩; subst w'))
  go_loopw [13] (fun c wr => ∃ (j : Nat) (G1 : Nat → Prop), j ≤ l.length ∧ c = .int .i64 j ∧ Both2 h r A (A.putK i l j) S w0 wr F G1 ∧ wr.heap[w.heap.size]? = some (actObj ⟨kd, i, n, v, ad, cap, l⟩) ∧ ¬ G1 w.heap.size) (fun c _ => l.length - (intOf c).toNat)
  case atStart => exact ⟨0, G, Nat.zero_le _, rfl, X.out, BX.out, ng⟩
  case round =>
    obtain ⟨j, G1, hj, rfl, x1, bx, ng1⟩ := hrel
    have X1 := hid x1
    obtain ⟨b0, b1, b2, b3, b4⟩ := box_cells bx
    have B1 := hid bx
    have hsz := lt_of_heap bx
    clear x1 bx
    by_cases hlt : j < l.length
    · obtain ⟨y, hy, cy⟩ := HU.out.fr X1.out.fr HSS.out j hlt
      have hyF : ¬ G1 y.block := off_sub HU.out HSS.out X1.out.hg y hy (by show 0 < l.length; omega)
      subst hy
      have hlt' : (j : Int) < (l.length : Int) := by omega
      have hv := OK.out.l l[j] (List.getElem_mem hlt)
      have HS := hid (put_stepI (A := A) hlt hfi)
      have HES := hid (show (A.putK i l j).es.length ≤ 1000000000 by rw [Ars.putK_eslen]; omega)
      have HW := hid (show IntKind.i64.wrap ((i : Int) + (j : Int)) = (i : Int) + (j : Int) by rw [IntKind.wrap_i64]; omega)
      have G0 := hid (show wr.drew.cell? ⟨w.heap.size, 1, none⟩ = some (.int .i64 (i : Int)) ∧ wr.drew.cell? ⟨w.heap.size, 4, none⟩ = some (.slice (some y) l.length cap) ∧ wr.drew.cell? (y.add j) = some (.int .u32 (l[j] : Int)) from ⟨b1, b4, cy⟩)
      clear b0 b2 b3
      go_wp2_with fail
      go_region_held3 (fun w' => w'.cell? ⟨w.heap.size, 1, none⟩ = some (.int .i64 (i : Int)) ∧ w'.cell? ⟨w.heap.size, 4, none⟩ = some (.slice (some y) l.length cap) ∧ w'.cell? (y.add j) = some (.int .u32 (l[j] : Int))) (first | (exact G0.out) | (exact k2))
        (first
          | (go_at_call 35; refine (rf_store r G1 (A.putK i l j) _ l[j] _ X1.out.q.drew hv HES.out).mono ?_; rintro e w2 ⟨rfl, G2, a2, s2⟩; rw [HW.out, HS.out] at a2; have X2 := hid ((X1.out.below (w' := wr.drew) (by repeat (first | exact Below.refl _ _ | refine blw_alloc ?_ | refine blw_drew ?_ | assumption))).right a2 s2); have bx2 := hid (s2.heap B1.out ng1); have ng2 := s2.out ng1 hsz; have k2 := And.intro (cell_of_heap (i := 1) bx2.out rfl) (And.intro (cell_of_heap (i := 4) bx2.out rfl) (s2.cell G0.out.2.2 (by rw [add_block]; exact hyF))); clear a2 s2))
      all_goals
        clear k2
        go_wp2_with fail
        go_roundw
        case rel => exact ⟨j + 1, G2, by omega, by go_num, X2.out, bx2.out, ng2⟩
        case measure => simp [intOf]; omega
    · have hje : j = l.length := by omega
      have HJ := hid hje
      clear hje
      go_wp2_with fail
      refine (ar_put h F A (i : Int) ad cap l _ X1.out.p (by omega) OK.out.l (HU.out.fr X1.out.fr HSS.out) (off_sub HU.out HSS.out X1.out.hf) (by omega)).mono ?_
      rintro e w3 ⟨rfl, F3, a3, s3⟩
      have X3 := hid (X1.out.left a3 s3)
      clear a3 s3
      go_wp2_with fail
      go_ret
      refine ⟨ret_bool (by simp), F3, G1, ?_⟩
      have := X3.out
      have h1 := HE.out
      rw [HJ.out, ← h1] at this
      exact this
end Go.Proofs.Ytajnegonagpjgaa
