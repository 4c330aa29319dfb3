/- The contract of package pack's mark, over this seat's translation. Conditions: a row within the arena; n of at most 49152; the log has at most some hundred million events. -/
import Derived.Test.YtjcnkigadlmpgaaDoorPkC
namespace Go.Proofs.YtjcnkigadlmpgaaDoor
open Go.RowKit

structure Mkd (W V : Nat → Nat) (keep v k : Nat) : Prop where
  lane : ∀ i, i < k → V (keep + i) = mk (decide (i < v))
  rest : ∀ x, x < keep ∨ keep + k ≤ x → V x = W x
set_option maxHeartbeats 1600000 in
theorem mark_any (h : Hn) (F : Nat → Prop) (A : Ars) (keep n v : Nat) (w : World) (a : Ar w h F A) (hn : n ≤ 49152) (hin : keep + n ≤ A.top) (hv : v < 4294967296) (hes : A.es.length ≤ 800000000) :
    Calls Tryd.prog 55 #[arPtr h, .int .i64 (keep : Int), .int .i64 (n : Int), sec v] w fun e w' => e = .returned (.tuple #[]) ∧ ∃ F' A', Ar w' h F' A' ∧ Step w F w' F' ∧ Went A A' (upTo (fun i => [evSt (keep + i)]) n) ∧ Mkd A.word A'.word keep v n := by
  have hb1 := a.ok.1
  have hb2 := a.ok.2.1
  have HA := hid a
  have HNF := hid (show ¬ F w.heap.size from fun x => by have := a.lt _ x; omega)
  clear a
  go_enter Tryd.func55, Tryd.ntmps55
  go_wp2_with fail
  go_loopw [10] (fun c wr => ∃ (k : Nat) (Fk : Nat → Prop) (Ak : Ars), k ≤ n ∧ c = .int .i64 (k : Int) ∧ Ar wr h Fk Ak ∧ Step w F wr Fk ∧ wr.heap[w.heap.size]? = some (sb (v : Int)) ∧ ¬ Fk w.heap.size ∧ Went A Ak (upTo (fun i => [evSt (keep + i)]) k) ∧ Mkd A.word Ak.word keep v k) (fun c _ => n - (intOf c).toNat)
  case atStart => exact ⟨0, F, A, Nat.zero_le _, rfl, HA.out.alloc _, (Step.refl _ _).alloc _, heap_alloc_at _ _, HNF.out, Went.refl _, ⟨fun i h => by omega, fun _ _ => rfl⟩⟩
  case round =>
    obtain ⟨k, Fk, Ak, hk, rfl, ak, sk, hbx, hnx, wt, mk0⟩ := hrel
    have HAK := hid ak
    have HSK := hid sk
    have HWT := hid wt
    have HMK := hid mk0
    have HX := hid (And.intro hbx hnx)
    by_cases hlt : k < n
    · have htp := wt.top
      have hwl := wt.wl
      have HES := hid (show Ak.es.length ≤ 800049152 by rw [wt.es, List.length_append, upTo_len _ k 1 (fun _ _ => rfl)]; omega)
      have hkt : keep + k < Ak.top := by omega
      have hk32 : k < 4294967296 := by omega
      have HWK := hid (show IntKind.u32.wrap (k : Int) = (k : Int) by rw [IntKind.wrap_u32]; omega)
      have HWL := hid (show IntKind.i64.wrap ((keep : Int) + (k : Int)) = (keep : Int) + (k : Int) by rw [IntKind.wrap_i64]; omega)
      have HST := hid (st_at (A := Ak) (L := keep) (i := k) (v := mk (decide (k < v))) hkt)
      have HWN := hid (show Went A (Ak.storeN (keep + k) (mk (decide (k < v)))) (upTo (fun i => [evSt (keep + i)]) (k + 1)) by rw [upTo_succ]; exact wt.trans (went_st _ _ _))
      have HMN := hid (show Mkd A.word (Ak.storeN (keep + k) (mk (decide (k < v)))).word keep v (k + 1) by
        rw [word_st _ _ _ (show keep + k < Ak.ws.length by omega)]
        refine ⟨fun i hi => ?_, fun x hx => ?_⟩
        · by_cases e : i = k
          · subst e; simp
          · have : ¬ keep + i = keep + k := by omega
            simp only [this, if_false]; exact mk0.lane i (by omega)
        · have : ¬ x = keep + k := by omega
          simp only [this, if_false]; exact mk0.rest x (by omega))
      have HM32 := hid (mk_lt (decide (k < v)))
      have HLT := hid (fun w => lt_any k v w hk32 hv)
      generalize mk (decide (k < v)) = m at *
      have km : wr.cell? ⟨w.heap.size, 0, none⟩ = some (.int .u32 (v : Int)) := cell_of_heap hbx rfl
      have KB := hid (show ∀ w' : World, Below wr.heap.size wr w' → w'.cell? ⟨w.heap.size, 0, none⟩ = some (.int .u32 (v : Int)) from fun w' hb => cell_below hb km (cell_blk km))
      clear km ak sk wt mk0 hbx hnx htp
      go_wp2_with fail
      go_region_held3 (fun w' => w'.cell? ⟨w.heap.size, 0, none⟩ = some (.int .u32 (v : Int)))
        (first | (exact KX.out) | (exact KB.out _ hB5) | (refine KB.out _ ?_; (repeat (first | exact Below.refl _ _ | refine blw_alloc ?_ | refine blw_drew ?_)); done) | (go_keep))
        (first
          | (go_at_call 22; refine (of_any _ _).mono ?_; rintro e w' ⟨rfl, rfl⟩)
          | (go_at_call 29; rw [HWK.out]; refine (HLT.out _).mono ?_; rintro e w5 ⟨rfl, hB0⟩; have hB5 : Below wr.heap.size wr w5 := ((Below.refl _ wr).alloc (Nat.le_refl _) _).drew.trans (hB0.mono (by simp)))
          | (go_at_call 30; rw [HWL.out]; refine (ar_store h Fk Ak ((keep : Int) + (k : Int)) m _ (HAK.out.below hB5) (by omega) HM32.out (by have := HES.out; omega)).mono ?_; rintro e w7 ⟨rfl, F7, a7, s7⟩; rw [HST.out] at a7; have hs7 := (Step.ofBelow (F := Fk) hB5).trans s7; have hx7 := hs7.heap HX.out.1 HX.out.2; have KX := hid (show w7.cell? ⟨w.heap.size, 0, none⟩ = some (.int .u32 (v : Int)) from cell_of_heap hx7 rfl)))
      rename_i hHeld
      have A7 := hid a7
      have S7 := hid (HSK.out.trans hs7)
      have X7 := hid (And.intro hx7 (hs7.out HX.out.2 (lt_of_heap HX.out.1)))
      clear a7 s7 hs7 hx7 KX KB hHeld HAK HSK HX hB5 hB0
      go_wp2
      go_roundw
      case rel => exact ⟨k + 1, F7, _, by omega, by go_num, A7.out, S7.out, X7.out.1, X7.out.2, HWN.out, HMN.out⟩
      case measure => simp [intOf]; omega
    · have hke : k = n := by omega
      subst hke
      clear ak sk wt mk0 hbx hnx
      go_wp2
      go_end0
      exact ⟨rfl, Fk, Ak, HAK.out, HSK.out, HWT.out, HMK.out⟩
end Go.Proofs.YtjcnkigadlmpgaaDoor
