/- The contracts of scan.Before, and of Sums and Before where the words are not within, over this seat's translation. Conditions: the log has at most some hundred million events. -/
import Derived.Test.YtnnmaegpiddnbaaScA
namespace Go.Proofs.Ytnnmaegpiddnbaa
open Go.RowKit

set_option maxHeartbeats 3200000 in
theorem before_yes (h : Hn) (F : Nat → Prop) (A : Ars) (L n : Nat) (w : World) (a : Ar w h F A) (hin : L + n ≤ A.top) (hes : A.es.length ≤ 300000000) :
    Calls Try.prog 12 #[arPtr h, .int .i64 (L : Int), .int .i64 (n : Int)] w fun e w' => e = .returned (.tuple #[sec (sv A L n : Nat), .bool true]) ∧ ∃ F', Ar w' h F' (evo A (fun i => L + i) (fun i => sv A L i) n) ∧ Step w F w' F' := by
  have hb1 := a.ok.1
  have hb2 := a.ok.2.1
  have HA := hid a
  have HNF := hid (show ∀ i, w.heap.size ≤ i → ¬ F i from fun i hi x => by have := a.lt _ x; omega)
  have HFT := hid (Ars.fits_nat hin)
  clear a
  go_enter Try.func12, Try.ntmps12
  go_wp2_with fail
  refine (ar_fits h F A L n _ (HA.out.alloc _) (by omega)).mono ?_
  rintro e w1 ⟨rfl, hw1⟩
  subst hw1
  rw [HFT.out]
  go_wp2_with (go_at_call 31; refine (of_any _ _).mono ?_; rintro e w' ⟨rfl, rfl⟩)
  go_loopw [19] (fun c wr => ∃ (k : Nat) (Fk : Nat → Prop), k ≤ n ∧ c = .int .i64 (k : Int) ∧ Ar wr h Fk (evo A (fun i => L + i) (fun i => sv A L i) k) ∧ Step w F wr Fk ∧ wr.heap[w.heap.size]? = some (sb 0) ∧ wr.heap[w.heap.size + 1 + 1]? = some (sb (sv A L k : Nat)) ∧ ¬ Fk w.heap.size ∧ ¬ Fk (w.heap.size + 1 + 1)) (fun c _ => n - (intOf c).toNat)
  case atStart => exact ⟨0, F, Nat.zero_le _, rfl, ((HA.out.alloc _).alloc _).alloc _, (((Step.refl _ _).alloc _).alloc _).alloc _, (by simp only [heap_alloc_get, World.size_alloc]; repeat (first | rw [if_pos trivial] | rw [if_pos rfl] | rw [if_neg (by omega)])), (show _ = some (sb 0) from (by simp only [heap_alloc_get, World.size_alloc]; repeat (first | rw [if_pos trivial] | rw [if_pos rfl] | rw [if_neg (by omega)]))), HNF.out _ (Nat.le_refl _), HNF.out _ (by omega)⟩
  case round =>
    obtain ⟨k, Fk, hk, rfl, ak, sk, hb6, hb8, hn6, hn8⟩ := hrel
    by_cases hlt : k < n
    · have HAK := hid ak
      have HSK := hid sk
      have H6 := hid (And.intro hb6 hn6)
      have H8 := hid (And.intro hb8 hn8)
      have htp := evo_top A (fun i => L + i) (fun i => sv A L i) k
      have hel := evo_es A (fun i => L + i) (fun i => sv A L i) k
      have HWD := hid (show (evo A (fun i => L + i) (fun i => sv A L i) k).word (L + k) = A.word (L + k) from evo_word A _ _ k (fun j hj => by show L + j < _; omega) _ (fun j hj => by show L + j ≠ L + k; omega))
      have HEV := hid (show evo A (fun i => L + i) (fun i => sv A L i) (k + 1) = ((evo A (fun i => L + i) (fun i => sv A L i) k).loadN (L + k)).storeN (L + k) (sv A L k) from rfl)
      obtain ⟨Ak, hAk⟩ : ∃ Ak, evo A (fun i => L + i) (fun i => sv A L i) k = Ak := ⟨_, rfl⟩
      rw [hAk] at HAK htp hel HWD HEV
      have hkt : L + k < Ak.top := by omega
      have he4 : Ak.es.length ≤ 400000000 := by omega
      have HE4 := hid he4
      obtain ⟨e1, e2⟩ := ld_at (A := Ak) (L := L) (i := k) hkt
      have HVX := hid (Ars.word_lt HAK.out.ok (L + k))
      rw [HWD.out] at e1 HVX
      have H1 := hid e1
      have H2 := hid e2
      have HST := hid (st_at (A := Ak.loadN (L + k)) (L := L) (i := k) (v := sv A L k) hkt)
      have HS := hid (show addW (sv A L k) (A.word (L + k)) = sv A L (k + 1) from rfl)
      have hs0 := sv_lt A L k
      obtain ⟨x, hx⟩ : ∃ x, A.word (L + k) = x := ⟨_, rfl⟩
      obtain ⟨s0, hs0e⟩ : ∃ s0, sv A L k = s0 := ⟨_, rfl⟩
      rw [hs0e] at hs0 H8 HS HST HEV
      rw [hx] at H1 HVX HS
      have HWL := hid (show IntKind.i64.wrap ((L : Int) + (k : Int)) = (L : Int) + (k : Int) by rw [IntKind.wrap_i64]; omega)
      clear ak sk hb6 hb8 hn6 hn8 htp hel hAk e1 e2 he4 hx hs0e hkt
      go_wp2_with fail
      refine (ar_load h Fk Ak ((L : Int) + (k : Int)) _ HAK.out (by omega) (by have := HE4.out; omega)).mono ?_
      rintro e w6 ⟨rfl, F6, a6, s6⟩
      rw [H1.out]
      rw [H2.out] at a6
      have A6 := hid a6
      have S6 := hid s6
      have T6 := hid (And.intro (s6.heap H6.out.1 H6.out.2) (And.intro (s6.heap H8.out.1 H8.out.2) (And.intro (s6.out H6.out.2 (lt_of_heap H6.out.1)) (s6.out H8.out.2 (lt_of_heap H8.out.1)))))
      have k8 := cell_sb8 T6.out.2.1
      have hl8 := lt_of_heap T6.out.2.1
      clear a6 s6
      go_wp2_with fail
      refine (ar_store h F6 (Ak.loadN (L + k)) ((L : Int) + (k : Int)) s0 _ (A6.out.alloc _) (by omega) hs0 (by have := HE4.out; simp [Ars.loadN, Ars.note]; omega)).mono ?_
      rintro e w7 ⟨rfl, F7, a7, s7⟩
      rw [HST.out, ← HEV.out] at a7
      have A7 := hid a7
      have S7 := hid ((Step.refl w6 F6).alloc (sb (x : Int)) |>.trans s7)
      have HY := hid (show w7.heap[w6.heap.size]? = some (sb (x : Int)) from s7.heap (heap_alloc_at _ _) (fun z => by have := A6.out.lt _ z; omega))
      have T7 := hid (And.intro (S7.out.heap T6.out.1 T6.out.2.2.1) (And.intro (S7.out.heap T6.out.2.1 T6.out.2.2.2) (And.intro (S7.out.out T6.out.2.2.1 (lt_of_heap T6.out.1)) (S7.out.out T6.out.2.2.2 (lt_of_heap T6.out.2.1)))))
      have j8 := cell_sb8 T7.out.2.1
      have jy := cell_sb8 HY.out
      clear a7 s7 k8 hl8
      go_wp2_with fail
      refine (add_b s0 x _ hs0 HVX.out).mono ?_
      rintro e w9 ⟨rfl, hB9⟩
      rw [HS.out]
      have B9 := hid hB9
      have T9 := hid (And.intro ((hB9.block _ (lt_of_heap T7.out.1)).trans T7.out.1) ((hB9.block _ (lt_of_heap T7.out.2.1)).trans T7.out.2.1))
      have q8 := cell_sb8 T9.out.2
      have f8 := frozen_of_heap (i := 0) T9.out.2
      clear hB9 j8 jy
      go_wp2
      go_roundw
      case rel => exact ⟨k + 1, F7, by omega, by go_num, (A7.out.below B9.out).setOther _ _ T7.out.2.2.2, (((HSK.out.trans S6.out).trans S7.out).trans (Step.ofBelow (F := F7) B9.out)).setNew _ _ (by show w.heap.size ≤ w.heap.size + 1 + 1; omega), (Below.heap_setCell _ _ _ _ (by show w.heap.size ≠ w.heap.size + 1 + 1; omega)).trans T9.out.1, heap_setCell_at _ _ 0 _ _ _ _ T9.out.2, T7.out.2.2.1, T7.out.2.2.2⟩
      case measure => simp [intOf]; omega
    · have hke : k = n := by omega
      subst hke
      have HAK := hid ak
      have HSK := hid sk
      have H6 := hid (And.intro hb6 hn6)
      have k8 := cell_sb8 hb8
      have k6 := cell_sb8 hb6
      have f6 := frozen_of_heap (i := 0) hb6
      clear ak sk hb6 hb8 hn6 hn8
      go_wp2
      have hs := heap_setCell_at _ _ 0 _ _ _ (.int .u32 (sv A L k : Nat)) H6.out.1
      have d0 := cell_of_heap (i := 0) hs rfl
      exact bodyPost_ret (v := .tuple #[sec (sv A L k : Nat), .bool true]) (by simp only [results, Try.results12]; simp [go_sem, d0]) rfl ⟨rfl, Fk, HAK.out.setOther _ _ H6.out.2, HSK.out.setNew _ _ (Nat.le_refl _)⟩

set_option maxHeartbeats 800000 in
theorem sums_no (h : Hn) (F : Nat → Prop) (A : Ars) (at_ n : Int) (w : World) (a : Ar w h F A) (hat : at_ < 9223372036854775808) (hf : A.fits at_ n = false) :
    Calls Try.prog 11 #[arPtr h, .int .i64 at_, .int .i64 n] w fun e w' => e = .returned (.tuple #[sec 0, .bool false]) ∧ Below w.heap.size w w' := by
  have HA := hid a
  have HF := hid hf
  clear a hf
  go_enter Try.func11, Try.ntmps11
  go_wp2_with fail
  refine (ar_fits h F A at_ n _ (HA.out.alloc _) hat).mono ?_
  rintro e w1 ⟨rfl, hw1⟩
  subst hw1
  rw [HF.out]
  go_wp2_with (go_at_call 31; refine (of_any _ _).mono ?_; rintro e w' ⟨rfl, rfl⟩)
  exact bodyPost_ret (v := .tuple #[sec 0, .bool false]) (by simp [results, Try.results11, go_sem]) rfl ⟨rfl, (by repeat (first | exact Below.refl _ _ | refine blw_alloc ?_ | refine blw_drew ?_ | assumption))⟩
set_option maxHeartbeats 800000 in
theorem before_no (h : Hn) (F : Nat → Prop) (A : Ars) (at_ n : Int) (w : World) (a : Ar w h F A) (hat : at_ < 9223372036854775808) (hf : A.fits at_ n = false) :
    Calls Try.prog 12 #[arPtr h, .int .i64 at_, .int .i64 n] w fun e w' => e = .returned (.tuple #[sec 0, .bool false]) ∧ Below w.heap.size w w' := by
  have HA := hid a
  have HF := hid hf
  clear a hf
  go_enter Try.func12, Try.ntmps12
  go_wp2_with fail
  refine (ar_fits h F A at_ n _ (HA.out.alloc _) hat).mono ?_
  rintro e w1 ⟨rfl, hw1⟩
  subst hw1
  rw [HF.out]
  go_wp2_with (go_at_call 31; refine (of_any _ _).mono ?_; rintro e w' ⟨rfl, rfl⟩)
  exact bodyPost_ret (v := .tuple #[sec 0, .bool false]) (by simp [results, Try.results12, go_sem]) rfl ⟨rfl, (by repeat (first | exact Below.refl _ _ | refine blw_alloc ?_ | refine blw_drew ?_ | assumption))⟩
end Go.Proofs.Ytnnmaegpiddnbaa
