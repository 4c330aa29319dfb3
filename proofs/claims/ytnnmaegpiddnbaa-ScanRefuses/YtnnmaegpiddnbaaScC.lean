/- The contracts of package scan's ways, of gather, and of Ors and Behind, over this seat's translation. Conditions: the log has at most some hundred million events. -/
import Derived.Test.YtnnmaegpiddnbaaScB
import Derived.Test.YtnnmaegpiddnbaaIv
namespace Go.Proofs.Ytnnmaegpiddnbaa
open Go.RowKit

abbrev wyV (f b : Int) : Value := .agg #[.int .i64 f, .int .i64 b]
abbrev wyO (f b : Int) : Obj := .cells #[.int .i64 f, .int .i64 b] 68 (0, 0)
set_option maxHeartbeats 400000 in
theorem forth_any (w : World) : Calls Try.prog 36 #[] w fun e w' => e = .returned (wyV 0 1) ∧ w' = w.alloc (wyO 0 1) := by
  go_enter Try.func36, Try.ntmps36
  go_wp2
  exact bodyPost_ret (v := wyV 0 1) (by simp [results, Try.results36, go_sem]) rfl ⟨rfl, rfl⟩
set_option maxHeartbeats 400000 in
theorem back_any (n : Int) (w : World) (h0 : 0 ≤ n) (h1 : n < 9223372036854775808) : Calls Try.prog 37 #[.int .i64 n] w fun e w' => e = .returned (wyV (n - 1) (-1)) ∧ w' = w.alloc (wyO (n - 1) (-1)) := by
  go_enter Try.func37, Try.ntmps37
  go_wp2
  exact bodyPost_ret (v := wyV (n - 1) (-1)) (by simp [results, Try.results37, go_sem]) rfl ⟨rfl, rfl⟩
set_option maxHeartbeats 400000 in
theorem number_forth (k : Nat) (w : World) (hk : k ≤ 10000000) : Calls Try.prog 47 #[wyV 0 1, .int .i64 (k : Int)] w fun e w' => e = .returned (.int .i64 (k : Int)) ∧ Below w.heap.size w w' := by
  go_enter Try.func47, Try.ntmps47
  go_wp2
  go_ret
  exact ⟨retI (by go_num), (by repeat (first | exact Below.refl _ _ | refine blw_alloc ?_ | refine blw_drew ?_ | assumption))⟩
set_option maxHeartbeats 400000 in
theorem number_back (n k : Nat) (w : World) (hn : n ≤ 10000000) (hk : k < n) : Calls Try.prog 47 #[wyV ((n : Int) - 1) (-1), .int .i64 (k : Int)] w fun e w' => e = .returned (.int .i64 ((n - 1 - k : Nat) : Int)) ∧ Below w.heap.size w w' := by
  have e1 : ((n - 1 - k : Nat) : Int) = (n : Int) - 1 - (k : Int) := by omega
  rw [e1]
  clear e1
  go_enter Try.func47, Try.ntmps47
  go_wp2
  go_ret
  exact ⟨retI (by go_num), (by repeat (first | exact Below.refl _ _ | refine blw_alloc ?_ | refine blw_drew ?_ | assumption))⟩

/-- words or'ed, in an order -/
def ov (A : Ars) (L : Nat) (p : Nat → Nat) : Nat → Nat
  | 0 => 0
  | k + 1 => orW (ov A L p k) (A.word (L + p k))
theorem ov_lt (A : Ars) (L : Nat) (p : Nat → Nat) (h : A.ok) (k : Nat) : ov A L p k < 4294967296 := by
  induction k with
  | zero => exact (by decide : (0 : Nat) < 4294967296)
  | succ k ih => exact orW_lt ih (Ars.word_lt h _)

set_option maxHeartbeats 3200000 in
theorem sgather_yes (h : Hn) (F : Nat → Prop) (A : Ars) (L n : Nat) (f b : Int) (p : Nat → Nat) (w : World) (a : Ar w h F A) (hin : L + n ≤ A.top) (hes : A.es.length ≤ 300000000)
    (hnum : ∀ (k : Nat) (w' : World), k < n → Calls Try.prog 47 #[wyV f b, .int .i64 (k : Int)] w' fun e w'' => e = .returned (.int .i64 (p k : Int)) ∧ Below w'.heap.size w' w'') (hp : ∀ k, k < n → p k < n) (hi : ∀ i j, i < n → j < n → p i = p j → i = j) :
    Calls Try.prog 35 #[arPtr h, .int .i64 (L : Int), .int .i64 (n : Int), wyV f b] w fun e w' => e = .returned (.tuple #[sec (ov A L p n : Nat), .bool true]) ∧ ∃ F', Ar w' h F' (evo A (fun i => L + p i) (fun i => ov A L p (i + 1)) n) ∧ Step w F w' F' := by
  have hb1 := a.ok.1
  have hb2 := a.ok.2.1
  have HA := hid a
  have HNF := hid (show ∀ i, w.heap.size ≤ i → ¬ F i from fun i hi x => by have := a.lt _ x; omega)
  have HFT := hid (Ars.fits_nat hin)
  have HNU := hid hnum
  have HP := hid hp
  have HIJ := hid hi
  clear a hnum hp hi
  go_enter Try.func35, Try.ntmps35
  go_wp2_with fail
  refine (ar_fits h F A L n _ ((HA.out.alloc _).alloc _) (by omega)).mono ?_
  rintro e w1 ⟨rfl, hw1⟩
  subst hw1
  rw [HFT.out]
  go_wp2_with (go_at_call 31; refine (of_any _ _).mono ?_; rintro e w' ⟨rfl, rfl⟩)
  go_loopw [21] (fun c wr => ∃ (k : Nat) (Fk : Nat → Prop), k ≤ n ∧ c = .int .i64 (k : Int) ∧ Ar wr h Fk (evo A (fun i => L + p i) (fun i => ov A L p (i + 1)) k) ∧ Step w F wr Fk ∧ wr.heap[w.heap.size]? = some (wyO f b) ∧ wr.heap[w.heap.size + 1]? = some (sb 0) ∧ wr.heap[w.heap.size + 1 + 1 + 1]? = some (sb (ov A L p k : Nat)) ∧ ¬ Fk w.heap.size ∧ ¬ Fk (w.heap.size + 1) ∧ ¬ Fk (w.heap.size + 1 + 1 + 1)) (fun c _ => n - (intOf c).toNat)
  case atStart => exact ⟨0, F, Nat.zero_le _, rfl, (((HA.out.alloc _).alloc _).alloc _).alloc _, ((((Step.refl _ _).alloc _).alloc _).alloc _).alloc _, (by simp only [heap_alloc_get, World.size_alloc]; repeat (first | rw [if_pos trivial] | rw [if_pos rfl] | rw [if_neg (by omega)])), (by simp only [heap_alloc_get, World.size_alloc]; repeat (first | rw [if_pos trivial] | rw [if_pos rfl] | rw [if_neg (by omega)])), (show _ = some (sb 0) from (by simp only [heap_alloc_get, World.size_alloc]; repeat (first | rw [if_pos trivial] | rw [if_pos rfl] | rw [if_neg (by omega)]))), HNF.out _ (Nat.le_refl _), HNF.out _ (by omega), HNF.out _ (by omega)⟩
  case round =>
    obtain ⟨k, Fk, hk, rfl, ak, sk, hb0, hb6, hb8, hn0, hn6, hn8⟩ := hrel
    by_cases hlt : k < n
    · have HSK := hid sk
      have hpk := HP.out k hlt
      have htp := evo_top A (fun i => L + p i) (fun i => ov A L p (i + 1)) k
      have hel := evo_es A (fun i => L + p i) (fun i => ov A L p (i + 1)) k
      have HWD := hid (show (evo A (fun i => L + p i) (fun i => ov A L p (i + 1)) k).word (L + p k) = A.word (L + p k) from evo_word A _ _ k (fun j hj => by show L + p j < _; have := HP.out j (by omega); omega) _ (fun j hj e => by
        have e' : p j = p k := by have : L + p j = L + p k := e; omega
        have := HIJ.out j k (by omega) hlt e'; omega))
      have HEV := hid (show evo A (fun i => L + p i) (fun i => ov A L p (i + 1)) (k + 1) = ((evo A (fun i => L + p i) (fun i => ov A L p (i + 1)) k).loadN (L + p k)).storeN (L + p k) (ov A L p (k + 1)) from rfl)
      have HNK := hid (fun w' => HNU.out k w' hlt)
      have hs0 := ov_lt A L p HA.out.ok k
      have hs1 := ov_lt A L p HA.out.ok (k + 1)
      have HS := hid (show orW (ov A L p k) (A.word (L + p k)) = ov A L p (k + 1) from rfl)
      obtain ⟨Ak, hAk⟩ : ∃ Ak, evo A (fun i => L + p i) (fun i => ov A L p (i + 1)) k = Ak := ⟨_, rfl⟩
      rw [hAk] at ak htp hel HWD HEV
      obtain ⟨q, hqe⟩ : ∃ q, p k = q := ⟨_, rfl⟩
      rw [hqe] at hpk HWD HEV HNK HS
      have hkt : L + q < Ak.top := by omega
      have he4 : Ak.es.length ≤ 400000000 := by omega
      have HE4 := hid he4
      obtain ⟨e1, e2⟩ := ld_at (A := Ak) (L := L) (i := q) hkt
      have HVX := hid (Ars.word_lt ak.ok (L + q))
      rw [HWD.out] at e1 HVX
      have H1 := hid e1
      have H2 := hid e2
      obtain ⟨x, hx⟩ : ∃ x, A.word (L + q) = x := ⟨_, rfl⟩
      obtain ⟨s0, hs0e⟩ : ∃ s0, ov A L p k = s0 := ⟨_, rfl⟩
      obtain ⟨s1, hs1e⟩ : ∃ s1, ov A L p (k + 1) = s1 := ⟨_, rfl⟩
      have HST := hid (st_at (A := Ak.loadN (L + q)) (L := L) (i := q) (v := s1) hkt)
      rw [hs0e] at hs0 hb8 HS
      rw [hs1e] at hs1 HS HEV
      rw [hx] at H1 HVX HS
      have HS1 := hid hs1e
      have HB := hid (And.intro hb0 (And.intro hb6 (And.intro hb8 (And.intro hn0 (And.intro hn6 hn8)))))
      have HAR := hid ak
      have c0 : wr.cell? ⟨w.heap.size, 0, none⟩ = some (.int .i64 f) := cell_of_heap hb0 rfl
      have c1 : wr.cell? ⟨w.heap.size, 1, none⟩ = some (.int .i64 b) := cell_of_heap hb0 rfl
      clear ak sk hb0 hb6 hb8 hn0 hn6 hn8 htp hel hAk e1 e2 he4 hx hs0e hs1e hkt hqe
      have HWL := hid (show IntKind.i64.wrap ((L : Int) + (q : Int)) = (L : Int) + (q : Int) by rw [IntKind.wrap_i64]; omega)
      go_wp2_with fail
      refine (HNK.out _).mono ?_
      rintro e wn ⟨rfl, hBn⟩
      have HAK := hid (HAR.out.below hBn)
      have HSN := hid (HSK.out.trans (Step.ofBelow (F := Fk) hBn))
      have HW := hid (And.intro ((hBn.block _ (lt_of_heap HB.out.1)).trans HB.out.1) ((hBn.block _ (lt_of_heap HB.out.2.1)).trans HB.out.2.1))
      have H8 := hid (And.intro ((hBn.block _ (lt_of_heap HB.out.2.2.1)).trans HB.out.2.2.1) HB.out.2.2.2.2.2)
      have kt := cell_sb8 H8.out.1
      have ft := frozen_of_heap (i := 0) H8.out.1
      clear hBn c0 c1
      go_wp2_with fail
      go_cut [21] from 21 to 38 (fun c wx => c = .int .i64 (k : Int) ∧ ∃ F1, Ar wx h F1 (Ak.loadN (L + q)) ∧ Step w F wx F1 ∧ wx.heap[w.heap.size + 1 + 1 + 1]? = some (sb (s1 : Int)) ∧ wx.heap[w.heap.size]? = some (wyO f b) ∧ wx.heap[w.heap.size + 1]? = some (sb 0) ∧ ¬ F1 w.heap.size ∧ ¬ F1 (w.heap.size + 1) ∧ ¬ F1 (w.heap.size + 1 + 1 + 1))
      case first =>
        refine wp_region_held_drew (S := (fun _ => True)) (by kernel_rfl) (trivial) (fun hHeld => ?_)
        refine tk_at (i := 1) (d := some 30) (v := ?_) rfl rfl (by kernel_rfl) (by kernel_rfl) (by kernel_rfl) (fun _ _ _ h => h) (Or.inl ⟨by rfl, ?_⟩) (by assumption) ?_
        rotate_left
        · (intro w hSw; (try dsimp only at hSw); go_simp; try (with_reducible rfl))
        simp only [Act.put, List.setIfInBounds_toArray, List.set_cons_zero, List.set_cons_succ]
        refine tk_at (i := 2) (d := some 31) (v := ?_) rfl rfl (by kernel_rfl) (by kernel_rfl) (by kernel_rfl) (fun _ _ _ h => h) (Or.inl ⟨by rfl, ?_⟩) (by assumption) ?_
        rotate_left
        · (intro w hSw; (try dsimp only at hSw); go_simp; try (with_reducible rfl))
        simp only [Act.put, List.setIfInBounds_toArray, List.set_cons_zero, List.set_cons_succ]
        refine wpAnyH_ready (rs := [0, 3]) (by kernel_rfl) (by simp) ?_
        refine AllReadyH.cons rfl (fun K hK => ?_) (AllReadyH.cons rfl (fun K hK => ?_) AllReadyH.nil)
        · go_simp
          go_wp2_with fail
          refine hK.out _ _ (trivial) (fun hHeld => ?_)
          clear hK K
          try simp only [Act.put, List.setIfInBounds_toArray, List.set_cons_zero, List.set_cons_succ]
          refine wpAnyH_ready (rs := [3]) (by kernel_rfl) (by simp) ?_
          refine AllReadyH.cons rfl (fun K hK => ?_) AllReadyH.nil
          go_simp
          refine (ar_load h Fk Ak ((L : Int) + (q : Int)) _ HAK.out.drew (by omega) (by have := HE4.out; omega)).mono ?_
          rintro e w6 ⟨rfl, F6, a6, s6⟩
          rw [H1.out]
          rw [H2.out] at a6
          have A6 := hid a6
          have S6 := hid ((Step.refl wn Fk).drew.trans s6)
          have T6 := hid (S6.out.heap H8.out.1 H8.out.2)
          have kt6 := cell_sb8 T6.out
          clear a6 s6
          go_wp2_with fail
          refine hK.out _ _ (trivial) (fun hHeld => ?_)
          clear hK K
          try simp only [Act.put, List.setIfInBounds_toArray, List.set_cons_zero, List.set_cons_succ]
          refine wpAnyH_ready (rs := [4]) (by kernel_rfl) (by simp) ?_
          refine AllReadyH.cons rfl (fun K hK => ?_) AllReadyH.nil
          go_simp
          refine (or_b s0 x _ hs0 HVX.out).mono ?_
          rintro e w7 ⟨rfl, hB7⟩
          rw [HS.out]
          have B7 := hid hB7
          have T7 := hid ((hB7.block _ (lt_of_heap T6.out)).trans T6.out)
          have kt7 := cell_sb8 T7.out
          have ft7 := frozen_of_heap (i := 0) T7.out
          clear hB7
          go_wp2_with fail
          refine hK.out _ _ (trivial) (fun hHeld => ?_)
          clear hK K
          try simp only [Act.put, List.setIfInBounds_toArray, List.set_cons_zero, List.set_cons_succ]
          refine wpAnyH_ready (rs := [5]) (by kernel_rfl) (by simp) ?_
          refine AllReadyH.cons rfl (fun K hK => ?_) AllReadyH.nil
          go_simp
          go_wp2_with fail
          refine hK.out _ _ (trivial) (fun hHeld => ?_)
          clear hK K
          try simp only [Act.put, List.setIfInBounds_toArray, List.set_cons_zero, List.set_cons_succ]
          refine wpAnyH_done (by kernel_rfl) ?_ _
          clear hHeld
          have HF1 := hid (show ¬ F6 (w.heap.size + 1 + 1 + 1) from S6.out.out H8.out.2 (lt_of_heap H8.out.1))
          have HF0 := hid (show ¬ F6 w.heap.size from S6.out.out HB.out.2.2.2.1 (lt_of_heap HW.out.1))
          have HF2 := hid (show ¬ F6 (w.heap.size + 1) from S6.out.out HB.out.2.2.2.2.1 (lt_of_heap HW.out.2))
          have T0 := hid (S6.out.heap HW.out.1 HB.out.2.2.2.1)
          have T1 := hid (S6.out.heap HW.out.2 HB.out.2.2.2.2.1)
          clear kt kt6 kt7 ft ft7
          go_wp2_with fail
          go_meet
          case rel => exact ⟨rfl, F6, (A6.out.below B7.out).setOther _ _ HF1.out, ((HSN.out.trans S6.out).trans (Step.ofBelow (F := F6) B7.out)).setNew _ _ (by show w.heap.size ≤ w.heap.size + 1 + 1 + 1; omega), heap_setCell_at _ _ 0 _ _ _ _ T7.out, (Below.heap_setCell _ _ _ _ (by show w.heap.size ≠ w.heap.size + 1 + 1 + 1; omega)).trans ((B7.out.block _ (lt_of_heap T0.out)).trans T0.out), (Below.heap_setCell _ _ _ _ (by show w.heap.size + 1 ≠ w.heap.size + 1 + 1 + 1; omega)).trans ((B7.out.block _ (lt_of_heap T1.out)).trans T1.out), HF0.out, HF2.out, HF1.out⟩
        · go_simp
          refine (ar_load h Fk Ak ((L : Int) + (q : Int)) _ HAK.out.drew (by omega) (by have := HE4.out; omega)).mono ?_
          rintro e w6 ⟨rfl, F6, a6, s6⟩
          rw [H1.out]
          rw [H2.out] at a6
          have A6 := hid a6
          have S6 := hid ((Step.refl wn Fk).drew.trans s6)
          have T6 := hid (S6.out.heap H8.out.1 H8.out.2)
          have kt6 := cell_sb8 T6.out
          clear a6 s6
          go_wp2_with fail
          refine hK.out _ _ (trivial) (fun hHeld => ?_)
          clear hK K
          try simp only [Act.put, List.setIfInBounds_toArray, List.set_cons_zero, List.set_cons_succ]
          refine wpAnyH_ready (rs := [0]) (by kernel_rfl) (by simp) ?_
          refine AllReadyH.cons rfl (fun K hK => ?_) AllReadyH.nil
          go_simp
          go_wp2_with fail
          refine hK.out _ _ (trivial) (fun hHeld => ?_)
          clear hK K
          try simp only [Act.put, List.setIfInBounds_toArray, List.set_cons_zero, List.set_cons_succ]
          refine wpAnyH_ready (rs := [4]) (by kernel_rfl) (by simp) ?_
          refine AllReadyH.cons rfl (fun K hK => ?_) AllReadyH.nil
          go_simp
          refine (or_b s0 x _ hs0 HVX.out).mono ?_
          rintro e w7 ⟨rfl, hB7⟩
          rw [HS.out]
          have B7 := hid hB7
          have T7 := hid ((hB7.block _ (lt_of_heap T6.out)).trans T6.out)
          have kt7 := cell_sb8 T7.out
          have ft7 := frozen_of_heap (i := 0) T7.out
          clear hB7
          go_wp2_with fail
          refine hK.out _ _ (trivial) (fun hHeld => ?_)
          clear hK K
          try simp only [Act.put, List.setIfInBounds_toArray, List.set_cons_zero, List.set_cons_succ]
          refine wpAnyH_ready (rs := [5]) (by kernel_rfl) (by simp) ?_
          refine AllReadyH.cons rfl (fun K hK => ?_) AllReadyH.nil
          go_simp
          go_wp2_with fail
          refine hK.out _ _ (trivial) (fun hHeld => ?_)
          clear hK K
          try simp only [Act.put, List.setIfInBounds_toArray, List.set_cons_zero, List.set_cons_succ]
          refine wpAnyH_done (by kernel_rfl) ?_ _
          clear hHeld
          have HF1 := hid (show ¬ F6 (w.heap.size + 1 + 1 + 1) from S6.out.out H8.out.2 (lt_of_heap H8.out.1))
          have HF0 := hid (show ¬ F6 w.heap.size from S6.out.out HB.out.2.2.2.1 (lt_of_heap HW.out.1))
          have HF2 := hid (show ¬ F6 (w.heap.size + 1) from S6.out.out HB.out.2.2.2.2.1 (lt_of_heap HW.out.2))
          have T0 := hid (S6.out.heap HW.out.1 HB.out.2.2.2.1)
          have T1 := hid (S6.out.heap HW.out.2 HB.out.2.2.2.2.1)
          clear kt kt6 kt7 ft ft7
          go_wp2_with fail
          go_meet
          case rel => exact ⟨rfl, F6, (A6.out.below B7.out).setOther _ _ HF1.out, ((HSN.out.trans S6.out).trans (Step.ofBelow (F := F6) B7.out)).setNew _ _ (by show w.heap.size ≤ w.heap.size + 1 + 1 + 1; omega), heap_setCell_at _ _ 0 _ _ _ _ T7.out, (Below.heap_setCell _ _ _ _ (by show w.heap.size ≠ w.heap.size + 1 + 1 + 1; omega)).trans ((B7.out.block _ (lt_of_heap T0.out)).trans T0.out), (Below.heap_setCell _ _ _ _ (by show w.heap.size + 1 ≠ w.heap.size + 1 + 1 + 1; omega)).trans ((B7.out.block _ (lt_of_heap T1.out)).trans T1.out), HF0.out, HF2.out, HF1.out⟩
      case rest =>
        obtain ⟨rfl, F1, a1, s1', hb8, hb0, hb6, hn0, hn6, hn8⟩ := hcut
        have A1 := hid a1
        have S1 := hid s1'
        have T1 := hid (And.intro hb0 (And.intro hb6 (And.intro hb8 (And.intro hn0 (And.intro hn6 hn8)))))
        have k8 := cell_sb8 hb8
        clear a1 s1' hb8 hb0 hb6 hn0 hn6 hn8 kt ft
        go_wp2_with fail
        refine (ar_store h F1 (Ak.loadN (L + q)) ((L : Int) + (q : Int)) s1 _ A1.out (by omega) hs1 (by have := HE4.out; simp [Ars.loadN, Ars.note]; omega)).mono ?_
        rintro e w9 ⟨rfl, F9, a9, s9⟩
        rw [HST.out, ← HEV.out] at a9
        have A9 := hid a9
        have S9 := hid (S1.out.trans s9)
        have B9 := hid (And.intro (s9.heap T1.out.1 T1.out.2.2.2.1) (And.intro (s9.heap T1.out.2.1 T1.out.2.2.2.2.1) (And.intro (s9.heap T1.out.2.2.1 T1.out.2.2.2.2.2) (And.intro (s9.out T1.out.2.2.2.1 (lt_of_heap T1.out.1)) (And.intro (s9.out T1.out.2.2.2.2.1 (lt_of_heap T1.out.2.1)) (s9.out T1.out.2.2.2.2.2 (lt_of_heap T1.out.2.2.1)))))))
        clear a9 s9 k8
        go_wp2
        go_roundw
        case rel => exact ⟨k + 1, F9, by omega, by go_num, A9.out, S9.out, B9.out.1, B9.out.2.1, by rw [HS1.out]; exact B9.out.2.2.1, B9.out.2.2.2.1, B9.out.2.2.2.2.1, B9.out.2.2.2.2.2⟩
        case measure => simp [intOf]; omega
    · have hke : k = n := by omega
      subst hke
      have HAK := hid ak
      have HSK := hid sk
      have H6 := hid (And.intro hb6 hn6)
      have k8 := cell_sb8 hb8
      have k6 := cell_sb8 hb6
      have f6 := frozen_of_heap (i := 0) hb6
      clear ak sk hb0 hb6 hb8 hn0 hn6 hn8
      go_wp2
      have hs := heap_setCell_at _ _ 0 _ _ _ (.int .u32 (ov A L p k : Nat)) H6.out.1
      have d0 := cell_of_heap (i := 0) hs rfl
      exact bodyPost_ret (v := .tuple #[sec (ov A L p k : Nat), .bool true]) (by simp only [results, Try.results35]; simp [go_sem, d0]) rfl ⟨rfl, Fk, HAK.out.setOther _ _ H6.out.2, HSK.out.setNew _ _ (by show w.heap.size ≤ w.heap.size + 1; omega)⟩
end Go.Proofs.Ytnnmaegpiddnbaa
