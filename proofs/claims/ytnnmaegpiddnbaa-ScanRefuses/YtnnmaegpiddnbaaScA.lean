/- Words of an arena gone over one by one, each loaded and stored: plain facts; and the contract of scan.Sums, over this seat's translation. Conditions: the log has at most some hundred million events. -/
import Derived.Test.YtnnmaegpiddnbaaPkL
import Derived.Deep.CutRange
namespace Go.Proofs.Ytnnmaegpiddnbaa
open Go.RowKit

/-- words p 0, p 1 .. are loaded and then stored, one by one -/
def evo (A : Ars) (p v : Nat → Nat) : Nat → Ars
  | 0 => A
  | k + 1 => ((evo A p v k).loadN (p k)).storeN (p k) (v k)
theorem evo_top (A : Ars) (p v : Nat → Nat) (k : Nat) : (evo A p v k).top = A.top := by
  induction k with
  | zero => rfl
  | succ k ih => exact ih
theorem evo_wl (A : Ars) (p v : Nat → Nat) (k : Nat) : (evo A p v k).ws.length = A.ws.length := by
  induction k with
  | zero => rfl
  | succ k ih => simp only [evo, Ars.storeN_wslen]; exact ih
theorem evo_es (A : Ars) (p v : Nat → Nat) (k : Nat) : (evo A p v k).es.length = A.es.length + 2 * k := by
  induction k with
  | zero => rfl
  | succ k ih => simp only [evo, Ars.storeN_eslen, Ars.loadN, Ars.note, List.length_append, List.length_cons, List.length_nil]; omega
theorem evo_word (A : Ars) (p v : Nat → Nat) (k : Nat) (hp : ∀ j, j < k → p j < A.ws.length) : ∀ q, (∀ j, j < k → p j ≠ q) → (evo A p v k).word q = A.word q := by
  induction k with
  | zero => intro q _; rfl
  | succ k ih =>
    intro q hq
    have h1 := ih (fun j hj => hp j (by omega)) q (fun j hj => hq j (by omega))
    simp only [evo]
    rw [word_st _ _ _ (by show p k < (evo A p v k).ws.length; rw [evo_wl]; exact hp k (by omega))]
    show (if q = p k then v k else (evo A p v k).word q) = _
    rw [if_neg (fun e => hq k (by omega) e.symm), h1]
theorem evo_at (A : Ars) (p v : Nat → Nat) (k : Nat) (hp : ∀ j, j < k → p j < A.ws.length) (hi : ∀ i j, i < k → j < k → p i = p j → i = j) : ∀ j, j < k → (evo A p v k).word (p j) = v j := by
  induction k with
  | zero => intro j h; omega
  | succ k ih =>
    intro j hj
    simp only [evo]
    rw [word_st _ _ _ (by show p k < (evo A p v k).ws.length; rw [evo_wl]; exact hp k (by omega))]
    show (if p j = p k then v k else (evo A p v k).word (p j)) = _
    by_cases e : j = k
    · subst e; simp
    · rw [if_neg (fun h => e (hi j k hj (by omega) h))]
      exact ih (fun j hj => hp j (by omega)) (fun i j h1 h2 => hi i j (by omega) (by omega)) j (by omega)

theorem cell_sb8 {w : World} {g : Nat} {v : Int} (h : w.heap[g]? = some (sb v)) : w.cell? ⟨g, 0, none⟩ = some (.int .u32 v) := cell_of_heap h rfl
/-- sums of words from at on -/
def sv (A : Ars) (L : Nat) : Nat → Nat
  | 0 => 0
  | k + 1 => addW (sv A L k) (A.word (L + k))
theorem sv_lt (A : Ars) (L k : Nat) : sv A L k < 4294967296 := by
  cases k with
  | zero => exact (by decide : (0 : Nat) < 4294967296)
  | succ k => exact addW_lt _ _

set_option maxHeartbeats 3200000 in
theorem sums_yes (h : Hn) (F : Nat → Prop) (A : Ars) (L n : Nat) (w : World) (a : Ar w h F A) (hin : L + n ≤ A.top) (hes : A.es.length ≤ 300000000) :
    Calls Try.prog 11 #[arPtr h, .int .i64 (L : Int), .int .i64 (n : Int)] w fun e w' => e = .returned (.tuple #[sec (sv A L n : Nat), .bool true]) ∧ ∃ F', Ar w' h F' (evo A (fun i => L + i) (fun i => sv A L (i + 1)) n) ∧ Step w F w' F' := by
  have hb1 := a.ok.1
  have hb2 := a.ok.2.1
  have HA := hid a
  have HNF := hid (show ∀ i, w.heap.size ≤ i → ¬ F i from fun i hi x => by have := a.lt _ x; omega)
  have HFT := hid (Ars.fits_nat hin)
  clear a
  go_enter Try.func11, Try.ntmps11
  go_wp2_with fail
  refine (ar_fits h F A L n _ (HA.out.alloc _) (by omega)).mono ?_
  rintro e w1 ⟨rfl, hw1⟩
  subst hw1
  rw [HFT.out]
  go_wp2_with (go_at_call 31; refine (of_any _ _).mono ?_; rintro e w' ⟨rfl, rfl⟩)
  go_loopw [18] (fun c wr => ∃ (k : Nat) (Fk : Nat → Prop), k ≤ n ∧ c = .int .i64 (k : Int) ∧ Ar wr h Fk (evo A (fun i => L + i) (fun i => sv A L (i + 1)) k) ∧ Step w F wr Fk ∧ wr.heap[w.heap.size]? = some (sb 0) ∧ wr.heap[w.heap.size + 1 + 1]? = some (sb (sv A L k : Nat)) ∧ ¬ Fk w.heap.size ∧ ¬ Fk (w.heap.size + 1 + 1)) (fun c _ => n - (intOf c).toNat)
  case atStart => exact ⟨0, F, Nat.zero_le _, rfl, ((HA.out.alloc _).alloc _).alloc _, (((Step.refl _ _).alloc _).alloc _).alloc _, (by simp only [heap_alloc_get, World.size_alloc]; repeat (first | rw [if_pos trivial] | rw [if_pos rfl] | rw [if_neg (by omega)])), (show _ = some (sb 0) from (by simp only [heap_alloc_get, World.size_alloc]; repeat (first | rw [if_pos trivial] | rw [if_pos rfl] | rw [if_neg (by omega)]))), HNF.out _ (Nat.le_refl _), HNF.out _ (by omega)⟩
  case round =>
    obtain ⟨k, Fk, hk, rfl, ak, sk, hb6, hb8, hn6, hn8⟩ := hrel
    by_cases hlt : k < n
    · have HAK := hid ak
      have HSK := hid sk
      have H6 := hid (And.intro hb6 hn6)
      have H8 := hid (And.intro hb8 hn8)
      have htp := evo_top A (fun i => L + i) (fun i => sv A L (i + 1)) k
      have hel := evo_es A (fun i => L + i) (fun i => sv A L (i + 1)) k
      have HWD := hid (show (evo A (fun i => L + i) (fun i => sv A L (i + 1)) k).word (L + k) = A.word (L + k) from evo_word A _ _ k (fun j hj => by show L + j < _; omega) _ (fun j hj => by show L + j ≠ L + k; omega))
      have HEV := hid (show evo A (fun i => L + i) (fun i => sv A L (i + 1)) (k + 1) = ((evo A (fun i => L + i) (fun i => sv A L (i + 1)) k).loadN (L + k)).storeN (L + k) (sv A L (k + 1)) from rfl)
      obtain ⟨Ak, hAk⟩ : ∃ Ak, evo A (fun i => L + i) (fun i => sv A L (i + 1)) k = Ak := ⟨_, rfl⟩
      rw [hAk] at HAK htp hel HWD HEV
      have hkt : L + k < Ak.top := by omega
      have he4 : Ak.es.length ≤ 400000000 := by omega
      have HE4 := hid he4
      obtain ⟨e1, e2⟩ := ld_at (A := Ak) (L := L) (i := k) hkt
      have HVX := hid (Ars.word_lt HAK.out.ok (L + k))
      rw [HWD.out] at e1 HVX
      have H1 := hid e1
      have H2 := hid e2
      have HST := hid (st_at (A := Ak.loadN (L + k)) (L := L) (i := k) (v := sv A L (k + 1)) hkt)
      have HS := hid (show addW (sv A L k) (A.word (L + k)) = sv A L (k + 1) from rfl)
      have hs0 := sv_lt A L k
      have hs1 := sv_lt A L (k + 1)
      obtain ⟨x, hx⟩ : ∃ x, A.word (L + k) = x := ⟨_, rfl⟩
      obtain ⟨s0, hs0e⟩ : ∃ s0, sv A L k = s0 := ⟨_, rfl⟩
      obtain ⟨s1, hs1e⟩ : ∃ s1, sv A L (k + 1) = s1 := ⟨_, rfl⟩
      rw [hs0e] at hs0 H8 HS hb8
      rw [hs1e] at hs1 HS HEV HST
      rw [hx] at H1 HVX HS
      have HS1 := hid hs1e
      have kt := cell_sb8 hb8
      have ft := frozen_of_heap (i := 0) hb8
      have HWL := hid (show IntKind.i64.wrap ((L : Int) + (k : Int)) = (L : Int) + (k : Int) by rw [IntKind.wrap_i64]; omega)
      clear ak sk hb6 hb8 hn6 hn8 htp hel hAk e1 e2 he4 hx hs0e hs1e hkt
      go_wp2_with fail
      go_cut [18] from 18 to 34 (fun c wx => c = .int .i64 (k : Int) ∧ ∃ F1, Ar wx h F1 (Ak.loadN (L + k)) ∧ Step w F wx F1 ∧ wx.heap[w.heap.size + 1 + 1]? = some (sb (s1 : Int)) ∧ wx.heap[w.heap.size]? = some (sb 0) ∧ ¬ F1 w.heap.size ∧ ¬ F1 (w.heap.size + 1 + 1))
      case first =>
        refine wp_region_held_drew (S := (fun _ => True)) (by kernel_rfl) (trivial) (fun hHeld => ?_)
        refine tk_at (i := 1) (d := some 22) (v := ?_) rfl rfl (by kernel_rfl) (by kernel_rfl) (by kernel_rfl) (fun _ _ _ h => h) (Or.inl ⟨by rfl, ?_⟩) (by assumption) ?_
        rotate_left
        · (intro w hSw; (try dsimp only at hSw); go_simp; try (with_reducible rfl))
        simp only [Act.put, List.setIfInBounds_toArray, List.set_cons_zero, List.set_cons_succ]
        refine tk_at (i := 2) (d := some 23) (v := ?_) rfl rfl (by kernel_rfl) (by kernel_rfl) (by kernel_rfl) (fun _ _ _ h => h) (Or.inl ⟨by rfl, ?_⟩) (by assumption) ?_
        rotate_left
        · (intro w hSw; (try dsimp only at hSw); go_simp; try (with_reducible rfl))
        simp only [Act.put, List.setIfInBounds_toArray, List.set_cons_zero, List.set_cons_succ]
        refine tk_at (i := 3) (d := some 24) (v := ?_) rfl rfl (by kernel_rfl) (by kernel_rfl) (by kernel_rfl) (fun _ _ _ h => h) (Or.inl ⟨by rfl, ?_⟩) (by assumption) ?_
        rotate_left
        · (intro w hSw; (try dsimp only at hSw); go_simp; try (with_reducible rfl))
        simp only [Act.put, List.setIfInBounds_toArray, List.set_cons_zero, List.set_cons_succ]
        refine tk_at (i := 4) (d := some 25) (v := ?_) rfl rfl (by kernel_rfl) (by kernel_rfl) (by kernel_rfl) (fun _ _ _ h => h) (Or.inl ⟨by rfl, ?_⟩) (by assumption) ?_
        rotate_left
        · (intro w hSw; (try dsimp only at hSw); go_simp; try (with_reducible rfl))
        simp only [Act.put, List.setIfInBounds_toArray, List.set_cons_zero, List.set_cons_succ]
        refine wpAnyH_ready (rs := [0, 5]) (by kernel_rfl) (by simp) ?_
        refine AllReadyH.cons rfl (fun K hK => ?_) (AllReadyH.cons rfl (fun K hK => ?_) AllReadyH.nil)
        · go_simp
          go_wp2_with fail
          refine hK.out _ _ (trivial) (fun hHeld => ?_)
          clear hK K
          try simp only [Act.put, List.setIfInBounds_toArray, List.set_cons_zero, List.set_cons_succ]
          refine wpAnyH_ready (rs := [5]) (by kernel_rfl) (by simp) ?_
          refine AllReadyH.cons rfl (fun K hK => ?_) AllReadyH.nil
          go_simp
          rw [HWL.out]
          refine (ar_load h Fk Ak ((L : Int) + (k : Int)) _ HAK.out.drew (by omega) (by have := HE4.out; omega)).mono ?_
          rintro e w6 ⟨rfl, F6, a6, s6⟩
          rw [H1.out]
          rw [H2.out] at a6
          have A6 := hid a6
          have S6 := hid ((Step.refl wr Fk).drew.trans s6)
          have T6 := hid (S6.out.heap H8.out.1 H8.out.2)
          have kt6 := cell_sb8 T6.out
          clear a6 s6
          go_wp2_with fail
          refine hK.out _ _ (trivial) (fun hHeld => ?_)
          clear hK K
          try simp only [Act.put, List.setIfInBounds_toArray, List.set_cons_zero, List.set_cons_succ]
          refine wpAnyH_ready (rs := [6]) (by kernel_rfl) (by simp) ?_
          refine AllReadyH.cons rfl (fun K hK => ?_) AllReadyH.nil
          go_simp
          refine (add_b s0 x _ hs0 HVX.out).mono ?_
          rintro e w7 ⟨rfl, hB7⟩
          rw [HS.out]
          have B7 := hid hB7
          have T7 := hid ((hB7.block _ (lt_of_heap T6.out)).trans T6.out)
          have kt7 := cell_sb8 T7.out
          have ft7 := frozen_of_heap (i := 0) T7.out
          clear hB7
          go_wp2_with fail
          refine hK.out _ _ (trivial) (fun hHeld => ?_)
          clear hK K
          try simp only [Act.put, List.setIfInBounds_toArray, List.set_cons_zero, List.set_cons_succ]
          refine wpAnyH_ready (rs := [7]) (by kernel_rfl) (by simp) ?_
          refine AllReadyH.cons rfl (fun K hK => ?_) AllReadyH.nil
          go_simp
          go_wp2_with fail
          refine hK.out _ _ (trivial) (fun hHeld => ?_)
          clear hK K
          try simp only [Act.put, List.setIfInBounds_toArray, List.set_cons_zero, List.set_cons_succ]
          refine wpAnyH_done (by kernel_rfl) ?_ _
          clear hHeld
          have HF1 := hid (show ¬ F6 (w.heap.size + 1 + 1) from S6.out.out H8.out.2 (lt_of_heap H8.out.1))
          have HF0 := hid (show ¬ F6 w.heap.size from S6.out.out H6.out.2 (lt_of_heap H6.out.1))
          have T0 := hid ((B7.out.block _ (lt_of_heap (S6.out.heap H6.out.1 H6.out.2))).trans (S6.out.heap H6.out.1 H6.out.2))
          clear kt kt6 kt7 ft ft7
          go_wp2_with fail
          go_meet
          case rel => exact ⟨rfl, F6, (A6.out.below B7.out).setOther _ _ HF1.out, ((HSK.out.trans S6.out).trans (Step.ofBelow (F := F6) B7.out)).setNew _ _ (by show w.heap.size ≤ w.heap.size + 1 + 1; omega), heap_setCell_at _ _ 0 _ _ _ _ T7.out, (Below.heap_setCell _ _ _ _ (by show w.heap.size ≠ w.heap.size + 1 + 1; omega)).trans T0.out, HF0.out, HF1.out⟩
        · go_simp
          rw [HWL.out]
          refine (ar_load h Fk Ak ((L : Int) + (k : Int)) _ HAK.out.drew (by omega) (by have := HE4.out; omega)).mono ?_
          rintro e w6 ⟨rfl, F6, a6, s6⟩
          rw [H1.out]
          rw [H2.out] at a6
          have A6 := hid a6
          have S6 := hid ((Step.refl wr Fk).drew.trans s6)
          have T6 := hid (S6.out.heap H8.out.1 H8.out.2)
          have kt6 := cell_sb8 T6.out
          clear a6 s6
          go_wp2_with fail
          refine hK.out _ _ (trivial) (fun hHeld => ?_)
          clear hK K
          try simp only [Act.put, List.setIfInBounds_toArray, List.set_cons_zero, List.set_cons_succ]
          refine wpAnyH_ready (rs := [0]) (by kernel_rfl) (by simp) ?_
          refine AllReadyH.cons rfl (fun K hK => ?_) AllReadyH.nil
          go_simp
          go_wp2_with fail
          refine hK.out _ _ (trivial) (fun hHeld => ?_)
          clear hK K
          try simp only [Act.put, List.setIfInBounds_toArray, List.set_cons_zero, List.set_cons_succ]
          refine wpAnyH_ready (rs := [6]) (by kernel_rfl) (by simp) ?_
          refine AllReadyH.cons rfl (fun K hK => ?_) AllReadyH.nil
          go_simp
          refine (add_b s0 x _ hs0 HVX.out).mono ?_
          rintro e w7 ⟨rfl, hB7⟩
          rw [HS.out]
          have B7 := hid hB7
          have T7 := hid ((hB7.block _ (lt_of_heap T6.out)).trans T6.out)
          have kt7 := cell_sb8 T7.out
          have ft7 := frozen_of_heap (i := 0) T7.out
          clear hB7
          go_wp2_with fail
          refine hK.out _ _ (trivial) (fun hHeld => ?_)
          clear hK K
          try simp only [Act.put, List.setIfInBounds_toArray, List.set_cons_zero, List.set_cons_succ]
          refine wpAnyH_ready (rs := [7]) (by kernel_rfl) (by simp) ?_
          refine AllReadyH.cons rfl (fun K hK => ?_) AllReadyH.nil
          go_simp
          go_wp2_with fail
          refine hK.out _ _ (trivial) (fun hHeld => ?_)
          clear hK K
          try simp only [Act.put, List.setIfInBounds_toArray, List.set_cons_zero, List.set_cons_succ]
          refine wpAnyH_done (by kernel_rfl) ?_ _
          clear hHeld
          have HF1 := hid (show ¬ F6 (w.heap.size + 1 + 1) from S6.out.out H8.out.2 (lt_of_heap H8.out.1))
          have HF0 := hid (show ¬ F6 w.heap.size from S6.out.out H6.out.2 (lt_of_heap H6.out.1))
          have T0 := hid ((B7.out.block _ (lt_of_heap (S6.out.heap H6.out.1 H6.out.2))).trans (S6.out.heap H6.out.1 H6.out.2))
          clear kt kt6 kt7 ft ft7
          go_wp2_with fail
          go_meet
          case rel => exact ⟨rfl, F6, (A6.out.below B7.out).setOther _ _ HF1.out, ((HSK.out.trans S6.out).trans (Step.ofBelow (F := F6) B7.out)).setNew _ _ (by show w.heap.size ≤ w.heap.size + 1 + 1; omega), heap_setCell_at _ _ 0 _ _ _ _ T7.out, (Below.heap_setCell _ _ _ _ (by show w.heap.size ≠ w.heap.size + 1 + 1; omega)).trans T0.out, HF0.out, HF1.out⟩
      case rest =>
        obtain ⟨rfl, F1, a1, s1', hb8, hb6, hn6, hn8⟩ := hcut
        have A1 := hid a1
        have S1 := hid s1'
        have T8 := hid hb8
        have T6 := hid hb6
        have N1 := hid (And.intro hn6 hn8)
        have k8 := cell_sb8 hb8
        clear a1 s1' hb8 hb6 hn6 hn8 kt ft
        go_wp2_with fail
        refine (ar_store h F1 (Ak.loadN (L + k)) ((L : Int) + (k : Int)) s1 _ A1.out (by omega) hs1 (by have := HE4.out; simp [Ars.loadN, Ars.note]; omega)).mono ?_
        rintro e w9 ⟨rfl, F9, a9, s9⟩
        rw [HST.out, ← HEV.out] at a9
        have A9 := hid a9
        have S9 := hid (S1.out.trans s9)
        have B9 := hid (And.intro (s9.heap T6.out N1.out.1) (And.intro (s9.heap T8.out N1.out.2) (And.intro (s9.out N1.out.1 (lt_of_heap T6.out)) (s9.out N1.out.2 (lt_of_heap T8.out)))))
        clear a9 s9 k8
        go_wp2
        go_roundw
        case rel => exact ⟨k + 1, F9, by omega, by go_num, A9.out, S9.out, B9.out.1, by rw [HS1.out]; exact B9.out.2.1, B9.out.2.2.1, B9.out.2.2.2⟩
        case measure => simp [intOf]; omega
    · have hke : k = n := by omega
      subst hke
      have HAK := hid ak
      have HSK := hid sk
      have H6 := hid (And.intro hb6 hn6)
      have k8 := cell_sb8 hb8
      have k6 := cell_sb8 hb6
      have f6 := frozen_of_heap (i := 0) hb6
      clear ak sk hb6 hb8 hn6 hn8
      go_wp2
      have hs := heap_setCell_at _ _ 0 _ _ _ (.int .u32 (sv A L k : Nat)) H6.out.1
      have d0 := cell_of_heap (i := 0) hs rfl
      exact bodyPost_ret (v := .tuple #[sec (sv A L k : Nat), .bool true]) (by simp only [results, Try.results11]; simp [go_sem, d0]) rfl ⟨rfl, Fk, HAK.out.setOther _ _ H6.out.2, HSK.out.setNew _ _ (Nat.le_refl _)⟩
end Go.Proofs.Ytnnmaegpiddnbaa
