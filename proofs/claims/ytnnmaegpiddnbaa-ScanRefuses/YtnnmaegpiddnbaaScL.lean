/- The contract of package scan's fill, over this seat's translation. Conditions: two lanes within the arena that lie apart; the log has at most some hundred million events. -/
import Derived.Test.YtnnmaegpiddnbaaScK
namespace Go.Proofs.Ytnnmaegpiddnbaa
open Go.RowKit

theorem rfine2 {A : Ars} {L H n : Nat} (h1 : L + n ≤ A.top) (h2 : H + n ≤ A.top) (hap : L + n ≤ H ∨ H + n ≤ L) : Rfine A [((L : Int), (n : Int)), ((H : Int), (n : Int))] := by
  have := (rfine_of A (n : Int) [(L : Int), (H : Int)] (by omega)).2 ⟨by
    intro z hz
    simp at hz
    rcases hz with rfl | rfl
    · exact Ars.fits_nat h1
    · exact Ars.fits_nat h2, by
    refine List.pairwise_cons.2 ⟨fun z hz => ?_, List.pairwise_singleton _ _⟩
    simp at hz
    subst hz
    unfold ApartZ
    omega⟩
  exact this

set_option maxHeartbeats 3200000 in
theorem fill_yes (h : Hn) (F : Nat → Prop) (A : Ars) (L H n : Nat) (f b : Int) (p : Nat → Nat) (w : World) (a : Ar w h F A) (hin : L + n ≤ A.top) (hin2 : H + n ≤ A.top) (hap : L + n ≤ H ∨ H + n ≤ L) (hes : A.es.length ≤ 300000000)
    (hnum : ∀ (k : Nat) (w' : World), k < n → Calls Try.prog 47 #[wyV f b, .int .i64 (k : Int)] w' fun e w'' => e = .returned (.int .i64 (p k : Int)) ∧ Below w'.heap.size w' w'') (hp : ∀ k, k < n → p k < n) (hi : ∀ i j, i < n → j < n → p i = p j → i = j) :
    Calls Try.prog 43 #[arPtr h, .int .i64 (L : Int), .int .i64 (H : Int), .int .i64 (n : Int), wyV f b] w fun e w' => e = .returned (.bool true) ∧ ∃ F', Ar w' h F' (evf A L H p (fun i => cv A L H p (i + 1)) n) ∧ Step w F w' F' := by
  have hb1 := a.ok.1
  have hb2 := a.ok.2.1
  have HA := hid a
  have HR := hid (rfine2 hin hin2 hap)
  have HNF := hid (show ∀ i, w.heap.size ≤ i → ¬ F i from fun i hi x => by have := a.lt _ x; omega)
  have HNU := hid hnum
  have HP := hid hp
  have HIJ := hid hi
  have HAP := hid hap
  clear a hnum hp hi hap
  have H0 := hid (show ((w.alloc (wyO f b)).alloc (.cells #[.int .i64 (L : Int), .int .i64 (H : Int)] 3)).heap[w.heap.size + 1]? = some (.cells #[.int .i64 (L : Int), .int .i64 (H : Int)] 3 (0, 0)) by have := heap_alloc_at (w.alloc (wyO f b)) (.cells #[.int .i64 (L : Int), .int .i64 (H : Int)] 3); rw [World.size_alloc] at this; exact this)
  have HW0 := hid (show ((w.alloc (wyO f b)).alloc (.cells #[.int .i64 (L : Int), .int .i64 (H : Int)] 3)).heap[w.heap.size]? = some (wyO f b) from (heap_alloc_old _ _ _ (by simp)).trans (heap_alloc_at _ _))
  have BB := hid (show Below w.heap.size w ((w.alloc (wyO f b)).alloc (.cells #[.int .i64 (L : Int), .int .i64 (H : Int)] 3)) from (by repeat (first | exact Below.refl _ _ | refine blw_alloc ?_ | refine blw_drew ?_ | assumption)))
  go_enter Try.func43, Try.ntmps43
  go_wp2_with fail
  refine (of2_any (n : Int) (L : Int) (H : Int) (w.heap.size + 1) _ H0.out).mono ?_
  rintro e w1 ⟨rfl, hcs, hB1, hl1⟩
  simp only [World.size_alloc] at hcs hl1
  have HC := hid hcs
  have B1 := hid (show Below w.heap.size w w1 from BB.out.trans (hB1.mono BB.out.size))
  have A1 := hid (((HA.out.alloc _).alloc _).below hB1)
  have W1 := hid ((hB1.block _ (lt_of_heap HW0.out)).trans HW0.out)
  clear hcs hB1
  go_wp2_with fail
  refine (apart2_any h F A (w.heap.size + 1 + 1) (L : Int) (H : Int) (n : Int) _ A1.out (by omega) (by omega) hl1 HC.out).mono ?_
  rintro e w2 ⟨r, rfl, hr, hB2⟩
  have B2 := hid (B1.out.trans (hB2.mono B1.out.size))
  have A2 := hid (A1.out.below hB2)
  have W2 := hid ((hB2.block _ (lt_of_heap W1.out)).trans W1.out)
  obtain rfl : r = true := hr.2 HR.out
  clear hr hB2 HC W1 A1 B1 hl1
  go_wp2_with (go_at_call 31; refine (of_any _ _).mono ?_; rintro e w' ⟨rfl, rfl⟩)
  have HZ := hid (show w.heap.size < w2.heap.size from lt_of_heap W2.out)
  have HL2 := hid A2.out.lt
  go_loopw [25] (fun c wr => ∃ (k : Nat) (Fk : Nat → Prop), k ≤ n ∧ c = .int .i64 (k : Int) ∧ Ar wr h Fk (evf A L H p (fun i => cv A L H p (i + 1)) k) ∧ Step w F wr Fk ∧ wr.heap[w.heap.size]? = some (wyO f b) ∧ wr.heap[w2.heap.size + 1]? = some (sb (cv A L H p k : Nat)) ∧ ¬ Fk w.heap.size ∧ ¬ Fk (w2.heap.size + 1)) (fun c _ => n - (intOf c).toNat)
  case atStart => exact ⟨0, F, Nat.zero_le _, rfl, (A2.out.alloc _).alloc _, ((Step.ofBelow B2.out).alloc _).alloc _, (heap_alloc_old _ _ _ (by have := HZ.out; simp; omega)).trans ((heap_alloc_old _ _ _ HZ.out).trans W2.out), (show _ = some (sb 0) from (by simp only [heap_alloc_get, World.size_alloc]; repeat (first | rw [if_pos trivial] | rw [if_pos rfl] | rw [if_neg (by omega)]))), HNF.out _ (Nat.le_refl _), fun z => by have := HL2.out _ z; omega⟩
  case round =>
    obtain ⟨k, Fk, hk, rfl, ak, sk, hb0, hb8, hn0, hn8⟩ := hrel
    by_cases hlt : k < n
    · have HSK := hid sk
      have hpk := HP.out k hlt
      have htp := evf_top A L H p (fun i => cv A L H p (i + 1)) k
      have hel := evf_es A L H p (fun i => cv A L H p (i + 1)) k
      have HWL := hid (show (evf A L H p (fun i => cv A L H p (i + 1)) k).word (L + p k) = A.word (L + p k) from evf_word A L H _ _ k (fun j hj => by have := HP.out j (by omega); omega) _ (fun j hj e => by
        have e' : p j = p k := by omega
        have := HIJ.out j k (by omega) hlt e'; omega))
      have HWH := hid (show (evf A L H p (fun i => cv A L H p (i + 1)) k).word (H + p k) = A.word (H + p k) from evf_word A L H _ _ k (fun j hj => by have := HP.out j (by omega); omega) _ (fun j hj e => by
        have := HP.out j (by omega)
        have := HAP.out
        omega))
      have HEV := hid (show evf A L H p (fun i => cv A L H p (i + 1)) (k + 1) = (((evf A L H p (fun i => cv A L H p (i + 1)) k).loadN (H + p k)).loadN (L + p k)).storeN (L + p k) (cv A L H p (k + 1)) from rfl)
      have HNK := hid (fun w' => HNU.out k w' hlt)
      have hs0 := cv_lt A L H p HA.out.ok k
      have hs1 := cv_lt A L H p HA.out.ok (k + 1)
      have HS := hid (show (if A.word (H + p k) % 2 == 1 then A.word (L + p k) else cv A L H p k) = cv A L H p (k + 1) from rfl)
      obtain ⟨Ak, hAk⟩ : ∃ Ak, evf A L H p (fun i => cv A L H p (i + 1)) k = Ak := ⟨_, rfl⟩
      rw [hAk] at ak htp hel HWL HWH HEV
      obtain ⟨q, hqe⟩ : ∃ q, p k = q := ⟨_, rfl⟩
      rw [hqe] at hpk HWL HWH HEV HNK HS
      have hkt : L + q < Ak.top := by omega
      have hkh : H + q < Ak.top := by omega
      have he4 : Ak.es.length ≤ 400000000 := by omega
      have HE4 := hid he4
      obtain ⟨e1, e2⟩ := ld_at (A := Ak) (L := H) (i := q) hkh
      obtain ⟨e3, e4⟩ := ld_at (A := Ak.loadN (H + q)) (L := L) (i := q) hkt
      have HVH := hid (Ars.word_lt ak.ok (H + q))
      have HVX := hid (Ars.word_lt ak.ok (L + q))
      rw [show (Ak.loadN (H + q)).word (L + q) = Ak.word (L + q) from rfl, HWL.out] at e3
      rw [HWH.out] at e1 HVH
      rw [HWL.out] at HVX
      have H1 := hid e1
      have H2 := hid e2
      have H3 := hid e3
      have H4 := hid e4
      obtain ⟨x, hx⟩ : ∃ x, A.word (L + q) = x := ⟨_, rfl⟩
      obtain ⟨y, hy⟩ : ∃ y, A.word (H + q) = y := ⟨_, rfl⟩
      obtain ⟨s0, hs0e⟩ : ∃ s0, cv A L H p k = s0 := ⟨_, rfl⟩
      obtain ⟨s1, hs1e⟩ : ∃ s1, cv A L H p (k + 1) = s1 := ⟨_, rfl⟩
      have HST := hid (st_at (A := (Ak.loadN (H + q)).loadN (L + q)) (L := L) (i := q) (v := s1) hkt)
      rw [hs0e] at hs0 hb8 HS
      rw [hs1e] at hs1 HS HEV
      rw [hx] at H3 HVX HS
      rw [hy] at H1 HVH HS
      have HWW := hid (whole5_any y)
      obtain ⟨yes, hyes⟩ : ∃ yes, (y % 2 == 1) = yes := ⟨_, rfl⟩
      rw [hyes] at HWW HS
      rw [← sel5 yes x s0 HVX.out hs0] at HS
      have HS1 := hid hs1e
      have HB := hid (And.intro hb0 (And.intro hb8 (And.intro hn0 hn8)))
      have HAR := hid ak
      have c0 : wr.cell? ⟨w.heap.size, 0, none⟩ = some (.int .i64 f) := cell_of_heap hb0 rfl
      have c1 : wr.cell? ⟨w.heap.size, 1, none⟩ = some (.int .i64 b) := cell_of_heap hb0 rfl
      clear ak sk hb0 hb8 hn0 hn8 htp hel hAk e1 e2 e3 e4 he4 hx hy hs0e hs1e hkt hkh hqe hyes
      have HWLx := hid (show IntKind.i64.wrap ((L : Int) + (q : Int)) = (L : Int) + (q : Int) by rw [IntKind.wrap_i64]; omega)
      go_wp2_with fail
      refine (HNK.out _).mono ?_
      rintro e wn ⟨rfl, hBn⟩
      have HAN := hid (HAR.out.below hBn)
      have HSN := hid (HSK.out.trans (Step.ofBelow (F := Fk) hBn))
      have HBN := hid (And.intro ((hBn.block _ (lt_of_heap HB.out.1)).trans HB.out.1) ((hBn.block _ (lt_of_heap HB.out.2.1)).trans HB.out.2.1))
      clear hBn c0 c1
      go_wp2_with fail
      refine (ar_load h Fk Ak ((H : Int) + (q : Int)) _ HAN.out (by omega) (by have := HE4.out; omega)).mono ?_
      rintro e w4 ⟨rfl, F5, a4, s4⟩
      rw [H1.out]
      rw [H2.out] at a4
      have A4 := hid a4
      have S4 := hid (HSN.out.trans s4)
      have T4 := hid (And.intro (s4.heap HBN.out.1 HB.out.2.2.1) (And.intro (s4.heap HBN.out.2 HB.out.2.2.2) (And.intro (s4.out HB.out.2.2.1 (lt_of_heap HBN.out.1)) (s4.out HB.out.2.2.2 (lt_of_heap HBN.out.2)))))
      clear a4 s4
      go_wp2_with fail
      refine (HWW.out _ HVH.out).mono ?_
      rintro e w5 ⟨rfl, hB5⟩
      have A5 := hid (A4.out.below hB5)
      have S5 := hid (S4.out.trans (Step.ofBelow (F := F5) hB5))
      have T5 := hid (And.intro ((hB5.block _ (lt_of_heap T4.out.1)).trans T4.out.1) ((hB5.block _ (lt_of_heap T4.out.2.1)).trans T4.out.2.1))
      clear hB5
      go_wp2_with fail
      have HA5 := hid (A5.out.alloc (sb (mk yes : Nat)))
      have HS5 := hid (S5.out.alloc (sb (mk yes : Nat)))
      have HY5 := hid (And.intro (heap_alloc_at w5 (sb (mk yes : Nat))) (show ¬ F5 w5.heap.size from fun z => by have := A5.out.lt _ z; omega))
      have HC5 := hid (And.intro ((heap_alloc_old w5 (sb (mk yes : Nat)) _ (lt_of_heap T5.out.2)).trans T5.out.2) T4.out.2.2.2)
      have HW5 := hid (And.intro ((heap_alloc_old w5 (sb (mk yes : Nat)) _ (lt_of_heap T5.out.1)).trans T5.out.1) T4.out.2.2.1)
      have HYC := hid (show w5.heap.size ≠ w2.heap.size + 1 from by have := lt_of_heap T5.out.2; omega)
      obtain ⟨yb, hyb⟩ : ∃ yb, w5.heap.size = yb := ⟨_, rfl⟩
      rw [hyb] at HY5 HYC ⊢
      generalize w5.alloc (sb (mk yes : Nat)) = wy at *
      have kt := cell_sb8 HC5.out.1
      have ft := frozen_of_heap (i := 0) HC5.out.1
      have ky0 := cell_sb8 HY5.out.1
      clear hyb A5 S5 T5 A4 S4 T4
      go_cut [25] from 25 to 51 (fun c wx => c = .int .i64 (k : Int) ∧ ∃ F1, Ar wx h F1 ((Ak.loadN (H + q)).loadN (L + q)) ∧ Step w F wx F1 ∧ wx.heap[w2.heap.size + 1]? = some (sb (s1 : Int)) ∧ wx.heap[w.heap.size]? = some (wyO f b) ∧ ¬ F1 w.heap.size ∧ ¬ F1 (w2.heap.size + 1))
      case first =>
        refine wp_region_held_drew (S := (fun w' => w'.cell? ⟨yb, 0, none⟩ = some (.int .u32 (mk yes : Nat)))) (by kernel_rfl) (ky0) (fun hHeld => ?_)
        refine tk_at (i := 0) (d := some 37) (v := ?_) rfl rfl (by kernel_rfl) (by kernel_rfl) (by kernel_rfl) (fun _ _ _ h => h) (Or.inl ⟨by rfl, ?_⟩) (by assumption) ?_
        rotate_left
        · (intro w hSw; (try dsimp only at hSw); go_simp; try (with_reducible rfl))
        simp only [Act.put, List.setIfInBounds_toArray, List.set_cons_zero, List.set_cons_succ]
        refine tk_at (i := 1) (d := some 38) (v := ?_) rfl rfl (by kernel_rfl) (by kernel_rfl) (by kernel_rfl) (fun _ _ _ h => h) (Or.inl ⟨by rfl, ?_⟩) (by assumption) ?_
        rotate_left
        · (intro w hSw; (try dsimp only at hSw); go_simp; try (with_reducible rfl))
        simp only [Act.put, List.setIfInBounds_toArray, List.set_cons_zero, List.set_cons_succ]
        refine tk_at (i := 2) (d := some 39) (v := ?_) rfl rfl (by kernel_rfl) (by kernel_rfl) (by kernel_rfl) (fun _ _ _ h => h) (Or.inl ⟨by rfl, ?_⟩) (by assumption) ?_
        rotate_left
        · (intro w hSw; (try dsimp only at hSw); go_simp; try (with_reducible rfl))
        simp only [Act.put, List.setIfInBounds_toArray, List.set_cons_zero, List.set_cons_succ]
        refine tk_at (i := 3) (d := some 40) (v := ?_) rfl rfl (by kernel_rfl) (by kernel_rfl) (by kernel_rfl) (fun _ _ _ h => h) (Or.inl ⟨by rfl, ?_⟩) (by assumption) ?_
        rotate_left
        · (intro w hSw; (try dsimp only at hSw); go_simp; try (with_reducible rfl))
        simp only [Act.put, List.setIfInBounds_toArray, List.set_cons_zero, List.set_cons_succ]
        refine tk_at (i := 4) (d := some 41) (v := ?_) rfl rfl (by kernel_rfl) (by kernel_rfl) (by kernel_rfl) (fun _ _ _ h => h) (Or.inl ⟨by rfl, ?_⟩) (by assumption) ?_
        rotate_left
        · (intro w hSw; (try dsimp only at hSw); go_simp; try (with_reducible rfl))
        simp only [Act.put, List.setIfInBounds_toArray, List.set_cons_zero, List.set_cons_succ]
        refine wpAnyH_ready (rs := [5, 6]) (by kernel_rfl) (by simp) ?_
        refine AllReadyH.cons rfl (fun K hK => ?_) (AllReadyH.cons rfl (fun K hK => ?_) AllReadyH.nil)
        · go_simp
          rw [HWLx.out]
          refine (ar_load h F5 (Ak.loadN (H + q)) ((L : Int) + (q : Int)) _ HA5.out.drew (by omega) (by have := HE4.out; simp [Ars.loadN, Ars.note]; omega)).mono ?_
          rintro e w6 ⟨rfl, F6, a6, s6⟩
          rw [H3.out]
          rw [H4.out] at a6
          have A6 := hid a6
          have S6 := hid ((Step.refl wy F5).drew.trans s6)
          have C6 := hid (S6.out.heap HC5.out.1 HC5.out.2)
          have Y6 := hid (S6.out.heap HY5.out.1 HY5.out.2)
          have kt6 := cell_sb8 C6.out
          clear a6 s6
          go_wp2_with fail
          refine hK.out _ _ (cell_sb8 Y6.out) (fun hHeld => ?_)
          clear hK K
          try simp only [Act.put, List.setIfInBounds_toArray, List.set_cons_zero, List.set_cons_succ]
          refine wpAnyH_ready (rs := [6]) (by kernel_rfl) (by simp) ?_
          refine AllReadyH.cons rfl (fun K hK => ?_) AllReadyH.nil
          go_simp
          go_wp2_with fail
          refine hK.out _ _ (cell_sb8 Y6.out) (fun hHeld => ?_)
          clear hK K
          try simp only [Act.put, List.setIfInBounds_toArray, List.set_cons_zero, List.set_cons_succ]
          refine wpAnyH_ready (rs := [7]) (by kernel_rfl) (by simp) ?_
          refine AllReadyH.cons rfl (fun K hK => ?_) AllReadyH.nil
          go_simp
          refine (sel_b (mk yes) x s0 _ (mk_lt _) HVX.out hs0).mono ?_
          rintro e w7 ⟨rfl, hB7⟩
          rw [HS.out]
          have B7 := hid hB7
          have C7 := hid ((hB7.block _ (lt_of_heap C6.out)).trans C6.out)
          have Y7 := hid ((hB7.block _ (lt_of_heap Y6.out)).trans Y6.out)
          have kt7 := cell_sb8 C7.out
          have ft7 := frozen_of_heap (i := 0) C7.out
          clear hB7
          go_wp2_with fail
          refine hK.out _ _ (cell_sb8 Y7.out) (fun hHeld => ?_)
          clear hK K
          try simp only [Act.put, List.setIfInBounds_toArray, List.set_cons_zero, List.set_cons_succ]
          refine wpAnyH_ready (rs := [8]) (by kernel_rfl) (by simp) ?_
          refine AllReadyH.cons rfl (fun K hK => ?_) AllReadyH.nil
          go_simp
          go_wp2_with fail
          refine hK.out _ _ (cell_sb8 ((Below.heap_setCell _ _ _ _ HYC.out).trans Y7.out)) (fun hHeld => ?_)
          clear hK K
          try simp only [Act.put, List.setIfInBounds_toArray, List.set_cons_zero, List.set_cons_succ]
          refine wpAnyH_done (by kernel_rfl) ?_ _
          clear hHeld
          have HF1 := hid (show ¬ F6 (w2.heap.size + 1) from S6.out.out HC5.out.2 (lt_of_heap HC5.out.1))
          have HF0 := hid (show ¬ F6 w.heap.size from S6.out.out HW5.out.2 (lt_of_heap HW5.out.1))
          have T0 := hid (S6.out.heap HW5.out.1 HW5.out.2)
          clear kt kt6 kt7 ft ft7 ky0
          go_wp2_with fail
          go_meet
          case rel => exact ⟨rfl, F6, (A6.out.below B7.out).setOther _ _ HF1.out, ((HS5.out.trans S6.out).trans (Step.ofBelow (F := F6) B7.out)).setNew _ _ (by show w.heap.size ≤ w2.heap.size + 1; have := HZ.out; omega), heap_setCell_at _ _ 0 _ _ _ _ C7.out, (Below.heap_setCell _ _ _ _ (by show w.heap.size ≠ w2.heap.size + 1; have := HZ.out; omega)).trans ((B7.out.block _ (lt_of_heap T0.out)).trans T0.out), HF0.out, HF1.out⟩
        · go_simp
          go_wp2_with fail
          refine hK.out _ _ (ky0) (fun hHeld => ?_)
          clear hK K
          try simp only [Act.put, List.setIfInBounds_toArray, List.set_cons_zero, List.set_cons_succ]
          refine wpAnyH_ready (rs := [5]) (by kernel_rfl) (by simp) ?_
          refine AllReadyH.cons rfl (fun K hK => ?_) AllReadyH.nil
          go_simp
          rw [HWLx.out]
          refine (ar_load h F5 (Ak.loadN (H + q)) ((L : Int) + (q : Int)) _ HA5.out.drew (by omega) (by have := HE4.out; simp [Ars.loadN, Ars.note]; omega)).mono ?_
          rintro e w6 ⟨rfl, F6, a6, s6⟩
          rw [H3.out]
          rw [H4.out] at a6
          have A6 := hid a6
          have S6 := hid ((Step.refl wy F5).drew.trans s6)
          have C6 := hid (S6.out.heap HC5.out.1 HC5.out.2)
          have Y6 := hid (S6.out.heap HY5.out.1 HY5.out.2)
          have kt6 := cell_sb8 C6.out
          clear a6 s6
          go_wp2_with fail
          refine hK.out _ _ (cell_sb8 Y6.out) (fun hHeld => ?_)
          clear hK K
          try simp only [Act.put, List.setIfInBounds_toArray, List.set_cons_zero, List.set_cons_succ]
          refine wpAnyH_ready (rs := [7]) (by kernel_rfl) (by simp) ?_
          refine AllReadyH.cons rfl (fun K hK => ?_) AllReadyH.nil
          go_simp
          refine (sel_b (mk yes) x s0 _ (mk_lt _) HVX.out hs0).mono ?_
          rintro e w7 ⟨rfl, hB7⟩
          rw [HS.out]
          have B7 := hid hB7
          have C7 := hid ((hB7.block _ (lt_of_heap C6.out)).trans C6.out)
          have Y7 := hid ((hB7.block _ (lt_of_heap Y6.out)).trans Y6.out)
          have kt7 := cell_sb8 C7.out
          have ft7 := frozen_of_heap (i := 0) C7.out
          clear hB7
          go_wp2_with fail
          refine hK.out _ _ (cell_sb8 Y7.out) (fun hHeld => ?_)
          clear hK K
          try simp only [Act.put, List.setIfInBounds_toArray, List.set_cons_zero, List.set_cons_succ]
          refine wpAnyH_ready (rs := [8]) (by kernel_rfl) (by simp) ?_
          refine AllReadyH.cons rfl (fun K hK => ?_) AllReadyH.nil
          go_simp
          go_wp2_with fail
          refine hK.out _ _ (cell_sb8 ((Below.heap_setCell _ _ _ _ HYC.out).trans Y7.out)) (fun hHeld => ?_)
          clear hK K
          try simp only [Act.put, List.setIfInBounds_toArray, List.set_cons_zero, List.set_cons_succ]
          refine wpAnyH_done (by kernel_rfl) ?_ _
          clear hHeld
          have HF1 := hid (show ¬ F6 (w2.heap.size + 1) from S6.out.out HC5.out.2 (lt_of_heap HC5.out.1))
          have HF0 := hid (show ¬ F6 w.heap.size from S6.out.out HW5.out.2 (lt_of_heap HW5.out.1))
          have T0 := hid (S6.out.heap HW5.out.1 HW5.out.2)
          clear kt kt6 kt7 ft ft7 ky0
          go_wp2_with fail
          go_meet
          case rel => exact ⟨rfl, F6, (A6.out.below B7.out).setOther _ _ HF1.out, ((HS5.out.trans S6.out).trans (Step.ofBelow (F := F6) B7.out)).setNew _ _ (by show w.heap.size ≤ w2.heap.size + 1; have := HZ.out; omega), heap_setCell_at _ _ 0 _ _ _ _ C7.out, (Below.heap_setCell _ _ _ _ (by show w.heap.size ≠ w2.heap.size + 1; have := HZ.out; omega)).trans ((B7.out.block _ (lt_of_heap T0.out)).trans T0.out), HF0.out, HF1.out⟩
      case rest =>
        obtain ⟨rfl, F1, a1, s1', hb8, hb0, hn0, hn8⟩ := hcut
        have A1 := hid a1
        have S1 := hid s1'
        have T1 := hid (And.intro hb0 (And.intro hb8 (And.intro hn0 hn8)))
        have k8 := cell_sb8 hb8
        clear a1 s1' hb8 hb0 hn0 hn8 kt ft ky0
        go_wp2_with fail
        refine (ar_store h F1 ((Ak.loadN (H + q)).loadN (L + q)) ((L : Int) + (q : Int)) s1 _ A1.out (by omega) hs1 (by have := HE4.out; simp [Ars.loadN, Ars.note]; omega)).mono ?_
        rintro e w9 ⟨rfl, F9, a9, s9⟩
        rw [HST.out, ← HEV.out] at a9
        have A9 := hid a9
        have S9 := hid (S1.out.trans s9)
        have B9 := hid (And.intro (s9.heap T1.out.1 T1.out.2.2.1) (And.intro (s9.heap T1.out.2.1 T1.out.2.2.2) (And.intro (s9.out T1.out.2.2.1 (lt_of_heap T1.out.1)) (s9.out T1.out.2.2.2 (lt_of_heap T1.out.2.1)))))
        clear a9 s9 k8
        go_wp2
        go_roundw
        case rel => exact ⟨k + 1, F9, by omega, by go_num, A9.out, S9.out, B9.out.1, by rw [HS1.out]; exact B9.out.2.1, B9.out.2.2.1, B9.out.2.2.2⟩
        case measure => simp [intOf]; omega
    · have hke : k = n := by omega
      subst hke
      have HAK := hid ak
      have HSK := hid sk
      clear ak sk hb0 hb8 hn0 hn8
      go_wp2
      go_ret
      exact ⟨rfl, Fk, HAK.out, HSK.out⟩
end Go.Proofs.Ytnnmaegpiddnbaa
