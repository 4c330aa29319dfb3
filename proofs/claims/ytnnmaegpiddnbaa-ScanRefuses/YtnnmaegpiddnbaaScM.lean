/- The contract of package scan's find, over this seat's translation. Conditions: two lanes within the arena that lie apart; the log has at most some hundred million events. -/
import Derived.Test.YtnnmaegpiddnbaaScL
import Derived.Test.YtnnmaegpiddnbaaJv
namespace Go.Proofs.Ytnnmaegpiddnbaa
open Go.RowKit

/-- two lanes gone over, a word of each loaded -/
def evg (A : Ars) (L H : Nat) (p : Nat → Nat) : Nat → Ars
  | 0 => A
  | k + 1 => ((evg A L H p k).loadN (H + p k)).loadN (L + p k)
theorem evg_top (A : Ars) (L H : Nat) (p : Nat → Nat) (k : Nat) : (evg A L H p k).top = A.top := by
  induction k with
  | zero => rfl
  | succ k ih => exact ih
theorem evg_ws (A : Ars) (L H : Nat) (p : Nat → Nat) (k : Nat) : (evg A L H p k).ws = A.ws := by
  induction k with
  | zero => rfl
  | succ k ih => exact ih
theorem evg_word (A : Ars) (L H : Nat) (p : Nat → Nat) (k q : Nat) : (evg A L H p k).word q = A.word q := by unfold Ars.word; rw [evg_ws]
theorem evg_es (A : Ars) (L H : Nat) (p : Nat → Nat) (k : Nat) : (evg A L H p k).es.length = A.es.length + 2 * k := by
  induction k with
  | zero => rfl
  | succ k ih => simp only [evg, Ars.loadN, Ars.note, List.length_append, List.length_cons, List.length_nil]; omega
def fm (A : Ars) (H : Nat) (p : Nat → Nat) : Nat → Bool
  | 0 => false
  | k + 1 => fm A H p k || (A.word (H + p k) % 2 == 1)
def fw (A : Ars) (L H : Nat) (p : Nat → Nat) : Nat → Nat
  | 0 => 0
  | k + 1 => if (A.word (H + p k) % 2 == 1) && !fm A H p k then A.word (L + p k) else fw A L H p k
theorem fw_lt (A : Ars) (L H : Nat) (p : Nat → Nat) (h : A.ok) (k : Nat) : fw A L H p k < 4294967296 := by
  induction k with
  | zero => exact (by decide : (0 : Nat) < 4294967296)
  | succ k ih => unfold fw; split; exact Ars.word_lt h _; exact ih
theorem not_mk5 (b : Bool) : notW (mk b) = mk (!b) := by cases b <;> decide
theorem and_mk5 (x y : Bool) : andW (mk x) (mk y) = mk (x && y) := by cases x <;> cases y <;> decide
theorem or_mk5 (x y : Bool) : orW (mk x) (mk y) = mk (x || y) := by cases x <;> cases y <;> decide

set_option maxHeartbeats 3200000 in
theorem find_yes (h : Hn) (F : Nat → Prop) (A : Ars) (L H n : Nat) (f b : Int) (p : Nat → Nat) (w : World) (a : Ar w h F A) (hin : L + n ≤ A.top) (hin2 : H + n ≤ A.top) (hap : L + n ≤ H ∨ H + n ≤ L) (hes : A.es.length ≤ 300000000)
    (hnum : ∀ (k : Nat) (w' : World), k < n → Calls Try.prog 47 #[wyV f b, .int .i64 (k : Int)] w' fun e w'' => e = .returned (.int .i64 (p k : Int)) ∧ Below w'.heap.size w' w'') (hp : ∀ k, k < n → p k < n) :
    Calls Try.prog 41 #[arPtr h, .int .i64 (L : Int), .int .i64 (H : Int), .int .i64 (n : Int), wyV f b] w fun e w' => e = .returned (.tuple #[sec (fw A L H p n : Nat), sec (mk (fm A H p n) : Nat), .bool true]) ∧ ∃ F', Ar w' h F' (evg A L H p n) ∧ Step w F w' F' := by
  have hb1 := a.ok.1
  have hb2 := a.ok.2.1
  have HA := hid a
  have HR := hid (rfine2 hin hin2 hap)
  have HNF := hid (show ∀ i, w.heap.size ≤ i → ¬ F i from fun i hi x => by have := a.lt _ x; omega)
  have HNU := hid hnum
  have HP := hid hp
  clear a hnum hp hap
  have HX := hid (show ∀ i o, ((((w.alloc (wyO f b)).alloc (sb 0)).alloc (sb 0)).alloc (.cells #[.int .i64 (L : Int), .int .i64 (H : Int)] 3)).heap[i]? = some o ↔ (if i = w.heap.size + 1 + 1 + 1 then some (Obj.cells #[.int .i64 (L : Int), .int .i64 (H : Int)] 3 (0, 0)) else if i = w.heap.size + 1 + 1 then some (sb 0) else if i = w.heap.size + 1 then some (sb 0) else if i = w.heap.size then some (wyO f b) else w.heap[i]?) = some o from fun i o => by simp only [heap_alloc_get, World.size_alloc])
  have BB := hid (show Below w.heap.size w ((((w.alloc (wyO f b)).alloc (sb 0)).alloc (sb 0)).alloc (.cells #[.int .i64 (L : Int), .int .i64 (H : Int)] 3)) from (by repeat (first | exact Below.refl _ _ | refine blw_alloc ?_ | refine blw_drew ?_ | assumption)))
  have H0 := hid ((HX.out (w.heap.size + 1 + 1 + 1) _).2 (if_pos rfl))
  have HG2 := hid ((HX.out (w.heap.size + 1 + 1) (sb 0)).2 (by rw [if_neg (by omega), if_pos rfl]))
  have HG1 := hid ((HX.out (w.heap.size + 1) (sb 0)).2 (by rw [if_neg (by omega), if_neg (by omega), if_pos rfl]))
  have HG0 := hid ((HX.out w.heap.size (wyO f b)).2 (by rw [if_neg (by omega), if_neg (by omega), if_neg (by omega), if_pos rfl]))
  clear HX
  go_enter Try.func41, Try.ntmps41
  go_wp2_with fail
  refine (of2_any (n : Int) (L : Int) (H : Int) (w.heap.size + 1 + 1 + 1) _ H0.out).mono ?_
  rintro e w1 ⟨rfl, hcs, hB1, hl1⟩
  simp only [World.size_alloc] at hcs hl1
  have HC := hid hcs
  have B1 := hid (show Below w.heap.size w w1 from BB.out.trans (hB1.mono BB.out.size))
  have A1 := hid (((((HA.out.alloc _).alloc _).alloc _).alloc _).below hB1)
  have W1 := hid (And.intro ((hB1.block _ (lt_of_heap HG0.out)).trans HG0.out) (And.intro ((hB1.block _ (lt_of_heap HG1.out)).trans HG1.out) ((hB1.block _ (lt_of_heap HG2.out)).trans HG2.out)))
  clear hcs hB1
  go_wp2_with fail
  refine (apart2_any h F A (w.heap.size + 1 + 1 + 1 + 1) (L : Int) (H : Int) (n : Int) _ A1.out (by omega) (by omega) hl1 HC.out).mono ?_
  rintro e w2 ⟨r, rfl, hr, hB2⟩
  have B2 := hid (B1.out.trans (hB2.mono B1.out.size))
  have A2 := hid (A1.out.below hB2)
  have W2 := hid (And.intro ((hB2.block _ (lt_of_heap W1.out.1)).trans W1.out.1) (And.intro ((hB2.block _ (lt_of_heap W1.out.2.1)).trans W1.out.2.1) ((hB2.block _ (lt_of_heap W1.out.2.2)).trans W1.out.2.2)))
  obtain rfl : r = true := hr.2 HR.out
  clear hr hB2 HC W1 A1 B1 hl1
  go_wp2_with fail
  go_loopw [28] (fun c wr => ∃ (k : Nat) (Fk : Nat → Prop), k ≤ n ∧ c = .int .i64 (k : Int) ∧ Ar wr h Fk (evg A L H p k) ∧ Step w F wr Fk ∧ wr.heap[w.heap.size]? = some (wyO f b) ∧ wr.heap[w.heap.size + 1]? = some (sb (fw A L H p k : Nat)) ∧ wr.heap[w.heap.size + 1 + 1]? = some (sb (mk (fm A H p k) : Nat)) ∧ ¬ Fk w.heap.size ∧ ¬ Fk (w.heap.size + 1) ∧ ¬ Fk (w.heap.size + 1 + 1)) (fun c _ => n - (intOf c).toNat)
  case atStart => exact ⟨0, F, Nat.zero_le _, rfl, A2.out, Step.ofBelow B2.out, W2.out.1, W2.out.2.1, W2.out.2.2, HNF.out _ (Nat.le_refl _), HNF.out _ (by omega), HNF.out _ (by omega)⟩
  case round =>
    obtain ⟨k, Fk, hk, rfl, ak, sk, hb0, hb1', hb2', hn0, hn1, hn2⟩ := hrel
    by_cases hlt : k < n
    · have HSK := hid sk
      have hpk := HP.out k hlt
      have htp := evg_top A L H p k
      have hel := evg_es A L H p k
      have HWL := hid (evg_word A L H p k (L + p k))
      have HWH := hid (evg_word A L H p k (H + p k))
      have HEV := hid (show evg A L H p (k + 1) = ((evg A L H p k).loadN (H + p k)).loadN (L + p k) from rfl)
      have HNK := hid (fun w' => HNU.out k w' hlt)
      have hs0 := fw_lt A L H p HA.out.ok k
      have HS := hid (show (if (A.word (H + p k) % 2 == 1) && !fm A H p k then A.word (L + p k) else fw A L H p k) = fw A L H p (k + 1) from rfl)
      have HM := hid (show (fm A H p k || (A.word (H + p k) % 2 == 1)) = fm A H p (k + 1) from rfl)
      obtain ⟨Ak, hAk⟩ : ∃ Ak, evg A L H p k = Ak := ⟨_, rfl⟩
      rw [hAk] at ak htp hel HWL HWH HEV
      obtain ⟨q, hqe⟩ : ∃ q, p k = q := ⟨_, rfl⟩
      rw [hqe] at hpk HWL HWH HEV HNK HS HM
      have hkt : L + q < Ak.top := by omega
      have hkh : H + q < Ak.top := by omega
      have he4 : Ak.es.length ≤ 400000000 := by omega
      have HE4 := hid he4
      obtain ⟨e1, e2⟩ := ld_at (A := Ak) (L := H) (i := q) hkh
      obtain ⟨e3, e4⟩ := ld_at (A := Ak.loadN (H + q)) (L := L) (i := q) hkt
      have HVH := hid (Ars.word_lt ak.ok (H + q))
      have HVX := hid (Ars.word_lt ak.ok (L + q))
      rw [show (Ak.loadN (H + q)).word (L + q) = Ak.word (L + q) from rfl, HWL.out] at e3
      rw [HWH.out] at e1 HVH
      rw [HWL.out] at HVX
      have H1 := hid e1
      have H2 := hid e2
      have H3 := hid e3
      have H4 := hid e4
      obtain ⟨x, hx⟩ : ∃ x, A.word (L + q) = x := ⟨_, rfl⟩
      obtain ⟨y, hy⟩ : ∃ y, A.word (H + q) = y := ⟨_, rfl⟩
      obtain ⟨s0, hs0e⟩ : ∃ s0, fw A L H p k = s0 := ⟨_, rfl⟩
      obtain ⟨m0, hm0e⟩ : ∃ m0, fm A H p k = m0 := ⟨_, rfl⟩
      rw [hs0e] at hs0 hb1' HS
      rw [hm0e] at hb2' HS HM
      rw [hx] at H3 HVX HS
      rw [hy] at H1 HVH HS HM
      have HWW := hid (whole5_any y)
      obtain ⟨yes, hyes⟩ : ∃ yes, (y % 2 == 1) = yes := ⟨_, rfl⟩
      rw [hyes] at HWW HS HM
      obtain ⟨fresh, hfr⟩ : ∃ fresh, (yes && !m0) = fresh := ⟨_, rfl⟩
      rw [hfr] at HS
      rw [← sel5 fresh x s0 HVX.out hs0] at HS
      have HFR := hid hfr
      have HB := hid (And.intro hb0 (And.intro hb1' (And.intro hb2' (And.intro hn0 (And.intro hn1 hn2)))))
      have HAR := hid ak
      have c0 : wr.cell? ⟨w.heap.size, 0, none⟩ = some (.int .i64 f) := cell_of_heap hb0 rfl
      have c1 : wr.cell? ⟨w.heap.size, 1, none⟩ = some (.int .i64 b) := cell_of_heap hb0 rfl
      clear ak sk hb0 hb1' hb2' hn0 hn1 hn2 htp hel hAk e1 e2 e3 e4 he4 hx hy hs0e hm0e hkt hkh hqe hyes hfr
      have HWLx := hid (show IntKind.i64.wrap ((L : Int) + (q : Int)) = (L : Int) + (q : Int) by rw [IntKind.wrap_i64]; omega)
      go_wp2_with fail
      refine (HNK.out _).mono ?_
      rintro e wn ⟨rfl, hBn⟩
      have HAN := hid (HAR.out.below hBn)
      have HSN := hid (HSK.out.trans (Step.ofBelow (F := Fk) hBn))
      have HBN := hid (And.intro ((hBn.block _ (lt_of_heap HB.out.1)).trans HB.out.1) (And.intro ((hBn.block _ (lt_of_heap HB.out.2.1)).trans HB.out.2.1) ((hBn.block _ (lt_of_heap HB.out.2.2.1)).trans HB.out.2.2.1)))
      clear hBn c0 c1
      go_wp2_with fail
      refine (ar_load h Fk Ak ((H : Int) + (q : Int)) _ HAN.out (by omega) (by have := HE4.out; omega)).mono ?_
      rintro e w4 ⟨rfl, F5, a4, s4⟩
      rw [H1.out]
      rw [H2.out] at a4
      have A4 := hid a4
      have S4 := hid (HSN.out.trans s4)
      have T4 := hid (And.intro (s4.heap HBN.out.1 HB.out.2.2.2.1) (And.intro (s4.heap HBN.out.2.1 HB.out.2.2.2.2.1) (s4.heap HBN.out.2.2 HB.out.2.2.2.2.2)))
      have N4 := hid (And.intro (s4.out HB.out.2.2.2.1 (lt_of_heap HBN.out.1)) (And.intro (s4.out HB.out.2.2.2.2.1 (lt_of_heap HBN.out.2.1)) (s4.out HB.out.2.2.2.2.2 (lt_of_heap HBN.out.2.2))))
      clear a4 s4
      go_wp2_with fail
      refine (HWW.out _ HVH.out).mono ?_
      rintro e w5 ⟨rfl, hB5⟩
      have A5 := hid (A4.out.below hB5)
      have S5 := hid (S4.out.trans (Step.ofBelow (F := F5) hB5))
      have T5 := hid (And.intro ((hB5.block _ (lt_of_heap T4.out.1)).trans T4.out.1) (And.intro ((hB5.block _ (lt_of_heap T4.out.2.1)).trans T4.out.2.1) ((hB5.block _ (lt_of_heap T4.out.2.2)).trans T4.out.2.2)))
      clear hB5
      go_wp2_with fail
      have HAY := hid (A5.out.alloc (sb (mk yes : Nat)))
      have HSY := hid (S5.out.alloc (sb (mk yes : Nat)))
      have HYY := hid (And.intro (heap_alloc_at w5 (sb (mk yes : Nat))) (show ¬ F5 w5.heap.size from fun z => by have := A5.out.lt _ z; omega))
      have HTY := hid (And.intro ((heap_alloc_old w5 (sb (mk yes : Nat)) _ (lt_of_heap T5.out.1)).trans T5.out.1) (And.intro ((heap_alloc_old w5 (sb (mk yes : Nat)) _ (lt_of_heap T5.out.2.1)).trans T5.out.2.1) ((heap_alloc_old w5 (sb (mk yes : Nat)) _ (lt_of_heap T5.out.2.2)).trans T5.out.2.2)))
      have HYC := hid (show w.heap.size + 1 + 1 < w5.heap.size from lt_of_heap T5.out.2.2)
      obtain ⟨yb, hyb⟩ : ∃ yb, w5.heap.size = yb := ⟨_, rfl⟩
      rw [hyb] at HYY HYC ⊢
      generalize w5.alloc (sb (mk yes : Nat)) = wy at *
      clear hyb A5 S5 T5 A4 S4 T4
      have KB := hid (show ∀ w' : World, Below wy.heap.size wy w' → w'.cell? ⟨yb, 0, none⟩ = some (.int .u32 (mk yes : Nat)) ∧ w'.cell? ⟨w.heap.size + 1 + 1, 0, none⟩ = some (.int .u32 (mk m0 : Nat)) from fun w' hb => ⟨cell_sb8 ((hb.block _ (lt_of_heap HYY.out.1)).trans HYY.out.1), cell_sb8 ((hb.block _ (lt_of_heap HTY.out.2.2)).trans HTY.out.2.2)⟩)
      have HAM := hid (show andW (mk yes) (notW (mk m0)) = mk fresh by rw [not_mk5, and_mk5, HFR.out])
      go_cut [16, 28] from 28 to 55 (fun v c wx => c = .int .i64 (k : Int) ∧ ∃ z, wy.heap.size ≤ z ∧ v = .pointer (some ⟨z, 0, none⟩) ∧ wx.heap[z]? = some (sb (mk fresh : Nat)) ∧ Below wy.heap.size wy wx)
      case first =>
        clear hk hlt hin hin2 hes hb1 hb2 hpk
        refine wp_region_held_drew (S := (fun w' => w'.cell? ⟨yb, 0, none⟩ = some (.int .u32 (mk yes : Nat)) ∧ w'.cell? ⟨w.heap.size + 1 + 1, 0, none⟩ = some (.int .u32 (mk m0 : Nat)))) (by kernel_rfl) (KB.out _ (blw_drew (Below.refl _ _))) (fun hHeld => ?_)
        refine tk_at (i := 0) (d := some 40) (v := ?_) rfl rfl (by kernel_rfl) (by kernel_rfl) (by kernel_rfl) (fun _ _ _ h => h) (Or.inl ⟨by rfl, ?_⟩) (by assumption) ?_
        rotate_left
        · (intro w hSw; (try dsimp only at hSw); go_simp; try (with_reducible rfl))
        simp only [Act.put, List.setIfInBounds_toArray, List.set_cons_zero, List.set_cons_succ]
        refine tk_at (i := 1) (d := some 41) (v := ?_) rfl rfl (by kernel_rfl) (by kernel_rfl) (by kernel_rfl) (fun _ _ _ h => h) (Or.inl ⟨by rfl, ?_⟩) (by assumption) ?_
        rotate_left
        · (intro w hSw; (try dsimp only at hSw); go_simp; try (with_reducible rfl))
        simp only [Act.put, List.setIfInBounds_toArray, List.set_cons_zero, List.set_cons_succ]
        clear hHeld
        refine wpAnyH_inv0 (fun aC0 lsC aC wC => ∃ (b2 b3 b4 b5 : Bool) (pp x42 x43   : Value), lsC = #[true, true, b2, b3, b4, b5] ∧ aC = { aC0 with tmps := (((aC0.tmps.setIfInBounds 42 x42).setIfInBounds 43 x43).setIfInBounds 16 pp) } ∧ (b2 = true → x42 = sec (notW (mk m0) : Nat)) ∧ (b3 = true → x43 = sec (mk fresh : Nat)) ∧ Below wy.heap.size wy wC ∧ Own1 wy wC b4 b5 pp (mk fresh) ∧ (b4 || !b5) = true) ?_ _ _ _ (by decide +kernel) (fun aS => ⟨false, false, false, false, aS.tmps.getD 16 undef, aS.tmps.getD 42 undef, aS.tmps.getD 43 undef, by kernel_rfl, by simp only [set_self], fun h => (by cases h), fun h => (by cases h), blw_drew (Below.refl _ _), Own1.none, rfl⟩)
        intro lsC aC wC ⟨b2, b3, b4, b5, pp, x42, x43, hl, ha, hx42, hx43, hBw, hpp, hcc⟩
        subst hl ha
        have Hx42 := hid hx42
        have Hx43 := hid hx43
        have HBW := hid hBw
        have HPP := hid hpp
        have HCC := hid hcc
        clear hx42 hx43 hBw hpp hcc
        simp only [List.setIfInBounds_toArray, List.set_cons_zero, List.set_cons_succ]
        refine ⟨fun hr => ?_, fun i hi => ?_⟩
        · have hall : (b2 && b3 && b4 && b5) = true := by
            clear Hx42 Hx43 HBW HPP HCC
            revert b2 b3 b4 b5
            decide +kernel
          simp only [Bool.and_eq_true] at hall
          obtain ⟨⟨⟨rfl, rfl⟩, rfl⟩, rfl⟩ := hall
          obtain ⟨z, rfl, hz1, hz2⟩ := HPP.out rfl
          obtain rfl := Hx42.out rfl
          obtain rfl := Hx43.out rfl
          have HR := hid (And.intro hz1 (And.intro hz2 HBW.out))
          clear hz1 hz2 Hx42 Hx43 HBW HPP HCC hr
          (try dsimp only)
          go_wp2_with fail
          go_meet
          case rel => exact ⟨rfl, z, HR.out.1, rfl, HR.out.2.1, HR.out.2.2⟩
        · have hcase : (i = 2 ∧ b2 = false) ∨ (i = 3 ∧ b3 = false ∧ b2 = true) ∨ (i = 4 ∧ b4 = false) ∨ (i = 5 ∧ b5 = false ∧ b4 = true ∧ b3 = true) := by
            refine of_decide_eq_true ((List.all_eq_true (p := fun i => decide ((i = 2 ∧ b2 = false) ∨ (i = 3 ∧ b3 = false ∧ b2 = true) ∨ (i = 4 ∧ b4 = false) ∨ (i = 5 ∧ b5 = false ∧ b4 = true ∧ b3 = true)))).1 ?_ i hi)
            clear Hx42 Hx43 HBW HPP HCC hi
            revert b2 b3 b4 b5
            decide +kernel
          clear hi
          rcases hcase with ⟨rfl, rfl⟩ | ⟨rfl, rfl, rfl⟩ | ⟨rfl, rfl⟩ | ⟨rfl, rfl, rfl, rfl⟩
          · refine wpOp_shut rfl (fun K hK => ?_)
            go_simp
            refine (not_b (mk m0) _ (mk_lt _)).mono ?_
            rintro e wa ⟨rfl, hBa⟩
            have HBa := hid hBa
            clear hBa
            go_wp2_with fail
            have hB3 := belowCat HBW.out HBa.out
            exact hK.out _ _ ⟨KB.out _ hB3, true, b3, b4, b5, _, _, _, by kernel_rfl, rfl, fun _ => rfl, Hx43.out, hB3, HPP.out.below HBa.out, HCC.out⟩
          · obtain rfl := Hx42.out rfl
            refine wpOp_shut rfl (fun K hK => ?_)
            go_simp
            refine (and_b (mk yes) (notW (mk m0)) _ (mk_lt _) (notW_lt (mk_lt _))).mono ?_
            rintro e wa ⟨rfl, hBa⟩
            rw [HAM.out]
            have HBa := hid hBa
            clear hBa
            go_wp2_with fail
            have hB3 := belowCat HBW.out HBa.out
            exact hK.out _ _ ⟨KB.out _ hB3, true, true, b4, b5, _, _, _, by kernel_rfl, rfl, fun _ => rfl, fun _ => rfl, hB3, HPP.out.below HBa.out, HCC.out⟩
          · obtain rfl : b5 = false := by have := HCC.out; revert this; cases b5 <;> simp
            refine wpOp_shut rfl (fun K hK => ?_)
            go_simp
            go_wp2_with fail
            have hBa := (Below.refl wC.heap.size wC).alloc (Nat.le_refl _) (.cells #[.int .u32 0] 32 (0, 0))
            have hB3 := belowCat HBW.out hBa
            exact hK.out _ _ ⟨KB.out _ hB3, b2, b3, true, false, _, _, _, by kernel_rfl, rfl, Hx42.out, Hx43.out, hB3, Own1.new HBW.out, rfl⟩
          · obtain ⟨z, rfl, hz1, hz2⟩ := HPP.out rfl
            obtain rfl := Hx43.out rfl
            have c0 := cell_of_heap (i := 0) hz2 rfl
            have g0 := frozen_of_heap (i := 0) hz2
            have HZ := hid (And.intro hz1 hz2)
            clear hz1 hz2
            refine wpOp_shut rfl (fun K hK => ?_)
            go_simp
            go_wp2_with fail
            have hB3 := HBW.out.setCell (p := ⟨z, 0, none⟩) HZ.out.1 (.int .u32 ((mk fresh : Nat) : Int))
            exact hK.out _ _ ⟨KB.out _ hB3, b2, true, true, true, _, _, _, by kernel_rfl, rfl, Hx42.out, fun _ => rfl, hB3, fun _ => ⟨z, rfl, HZ.out.1, own_put HZ.out.2⟩, rfl⟩
      case rest =>
        obtain ⟨rfl, zb, hz, rfl, hbz, hBz⟩ := hcut
        have HA5 := hid (HAY.out.below hBz)
        have HS5 := hid (HSY.out.trans (Step.ofBelow (F := F5) hBz))
        have HZ5 := hid (And.intro hbz (show ¬ F5 zb from fun z => by have := HAY.out.lt _ z; omega))
        have HC5 := hid (And.intro ((hBz.block _ (lt_of_heap HTY.out.2.1)).trans HTY.out.2.1) N4.out.2.1)
        have HM5 := hid (And.intro ((hBz.block _ (lt_of_heap HTY.out.2.2)).trans HTY.out.2.2) N4.out.2.2)
        have HW5 := hid (And.intro ((hBz.block _ (lt_of_heap HTY.out.1)).trans HTY.out.1) N4.out.1)
        have HY5 := hid (And.intro ((hBz.block _ (lt_of_heap HYY.out.1)).trans HYY.out.1) HYY.out.2)
        have HZC := hid (show w.heap.size + 1 + 1 < zb from by have := lt_of_heap HTY.out.2.2; omega)
        clear hz hbz hBz KB HAY HSY HTY HYY N4
        generalize wc = wz at *
        have kt := cell_sb8 HC5.out.1
        have ft := frozen_of_heap (i := 0) HC5.out.1
        have ky0 := cell_sb8 HZ5.out.1
        go_wp2_with fail
        go_cut [28] from 28 to 55 (fun c wx => c = .int .i64 (k : Int) ∧ ∃ F1, Ar wx h F1 ((Ak.loadN (H + q)).loadN (L + q)) ∧ Step w F wx F1 ∧ wx.heap[w.heap.size]? = some (wyO f b) ∧ wx.heap[w.heap.size + 1]? = some (sb (fw A L H p (k + 1) : Nat)) ∧ wx.heap[w.heap.size + 1 + 1]? = some (sb (mk m0 : Nat)) ∧ wx.heap[yb]? = some (sb (mk yes : Nat)) ∧ ¬ F1 w.heap.size ∧ ¬ F1 (w.heap.size + 1) ∧ ¬ F1 (w.heap.size + 1 + 1))
        case first =>
          refine wp_region_held_drew (S := (fun w' => w'.cell? ⟨zb, 0, none⟩ = some (.int .u32 (mk fresh : Nat)))) (by kernel_rfl) (ky0) (fun hHeld => ?_)
          refine tk_at (i := 0) (d := some 44) (v := ?_) rfl rfl (by kernel_rfl) (by kernel_rfl) (by kernel_rfl) (fun _ _ _ h => h) (Or.inl ⟨by rfl, ?_⟩) (by assumption) ?_
          rotate_left
          · (intro w hSw; (try dsimp only at hSw); go_simp; try (with_reducible rfl))
          simp only [Act.put, List.setIfInBounds_toArray, List.set_cons_zero, List.set_cons_succ]
          refine tk_at (i := 1) (d := some 45) (v := ?_) rfl rfl (by kernel_rfl) (by kernel_rfl) (by kernel_rfl) (fun _ _ _ h => h) (Or.inl ⟨by rfl, ?_⟩) (by assumption) ?_
          rotate_left
          · (intro w hSw; (try dsimp only at hSw); go_simp; try (with_reducible rfl))
          simp only [Act.put, List.setIfInBounds_toArray, List.set_cons_zero, List.set_cons_succ]
          refine tk_at (i := 2) (d := some 46) (v := ?_) rfl rfl (by kernel_rfl) (by kernel_rfl) (by kernel_rfl) (fun _ _ _ h => h) (Or.inl ⟨by rfl, ?_⟩) (by assumption) ?_
          rotate_left
          · (intro w hSw; (try dsimp only at hSw); go_simp; try (with_reducible rfl))
          simp only [Act.put, List.setIfInBounds_toArray, List.set_cons_zero, List.set_cons_succ]
          refine tk_at (i := 3) (d := some 47) (v := ?_) rfl rfl (by kernel_rfl) (by kernel_rfl) (by kernel_rfl) (fun _ _ _ h => h) (Or.inl ⟨by rfl, ?_⟩) (by assumption) ?_
          rotate_left
          · (intro w hSw; (try dsimp only at hSw); go_simp; try (with_reducible rfl))
          simp only [Act.put, List.setIfInBounds_toArray, List.set_cons_zero, List.set_cons_succ]
          refine tk_at (i := 4) (d := some 48) (v := ?_) rfl rfl (by kernel_rfl) (by kernel_rfl) (by kernel_rfl) (fun _ _ _ h => h) (Or.inl ⟨by rfl, ?_⟩) (by assumption) ?_
          rotate_left
          · (intro w hSw; (try dsimp only at hSw); go_simp; try (with_reducible rfl))
          simp only [Act.put, List.setIfInBounds_toArray, List.set_cons_zero, List.set_cons_succ]
          refine wpAnyH_ready (rs := [5, 6]) (by kernel_rfl) (by simp) ?_
          refine AllReadyH.cons rfl (fun K hK => ?_) (AllReadyH.cons rfl (fun K hK => ?_) AllReadyH.nil)
          · go_simp
            rw [HWLx.out]
            refine (ar_load h F5 (Ak.loadN (H + q)) ((L : Int) + (q : Int)) _ HA5.out.drew (by omega) (by have := HE4.out; simp [Ars.loadN, Ars.note]; omega)).mono ?_
            rintro e w6 ⟨rfl, F6, a6, s6⟩
            rw [H3.out]
            rw [H4.out] at a6
            have A6 := hid a6
            have S6 := hid ((Step.refl wz F5).drew.trans s6)
            have C6 := hid (S6.out.heap HC5.out.1 HC5.out.2)
            have Y6 := hid (S6.out.heap HZ5.out.1 HZ5.out.2)
            have kt6 := cell_sb8 C6.out
            clear a6 s6
            go_wp2_with fail
            refine hK.out _ _ (cell_sb8 Y6.out) (fun hHeld => ?_)
            clear hK K
            try simp only [Act.put, List.setIfInBounds_toArray, List.set_cons_zero, List.set_cons_succ]
            refine wpAnyH_ready (rs := [6]) (by kernel_rfl) (by simp) ?_
            refine AllReadyH.cons rfl (fun K hK => ?_) AllReadyH.nil
            go_simp
            go_wp2_with fail
            refine hK.out _ _ (cell_sb8 Y6.out) (fun hHeld => ?_)
            clear hK K
            try simp only [Act.put, List.setIfInBounds_toArray, List.set_cons_zero, List.set_cons_succ]
            refine wpAnyH_ready (rs := [7]) (by kernel_rfl) (by simp) ?_
            refine AllReadyH.cons rfl (fun K hK => ?_) AllReadyH.nil
            go_simp
            refine (sel_b (mk fresh) x s0 _ (mk_lt _) HVX.out hs0).mono ?_
            rintro e w7 ⟨rfl, hB7⟩
            rw [HS.out]
            have B7 := hid hB7
            have C7 := hid ((hB7.block _ (lt_of_heap C6.out)).trans C6.out)
            have Y7 := hid ((hB7.block _ (lt_of_heap Y6.out)).trans Y6.out)
            have kt7 := cell_sb8 C7.out
            have ft7 := frozen_of_heap (i := 0) C7.out
            clear hB7
            go_wp2_with fail
            refine hK.out _ _ (cell_sb8 Y7.out) (fun hHeld => ?_)
            clear hK K
            try simp only [Act.put, List.setIfInBounds_toArray, List.set_cons_zero, List.set_cons_succ]
            refine wpAnyH_ready (rs := [8]) (by kernel_rfl) (by simp) ?_
            refine AllReadyH.cons rfl (fun K hK => ?_) AllReadyH.nil
            go_simp
            go_wp2_with fail
            refine hK.out _ _ (cell_sb8 ((Below.heap_setCell _ _ _ _ (by show zb ≠ w.heap.size + 1; have := HZC.out; omega)).trans Y7.out)) (fun hHeld => ?_)
            clear hK K
            try simp only [Act.put, List.setIfInBounds_toArray, List.set_cons_zero, List.set_cons_succ]
            refine wpAnyH_done (by kernel_rfl) ?_ _
            clear hHeld
            have HF0 := hid (show ¬ F6 w.heap.size from S6.out.out HW5.out.2 (lt_of_heap HW5.out.1))
            have HF1 := hid (show ¬ F6 (w.heap.size + 1) from S6.out.out HC5.out.2 (lt_of_heap HC5.out.1))
            have HF2 := hid (show ¬ F6 (w.heap.size + 1 + 1) from S6.out.out HM5.out.2 (lt_of_heap HM5.out.1))
            have T0 := hid (S6.out.heap HW5.out.1 HW5.out.2)
            have T2 := hid (S6.out.heap HM5.out.1 HM5.out.2)
            have TY := hid (S6.out.heap HY5.out.1 HY5.out.2)
            have HO := hid (show ∀ g, g ≠ w.heap.size + 1 → (w7.setCell ⟨w.heap.size + 1, 0, none⟩ (.int .u32 (fw A L H p (k + 1) : Nat))).heap[g]? = w7.heap[g]? from fun g hg => Below.heap_setCell _ _ _ _ hg)
            clear kt kt6 kt7 ft ft7 ky0
            go_wp2_with fail
            go_meet
            case rel => exact ⟨rfl, F6, (A6.out.below B7.out).setOther _ _ HF1.out, ((HS5.out.trans S6.out).trans (Step.ofBelow (F := F6) B7.out)).setNew _ _ (by show w.heap.size ≤ w.heap.size + 1; omega), (HO.out _ (by omega)).trans ((B7.out.block _ (lt_of_heap T0.out)).trans T0.out), heap_setCell_at _ _ 0 _ _ _ _ C7.out, (HO.out _ (by omega)).trans ((B7.out.block _ (lt_of_heap T2.out)).trans T2.out), (HO.out _ (by have := HYC.out; omega)).trans ((B7.out.block _ (lt_of_heap TY.out)).trans TY.out), HF0.out, HF1.out, HF2.out⟩
          · go_simp
            go_wp2_with fail
            refine hK.out _ _ (ky0) (fun hHeld => ?_)
            clear hK K
            try simp only [Act.put, List.setIfInBounds_toArray, List.set_cons_zero, List.set_cons_succ]
            refine wpAnyH_ready (rs := [5]) (by kernel_rfl) (by simp) ?_
            refine AllReadyH.cons rfl (fun K hK => ?_) AllReadyH.nil
            go_simp
            rw [HWLx.out]
            refine (ar_load h F5 (Ak.loadN (H + q)) ((L : Int) + (q : Int)) _ HA5.out.drew (by omega) (by have := HE4.out; simp [Ars.loadN, Ars.note]; omega)).mono ?_
            rintro e w6 ⟨rfl, F6, a6, s6⟩
            rw [H3.out]
            rw [H4.out] at a6
            have A6 := hid a6
            have S6 := hid ((Step.refl wz F5).drew.trans s6)
            have C6 := hid (S6.out.heap HC5.out.1 HC5.out.2)
            have Y6 := hid (S6.out.heap HZ5.out.1 HZ5.out.2)
            have kt6 := cell_sb8 C6.out
            clear a6 s6
            go_wp2_with fail
            refine hK.out _ _ (cell_sb8 Y6.out) (fun hHeld => ?_)
            clear hK K
            try simp only [Act.put, List.setIfInBounds_toArray, List.set_cons_zero, List.set_cons_succ]
            refine wpAnyH_ready (rs := [7]) (by kernel_rfl) (by simp) ?_
            refine AllReadyH.cons rfl (fun K hK => ?_) AllReadyH.nil
            go_simp
            refine (sel_b (mk fresh) x s0 _ (mk_lt _) HVX.out hs0).mono ?_
            rintro e w7 ⟨rfl, hB7⟩
            rw [HS.out]
            have B7 := hid hB7
            have C7 := hid ((hB7.block _ (lt_of_heap C6.out)).trans C6.out)
            have Y7 := hid ((hB7.block _ (lt_of_heap Y6.out)).trans Y6.out)
            have kt7 := cell_sb8 C7.out
            have ft7 := frozen_of_heap (i := 0) C7.out
            clear hB7
            go_wp2_with fail
            refine hK.out _ _ (cell_sb8 Y7.out) (fun hHeld => ?_)
            clear hK K
            try simp only [Act.put, List.setIfInBounds_toArray, List.set_cons_zero, List.set_cons_succ]
            refine wpAnyH_ready (rs := [8]) (by kernel_rfl) (by simp) ?_
            refine AllReadyH.cons rfl (fun K hK => ?_) AllReadyH.nil
            go_simp
            go_wp2_with fail
            refine hK.out _ _ (cell_sb8 ((Below.heap_setCell _ _ _ _ (by show zb ≠ w.heap.size + 1; have := HZC.out; omega)).trans Y7.out)) (fun hHeld => ?_)
            clear hK K
            try simp only [Act.put, List.setIfInBounds_toArray, List.set_cons_zero, List.set_cons_succ]
            refine wpAnyH_done (by kernel_rfl) ?_ _
            clear hHeld
            have HF0 := hid (show ¬ F6 w.heap.size from S6.out.out HW5.out.2 (lt_of_heap HW5.out.1))
            have HF1 := hid (show ¬ F6 (w.heap.size + 1) from S6.out.out HC5.out.2 (lt_of_heap HC5.out.1))
            have HF2 := hid (show ¬ F6 (w.heap.size + 1 + 1) from S6.out.out HM5.out.2 (lt_of_heap HM5.out.1))
            have T0 := hid (S6.out.heap HW5.out.1 HW5.out.2)
            have T2 := hid (S6.out.heap HM5.out.1 HM5.out.2)
            have TY := hid (S6.out.heap HY5.out.1 HY5.out.2)
            have HO := hid (show ∀ g, g ≠ w.heap.size + 1 → (w7.setCell ⟨w.heap.size + 1, 0, none⟩ (.int .u32 (fw A L H p (k + 1) : Nat))).heap[g]? = w7.heap[g]? from fun g hg => Below.heap_setCell _ _ _ _ hg)
            clear kt kt6 kt7 ft ft7 ky0
            go_wp2_with fail
            go_meet
            case rel => exact ⟨rfl, F6, (A6.out.below B7.out).setOther _ _ HF1.out, ((HS5.out.trans S6.out).trans (Step.ofBelow (F := F6) B7.out)).setNew _ _ (by show w.heap.size ≤ w.heap.size + 1; omega), (HO.out _ (by omega)).trans ((B7.out.block _ (lt_of_heap T0.out)).trans T0.out), heap_setCell_at _ _ 0 _ _ _ _ C7.out, (HO.out _ (by omega)).trans ((B7.out.block _ (lt_of_heap T2.out)).trans T2.out), (HO.out _ (by have := HYC.out; omega)).trans ((B7.out.block _ (lt_of_heap TY.out)).trans TY.out), HF0.out, HF1.out, HF2.out⟩
        case rest =>
          obtain ⟨rfl, F1, a1, s1', hb0, hb1', hb2', hby, hn0, hn1, hn2⟩ := hcut
          rw [← HEV.out] at a1
          have A1 := hid a1
          have S1 := hid s1'
          have T1 := hid (And.intro hb0 (And.intro hb1' (And.intro hb2' (And.intro hn0 (And.intro hn1 hn2)))))
          have k2 := cell_sb8 hb2'
          have ky := cell_sb8 hby
          clear a1 s1' hb0 hb1' hb2' hby hn0 hn1 hn2 kt ft ky0
          go_wp2_with fail
          refine (or_b (mk m0) (mk yes) _ (mk_lt _) (mk_lt _)).mono ?_
          rw [or_mk5, HM.out]
          rintro e w9 ⟨rfl, hB9⟩
          have B9 := hid hB9
          have T9 := hid (And.intro ((hB9.block _ (lt_of_heap T1.out.1)).trans T1.out.1) (And.intro ((hB9.block _ (lt_of_heap T1.out.2.1)).trans T1.out.2.1) ((hB9.block _ (lt_of_heap T1.out.2.2.1)).trans T1.out.2.2.1)))
          have q2 := cell_sb8 T9.out.2.2
          have f2 := frozen_of_heap (i := 0) T9.out.2.2
          clear hB9 k2 ky
          go_wp2
          go_roundw
          case rel => exact ⟨k + 1, F1, by omega, by go_num, (A1.out.below B9.out).setOther _ _ T1.out.2.2.2.2.2, (S1.out.trans (Step.ofBelow (F := F1) B9.out)).setNew _ _ (by show w.heap.size ≤ w.heap.size + 1 + 1; omega), (Below.heap_setCell _ _ _ _ (by show w.heap.size ≠ w.heap.size + 1 + 1; omega)).trans T9.out.1, (Below.heap_setCell _ _ _ _ (by show w.heap.size + 1 ≠ w.heap.size + 1 + 1; omega)).trans T9.out.2.1, heap_setCell_at _ _ 0 _ _ _ _ T9.out.2.2, T1.out.2.2.2.1, T1.out.2.2.2.2.1, T1.out.2.2.2.2.2⟩
          case measure => simp [intOf]; omega
    · have hke : k = n := by omega
      subst hke
      have HAK := hid ak
      have HSK := hid sk
      have HB := hid (And.intro hb1' (And.intro hb2' (And.intro hn1 hn2)))
      have c1 := cell_sb8 hb1'
      have c2 := cell_sb8 hb2'
      have f1 := frozen_of_heap (i := 0) hb1'
      have f2 := frozen_of_heap (i := 0) hb2'
      clear ak sk hb0 hb1' hb2' hn0 hn1 hn2
      have X1 := hid (heap_setCell_at _ _ 0 _ _ _ (.int .u32 (fw A L H p k : Nat)) HB.out.1)
      have X2 := hid ((Below.heap_setCell wr ⟨w.heap.size + 1, 0, none⟩ (.int .u32 (fw A L H p k : Nat)) (w.heap.size + 1 + 1) (by show w.heap.size + 1 + 1 ≠ w.heap.size + 1; omega)).trans HB.out.2.1)
      have Y2 := hid (heap_setCell_at _ _ 0 _ _ _ (.int .u32 (mk (fm A H p k) : Nat)) X2.out)
      have Y1 := hid ((Below.heap_setCell (wr.setCell ⟨w.heap.size + 1, 0, none⟩ (.int .u32 (fw A L H p k : Nat))) ⟨w.heap.size + 1 + 1, 0, none⟩ (.int .u32 (mk (fm A H p k) : Nat)) (w.heap.size + 1) (by show w.heap.size + 1 ≠ w.heap.size + 1 + 1; omega)).trans X1.out)
      have x2 := cell_sb8 X2.out
      have g2 := frozen_of_heap (i := 0) X2.out
      go_wp2_with fail
      refine wp_region_held_drew (S := (fun w' => w'.cell? ⟨w.heap.size + 1, 0, none⟩ = some (.int .u32 (fw A L H p k : Nat)) ∧ w'.cell? ⟨w.heap.size + 1 + 1, 0, none⟩ = some (.int .u32 (mk (fm A H p k) : Nat)))) (by kernel_rfl) (⟨c1, c2⟩) (fun hHeld => ?_)
      refine tk_at (i := 0) (d := some 56) (v := ?_) rfl rfl (by kernel_rfl) (by kernel_rfl) (by kernel_rfl) (fun _ _ _ h => h) (Or.inl ⟨by rfl, ?_⟩) (by assumption) ?_
      rotate_left
      · (intro w hSw; (try dsimp only at hSw); go_simp; try (with_reducible rfl))
      simp only [Act.put, List.setIfInBounds_toArray, List.set_cons_zero, List.set_cons_succ]
      refine tk_at (i := 1) (d := some 57) (v := ?_) rfl rfl (by kernel_rfl) (by kernel_rfl) (by kernel_rfl) (fun _ _ _ h => h) (Or.inl ⟨by rfl, ?_⟩) (by assumption) ?_
      rotate_left
      · (intro w hSw; (try dsimp only at hSw); go_simp; try (with_reducible rfl))
      simp only [Act.put, List.setIfInBounds_toArray, List.set_cons_zero, List.set_cons_succ]
      refine wpAnyH_ready (rs := [2]) (by kernel_rfl) (by simp) ?_
      refine AllReadyH.cons rfl (fun K hK => ?_) AllReadyH.nil
      go_simp
      go_wp2_with fail
      refine hK.out _ _ (⟨cell_sb8 X1.out, cell_sb8 X2.out⟩) (fun hHeld => ?_)
      clear hK K
      try simp only [Act.put, List.setIfInBounds_toArray, List.set_cons_zero, List.set_cons_succ]
      refine wpAnyH_ready (rs := [3]) (by kernel_rfl) (by simp) ?_
      refine AllReadyH.cons rfl (fun K hK => ?_) AllReadyH.nil
      go_simp
      go_wp2_with fail
      refine hK.out _ _ (⟨cell_sb8 Y1.out, cell_sb8 Y2.out⟩) (fun hHeld => ?_)
      clear hK K
      try simp only [Act.put, List.setIfInBounds_toArray, List.set_cons_zero, List.set_cons_succ]
      refine tk_at (i := 4) (d := some 12) (v := ?_) rfl rfl (by kernel_rfl) (by kernel_rfl) (by kernel_rfl) (fun _ _ _ h => h) (Or.inl ⟨by rfl, ?_⟩) (by assumption) ?_
      rotate_left
      · (intro w hSw; (try dsimp only at hSw); go_simp; try (with_reducible rfl))
      simp only [Act.put, List.setIfInBounds_toArray, List.set_cons_zero, List.set_cons_succ]
      refine wpAnyH_done (by kernel_rfl) ?_ _
      clear hHeld
      have d1 := cell_sb8 Y1.out
      have d2 := cell_sb8 Y2.out
      have A9 := hid ((HAK.out.setOther ⟨w.heap.size + 1, 0, none⟩ (.int .u32 (fw A L H p k : Nat)) HB.out.2.2.1).setOther ⟨w.heap.size + 1 + 1, 0, none⟩ (.int .u32 (mk (fm A H p k) : Nat)) HB.out.2.2.2)
      have S9 := hid ((HSK.out.setNew ⟨w.heap.size + 1, 0, none⟩ (.int .u32 (fw A L H p k : Nat)) (by show w.heap.size ≤ w.heap.size + 1; omega)).setNew ⟨w.heap.size + 1 + 1, 0, none⟩ (.int .u32 (mk (fm A H p k) : Nat)) (by show w.heap.size ≤ w.heap.size + 1 + 1; omega))
      clear c1 c2 f1 f2 x2 g2
      go_wp2
      exact bodyPost_ret (v := .tuple #[sec (fw A L H p k : Nat), sec (mk (fm A H p k) : Nat), .bool true]) (by simp only [results, Try.results41]; simp [go_sem, d1, d2]) rfl ⟨rfl, Fk, A9.out.drew, S9.out.drew⟩
end Go.Proofs.Ytnnmaegpiddnbaa
