/- The contract of package pack's move, over this seat's translation. Conditions: rows within the arena that lie apart; n of at most 49152; a bit's number below 20; the log has at most some hundred million events. -/
import Derived.Test.YtjcnkigadlmpgaaDoorPkD
import Derived.Test.YtjcnkigadlmpgaaDoorIv
import Derived.Deep.CutRange
namespace Go.Proofs.YtjcnkigadlmpgaaDoor
open Go.RowKit

theorem sb_put {w : World} {g : Nat} {v : Int} (x : Int) (h : w.heap[g]? = some (sb v)) : (w.setCell ⟨g, 0, none⟩ (.int .u32 x)).heap[g]? = some (sb x) := by
  rw [heap_setCell_at _ _ 0 _ _ _ _ h]; rfl
theorem below1p (w : World) (o : Obj) : Below w.heap.size w (w.alloc o) := (Below.refl _ w).alloc (Nat.le_refl _) o
theorem evRd_le (n s L i : Nat) : (evRd n s L i).length ≤ 2 := by unfold evRd; split <;> simp
def L0 (ls : List Nat) (j : Nat) : Nat := ls.getD j 0
theorem evMv_le (n s : Nat) (ls : List Nat) (i : Nat) : (evMv n s ls i).length ≤ 3 * ls.length := by
  rw [evMv_len]; exact Nat.mul_le_mul_right _ (by by_cases h : i + 2 ^ s < n <;> simp [h])
set_option maxHeartbeats 3200000 in
set_option maxRecDepth 3000 in
theorem move_any (h : Hn) (F : Nat → Prop) (A : Ars) (s ways n cap : Nat) (ad : Option Addr) (ls : List Nat) (w : World) (a : Ar w h F A) (hs : s < 20) (hn : n ≤ 49152) (hin : ∀ L ∈ ways :: ls, L + n ≤ A.top) (hp : (ways :: ls).Pairwise (Apart n)) (hl : Lns w F ad ls) (hll : ls.length ≤ 1000) (hes : A.es.length ≤ 600000000) :
    Calls Tryd.prog 54 #[stV h n s, .int .i64 (ways : Int), .slice ad ls.length cap] w fun e w' => e = .returned (.tuple #[]) ∧ ∃ F' A', Ar w' h F' A' ∧ Step w F w' F' ∧ Went A A' (upTo (evMv n s (ways :: ls)) n) ∧ Mv A.word A'.word ways (ways :: ls) n s n := by
  have hb1 := a.ok.1
  have hb2 := a.ok.2.1
  have HA := hid a
  have HL := hid hl
  have HIN := hid hin
  have HPW := hid hp
  have HNF := hid (show ¬ F w.heap.size from fun x => by have := a.lt _ x; omega)
  have HEB := hid (show ∀ k, k ≤ n → (upTo (evMv n s (ways :: ls)) k).length ≤ 147603456 from fun k hk => by
    have h1 := up_le (evMv n s (ways :: ls)) (3 * (ls.length + 1)) k n (fun i => evMv_le ..) hk
    have h2 : n * (3 * (ls.length + 1)) ≤ 49152 * 3003 := Nat.mul_le_mul hn (by omega)
    omega)
  clear a hl hin hp
  have hw1 : ways + n ≤ A.top := HIN.out ways (by simp)
  go_enter Tryd.func54, Tryd.ntmps54
  go_wp2_with fail
  go_loopw [14] (fun c wr => ∃ (k : Nat) (Fk : Nat → Prop) (Ak : Ars), k ≤ n ∧ c = .int .i64 (k : Int) ∧ Ar wr h Fk Ak ∧ Step w F wr Fk ∧ (wr.heap[w.heap.size]? = some (stO h n s) ∧ ¬ Fk w.heap.size) ∧ Went A Ak (upTo (evMv n s (ways :: ls)) k) ∧ Mv A.word Ak.word ways (ways :: ls) n s k) (fun c _ => n - (intOf c).toNat)
  case atStart => exact ⟨0, F, A, Nat.zero_le _, rfl, HA.out.alloc _, (Step.refl _ _).alloc _, ⟨heap_alloc_at _ _, HNF.out⟩, Went.refl _, Mv.start ..⟩
  case round =>
    obtain ⟨k, Fk, Ak, hk, rfl, ak, sk, hx, wt, mv⟩ := hrel
    have HAK := hid ak
    have HSK := hid sk
    have HWT := hid wt
    have HMV := hid mv
    have HX := hid hx
    have HES := hid (show Ak.es.length ≤ 747603456 by rw [wt.es, List.length_append]; have := HEB.out k hk; omega)
    by_cases hlt : k < n
    · have htp := wt.top
      have hwt : ways + n ≤ Ak.top := by omega
      have k0 := cell_of_heap (i := 0) hx.1 rfl
      have k1 := cell_of_heap (i := 1) hx.1 rfl
      have k2 := cell_of_heap (i := 2) hx.1 rfl
      have HRD := hid (pread_any h Fk Ak n s ways k wr ak hs hn hlt hwt (by have := HES.out; omega))
      have HGR := hid (grew_rdP Ak n s ways k)
      have HW1 := hid (show Ak.word (ways + k) < 4294967296 from Ars.word_lt ak.ok _)
      have HW2 := hid (show ahead n s (fun i => Ak.word (ways + i)) k < 4294967296 by unfold ahead; split; exact Ars.word_lt ak.ok _; decide)
      have HTB := hid (show (ahead n s (fun i => Ak.word (ways + i)) k).testBit s = cm n s (fun i => Ak.word (ways + i)) k by unfold ahead cm; by_cases hq : k + 2 ^ s < n <;> simp [hq])
      obtain ⟨x, hxe⟩ : ∃ x, Ak.word (ways + k) = x := ⟨_, rfl⟩
      obtain ⟨y, hye⟩ : ∃ y, ahead n s (fun i => Ak.word (ways + i)) k = y := ⟨_, rfl⟩
      have HXE := hid hxe
      have HYE := hid hye
      rw [hxe] at HRD HW1
      rw [hye] at HRD HW2 HTB
      obtain ⟨B, hBe⟩ : ∃ B, rdP Ak n s ways k = B := ⟨_, rfl⟩
      rw [hBe] at HRD HGR
      clear ak sk wt mv hx htp hxe hye hBe
      go_wp2_with fail
      refine HRD.out.mono ?_
      rintro e w1 ⟨rfl, F1, a1, s1⟩
      have A2 := hid (a1.alloc (dpO ((ways : Int) + k) x y))
      have S2 := hid (s1.alloc (dpO ((ways : Int) + k) x y))
      have HD := hid (heap_alloc_at w1 (dpO ((ways : Int) + k) x y))
      have HFd := hid (show ¬ F1 w1.heap.size from fun x => by have := a1.lt _ x; omega)
      have X2 := hid (And.intro (S2.out.heap HX.out.1 HX.out.2) (S2.out.out HX.out.2 (lt_of_heap HX.out.1)))
      clear a1 s1 k0 k1 k2
      go_wp2_with fail
      obtain ⟨d, hd⟩ : ∃ d, w1.heap.size = d := ⟨_, rfl⟩
      rw [hd] at HD HFd ⊢
      clear hd
      generalize w1.alloc (dpO ((ways : Int) + k) x y) = w2 at *
      have KB := hid (show ∀ w' : World, Below w2.heap.size w2 w' → w'.cell? ⟨w.heap.size, 0, none⟩ = some (arPtr h) ∧ w'.cell? ⟨w.heap.size, 1, none⟩ = some (.int .i64 (n : Int)) ∧ w'.cell? ⟨w.heap.size, 2, none⟩ = some (.int .i64 (s : Int)) ∧ w'.cell? ⟨d, 1, none⟩ = some (.int .u32 (x : Int)) ∧ w'.cell? ⟨d, 2, none⟩ = some (.int .u32 (y : Int)) from fun w' hb => by
        have hb1 := (hb.block _ (lt_of_heap X2.out.1)).trans X2.out.1
        have hb2 := (hb.block _ (lt_of_heap HD.out)).trans HD.out
        exact ⟨cell_of_heap hb1 rfl, cell_of_heap hb1 rfl, cell_of_heap hb1 rfl, cell_of_heap hb2 rfl, cell_of_heap hb2 rfl⟩)
      have HSS := hid (show s < 32 by omega)
      go_cut [8, 9, 14] from 14 to 51 (fun p q c wx => c = .int .i64 (k : Int) ∧ ∃ z z', z ≠ z' ∧ w2.heap.size ≤ z ∧ w2.heap.size ≤ z' ∧ p = .pointer (some ⟨z, 0, none⟩) ∧ q = .pointer (some ⟨z', 0, none⟩) ∧ wx.heap[z]? = some (sb (mk (x.testBit s) : Nat)) ∧ wx.heap[z']? = some (sb (mk (y.testBit s) : Nat)) ∧ Below w2.heap.size w2 wx)
      case first =>
        clear hb1 hb2 hw1 hk hlt hwt hll hes hn hs
        refine wp_region_held_drew (S := (fun w' => w'.cell? ⟨w.heap.size, 0, none⟩ = some (arPtr h) ∧ w'.cell? ⟨w.heap.size, 1, none⟩ = some (.int .i64 (n : Int)) ∧ w'.cell? ⟨w.heap.size, 2, none⟩ = some (.int .i64 (s : Int)) ∧ w'.cell? ⟨d, 1, none⟩ = some (.int .u32 (x : Int)) ∧ w'.cell? ⟨d, 2, none⟩ = some (.int .u32 (y : Int)))) (by kernel_rfl) (KB.out _ (blw_drew (Below.refl _ _))) (fun hHeld => ?_)
        refine tk_at (i := 0) (d := some 21) (v := ?_) rfl rfl (by kernel_rfl) (by kernel_rfl) (by kernel_rfl) (fun _ _ _ h => h) (Or.inl ⟨by rfl, ?_⟩) (by assumption) ?_
        rotate_left
        · (intro w hSw; (try dsimp only at hSw); go_simp; try (with_reducible rfl))
        simp only [Act.put, List.setIfInBounds_toArray, List.set_cons_zero, List.set_cons_succ]
        refine tk_at (i := 1) (d := some 22) (v := ?_) rfl rfl (by kernel_rfl) (by kernel_rfl) (by kernel_rfl) (fun _ _ _ h => h) (Or.inl ⟨by rfl, ?_⟩) (by assumption) ?_
        rotate_left
        · (intro w hSw; (try dsimp only at hSw); go_simp; try (with_reducible rfl))
        simp only [Act.put, List.setIfInBounds_toArray, List.set_cons_zero, List.set_cons_succ]
        refine tk_at (i := 2) (d := some 23) (v := ?_) rfl rfl (by kernel_rfl) (by kernel_rfl) (by kernel_rfl) (fun _ _ _ h => h) (Or.inl ⟨by rfl, ?_⟩) (by assumption) ?_
        rotate_left
        · (intro w hSw; (try dsimp only at hSw); go_simp; try (with_reducible rfl))
        simp only [Act.put, List.setIfInBounds_toArray, List.set_cons_zero, List.set_cons_succ]
        refine tk_at (i := 4) (d := some 25) (v := ?_) rfl rfl (by kernel_rfl) (by kernel_rfl) (by kernel_rfl) (fun _ _ _ h => h) (Or.inl ⟨by rfl, ?_⟩) (by assumption) ?_
        rotate_left
        · (intro w hSw; (try dsimp only at hSw); go_simp; try (with_reducible rfl))
        simp only [Act.put, List.setIfInBounds_toArray, List.set_cons_zero, List.set_cons_succ]
        refine tk_at (i := 5) (d := some 26) (v := ?_) rfl rfl (by kernel_rfl) (by kernel_rfl) (by kernel_rfl) (fun _ _ _ h => h) (Or.inl ⟨by rfl, ?_⟩) (by assumption) ?_
        rotate_left
        · (intro w hSw; (try dsimp only at hSw); go_simp; try (with_reducible rfl))
        simp only [Act.put, List.setIfInBounds_toArray, List.set_cons_zero, List.set_cons_succ]
        refine tk_at (i := 6) (d := some 27) (v := ?_) rfl rfl (by kernel_rfl) (by kernel_rfl) (by kernel_rfl) (fun _ _ _ h => h) (Or.inl ⟨by rfl, ?_⟩) (by assumption) ?_
        rotate_left
        · (intro w hSw; (try dsimp only at hSw); go_simp; try (with_reducible rfl))
        simp only [Act.put, List.setIfInBounds_toArray, List.set_cons_zero, List.set_cons_succ]
        clear hHeld
        refine wpAnyH_inv (fun listed a w' => ∃ (b3 b7 b8 b9 b10 b11 : Bool) (p q xx yy : Value), listed = #[true, true, true, b3, true, true, true, b7, b8, b9, b10, b11] ∧ a = { tmps := #[stV h n s, Value.int IntKind.i64 (ways : Int), Value.slice ad ls.length cap, Value.pointer (some ⟨w.heap.size, 0, none⟩), undef, undef, Value.int IntKind.i64 (k : Int), Value.pointer (some ⟨d, 0, none⟩), p, q, undef, u11, Value.pointer (some ⟨w.heap.size, 1, none⟩), Value.int IntKind.i64 (n : Int), Value.int IntKind.i64 (k : Int), Value.bool true, Value.int IntKind.i64 (k : Int), Value.agg #[arPtr h, Value.int IntKind.i64 (n : Int), Value.int IntKind.i64 (s : Int)], Value.int IntKind.i64 (ways : Int), Value.int IntKind.i64 (k : Int), dpV ((ways : Int) + (k : Int)) x y, Value.agg #[arPtr h, Value.int IntKind.i64 (n : Int), Value.int IntKind.i64 (s : Int)], Value.pointer (some ⟨d, 1, none⟩), Value.agg #[Value.int IntKind.u32 (x : Int)], xx, Value.agg #[arPtr h, Value.int IntKind.i64 (n : Int), Value.int IntKind.i64 (s : Int)], Value.pointer (some ⟨d, 2, none⟩), Value.agg #[Value.int IntKind.u32 (y : Int)], yy, u29, u30, u31, u32, u33, u34, u35, u36, u37, u38, u39, u40, u41, u42, u43, u44, u45, u46, u47, u48, u49, u50, u51], defers := [] } ∧ (b3 = true → xx = sec (mk (x.testBit s) : Nat)) ∧ (b7 = true → yy = sec (mk (y.testBit s) : Nat)) ∧ Below w2.heap.size w2 w' ∧ Own1 w2 w' b8 b10 p (mk (x.testBit s)) ∧ Own1 w2 w' b9 b11 q (mk (y.testBit s)) ∧ (b8 = true → b9 = true → p ≠ q) ∧ ((b8 || !b10) = true ∧ (b9 || !b11) = true)) ?_ _ _ _ _ (by decide +kernel) ⟨false, false, false, false, false, false, _, _, _, _, by kernel_rfl, rfl, fun h => (by cases h), fun h => (by cases h), blw_drew (Below.refl _ _), Own1.none, Own1.none, fun h => (by cases h), rfl, rfl⟩
        intro listed a w' ⟨b3, b7, b8, b9, b10, b11, p, q, xx, yy, hl, ha, hxx, hyy, hBw, hp, hq, hpq, hcc⟩
        subst hl ha
        have HXX := hid hxx
        have HYY := hid hyy
        have HBW := hid hBw
        have HPP := hid hp
        have HQQ := hid hq
        have HPQ := hid hpq
        have HCC := hid hcc
        clear hxx hyy hBw hp hq hpq hcc
        refine ⟨fun hr => ?_, fun i hi => ?_⟩
        · have hall : (b3 && b7 && b8 && b9 && b10 && b11) = true := by
            clear HXX HYY HBW HPP HQQ HPQ HCC
            revert b3 b7 b8 b9 b10 b11
            decide +kernel
          simp only [Bool.and_eq_true] at hall
          obtain ⟨⟨⟨⟨⟨rfl, rfl⟩, rfl⟩, rfl⟩, rfl⟩, rfl⟩ := hall
          obtain ⟨z, rfl, hz1, hz2⟩ := HPP.out rfl
          obtain ⟨z', rfl, hz3, hz4⟩ := HQQ.out rfl
          have HR := hid (show z ≠ z' ∧ w2.heap.size ≤ z ∧ w2.heap.size ≤ z' ∧ w'.heap[z]? = some (sb (mk (x.testBit s) : Nat)) ∧ w'.heap[z']? = some (sb (mk (y.testBit s) : Nat)) ∧ Below w2.heap.size w2 w' from ⟨fun e => HPQ.out rfl rfl (by rw [e]), hz1, hz3, hz2, hz4, HBW.out⟩)
          clear hz1 hz2 hz3 hz4 HXX HYY HBW HPP HQQ HPQ HCC hr
          dsimp only
          go_wp2_with fail
          go_meet
          case rel => exact ⟨rfl, z, z', HR.out.1, HR.out.2.1, HR.out.2.2.1, rfl, rfl, HR.out.2.2.2.1, HR.out.2.2.2.2.1, HR.out.2.2.2.2.2⟩
        · have hcase : (i = 3 ∧ b3 = false) ∨ (i = 7 ∧ b7 = false ∧ b3 = true) ∨ (i = 8 ∧ b8 = false) ∨ (i = 9 ∧ b9 = false) ∨ (i = 10 ∧ b10 = false ∧ b3 = true ∧ b7 = true ∧ b8 = true ∧ b9 = true) ∨ (i = 11 ∧ b11 = false ∧ b3 = true ∧ b7 = true ∧ b8 = true ∧ b9 = true) := by
            refine of_decide_eq_true ((List.all_eq_true (p := fun i => decide ((i = 3 ∧ b3 = false) ∨ (i = 7 ∧ b7 = false ∧ b3 = true) ∨ (i = 8 ∧ b8 = false) ∨ (i = 9 ∧ b9 = false) ∨ (i = 10 ∧ b10 = false ∧ b3 = true ∧ b7 = true ∧ b8 = true ∧ b9 = true) ∨ (i = 11 ∧ b11 = false ∧ b3 = true ∧ b7 = true ∧ b8 = true ∧ b9 = true)))).1 ?_ i hi)
            clear HXX HYY HBW HPP HQQ HPQ HCC hi
            revert b3 b7 b8 b9 b10 b11
            decide +kernel
          clear hi
          have HCK := hid (show ∀ w3 : World, Below w2.heap.size w2 w3 → _ from KB.out)
          rcases hcase with ⟨rfl, rfl⟩ | ⟨rfl, rfl, rfl⟩ | ⟨rfl, rfl⟩ | ⟨rfl, rfl⟩ | ⟨rfl, rfl, rfl, rfl, rfl, rfl⟩ | ⟨rfl, rfl, rfl, rfl, rfl, rfl⟩
          · refine wpOp_shut rfl (fun K hK => ?_)
            go_simp
            refine (asks_any h n s x _ HSS.out HW1.out).mono ?_
            rintro e wa ⟨rfl, hBa⟩
            have HBa := hid hBa
            clear hBa
            go_wp2_with fail
            have hB3 := belowCat HBW.out HBa.out
            exact hK.out _ _ ⟨KB.out _ hB3, true, b7, b8, b9, b10, b11, p, q, _, yy, by kernel_rfl, rfl, fun _ => rfl, HYY.out, hB3, HPP.out.below HBa.out, HQQ.out.below HBa.out, HPQ.out, (by have := HCC.out; revert this; cases b8 <;> cases b9 <;> cases b10 <;> cases b11 <;> simp)⟩
          · refine wpOp_shut rfl (fun K hK => ?_)
            go_simp
            refine (asks_any h n s y _ HSS.out HW2.out).mono ?_
            rintro e wa ⟨rfl, hBa⟩
            have HBa := hid hBa
            clear hBa
            go_wp2_with fail
            have hB3 := belowCat HBW.out HBa.out
            exact hK.out _ _ ⟨KB.out _ hB3, true, true, b8, b9, b10, b11, p, q, xx, _, by kernel_rfl, rfl, fun _ => HXX.out (by first | rfl | trivial), fun _ => rfl, hB3, HPP.out.below HBa.out, HQQ.out.below HBa.out, HPQ.out, (by have := HCC.out; revert this; cases b8 <;> cases b9 <;> cases b10 <;> cases b11 <;> simp)⟩
          · obtain rfl : b10 = false := by have := HCC.out.1; revert this; cases b10 <;> simp
            refine wpOp_shut rfl (fun K hK => ?_)
            go_simp
            go_wp2_with fail
            have hBa := below1p w' (.cells #[.int .u32 0] 32 (0, 0))
            have hB3 := belowCat HBW.out hBa
            exact hK.out _ _ ⟨KB.out _ hB3, b3, b7, true, b9, false, b11, _, q, xx, yy, by kernel_rfl, rfl, HXX.out, HYY.out, hB3, Own1.new HBW.out, HQQ.out.below hBa, fun _ h9 => (HQQ.out.fresh h9), rfl, (by have := HCC.out; revert this; cases b9 <;> cases b11 <;> simp)⟩
          · obtain rfl : b11 = false := by have := HCC.out.2; revert this; cases b11 <;> simp
            refine wpOp_shut rfl (fun K hK => ?_)
            go_simp
            go_wp2_with fail
            have hBa := below1p w' (.cells #[.int .u32 0] 32 (0, 0))
            have hB3 := belowCat HBW.out hBa
            exact hK.out _ _ ⟨KB.out _ hB3, b3, b7, b8, true, b10, false, p, _, xx, yy, by kernel_rfl, rfl, HXX.out, HYY.out, hB3, HPP.out.below hBa, Own1.new HBW.out, fun h8 _ => (HPP.out.fresh h8).symm, (by have := HCC.out; revert this; cases b8 <;> cases b10 <;> simp), rfl⟩
          · have HY2 := hid (HYY.out rfl)
            have HQ2 := hid HQQ.out
            obtain ⟨z, rfl, hz1, hz2⟩ := HPP.out rfl
            have HNE := hid (HPQ.out rfl rfl)
            obtain rfl := HXX.out rfl
            have c0 := cell_of_heap (i := 0) hz2 rfl
            have g0 := frozen_of_heap (i := 0) hz2
            have HZ := hid (And.intro hz1 hz2)
            clear hz1 hz2
            refine wpOp_shut rfl (fun K hK => ?_)
            go_simp
            go_wp2_with fail
            have hB3 := HBW.out.setCell (p := ⟨z, 0, none⟩) HZ.out.1 (.int .u32 (mk (x.testBit s) : Nat))
            exact hK.out _ _ ⟨KB.out _ hB3, true, true, true, true, true, b11, _, q, _, yy, by kernel_rfl, rfl, fun _ => rfl, fun _ => HY2.out, hB3, fun _ => ⟨z, rfl, HZ.out.1, own_put HZ.out.2⟩, HQ2.out.other HNE.out, fun _ _ => HNE.out, rfl, rfl⟩
          · have HX2 := hid (HXX.out rfl)
            have HP2 := hid HPP.out
            obtain ⟨z, rfl, hz1, hz2⟩ := HQQ.out rfl
            have HNE := hid (HPQ.out rfl rfl)
            obtain rfl := HYY.out rfl
            have c0 := cell_of_heap (i := 0) hz2 rfl
            have g0 := frozen_of_heap (i := 0) hz2
            have HZ := hid (And.intro hz1 hz2)
            clear hz1 hz2
            refine wpOp_shut rfl (fun K hK => ?_)
            go_simp
            go_wp2_with fail
            have hB3 := HBW.out.setCell (p := ⟨z, 0, none⟩) HZ.out.1 (.int .u32 (mk (y.testBit s) : Nat))
            exact hK.out _ _ ⟨KB.out _ hB3, true, true, true, true, b10, true, p, _, xx, _, by kernel_rfl, rfl, fun _ => HX2.out, fun _ => rfl, hB3, HP2.out.other (fun e => HNE.out e.symm), fun _ => ⟨z, rfl, HZ.out.1, own_put HZ.out.2⟩, fun _ _ => HNE.out, rfl, rfl⟩
      case rest =>
        obtain ⟨rfl, z, z', hzz, hz1, hz2, rfl, rfl, hbz, hbz', hB⟩ := hcut
        obtain ⟨g, hg⟩ : ∃ g, x.testBit s = g := ⟨_, rfl⟩
        obtain ⟨c, hc⟩ : ∃ c, y.testBit s = c := ⟨_, rfl⟩
        rw [hg] at hbz
        rw [hc] at hbz' HTB
        have HG := hid hg
        have A3 := hid (A2.out.below hB)
        have S3 := hid (S2.out.trans (Step.ofBelow (F := F1) hB))
        have X3 := hid (And.intro ((hB.block _ (lt_of_heap X2.out.1)).trans X2.out.1) X2.out.2)
        have HNZ := hid (show ∀ q, w2.heap.size ≤ q → ¬ F1 q from fun q hq hx => by have := A2.out.lt _ hx; omega)
        have Z3 := hid (And.intro hbz (HNZ.out z hz1))
        have Z3' := hid (And.intro hbz' (HNZ.out z' hz2))
        have D3 := hid ((hB.block _ (lt_of_heap HD.out)).trans HD.out)
        have k0 : wc.cell? ⟨w.heap.size, 0, none⟩ = some (arPtr h) := cell_of_heap X3.out.1 rfl
        have kd0 : wc.cell? ⟨d, 0, none⟩ = some (.int .i64 ((ways : Int) + k)) := cell_of_heap D3.out rfl
        have kd1 : wc.cell? ⟨d, 1, none⟩ = some (.int .u32 (x : Int)) := cell_of_heap D3.out rfl
        have kd2 : wc.cell? ⟨d, 2, none⟩ = some (.int .u32 (y : Int)) := cell_of_heap D3.out rfl
        have kz : wc.cell? ⟨z, 0, none⟩ = some (.int .u32 (mk g : Int)) := cell_of_heap hbz rfl
        have kz' : wc.cell? ⟨z', 0, none⟩ = some (.int .u32 (mk c : Int)) := cell_of_heap hbz' rfl
        have HBT := hid (show B.top = Ak.top from HGR.out.top)
        have HBL := hid (show B.es.length ≤ 747603458 by rw [HGR.out.es, List.length_append]; have := HES.out; have := evRd_le n s ways k; omega)
        have HWS := hid (pwrite_any h F1 B ways k x y g c wc A3.out (by have := HBT.out; omega) HW1.out HW2.out (by have := HBL.out; omega))
        clear hB hbz hbz' hzz hz1 hz2 hg hc HNZ A2 S2 X2 HD HFd KB
        go_wp2_with fail
        refine HWS.out.mono ?_
        rintro e w5 ⟨rfl, F5, a5, s5⟩
        have A5 := hid a5
        have S5 := hid (HSK.out.trans (S3.out.trans s5))
        have X5 := hid (And.intro (s5.heap X3.out.1 X3.out.2) (s5.out X3.out.2 (lt_of_heap X3.out.1)))
        have Z5 := hid (And.intro (s5.heap Z3.out.1 Z3.out.2) (s5.out Z3.out.2 (lt_of_heap Z3.out.1)))
        have Z5' := hid (And.intro (s5.heap Z3'.out.1 Z3'.out.2) (s5.out Z3'.out.2 (lt_of_heap Z3'.out.1)))
        clear a5 s5 k0 kd0 kd1 kd2 kz kz' HWS A3 S3 X3 Z3 Z3' D3
        have HF := hid (show ∀ x, mvF Ak.word ways n s k x = mix g c (Ak.word x) (if k + 2 ^ s < n then Ak.word (x + 2 ^ s) else 0) from fun q => by
          show mix ((Ak.word (ways + k)).testBit s) _ _ _ = _
          rw [HXE.out, HG.out, ← HTB.out])
        have HW5 := hid (show (B.storeN (ways + k) (mix g c x y)).word = upd Ak.word ((ways :: ls.take 0).map (· + k)) (mvF Ak.word ways n s k) by
          rw [word_st _ _ _ (by have := HGR.out.wl; have := HAK.out.ok.1; omega)]
          have e0 : (ways :: ls.take 0).map (· + k) = [] ++ [ways + k] := rfl
          rw [e0, upd_snoc, upd_nil, HF.out, HXE.out, HGR.out.word]
          have e1 : (if k + 2 ^ s < n then Ak.word (ways + k + 2 ^ s) else 0) = y := by rw [← HYE.out]; unfold ahead; simp only [Nat.add_assoc]
          rw [e1])
        have HWT5 := hid (show Went A (B.storeN (ways + k) (mix g c x y)) (upTo (evMv n s (ways :: ls)) k ++ evMv n s (ways :: ls.take 0) k) by
          have h1 : Went Ak B (evRd n s ways k) := ⟨HGR.out.top, HGR.out.wl, HGR.out.es⟩
          have := HWT.out.trans (h1.trans (went_st B (ways + k) (mix g c x y)))
          simpa [evMv] using this)
        obtain ⟨C, hCe⟩ : ∃ C, B.storeN (ways + k) (mix g c x y) = C := ⟨_, rfl⟩
        rw [hCe] at A5 HW5 HWT5
        clear hCe
        obtain ⟨wz, rfl⟩ : ∃ y, y = wr := ⟨_, rfl⟩
        go_wp2_with fail
        go_loopw [37] (fun c1 wr => ∃ (j : Nat) (Fj : Nat → Prop) (Aj : Ars), j ≤ ls.length ∧ c1 = .int .i64 (j : Int) ∧ Ar wr h Fj Aj ∧ Step w F wr Fj ∧ (wr.heap[w.heap.size]? = some (stO h n s) ∧ ¬ Fj w.heap.size) ∧ (wr.heap[z]? = some (sb (mk g : Nat)) ∧ ¬ Fj z) ∧ (wr.heap[z']? = some (sb (mk c : Nat)) ∧ ¬ Fj z') ∧
          Went A Aj (upTo (evMv n s (ways :: ls)) k ++ evMv n s (ways :: ls.take j) k) ∧ Aj.word = upd Ak.word ((ways :: ls.take j).map (· + k)) (mvF Ak.word ways n s k)) (fun c _ => ls.length - (intOf c).toNat)
        case atStart => exact ⟨0, F5, C, Nat.zero_le _, rfl, A5.out, S5.out, X5.out, Z5.out, Z5'.out, HWT5.out, HW5.out⟩
        case round =>
          clear X5 Z5 Z5' A5 S5 HX HSK HWT5 HW5
          obtain ⟨j, Fj, Aj, hj, rfl, aj, sj, xj, zj, zj', wtj, wdj⟩ := hrel
          have HAJ := hid aj
          have HSJ := hid sj
          have HXJ := hid xj
          have HZJ := hid zj
          have HZJ' := hid zj'
          have HWJ := hid wtj
          have HDJ := hid wdj
          have htj := wtj.top
          have HEJ := hid (show Aj.es.length ≤ 747606470 by
            rw [wtj.es]
            simp only [List.length_append]
            have h1 := HEB.out k hk
            have h2 := evMv_le n s (ways :: ls.take j) k
            simp only [List.length_cons, List.length_take] at h2
            omega)
          clear aj sj xj zj zj' wtj wdj
          by_cases hjl : j < ls.length
          · have hni := notin_take (i := k) (k := k) HPW.out (j := j + 1) (by simpa using hjl) hlt hlt
            have hni2 : k + 2 ^ s < n → L0 ls j + (k + 2 ^ s) ∉ (ways :: ls.take j).map (· + k) := fun hq => by
              have := notin_take (i := k) (k := k + 2 ^ s) HPW.out (j := j + 1) (by simpa using hjl) hlt hq
              simpa [L0, hjl] using this
            have HLW := hid (show Aj.word (ls[j] + k) = Ak.word (ls[j] + k) by rw [HDJ.out]; exact upd_out _ _ _ _ hni)
            have HLA := hid (show ahead n s (fun i => Aj.word (ls[j] + i)) k = if k + 2 ^ s < n then Ak.word (ls[j] + k + 2 ^ s) else 0 by
              unfold ahead
              by_cases hq : k + 2 ^ s < n
              · rw [if_pos hq, if_pos hq, HDJ.out, Nat.add_assoc]
                have := hni2 hq
                simp only [L0, hjl, List.getD_eq_getElem?_getD, List.getElem?_eq_getElem, Option.getD_some] at this
                exact upd_out _ _ _ _ this
              · rw [if_neg hq, if_neg hq])
            have hLt : ls[j] + n ≤ A.top := HIN.out ls[j] (List.mem_cons_of_mem _ (List.getElem_mem hjl))
            obtain ⟨bl, hbl, hnbl, hcl⟩ := (HL.out.step HSJ.out) j hjl
            have HTK := hid (show ls.take (j + 1) = ls.take j ++ [ls[j]] from List.take_succ_eq_append_getElem hjl)
            obtain ⟨L, hLe⟩ : ∃ L, ls[j] = L := ⟨_, rfl⟩
            rw [hLe] at HLW HLA hLt hcl HTK
            subst hbl
            clear hni hni2 hLe
            have hLk : L + k < Aj.top := by omega
            have HRD2 := hid (fun w a => pread_any h Fj Aj n s L k w a hs hn hlt (by omega) (by have := HEJ.out; omega))
            have HGR2 := hid (grew_rdP Aj n s L k)
            have HV1 := hid (show Aj.word (L + k) < 4294967296 from Ars.word_lt HAJ.out.ok _)
            have HV2 := hid (show ahead n s (fun i => Aj.word (L + i)) k < 4294967296 by unfold ahead; split; exact Ars.word_lt HAJ.out.ok _; decide)
            obtain ⟨x1, hx1⟩ : ∃ x, Aj.word (L + k) = x := ⟨_, rfl⟩
            obtain ⟨y1, hy1⟩ : ∃ y, ahead n s (fun i => Aj.word (L + i)) k = y := ⟨_, rfl⟩
            rw [hx1] at HRD2 HV1 HLW
            rw [hy1] at HRD2 HV2 HLA
            obtain ⟨D, hDe⟩ : ∃ D, rdP Aj n s L k = D := ⟨_, rfl⟩
            rw [hDe] at HRD2 HGR2
            have HDB := hid (show D.top = Aj.top ∧ D.es.length ≤ 747606472 from ⟨HGR2.out.top, by rw [HGR2.out.es, List.length_append]; have := HEJ.out; have := evRd_le n s L k; omega⟩)
            have HWR2 := hid (fun F w a => pwrite_any h F D L k x1 y1 g c w a (by have := HDB.out.1; omega) HV1.out HV2.out (by have := HDB.out.2; omega))
            have HWD := hid (show (D.storeN (L + k) (mix g c x1 y1)).word = upd Ak.word ((ways :: ls.take (j + 1)).map (· + k)) (mvF Ak.word ways n s k) by
              rw [word_st _ _ _ (by have := HGR2.out.wl; have := HAJ.out.ok.1; omega), HTK.out]
              have e0 : (ways :: (ls.take j ++ [L])).map (· + k) = (ways :: ls.take j).map (· + k) ++ [L + k] := by simp
              rw [e0, upd_snoc, HF.out, ← HLW.out, ← HLA.out, HGR2.out.word, HDJ.out])
            have HWN := hid (show Went A (D.storeN (L + k) (mix g c x1 y1)) (upTo (evMv n s (ways :: ls)) k ++ evMv n s (ways :: ls.take (j + 1)) k) by
              have h1 : Went Aj D (evRd n s L k) := ⟨HGR2.out.top, HGR2.out.wl, HGR2.out.es⟩
              have := HWJ.out.trans (h1.trans (went_st D (L + k) (mix g c x1 y1)))
              rw [HTK.out]
              unfold evMv at this ⊢
              simpa [List.flatMap_append] using this)
            have KS := hid (show ∀ w' : World, w'.heap[w.heap.size]? = some (stO h n s) → w'.heap[z]? = some (sb (mk g : Nat)) → w'.heap[z']? = some (sb (mk c : Nat)) → (fun w' => w'.cell? ⟨w.heap.size, 0, none⟩ = some (arPtr h) ∧ w'.cell? ⟨w.heap.size, 1, none⟩ = some (.int .i64 (n : Int)) ∧ w'.cell? ⟨w.heap.size, 2, none⟩ = some (.int .i64 (s : Int)) ∧ w'.cell? ⟨z, 0, none⟩ = some (.int .u32 (mk g : Int)) ∧ w'.cell? ⟨z', 0, none⟩ = some (.int .u32 (mk c : Int))) w' from fun w' q1 q2 q3 => ⟨cell_of_heap q1 rfl, cell_of_heap q1 rfl, cell_of_heap q1 rfl, cell_of_heap q2 rfl, cell_of_heap q3 rfl⟩)
            have KB := hid (show ∀ w' : World, Below wr.heap.size wr w' → (fun w' => w'.cell? ⟨w.heap.size, 0, none⟩ = some (arPtr h) ∧ w'.cell? ⟨w.heap.size, 1, none⟩ = some (.int .i64 (n : Int)) ∧ w'.cell? ⟨w.heap.size, 2, none⟩ = some (.int .i64 (s : Int)) ∧ w'.cell? ⟨z, 0, none⟩ = some (.int .u32 (mk g : Int)) ∧ w'.cell? ⟨z', 0, none⟩ = some (.int .u32 (mk c : Int))) w' from fun w' hb => KS.out w' ((hb.block _ (lt_of_heap HXJ.out.1)).trans HXJ.out.1) ((hb.block _ (lt_of_heap HZJ.out.1)).trans HZJ.out.1) ((hb.block _ (lt_of_heap HZJ'.out.1)).trans HZJ'.out.1))
            clear hx1 hy1 hDe HLW HLA htj
            go_wp2_with fail
            go_region_held3 (fun w' => w'.cell? ⟨w.heap.size, 0, none⟩ = some (arPtr h) ∧ w'.cell? ⟨w.heap.size, 1, none⟩ = some (.int .i64 (n : Int)) ∧ w'.cell? ⟨w.heap.size, 2, none⟩ = some (.int .i64 (s : Int)) ∧ w'.cell? ⟨z, 0, none⟩ = some (.int .u32 (mk g : Int)) ∧ w'.cell? ⟨z', 0, none⟩ = some (.int .u32 (mk c : Int)))
              (first | (exact KX7.out) | (refine KX.out _ ?_; (repeat (first | exact Below.refl _ _ | refine blw_alloc ?_ | refine blw_drew ?_)); done) | (refine KB.out _ ?_; (repeat (first | exact Below.refl _ _ | refine blw_alloc ?_ | refine blw_drew ?_)); done) | (go_keep))
              (first
                | (go_at_call 76; refine (HRD2.out _ HAJ.out.drew).mono ?_; rintro e w6 ⟨rfl, F6, a6, s6⟩; have hs6 := (Step.refl wr Fj).drew.trans s6; have KX := hid (show ∀ w' : World, Below w6.heap.size w6 w' → (fun w' => w'.cell? ⟨w.heap.size, 0, none⟩ = some (arPtr h) ∧ w'.cell? ⟨w.heap.size, 1, none⟩ = some (.int .i64 (n : Int)) ∧ w'.cell? ⟨w.heap.size, 2, none⟩ = some (.int .i64 (s : Int)) ∧ w'.cell? ⟨z, 0, none⟩ = some (.int .u32 (mk g : Int)) ∧ w'.cell? ⟨z', 0, none⟩ = some (.int .u32 (mk c : Int))) w' from fun w' hb => KS.out w' ((hb.block _ (lt_of_heap (hs6.heap HXJ.out.1 HXJ.out.2))).trans (hs6.heap HXJ.out.1 HXJ.out.2)) ((hb.block _ (lt_of_heap (hs6.heap HZJ.out.1 HZJ.out.2))).trans (hs6.heap HZJ.out.1 HZJ.out.2)) ((hb.block _ (lt_of_heap (hs6.heap HZJ'.out.1 HZJ'.out.2))).trans (hs6.heap HZJ'.out.1 HZJ'.out.2))))
                | (go_at_call 78; refine (HWR2.out F6 _ a6).mono ?_; rintro e w7 ⟨rfl, F7, a7, s7⟩; have hs7 := hs6.trans s7; have KX7 := hid (KS.out w7 (hs7.heap HXJ.out.1 HXJ.out.2) (hs7.heap HZJ.out.1 HZJ.out.2) (hs7.heap HZJ'.out.1 HZJ'.out.2))))
            rename_i hHeld
            have A7 := hid a7
            have S7 := hid (HSJ.out.trans hs7)
            have X7 := hid (And.intro (hs7.heap HXJ.out.1 HXJ.out.2) (hs7.out HXJ.out.2 (lt_of_heap HXJ.out.1)))
            have Z7 := hid (And.intro (hs7.heap HZJ.out.1 HZJ.out.2) (hs7.out HZJ.out.2 (lt_of_heap HZJ.out.1)))
            have Z7' := hid (And.intro (hs7.heap HZJ'.out.1 HZJ'.out.2) (hs7.out HZJ'.out.2 (lt_of_heap HZJ'.out.1)))
            clear a6 s6 a7 s7 hs6 hs7 KX KX7 KB KS hHeld HAJ HSJ HXJ HZJ HZJ'
            go_wp2
            go_roundw
            case rel => exact ⟨j + 1, F7, D.storeN (L + k) (mix g c x1 y1), by omega, by go_num, A7.out, S7.out, X7.out, Z7.out, Z7'.out, HWN.out, HWD.out⟩
            case measure => simp [intOf]; omega
          · have hje : j = ls.length := by omega
            rw [hje, List.take_length] at HWJ HDJ
            have HMN := hid (show Mv A.word Aj.word ways (ways :: ls) n s (k + 1) from HMV.out.snoc hlt (List.mem_cons_self ..) HPW.out HDJ.out)
            have HWN := hid (show Went A Aj (upTo (evMv n s (ways :: ls)) (k + 1)) by rw [upTo_succ]; exact HWJ.out)
            clear htj
            go_wp2_with fail
            go_roundw
            case rel => exact ⟨k + 1, Fj, Aj, by omega, by go_num, HAJ.out, HSJ.out, HXJ.out, HWN.out, HMN.out⟩
            case measure => simp [intOf]; omega
    · have hke : k = n := by omega
      subst hke
      clear ak sk wt mv hx
      go_wp2
      go_end0
      exact ⟨rfl, Fk, Ak, HAK.out, HSK.out, HWT.out, HMV.out⟩
end Go.Proofs.YtjcnkigadlmpgaaDoor
