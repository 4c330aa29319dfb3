/- The law SeekFinds returns true at all keys and rows, as they are read. -/
import Derived.Test.YtajkjlnhongjfaaSkI
namespace Go.Proofs.Ytajkjlnhongjfaa
open Go.RowKit

theorem sz_drew (w : World) : w.drew.heap.size = w.heap.size := rfl
theorem blk_two {w w4 : World} {o o' : Obj} (h : Below ((w.alloc o).alloc o').drew.heap.size ((w.alloc o).alloc o').drew w4) : w4.heap[w.heap.size]? = some o ∧ w4.heap[w.heap.size + 1]? = some o' :=
  ⟨hpB h (show ((w.alloc o).alloc o').heap[w.heap.size]? = some o from (by simp only [hp_get, World.size_alloc]; repeat (first | rw [if_pos trivial] | rw [if_pos rfl] | rw [if_neg (by omega)]))), hpB h (show ((w.alloc o).alloc o').heap[w.heap.size + 1]? = some o' from (by simp only [hp_get, World.size_alloc]; repeat (first | rw [if_pos trivial] | rw [if_pos rfl] | rw [if_neg (by omega)])))⟩
set_option maxHeartbeats 3200000 in
theorem finds_core (adk : Option Addr) (capk : Nat) (ks : List Nat) (adr : Option Addr) (capr : Nat) (L : List Rw) (key : Nat) (w : World) (hok : (⟨adk, capk, ks, adr, capr, L⟩ : Tb).Ok w) (hkey : key < 4294967296) (hn : ks.length ≤ 60) (hL : L.length ≤ 60) :
    Calls Try.prog 3 #[.slice adk ks.length capk, .slice adr L.length capr, u32 key] w fun e w' => e = .returned (.bool true) ∧ Below w.heap.size w w' := by
  have HOK := hid hok
  have hn' : ¬ (60 : Int) < (ks.length : Int) := by omega
  have hL' : ¬ (60 : Int) < (L.length : Int) := by omega
  clear hok
  go_enter Try.func3, Try.ntmps3
  go_wp2_with fail
  refine (awake6_any _).mono ?_
  rintro e w1 ⟨rfl, hB1⟩
  have HB1 := hid hB1
  clear hB1
  go_wp2_with fail
  go_loopw [27] (fun c wr => ∃ k : Nat, k ≤ L.length ∧ c = .int .i64 (k : Int) ∧ wr = w1 ∧ ∀ i (hi : i < L.length), i < k → (L[i]).ws.length ≤ 20) (fun c _ => L.length - (intOf c).toNat)
  case atStart => exact ⟨0, Nat.zero_le _, rfl, rfl, fun i _ h => absurd h (Nat.not_lt_zero _)⟩
  case round =>
    obtain ⟨k, hk1, rfl, rfl, hsm⟩ := hrel
    have HSM := hid hsm
    clear hsm
    by_cases hlt : k < L.length
    · obtain ⟨x, hx, hc, _⟩ := (HOK.out.below HB1.out).r k hlt
      dsimp only at hx hc
      subst hx
      by_cases h20 : (L[k]).ws.length ≤ 20
      · have h20' : ¬ (20 : Int) < ((L[k]).ws.length : Int) := by omega
        have HN := hid (show ∀ i (hi : i < L.length), i < k + 1 → (L[i]).ws.length ≤ 20 from fun i hi h => by
          by_cases e : i = k
          · subst e; exact h20
          · exact HSM.out i hi (by omega))
        clear h20
        go_wp2
        go_roundw
        case rel => exact ⟨k + 1, by omega, by go_num, trivial, HN.out⟩
        case measure => simp [intOf]; omega
      · have h20' : (20 : Int) < ((L[k]).ws.length : Int) := by omega
        clear h20
        go_wp2
        go_ret
        exact ⟨rfl, HB1.out⟩
    · have hke : k = L.length := by omega
      subst hke
      obtain ⟨t, ht⟩ : ∃ t : Tb, t = ⟨adk, capk, ks, adr, capr, L⟩ := ⟨_, rfl⟩
      have HWD := hid (show t.wd ≤ 20 by
        rcases Nat.eq_zero_or_pos t.L.length with h0 | h0
        · rw [Tb.wd_nil h0]; omega
        · rw [Tb.wd_cons h0]; subst ht; exact HSM.out 0 h0 h0)
      have HT := hid ht
      have HO1 := hid (show t.Ok wr by rw [ht]; exact HOK.out.below HB1.out)
      go_wp2_with fail
      have HD := hid (show (wr.alloc (.cells #[.slice adk ks.length capk, .slice adr L.length capr] 27 (0, 0))).heap[wr.heap.size]? = some (tbO t) by rw [HT.out]; exact heap_alloc_at _ _)
      have HBA := hid (show Below wr.heap.size wr (wr.alloc (.cells #[.slice adk ks.length capk, .slice adr L.length capr] 27 (0, 0))) from (by repeat (first | exact Below.refl _ _ | refine blw_alloc ?_ | refine blw_drew ?_ | assumption)))
      have HKL := hid (show t.ks.length = ks.length by rw [HT.out])
      have HTV := hid (show (.agg #[.slice adk ks.length capk, .slice adr L.length capr] : Value) = tbV t by rw [HT.out])
      have HSZ := hid (show wr.heap.size < (wr.alloc (.cells #[.slice adk ks.length capk, .slice adr L.length capr] 27 (0, 0))).heap.size by rw [World.size_alloc]; omega)
      obtain ⟨d, hd⟩ : ∃ d, wr.heap.size = d := ⟨_, rfl⟩
      rw [hd] at HD HSZ ⊢
      clear hd ht
      generalize wr.alloc (.cells #[.slice adk ks.length capk, .slice adr L.length capr] 27 (0, 0)) = w2 at *
      have HO2 := hid (HO1.out.below HBA.out)
      have HB2 := hid (belowCat HB1.out HBA.out)
      have KB := hid (show ∀ w' : World, Below w2.heap.size w2 w' → w'.cell? ⟨d, 0, none⟩ = some (.slice adk ks.length capk) ∧ w'.cell? ⟨d, 1, none⟩ = some (.slice adr L.length capr) from fun w' hb => by
        have h := cell_tb (hpB hb HD.out)
        rw [HT.out] at h
        exact h)
      obtain ⟨W, hW⟩ : ∃ W, t.wd = W := ⟨_, rfl⟩
      obtain ⟨M, hM⟩ : ∃ M, fdM t key ks.length = M := ⟨_, rfl⟩
      have HF := hid (fun w' hb => find_any t key w' (HO2.out.below hb) hkey (by rw [HKL.out]; omega) (by have := HWD.out; omega))
      have HR := hid (fun w' hb => rfind_any t key w' (HO2.out.below hb) (by rw [HKL.out]; omega) (by have := HWD.out; omega))
      rw [hW, HKL.out, hM, ← HTV.out] at HF HR
      have HWE := hid hW
      rw [hW] at HWD
      have hW20 : W ≤ 20 := HWD.out
      have HFL := hid (fun q => fdT_lt HO2.out key ks.length q)
      generalize fdT t key ks.length = fT at *
      clear hW hM
      go_cut [10, 11] from 38 to 78 (fun v p wx => ∃ g z, v = .slice (some ⟨g, 0, none⟩) W W ∧ p = .pointer (some ⟨z, 0, none⟩) ∧ wx.heap[g]? = some (.cells (rowF W fT) 31 (0, 0)) ∧ wx.heap[z]? = some (sb (mk M : Nat)) ∧ Below w2.heap.size w2 wx)
      case first =>
        go_region_held3 (fun w' => w'.cell? ⟨d, 0, none⟩ = some (.slice adk ks.length capk) ∧ w'.cell? ⟨d, 1, none⟩ = some (.slice adr L.length capr))
          (first | (with_reducible exact KB.out _ hB4) | (with_reducible exact KB.out _ (blw_set _ hB4 (Nat.le_refl _))) | (with_reducible exact KB.out _ (blw_set _ hB4 (Nat.le_succ _))) | (with_reducible exact KB.out _ (blw_alloc hB4)) | (refine KB.out _ ?_; (repeat (first | with_reducible exact Below.refl _ _ | with_reducible refine blw_alloc ?_ | with_reducible refine blw_drew ?_)); done) | (go_keep))
          (first
            | (go_at_call 8; refine (of_any _ _).mono ?_; rintro e w' ⟨rfl, rfl⟩)
            | (go_at_call 7; refine (HF.out _ (blw_drew (blw_alloc (blw_alloc (Below.refl _ _))))).mono ?_; rintro e w4 ⟨g, rfl, hg, hc, hB4⟩; have hzz := blk_two hB4; replace hB4 := belowCat (blw_drew (blw_alloc (blw_alloc (Below.refl _ _)))) hB4; have z1 := cell_sb hzz.1; have z2 := cell_sb hzz.2; have f1 := frozen_of_heap (i := 0) hzz.1; have f2 := frozen_of_heap (i := 0) hzz.2; rw [sz_drew, World.size_alloc, World.size_alloc] at hg)
            | (go_at_call 7; refine (HF.out _ (blw_drew (blw_alloc (Below.refl _ _)))).mono ?_; rintro e w4 ⟨g, rfl, hg, hc, hB4⟩; replace hB4 := belowCat (blw_drew (blw_alloc (Below.refl _ _))) hB4))
        · have HC := hid (And.intro hc hB4)
          clear hc hB4 hg
          go_wp2_with fail
          go_meet
          case rel => exact ⟨g, _, rfl, rfl, (heap_alloc_old _ _ _ (lt_of_heap HC.out.1)).trans HC.out.1, heap_alloc_at _ _, blw_alloc HC.out.2⟩
        · have HC := hid (And.intro hc (And.intro hB4 (And.intro hzz hg)))
          clear hc hB4 hg hzz z1 z2 f1 f2
          go_wp2_with fail
          go_meet
          case rel => exact ⟨g, _, rfl, rfl, (Below.heap_setCell _ _ _ _ (by show g ≠ w2.heap.size + 1; have := HC.out.2.2.2; omega)).trans HC.out.1, heap_setCell_at _ _ 0 _ _ _ _ HC.out.2.2.1.2, blw_set _ HC.out.2.1 (Nat.le_succ _)⟩
        · have HC := hid (And.intro hc (And.intro hB4 (And.intro hzz hg)))
          clear hc hB4 hg hzz z1 z2 f1 f2
          go_wp2_with fail
          go_meet
          case rel => exact ⟨g, _, rfl, rfl, (Below.heap_setCell _ _ _ _ (by show g ≠ w2.heap.size; have := HC.out.2.2.2; omega)).trans HC.out.1, heap_setCell_at _ _ 0 _ _ _ _ HC.out.2.2.1.1, blw_set _ HC.out.2.1 (Nat.le_refl _)⟩
      case rest =>
        obtain ⟨g, z, rfl, rfl, hbg, hbz, hBc⟩ := hcut
        have c0 := (KB.out _ hBc).1
        have c1 := (KB.out _ hBc).2
        have HC := hid (And.intro hbg (And.intro hbz hBc))
        clear hbg hbz hBc
        go_wp2_with fail
        refine (HR.out _ HC.out.2.2).mono ?_
        rintro e w5 ⟨ad, cap, rfl, hwant, hB5⟩
        have HWT := hid hwant
        have H5 := hid (And.intro (hpB hB5 HC.out.1) (And.intro (hpB hB5 HC.out.2.1) (belowCat (belowCat HB2.out HC.out.2.2) hB5)))
        clear hwant hB5 c0 c1 HC
        have kz := cell_sb H5.out.2.1
        have KZ := hid (show ∀ w' : World, Below w5.heap.size w5 w' → w'.cell? ⟨z, 0, none⟩ = some (.int .u32 (mk M : Nat)) from fun w' hb => cell_sb (hpB hb H5.out.2.1))
        have HI2 := hid (fun w => is_any (mk M) (mk M) w)
        simp only [beq_self_eq_true] at HI2
        go_wp2_with fail
        refine wp_region_held_drew (S := (fun w' => w'.cell? ⟨z, 0, none⟩ = some (.int .u32 (mk M : Nat)))) (by kernel_rfl) (KZ.out _ (blw_drew (Below.refl _ _))) (fun hHeld => ?_)
        refine tk_at (i := 0) (d := some 51) (v := ?_) rfl rfl (by kernel_rfl) (by kernel_rfl) (by kernel_rfl) (fun _ _ _ h => h) (Or.inl ⟨by rfl, ?_⟩) (by assumption) ?_
        rotate_left
        · (intro w hSw; (try dsimp only at hSw); go_simp; try (with_reducible rfl))
        simp only [Act.put, List.setIfInBounds_toArray, List.set_cons_zero, List.set_cons_succ]
        refine tk_at (i := 1) (d := some 52) (v := ?_) rfl rfl (by kernel_rfl) (by kernel_rfl) (by kernel_rfl) (fun _ _ _ h => h) (Or.inl ⟨by rfl, ?_⟩) (by assumption) ?_
        rotate_left
        · (intro w hSw; (try dsimp only at hSw); go_simp; try (with_reducible rfl))
        simp only [Act.put, List.setIfInBounds_toArray, List.set_cons_zero, List.set_cons_succ]
        refine tk_at (i := 2) (d := some 53) (v := ?_) rfl rfl (by kernel_rfl) (by kernel_rfl) (by kernel_rfl) (fun _ _ _ h => h) (Or.inl ⟨by rfl, ?_⟩) (by assumption) ?_
        rotate_left
        · (intro w hSw; (try dsimp only at hSw); go_simp; try (with_reducible rfl))
        simp only [Act.put, List.setIfInBounds_toArray, List.set_cons_zero, List.set_cons_succ]
        refine tk_at (i := 3) (d := some 54) (v := ?_) rfl rfl (by kernel_rfl) (by kernel_rfl) (by kernel_rfl) (fun _ _ _ h => h) (Or.inl ⟨by rfl, ?_⟩) (by assumption) ?_
        rotate_left
        · (intro w hSw; (try dsimp only at hSw); go_simp; try (with_reducible rfl))
        simp only [Act.put, List.setIfInBounds_toArray, List.set_cons_zero, List.set_cons_succ]
        refine tk_at (i := 4) (d := some 55) (v := ?_) rfl rfl (by kernel_rfl) (by kernel_rfl) (by kernel_rfl) (fun _ _ _ h => h) (Or.inl ⟨by rfl, ?_⟩) (by assumption) ?_
        rotate_left
        · (intro w hSw; (try dsimp only at hSw); go_simp; try (with_reducible rfl))
        simp only [Act.put, List.setIfInBounds_toArray, List.set_cons_zero, List.set_cons_succ]
        refine tk_at (i := 5) (d := some 56) (v := ?_) rfl rfl (by kernel_rfl) (by kernel_rfl) (by kernel_rfl) (fun _ _ _ h => h) (Or.inl ⟨by rfl, ?_⟩) (by assumption) ?_
        rotate_left
        · (intro w hSw; (try dsimp only at hSw); go_simp; try (with_reducible rfl))
        simp only [Act.put, List.setIfInBounds_toArray, List.set_cons_zero, List.set_cons_succ]
        refine tk_at (i := 6) (d := some 57) (v := ?_) rfl rfl (by kernel_rfl) (by kernel_rfl) (by kernel_rfl) (fun _ _ _ h => h) (Or.inl ⟨by rfl, ?_⟩) (by assumption) ?_
        rotate_left
        · (intro w hSw; (try dsimp only at hSw); go_simp; try (with_reducible rfl))
        simp only [Act.put, List.setIfInBounds_toArray, List.set_cons_zero, List.set_cons_succ]
        refine tk_at (i := 7) (d := some 58) (v := ?_) rfl rfl (by kernel_rfl) (by kernel_rfl) (by kernel_rfl) (fun _ _ _ h => h) (Or.inl ⟨by rfl, ?_⟩) (by assumption) ?_
        rotate_left
        · (intro w hSw; (try dsimp only at hSw); go_simp; try (with_reducible rfl))
        simp only [Act.put, List.setIfInBounds_toArray, List.set_cons_zero, List.set_cons_succ]
        refine wpAnyH_ready (rs := [8]) (by kernel_rfl) (by simp) ?_
        refine AllReadyH.cons rfl (fun K hK => ?_) AllReadyH.nil
        go_simp
        refine (all_any M _).mono ?_
        rintro e w6 ⟨rfl, hw6⟩
        subst w6
        go_wp2_with fail
        refine hK.out _ _ (KZ.out _ (blw_drew (Below.refl _ _))) (fun hHeld => ?_)
        clear hK K
        try simp only [Act.put, List.setIfInBounds_toArray, List.set_cons_zero, List.set_cons_succ]
        refine wpAnyH_ready (rs := [9]) (by kernel_rfl) (by simp) ?_
        refine AllReadyH.cons rfl (fun K hK => ?_) AllReadyH.nil
        go_simp
        refine (HI2.out _).mono ?_
        rintro e w6 ⟨rfl, hB6⟩
        have HB6 := hid (belowCat (blw_drew (Below.refl _ _)) hB6)
        clear hB6
        go_wp2_with fail
        refine hK.out _ _ (KZ.out _ HB6.out) (fun hHeld => ?_)
        clear hK K
        try simp only [Act.put, List.setIfInBounds_toArray, List.set_cons_zero, List.set_cons_succ]
        refine tk_at (i := 10) (d := some 61) (v := ?_) rfl rfl (by kernel_rfl) (by kernel_rfl) (by kernel_rfl) (fun _ _ _ h => h) (Or.inl ⟨by rfl, ?_⟩) (by assumption) ?_
        rotate_left
        · (intro w hSw; (try dsimp only at hSw); go_simp; try (with_reducible rfl))
        simp only [Act.put, List.setIfInBounds_toArray, List.set_cons_zero, List.set_cons_succ]
        refine tk_at (i := 11) (d := some 62) (v := ?_) rfl rfl (by kernel_rfl) (by kernel_rfl) (by kernel_rfl) (fun _ _ _ h => h) (Or.inl ⟨by rfl, ?_⟩) (by assumption) ?_
        rotate_left
        · (intro w hSw; (try dsimp only at hSw); go_simp; try (with_reducible rfl))
        simp only [Act.put, List.setIfInBounds_toArray, List.set_cons_zero, List.set_cons_succ]
        refine wpAnyH_done (by kernel_rfl) ?_ _
        clear hHeld
        have H6 := hid (And.intro (hpB HB6.out H5.out.1) (And.intro (show ∀ q, q < W → ∃ y, ad = some y ∧ w6.cell? (y.add q) = some (.int .u32 (fT q : Int)) from fun q hq => by
          obtain ⟨y, hy, hc⟩ := HWT.out q hq
          exact ⟨y, hy, blw_cell HB6.out hc⟩) (belowCat H5.out.2.2 HB6.out)))
        clear H5 HWT HB6 KZ kz HI2 KB HF HR HD HBA
        go_wp2_with fail
        go_loopw [65] (fun c wr => ∃ k : Nat, k ≤ W ∧ c = .int .i64 (k : Int) ∧ Below w6.heap.size w6 wr) (fun c _ => W - (intOf c).toNat)
        case atStart => exact ⟨0, Nat.zero_le _, rfl, Below.refl _ _⟩
        case round =>
          obtain ⟨k, hk1, rfl, hB⟩ := hrel
          have HBk := hid hB
          by_cases hlt : k < W
          · obtain ⟨y, hy, hc⟩ := H6.out.2.1 k hlt
            have hc2 := blw_cell hB hc
            have hg2 := cell_of_heap (i := k) (hpB hB H6.out.1) (rowF_get hlt)
            have HI := hid (fun w => is_any (fT k) (fT k) w)
            simp only [beq_self_eq_true] at HI
            have KS := hid (show ∀ w' : World, Below wr.heap.size wr w' → w'.cell? ⟨g, k, none⟩ = some (.int .u32 (fT k : Int)) ∧ w'.cell? (y.add k) = some (.int .u32 (fT k : Int)) from fun w' hb => ⟨blw_cell hb hg2, blw_cell hb hc2⟩)
            clear hB hc
            subst hy
            go_wp2_with fail
            refine wp_region_held_drew (S := (fun w' => w'.cell? ⟨g, k, none⟩ = some (.int .u32 (fT k : Int)) ∧ w'.cell? (y.add k) = some (.int .u32 (fT k : Int)))) (by kernel_rfl) (KS.out _ (blw_drew (Below.refl _ _))) (fun hHeld => ?_)
            refine tk_at (i := 0) (d := some 68) (v := ?_) rfl rfl (by kernel_rfl) (by kernel_rfl) (by kernel_rfl) (fun _ _ _ h => h) (Or.inl ⟨by rfl, ?_⟩) (by assumption) ?_
            rotate_left
            · (intro w hSw; (try dsimp only at hSw); go_simp; try (with_reducible rfl))
            simp only [Act.put, List.setIfInBounds_toArray, List.set_cons_zero, List.set_cons_succ]
            refine tk_at (i := 1) (d := some 69) (v := ?_) rfl rfl (by kernel_rfl) (by kernel_rfl) (by kernel_rfl) (fun _ _ _ h => h) (Or.inl ⟨by rfl, ?_⟩) (by assumption) ?_
            rotate_left
            · (intro w hSw; (try dsimp only at hSw); go_simp; try (with_reducible rfl))
            simp only [Act.put, List.setIfInBounds_toArray, List.set_cons_zero, List.set_cons_succ]
            refine tk_at (i := 2) (d := some 70) (v := ?_) rfl rfl (by kernel_rfl) (by kernel_rfl) (by kernel_rfl) (fun _ _ _ h => h) (Or.inl ⟨by rfl, ?_⟩) (by assumption) ?_
            rotate_left
            · (intro w hSw; (try dsimp only at hSw); go_simp; try (with_reducible rfl))
            simp only [Act.put, List.setIfInBounds_toArray, List.set_cons_zero, List.set_cons_succ]
            refine tk_at (i := 3) (d := some 71) (v := ?_) rfl rfl (by kernel_rfl) (by kernel_rfl) (by kernel_rfl) (fun _ _ _ h => h) (Or.inl ⟨by rfl, ?_⟩) (by assumption) ?_
            rotate_left
            · (intro w hSw; (try dsimp only at hSw); go_simp; try (with_reducible rfl))
            simp only [Act.put, List.setIfInBounds_toArray, List.set_cons_zero, List.set_cons_succ]
            refine tk_at (i := 4) (d := some 72) (v := ?_) rfl rfl (by kernel_rfl) (by kernel_rfl) (by kernel_rfl) (fun _ _ _ h => h) (Or.inl ⟨by rfl, ?_⟩) (by assumption) ?_
            rotate_left
            · (intro w hSw; (try dsimp only at hSw); go_simp; try (with_reducible rfl))
            simp only [Act.put, List.setIfInBounds_toArray, List.set_cons_zero, List.set_cons_succ]
            refine tk_at (i := 5) (d := some 73) (v := ?_) rfl rfl (by kernel_rfl) (by kernel_rfl) (by kernel_rfl) (fun _ _ _ h => h) (Or.inl ⟨by rfl, ?_⟩) (by assumption) ?_
            rotate_left
            · (intro w hSw; (try dsimp only at hSw); go_simp; try (with_reducible rfl))
            simp only [Act.put, List.setIfInBounds_toArray, List.set_cons_zero, List.set_cons_succ]
            refine tk_at (i := 6) (d := some 74) (v := ?_) rfl rfl (by kernel_rfl) (by kernel_rfl) (by kernel_rfl) (fun _ _ _ h => h) (Or.inl ⟨by rfl, ?_⟩) (by assumption) ?_
            rotate_left
            · (intro w hSw; (try dsimp only at hSw); go_simp; try (with_reducible rfl))
            simp only [Act.put, List.setIfInBounds_toArray, List.set_cons_zero, List.set_cons_succ]
            refine tk_at (i := 7) (d := some 75) (v := ?_) rfl rfl (by kernel_rfl) (by kernel_rfl) (by kernel_rfl) (fun _ _ _ h => h) (Or.inl ⟨by rfl, ?_⟩) (by assumption) ?_
            rotate_left
            · (intro w hSw; (try dsimp only at hSw); go_simp; try (with_reducible rfl))
            simp only [Act.put, List.setIfInBounds_toArray, List.set_cons_zero, List.set_cons_succ]
            refine wpAnyH_ready (rs := [8]) (by kernel_rfl) (by simp) ?_
            refine AllReadyH.cons rfl (fun K hK => ?_) AllReadyH.nil
            go_simp
            refine (HI.out _).mono ?_
            rintro e w7 ⟨rfl, hB7⟩
            have HB7 := hid (belowCat (blw_drew (Below.refl _ _)) hB7)
            clear hB7
            go_wp2_with fail
            refine hK.out _ _ (KS.out _ HB7.out) (fun hHeld => ?_)
            clear hK K
            try simp only [Act.put, List.setIfInBounds_toArray, List.set_cons_zero, List.set_cons_succ]
            refine tk_at (i := 9) (d := some 77) (v := ?_) rfl rfl (by kernel_rfl) (by kernel_rfl) (by kernel_rfl) (fun _ _ _ h => h) (Or.inl ⟨by rfl, ?_⟩) (by assumption) ?_
            rotate_left
            · (intro w hSw; (try dsimp only at hSw); go_simp; try (with_reducible rfl))
            simp only [Act.put, List.setIfInBounds_toArray, List.set_cons_zero, List.set_cons_succ]
            refine wpAnyH_done (by kernel_rfl) ?_ _
            clear hHeld
            clear hc2 hg2
            go_wp2
            go_roundw
            case rel => exact ⟨k + 1, by omega, by go_num, belowCat HBk.out HB7.out⟩
            case measure => simp [intOf]; omega
          · go_wp2
            go_ret
            exact ⟨rfl, belowCat H6.out.2.2 HBk.out⟩

set_option maxHeartbeats 800000 in
theorem seekFinds_walk (adk : Option Addr) (lenk capk : Nat) (zs : List Int) (adr : Option Addr) (lenr capr : Nat) (key : Nat) (w : World) (hk : IsRow .u32 w adk lenk capk zs) (hr : ∃ L : List Rw, L.length = lenr ∧ RwsAt w adr L) (hkey : key < 4294967296) :
    Calls Try.prog 3 #[.slice adk lenk capk, .slice adr lenr capr, u32 key] w fun e w' => e = .returned (.bool true) ∧ Below w.heap.size w w' := by
  obtain ⟨ks, rfl, hkl, hku, _, _⟩ := isRow_uw hk
  obtain ⟨L, rfl, hL⟩ := hr
  by_cases h1 : ks.length ≤ 60
  · by_cases h2 : L.length ≤ 60
    · exact finds_core adk capk ks adr capr L key w ⟨hku, hkl, hL⟩ hkey h1 h2
    · clear hk hkl hku hL hkey
      obtain ⟨m, hm⟩ : ∃ m, L.length = m := ⟨_, rfl⟩
      obtain ⟨n, hn⟩ : ∃ n, ks.length = n := ⟨_, rfl⟩
      rw [hm] at h2 ⊢
      rw [hn] at h1 ⊢
      clear hm hn
      have c1 : ¬ (60 : Int) < (n : Int) := by omega
      have c2 : (60 : Int) < (m : Int) := by omega
      clear h1 h2
      go_enter Try.func3, Try.ntmps3
      go_wp2_with (go_at_call 6; refine (awake6_any _).mono ?_; rintro e w1 ⟨rfl, hB1⟩; have HB1 := hid hB1; clear hB1)
      go_ret
      exact ⟨rfl, HB1.out⟩
  · clear hk hkl hku hL hkey
    obtain ⟨n, hn⟩ : ∃ n, ks.length = n := ⟨_, rfl⟩
    rw [hn] at h1 ⊢
    clear hn
    have c1 : (60 : Int) < (n : Int) := by omega
    clear h1
    go_enter Try.func3, Try.ntmps3
    go_wp2_with (go_at_call 6; refine (awake6_any _).mono ?_; rintro e w1 ⟨rfl, hB1⟩; have HB1 := hid hB1; clear hB1)
    go_ret
    exact ⟨rfl, HB1.out⟩
end Go.Proofs.Ytajkjlnhongjfaa
