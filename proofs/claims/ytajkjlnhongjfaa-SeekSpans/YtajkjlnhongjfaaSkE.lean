/- The document's Find, over this seat's translation. Conditions: the words' bounds; rows of at most a million words, at most a thousand million keys and rows. -/
import Derived.Test.YtajkjlnhongjfaaSkD
namespace Go.Proofs.Ytajkjlnhongjfaa
open Go.RowKit

theorem Try.infoU32w : (Try.prog.info? 24).map (fun i => (i.zero, i.size, i.bytes)) = some (some (.int .u32 0), 1, 4) := by kernel_rfl
theorem run_make_uk (n : Nat) (hn : n ≤ 4194304) (w : World) :
    (Instr.makeSlice 22 (.int .i64 (n : Int)) (.int .i64 (n : Int))).run Try.prog w = .ok (.slice (some ⟨w.heap.size, 0, none⟩) n n) (w.alloc (.cells (rowF n (fun _ => 0)) 24)) := by
  obtain ⟨i0, hi, hz0, hz1, hz2⟩ := info_parts Try.infoU32w
  have := run_make (P := Try.prog) w 22 24 i0 _ Try.underlying22 hi hz0 .i64 .i64 n n (by omega) (Int.le_refl _) (by rw [hz2]; omega) (by omega)
  rw [this, hz1, ← made_rowF]; simp [Value.cells]
theorem cl_none (t : Tb) (i j : Nat) (h : t.L.length ≤ i) : t.cl i j = 0 := by unfold Tb.cl; rw [dif_neg (by omega)]
theorem cl_short (t : Tb) (i j : Nat) (hi : i < t.L.length) (h : (t.L[i]).ws.length ≤ j) : t.cl i j = 0 := by unfold Tb.cl; rw [dif_pos hi]; simp [List.getD, List.getElem?_eq_none h]
theorem cl_is (t : Tb) (i j : Nat) (hi : i < t.L.length) (h : j < (t.L[i]).ws.length) : t.cl i j = (t.L[i]).ws[j] := by unfold Tb.cl; rw [dif_pos hi]; simp [List.getD, h]
theorem fdI_keep (t : Tb) (key k j : Nat) (h : t.cl k j = 0) : rowF t.wd (fdI t key k j) = rowF t.wd (fdI t key k (j + 1)) := by
  refine rowF_congr fun q _ => ?_
  unfold fdI
  by_cases e : q = j
  · subst e; simp [fdT_succ, h, gat_zero]
  · by_cases h : q < j
    · simp [h, Nat.lt_succ_of_lt h]
    · have : ¬ q < j + 1 := by omega
      simp [h, this]
theorem fdI_end (t : Tb) (key k : Nat) : rowF t.wd (fdI t key k t.wd) = rowF t.wd (fdT t key (k + 1)) := rowF_congr fun q hq => by simp [fdI, hq]
theorem fdT_no (t : Tb) (key k : Nat) (hk : k < t.ks.length) (h : ¬ t.ks[k] = key) : fdT t key (k + 1) = fdT t key k := by
  funext q
  have e : (key == t.ks.getD k 0) = false := by simp [List.getD, hk]; exact fun e => h e.symm
  rw [fdT_succ, e]; simp [gat]
theorem fdM_no (t : Tb) (key k : Nat) (hk : k < t.ks.length) (h : ¬ t.ks[k] = key) : fdM t key (k + 1) = fdM t key k := by
  rw [fdM_succ t key k hk]; simp; intro e; exact absurd e.symm h
theorem fdM_yes (t : Tb) (key k : Nat) (hk : k < t.ks.length) (h : t.ks[k] = key) : fdM t key (k + 1) = true := by
  rw [fdM_succ t key k hk]; simp [h]
theorem add_at (g q : Nat) : (⟨g, 0, none⟩ : Addr).add q = ⟨g, q, none⟩ := add_plain g q

set_option maxHeartbeats 3200000 in
theorem rfind_nil (t : Tb) (key : Nat) (w : World) (h : t.Ok w) (hn : t.ks.length ≤ 1000000000) (h0 : t.L.length = 0) :
    Calls Try.prog 9 #[tbV t, u32 key] w fun e w' => e = .returned (.tuple #[.slice none 0 0, .bool (fdM t key t.ks.length)]) ∧ Below w.heap.size w w' := by
  have HOK := hid h
  clear h
  go_enter Try.func9, Try.ntmps9
  go_wp2_with fail
  have H0 := hid h0
  clear h0
  go_loopw [7, 8] (fun m c wr => ∃ k : Nat, k ≤ t.ks.length ∧ m = .bool (fdM t key k) ∧ c = .int .i64 (k : Int) ∧ wr = w.alloc (tbO t)) (fun _ c _ => t.ks.length - (intOf c).toNat)
  case atStart => exact ⟨0, Nat.zero_le _, rfl, rfl, (by show w.alloc _ = w.alloc (.cells #[.slice t.ka t.ks.length t.kc, .slice t.ra t.L.length t.rc] 27 (0, 0)); rw [H0.out])⟩
  case round =>
    obtain ⟨k, hk1, rfl, rfl, rfl⟩ := hrel
    have HB := hid ((Below.refl w.heap.size w).alloc (Nat.le_refl _) (tbO t))
    have HT := hid (heap_alloc_at w (tbO t))
    have c0 := (cell_tb HT.out).1
    generalize hw1 : w.alloc (tbO t) = w1 at *
    have HW1 := hid hw1
    clear hw1
    by_cases hlt : k < t.ks.length
    · obtain ⟨x, hx, hp⟩ := (HOK.out.below HB.out).ku k hlt
      have HNO := hid (fdM_no t key k hlt)
      have HYS := hid (fdM_yes t key k hlt)
      obtain ⟨kk, hkk⟩ : ∃ kk, t.ks[k] = kk := ⟨_, rfl⟩
      rw [hkk] at hp HNO HYS
      rw [hx] at c0
      clear hkk hx
      by_cases hq : kk = key
      · subst hq
        go_wp2_with fail
        go_loopw [9] (fun c wr => c = .int .i64 0 ∧ wr = w1) (fun _ _ => 0)
        case atStart => exact ⟨rfl, rfl⟩
        case round =>
          obtain ⟨rfl, rfl⟩ := hrel
          go_wp2
          go_roundw
          case rel => exact ⟨k + 1, by omega, by rw [HYS.out trivial], by go_num, trivial⟩
          case measure => simp [intOf]; omega
      · go_wp2
        go_roundw
        case rel => exact ⟨k + 1, by omega, by rw [HNO.out hq], by go_num, trivial⟩
        case measure => simp [intOf]; omega
    · have hke : k = t.ks.length := by omega
      subst hke
      go_wp2
      exact bodyPost_ret (v := .tuple #[.slice none 0 0, .bool (fdM t key t.ks.length)]) (by simp [results, Try.results9, go_sem]) rfl ⟨rfl, HB.out⟩

set_option maxHeartbeats 3200000 in
theorem rfind_some (t : Tb) (key : Nat) (w : World) (h : t.Ok w) (hn : t.ks.length ≤ 1000000000) (hw : t.wd ≤ 1000000) (hL : 0 < t.L.length) :
    Calls Try.prog 9 #[tbV t, u32 key] w fun e w' => e = .returned (.tuple #[.slice (some ⟨w.heap.size + 1, 0, none⟩) t.wd t.wd, .bool (fdM t key t.ks.length)]) ∧ w'.heap[w.heap.size + 1]? = some (.cells (rowF t.wd (fdT t key t.ks.length)) 24 (0, 0)) ∧ Below w.heap.size w w' := by
  have HOK := hid h
  have HM := hid (run_make_uk t.wd (by omega))
  have HFZ := hid (fdI_zero t key)
  have HFE := hid (fdI_end t key)
  have HFK := hid (fdI_keep t key)
  have HFS := hid (fdI_succ t key)
  have HFL := hid (fun k q => fdT_lt h key k q)
  have HCL := hid (fun i j => cl_lt h i j)
  obtain ⟨x0, hx0, hc0, hr0⟩ := h.r 0 hL
  clear hr0
  rw [add_zero'] at hc0
  have e0 := Tb.wd_cons hL
  rw [← e0] at hc0
  have c1 := (cell_tb (heap_alloc_at w (tbO t))).2
  have hcA := blw_cell ((Below.refl w.heap.size w).alloc (Nat.le_refl _) (tbO t)) hc0
  rw [hx0] at c1
  obtain ⟨W, hWe⟩ : ∃ W, t.wd = W := ⟨_, rfl⟩
  have HWE := hid hWe
  rw [hWe] at HM HFZ HFE HFK HFS hw hcA
  rw [hWe]
  clear h hWe e0 hc0 hx0
  have hmk := HM.out
  go_enter Try.func9, Try.ntmps9
  go_wp2_with fail
  clear hmk c1 hcA
  go_loopw [7, 8] (fun m c wr => ∃ k : Nat, k ≤ t.ks.length ∧ m = .bool (fdM t key k) ∧ c = .int .i64 (k : Int) ∧ Below w.heap.size w wr ∧ wr.heap[w.heap.size]? = some (tbO t) ∧ wr.heap[w.heap.size + 1]? = some (.cells (rowF W (fdT t key k)) 24 (0, 0))) (fun _ c _ => t.ks.length - (intOf c).toNat)
  case atStart => exact ⟨0, Nat.zero_le _, rfl, rfl, (by repeat (first | exact Below.refl _ _ | refine blw_alloc ?_ | refine blw_drew ?_ | assumption)), (show _ = some (tbO t) from (by simp only [hp_get, World.size_alloc]; repeat (first | rw [if_pos trivial] | rw [if_pos rfl] | rw [if_neg (by omega)]))), (show _ = some (Obj.cells (rowF W (fun _ => 0)) 24 (0, 0)) from (by simp only [hp_get, World.size_alloc]; repeat (first | rw [if_pos trivial] | rw [if_pos rfl] | rw [if_neg (by omega)])))⟩
  case round =>
    obtain ⟨k, hk1, rfl, rfl, hB, hb0, hb1⟩ := hrel
    have HH := hid (And.intro hB (And.intro hb0 hb1))
    have c0 := (cell_tb hb0).1
    by_cases hlt : k < t.ks.length
    · obtain ⟨x, hx, hp⟩ := (HOK.out.below hB).ku k hlt
      have HNO := hid (fdM_no t key k hlt)
      have HNT := hid (fdT_no t key k hlt)
      have HYS := hid (fdM_yes t key k hlt)
      have HKD := hid (show t.ks.getD k 0 = t.ks[k] by simp [List.getD, hlt])
      obtain ⟨kk, hkk⟩ : ∃ kk, t.ks[k] = kk := ⟨_, rfl⟩
      rw [hkk] at hp HNO HYS HNT HKD
      rw [hx] at c0
      clear hkk hx hB hb0 hb1
      by_cases hq : kk = key
      · have HYT := hid (HYS.out hq)
        have HKE := hid (show (key == t.ks.getD k 0) = true by rw [HKD.out, hq]; simp)
        subst hq
        clear HYS HNO HNT HKD
        go_wp2_with fail
        have P6 := hid HH.out.2.2
        rw [HFZ.out] at P6
        go_loopw [9] (fun c wr => ∃ j : Nat, j ≤ W ∧ c = .int .i64 (j : Int) ∧ Below w.heap.size w wr ∧ wr.heap[w.heap.size]? = some (tbO t) ∧ wr.heap[w.heap.size + 1]? = some (.cells (rowF W (fdI t kk k j)) 24 (0, 0))) (fun c _ => W - (intOf c).toNat)
        case atStart => exact ⟨0, Nat.zero_le _, rfl, HH.out.1, HH.out.2.1, P6.out⟩
        case round =>
          obtain ⟨j, hj, rfl, hB, hb0, hb1⟩ := hrel
          have HI := hid (And.intro hB (And.intro hb0 hb1))
          by_cases hjW : j < W
          · have c1 := (cell_tb hb0).2
            by_cases hkL : k < t.L.length
            · obtain ⟨xr, hxr, hcr, hro⟩ := (HOK.out.below hB).r k hkL
              have HRO := hid (show ∀ w' : World, Below w.heap.size w w' → w'.cell? (xr.add k) = some (.slice (t.L[k]).ad (t.L[k]).ws.length (t.L[k]).cap) from fun w' hb => by
                obtain ⟨y, hy, hc, _⟩ := (HOK.out.below hb).r k hkL
                rw [hxr] at hy; cases hy; exact hc)
              by_cases hjl : j < (t.L[k]).ws.length
              · have HCI := hid (cl_is t k j hkL hjl)
                obtain ⟨y, hy, hyc⟩ := hro.u j hjl
                rw [← HCI.out] at hyc
                have HYY := hid (show ∀ w' : World, Below w.heap.size w w' → w'.cell? (y.add j) = some (.int .u32 (t.cl k j : Int)) from fun w' hb => by
                  obtain ⟨_, _, _, hro'⟩ := (HOK.out.below hb).r k hkL
                  obtain ⟨y', hy', hyc'⟩ := hro'.u j hjl
                  rw [hy] at hy'; cases hy'; rw [HCI.out]; exact hyc')
                rw [hy] at hcr HRO
                have HST := hid (HFS.out k j)
                have hfi := fdI_at t kk k j
                have HUP := hid (HFL.out k j)
                have HCV := hid (HCL.out k j)
                rw [HKE.out] at HST
                obtain ⟨v, hv⟩ : ∃ v, t.cl k j = v := ⟨_, rfl⟩
                obtain ⟨u, hu⟩ : ∃ u, fdT t kk k j = u := ⟨_, rfl⟩
                rw [hv] at hyc HYY HST HCV
                rw [hu] at hfi HST HUP
                have hor : bits .or .u32 (u : Int) (v : Int) = ((gat u true v : Nat) : Int) := by unfold gat; exact u32_or_nat _ _ HUP.out HCV.out
                have c6 := cell_of_heap (i := j) hb1 (rowF_get hjW)
                rw [hfi] at c6
                have f6 := frozen_of_heap (i := j) hb1
                obtain ⟨rn, hrn⟩ : ∃ rn, (t.L[k]).ws.length = rn := ⟨_, rfl⟩
                obtain ⟨rp, hrp⟩ : ∃ rp, (t.L[k]).cap = rp := ⟨_, rfl⟩
                rw [hrn, hrp] at hcr HRO
                rw [hrn] at hjl
                rw [hxr] at c1
                have KS := hid (show ∀ w' : World, Below w.heap.size w w' → w'.heap[w.heap.size]? = some (tbO t) → w'.cell? ⟨w.heap.size, 1, none⟩ = some (.slice (some xr) t.L.length t.rc) ∧ w'.cell? (xr.add k) = some (.slice (some y) rn rp) ∧ w'.cell? (y.add j) = some (.int .u32 (v : Int)) from fun w' hb h0 => ⟨by have := (cell_tb h0).2; rw [hxr] at this; exact this, HRO.out w' hb, HYY.out w' hb⟩)
                clear hxr hy hro hrn hrp hv hu hfi hB hb0 hb1 HRO HYY HCI
                go_wp2_with fail
                refine wp_region_held_drew (S := (fun w' => w'.cell? ⟨w.heap.size, 1, none⟩ = some (.slice (some xr) t.L.length t.rc) ∧ w'.cell? (xr.add k) = some (.slice (some y) rn rp) ∧ w'.cell? (y.add j) = some (.int .u32 (v : Int)))) (by kernel_rfl) (KS.out _ (blw_drew HI.out.1) HI.out.2.1) (fun hHeld => ?_)
                refine tk_at (i := 0) (d := some 55) (v := ?_) rfl rfl (by kernel_rfl) (by kernel_rfl) (by kernel_rfl) (fun _ _ _ h => h) (Or.inl ⟨by rfl, ?_⟩) (by assumption) ?_
                rotate_left
                · (intro w hSw; (try dsimp only at hSw); go_simp; try (with_reducible rfl))
                simp only [Act.put, List.setIfInBounds_toArray, List.set_cons_zero, List.set_cons_succ]
                refine tk_at (i := 1) (d := some 56) (v := ?_) rfl rfl (by kernel_rfl) (by kernel_rfl) (by kernel_rfl) (fun _ _ _ h => h) (Or.inl ⟨by rfl, ?_⟩) (by assumption) ?_
                rotate_left
                · (intro w hSw; (try dsimp only at hSw); go_simp; try (with_reducible rfl))
                simp only [Act.put, List.setIfInBounds_toArray, List.set_cons_zero, List.set_cons_succ]
                refine tk_at (i := 2) (d := some 57) (v := ?_) rfl rfl (by kernel_rfl) (by kernel_rfl) (by kernel_rfl) (fun _ _ _ h => h) (Or.inl ⟨by rfl, ?_⟩) (by assumption) ?_
                rotate_left
                · (intro w hSw; (try dsimp only at hSw); go_simp; try (with_reducible rfl))
                simp only [Act.put, List.setIfInBounds_toArray, List.set_cons_zero, List.set_cons_succ]
                refine tk_at (i := 3) (d := some 58) (v := ?_) rfl rfl (by kernel_rfl) (by kernel_rfl) (by kernel_rfl) (fun _ _ _ h => h) (Or.inl ⟨by rfl, ?_⟩) (by assumption) ?_
                rotate_left
                · (intro w hSw; (try dsimp only at hSw); go_simp; try (with_reducible rfl))
                simp only [Act.put, List.setIfInBounds_toArray, List.set_cons_zero, List.set_cons_succ]
                refine tk_at (i := 4) (d := some 59) (v := ?_) rfl rfl (by kernel_rfl) (by kernel_rfl) (by kernel_rfl) (fun _ _ _ h => h) (Or.inl ⟨by rfl, ?_⟩) (by assumption) ?_
                rotate_left
                · (intro w hSw; (try dsimp only at hSw); go_simp; try (with_reducible rfl))
                simp only [Act.put, List.setIfInBounds_toArray, List.set_cons_zero, List.set_cons_succ]
                refine tk_at (i := 6) (d := some 61) (v := ?_) rfl rfl (by kernel_rfl) (by kernel_rfl) (by kernel_rfl) (fun _ _ _ h => h) (Or.inl ⟨by rfl, ?_⟩) (by assumption) ?_
                rotate_left
                · (intro w hSw; (try dsimp only at hSw); go_simp; try (with_reducible rfl))
                simp only [Act.put, List.setIfInBounds_toArray, List.set_cons_zero, List.set_cons_succ]
                refine tk_at (i := 7) (d := some 62) (v := ?_) rfl rfl (by kernel_rfl) (by kernel_rfl) (by kernel_rfl) (fun _ _ _ h => h) (Or.inl ⟨by rfl, ?_⟩) (by assumption) ?_
                rotate_left
                · (intro w hSw; (try dsimp only at hSw); go_simp; try (with_reducible rfl))
                simp only [Act.put, List.setIfInBounds_toArray, List.set_cons_zero, List.set_cons_succ]
                refine tk_at (i := 8) (d := some 63) (v := ?_) rfl rfl (by kernel_rfl) (by kernel_rfl) (by kernel_rfl) (fun _ _ _ h => h) (Or.inl ⟨by rfl, ?_⟩) (by assumption) ?_
                rotate_left
                · (intro w hSw; (try dsimp only at hSw); go_simp; try (with_reducible rfl))
                simp only [Act.put, List.setIfInBounds_toArray, List.set_cons_zero, List.set_cons_succ]
                refine tk_at (i := 9) (d := some 64) (v := ?_) rfl rfl (by kernel_rfl) (by kernel_rfl) (by kernel_rfl) (fun _ _ _ h => h) (Or.inl ⟨by rfl, ?_⟩) (by assumption) ?_
                rotate_left
                · (intro w hSw; (try dsimp only at hSw); go_simp; try (with_reducible rfl))
                simp only [Act.put, List.setIfInBounds_toArray, List.set_cons_zero, List.set_cons_succ]
                refine tk_at (i := 10) (d := some 65) (v := ?_) rfl rfl (by kernel_rfl) (by kernel_rfl) (by kernel_rfl) (fun _ _ _ h => h) (Or.inl ⟨by rfl, ?_⟩) (by assumption) ?_
                rotate_left
                · (intro w hSw; (try dsimp only at hSw); go_simp; try (with_reducible rfl))
                simp only [Act.put, List.setIfInBounds_toArray, List.set_cons_zero, List.set_cons_succ]
                refine tk_at (i := 11) (d := some 66) (v := ?_) rfl rfl (by kernel_rfl) (by kernel_rfl) (by kernel_rfl) (fun _ _ _ h => h) (Or.inl ⟨by rfl, ?_⟩) (by assumption) ?_
                rotate_left
                · (intro w hSw; (try dsimp only at hSw); go_simp; try (with_reducible rfl))
                simp only [Act.put, List.setIfInBounds_toArray, List.set_cons_zero, List.set_cons_succ]
                refine tk_at (i := 12) (d := some 67) (v := ?_) rfl rfl (by kernel_rfl) (by kernel_rfl) (by kernel_rfl) (fun _ _ _ h => h) (Or.inl ⟨by rfl, ?_⟩) (by assumption) ?_
                rotate_left
                · (intro w hSw; (try dsimp only at hSw); go_simp; try (with_reducible rfl))
                simp only [Act.put, List.setIfInBounds_toArray, List.set_cons_zero, List.set_cons_succ]
                refine tk_at (i := 13) (d := some 68) (v := ?_) rfl rfl (by kernel_rfl) (by kernel_rfl) (by kernel_rfl) (fun _ _ _ h => h) (Or.inl ⟨by rfl, ?_⟩) (by assumption) ?_
                rotate_left
                · (intro w hSw; (try dsimp only at hSw); go_simp; try (with_reducible rfl))
                simp only [Act.put, List.setIfInBounds_toArray, List.set_cons_zero, List.set_cons_succ]
                refine wpAnyH_ready (rs := [5]) (by kernel_rfl) (by simp) ?_
                refine AllReadyH.cons rfl (fun K hK => ?_) AllReadyH.nil
                go_simp
                go_wp2_with fail
                refine hK.out _ _ (KS.out _ (blw_drew HI.out.1) HI.out.2.1) (fun hHeld => ?_)
                clear hK K
                try simp only [Act.put, List.setIfInBounds_toArray, List.set_cons_zero, List.set_cons_succ]
                refine tk_at (i := 14) (d := some 69) (v := ?_) rfl rfl (by kernel_rfl) (by kernel_rfl) (by kernel_rfl) (fun _ _ _ h => h) (Or.inl ⟨by rfl, ?_⟩) (by assumption) ?_
                rotate_left
                · (intro w hSw; (try dsimp only at hSw); go_simp; try (with_reducible rfl))
                simp only [Act.put, List.setIfInBounds_toArray, List.set_cons_zero, List.set_cons_succ]
                refine tk_at (i := 15) (d := some 70) (v := ?_) rfl rfl (by kernel_rfl) (by kernel_rfl) (by kernel_rfl) (fun _ _ _ h => h) (Or.inl ⟨by rfl, ?_⟩) (by assumption) ?_
                rotate_left
                · (intro w hSw; (try dsimp only at hSw); go_simp; try (with_reducible rfl))
                simp only [Act.put, List.setIfInBounds_toArray, List.set_cons_zero, List.set_cons_succ]
                refine wpAnyH_ready (rs := [16]) (by kernel_rfl) (by simp) ?_
                refine AllReadyH.cons rfl (fun K hK => ?_) AllReadyH.nil
                go_simp
                go_wp2_with fail
                refine hK.out _ _ (KS.out _ (blw_drew (blw_set _ HI.out.1 (by show w.heap.size ≤ w.heap.size + 1; omega))) ((Below.heap_setCell _ _ _ _ (by show w.heap.size ≠ w.heap.size + 1; omega)).trans HI.out.2.1)) (fun hHeld => ?_)
                clear hK K
                try simp only [Act.put, List.setIfInBounds_toArray, List.set_cons_zero, List.set_cons_succ]
                refine wpAnyH_done (by kernel_rfl) ?_ _
                clear hHeld
                have HS6 := hid (heap_setCell_at _ _ j _ _ _ (.int .u32 (gat u true v : Nat)) HI.out.2.2)
                rw [HST.out] at HS6
                clear c6 f6 hyc hcr c1
                go_wp2
                go_roundw
                case rel => exact ⟨j + 1, by omega, by go_num, blw_drew (blw_set _ HI.out.1 (by show w.heap.size ≤ w.heap.size + 1; omega)), (Below.heap_setCell _ _ _ _ (by show w.heap.size ≠ w.heap.size + 1; omega)).trans HI.out.2.1, HS6.out⟩
                case measure => simp [intOf]; omega
              · have HK := hid (HFK.out k j (cl_short t k j hkL (by omega)))
                obtain ⟨rn, hrn⟩ : ∃ rn, (t.L[k]).ws.length = rn := ⟨_, rfl⟩
                rw [hrn] at hcr hjl
                rw [hxr] at c1
                have hjn : decide (j < rn) = false := by simp; omega
                clear hxr hro hrn hB hb0 hb1 HRO
                rw [HK.out] at HI
                go_wp2
                go_roundw
                case rel => exact ⟨j + 1, by omega, by go_num, HI.out.1, HI.out.2.1, HI.out.2.2⟩
                case measure => simp [intOf]; omega
            · have HK := hid (HFK.out k j (cl_none t k j (by omega)))
              clear hB hb0 hb1
              rw [HK.out] at HI
              go_wp2
              go_roundw
              case rel => exact ⟨j + 1, by omega, by go_num, HI.out.1, HI.out.2.1, HI.out.2.2⟩
              case measure => simp [intOf]; omega
          · have hjR : j = W := by omega
            rw [hjR, HFE.out] at HI
            clear hB hb0 hb1
            go_wp2
            go_roundw
            case rel => exact ⟨k + 1, by omega, by rw [HYT.out], by go_num, HI.out.1, HI.out.2.1, HI.out.2.2⟩
            case measure => simp [intOf]; omega
      · have HYT := hid (HNO.out hq)
        have HYF := hid (HNT.out hq)
        go_wp2
        go_roundw
        case rel => exact ⟨k + 1, by omega, by rw [HYT.out], by go_num, HH.out.1, HH.out.2.1, by rw [HYF.out]; exact HH.out.2.2⟩
        case measure => simp [intOf]; omega
    · have hke : k = t.ks.length := by omega
      subst hke
      go_wp2
      exact bodyPost_ret (v := .tuple #[.slice (some ⟨w.heap.size + 1, 0, none⟩) W W, .bool (fdM t key t.ks.length)]) (by simp [results, Try.results9, go_sem]) rfl ⟨rfl, HH.out.2.2, HH.out.1⟩

/-- what the document answers: words that lie somewhere -/
theorem rfind_any (t : Tb) (key : Nat) (w : World) (h : t.Ok w) (hn : t.ks.length ≤ 1000000000) (hw : t.wd ≤ 1000000) :
    Calls Try.prog 9 #[tbV t, u32 key] w fun e w' => ∃ ad cap, e = .returned (.tuple #[.slice ad t.wd cap, .bool (fdM t key t.ks.length)]) ∧ (∀ q, q < t.wd → ∃ y, ad = some y ∧ w'.cell? (y.add q) = some (.int .u32 (fdT t key t.ks.length q : Int))) ∧ Below w.heap.size w w' := by
  rcases Nat.eq_zero_or_pos t.L.length with h0 | h0
  · have e0 := Tb.wd_nil h0
    refine (rfind_nil t key w h hn h0).mono fun e w' ⟨he, hb⟩ => ⟨none, 0, by rw [he, e0], fun q hq => by omega, hb⟩
  · refine (rfind_some t key w h hn hw h0).mono fun e w' ⟨he, hc, hb⟩ => ⟨_, _, he, fun q hq => ⟨_, rfl, ?_⟩, hb⟩
    rw [add_plain]
    exact cell_of_heap hc (rowF_get hq)
end Go.Proofs.Ytajkjlnhongjfaa
