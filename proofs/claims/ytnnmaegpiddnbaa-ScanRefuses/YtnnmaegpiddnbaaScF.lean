/- The document's Sums (layer 5), over this seat's translation. Conditions: at most a million words. -/
import Derived.Test.YtnnmaegpiddnbaaScE
import Derived.Test.YtnnmaegpiddnbaaRf
namespace Go.Proofs.Ytnnmaegpiddnbaa
open Go.RowKit

def sl (l : List Nat) : Nat → Nat
  | 0 => 0
  | k + 1 => addW (sl l k) (l.getD k 0)
theorem sl_lt (l : List Nat) (k : Nat) : sl l k < 4294967296 := by
  cases k with
  | zero => exact (by decide : (0 : Nat) < 4294967296)
  | succ k => exact addW_lt _ _
def slF (l : List Nat) (b : Bool) (q : Nat) : Nat := if b then sl l (q + 1) else sl l q
/-- the words up to i are done, word i is x, those behind it are 0 -/
def fo (f : Nat → Nat) (i x q : Nat) : Nat := if q < i then f q else if q = i then x else 0
theorem fo_set (n : Nat) (f : Nat → Nat) (i x y : Nat) : (rowF n (fo f i x)).setIfInBounds i (.int .u32 (y : Int)) = rowF n (fo f i y) := by
  rw [rowF_set]
  refine rowF_congr fun q _ => ?_
  unfold fo
  by_cases e : q = i
  · subst e; simp
  · simp [e]
theorem fo_next (n : Nat) (f : Nat → Nat) (i : Nat) : rowF n (fo f i (f i)) = rowF n (fo f (i + 1) 0) := rowF_congr fun q _ => by
  unfold fo
  by_cases h1 : q < i
  · simp [h1, Nat.lt_succ_of_lt h1]
  · by_cases h2 : q = i
    · subst h2; simp
    · have : ¬ q < i + 1 := by omega
      simp [h1, h2, this]
theorem fo_end (n : Nat) (f : Nat → Nat) : rowF n (fo f n 0) = rowF n f := rowF_congr fun q h => by simp [fo, h]
theorem fo_start (n : Nat) (f : Nat → Nat) : rowF n (fun _ => 0) = rowF n (fo f 0 0) := rowF_congr fun q h => by simp [fo]
theorem fo_at (f : Nat → Nat) (i x : Nat) : fo f i x i = x := by simp [fo]
theorem addw_wrap (u v : Nat) : IntKind.u32.wrap ((u : Int) + (v : Int)) = ((addW u v : Nat) : Int) := by rw [IntKind.wrap_u32]; unfold addW; omega

set_option maxHeartbeats 3200000 in
theorem rsums_any (ad : Option Addr) (c : Nat) (l : List Nat) (b : Bool) (w : World) (hu : U32s w ad l) (hn : l.length ≤ 1000000) :
    Calls Try.prog 10 #[.slice ad l.length c, .bool b] w fun e w' => e = .returned (.tuple #[.slice (some ⟨w.heap.size, 0, none⟩) l.length l.length, u32 (sl l l.length : Nat)]) ∧ w'.heap[w.heap.size]? = some (.cells (rowF l.length (slF l b)) 30 (0, 0)) ∧ Below w.heap.size w w' := by
  have HU := hid hu
  have HM := hid (run_make_uk l.length (by omega))
  have HF0 := hid (fo_start l.length (slF l b))
  have HFN := hid (fo_next l.length (slF l b))
  have HFE := hid (fo_end l.length (slF l b))
  have HFS := hid (fo_set l.length (slF l b))
  clear hu
  have hmk := HM.out
  go_enter Try.func10, Try.ntmps10
  go_wp2_with fail
  clear hmk
  go_loopw [7, 8] (fun t ci wr => ∃ i : Nat, i ≤ l.length ∧ t = .int .u32 (sl l i : Nat) ∧ ci = .int .i64 (i : Int) ∧ Below w.heap.size w wr ∧ wr.heap[w.heap.size]? = some (.cells (rowF l.length (fo (slF l b) i 0)) 30 (0, 0))) (fun _ ci _ => l.length - (intOf ci).toNat)
  case atStart => exact ⟨0, Nat.zero_le _, rfl, rfl, (by repeat (first | exact Below.refl _ _ | refine blw_alloc ?_ | refine blw_drew ?_ | assumption)), by rw [← HF0.out]; exact heap_alloc_at _ _⟩
  case round =>
    obtain ⟨i, hi, rfl, rfl, hB, hb0⟩ := hrel
    have HH := hid (And.intro hB hb0)
    by_cases hlt : i < l.length
    · clear hB hb0
      go_wp2_with fail
      go_loopw [9] (fun ck wr => ∃ k : Nat, k ≤ i ∧ ck = .int .i64 (k : Int) ∧ Below w.heap.size w wr ∧ wr.heap[w.heap.size]? = some (.cells (rowF l.length (fo (slF l b) i (sl l k))) 30 (0, 0))) (fun ck _ => i - (intOf ck).toNat)
      case atStart => exact ⟨0, Nat.zero_le _, rfl, HH.out.1, HH.out.2⟩
      case round =>
        obtain ⟨k, hk, rfl, hB, hb0⟩ := hrel
        have HI := hid (And.intro hB hb0)
        by_cases hki : k < i
        · have hkl : k < l.length := by omega
          obtain ⟨x, rfl, hx⟩ := (HU.out.below hB) k hkl
          have HUB := hid (show ∀ w' : World, Below w.heap.size w w' → w'.cell? (x.add k) = some (.int .u32 (l[k] : Int)) from fun w' hb => by
            obtain ⟨y, hy, hc⟩ := (HU.out.below hb) k (by omega)
            cases hy; exact hc)
          have HSS := hid (show addW (sl l k) l[k] = sl l (k + 1) by show _ = addW (sl l k) (l.getD k 0); rw [List.getD_eq_getElem?_getD, List.getElem?_eq_getElem (by omega)]; rfl)
          have hadd := addw_wrap (sl l k) l[k]
          rw [HSS.out] at hadd
          obtain ⟨v, hv⟩ : ∃ v, l[k] = v := ⟨_, rfl⟩
          rw [hv] at hx HUB hadd
          have c6 := cell_of_heap (i := i) hb0 (rowF_get hlt)
          rw [fo_at] at c6
          have f6 := frozen_of_heap (i := i) hb0
          clear hB hb0 hv
          go_wp2_with fail
          refine wp_region_held_drew (S := (fun w' => w'.cell? (x.add k) = some (.int .u32 (v : Int)))) (by kernel_rfl) (HUB.out _ (blw_drew HI.out.1)) (fun hHeld => ?_)
          refine tk_at (i := 0) (d := some 24) (v := ?_) rfl rfl (by kernel_rfl) (by kernel_rfl) (by kernel_rfl) (fun _ _ _ h => h) (Or.inl ⟨by rfl, ?_⟩) (by assumption) ?_
          rotate_left
          · (intro w hSw; (try dsimp only at hSw); go_simp; try (with_reducible rfl))
          simp only [Act.put, List.setIfInBounds_toArray, List.set_cons_zero, List.set_cons_succ]
          refine tk_at (i := 1) (d := some 25) (v := ?_) rfl rfl (by kernel_rfl) (by kernel_rfl) (by kernel_rfl) (fun _ _ _ h => h) (Or.inl ⟨by rfl, ?_⟩) (by assumption) ?_
          rotate_left
          · (intro w hSw; (try dsimp only at hSw); go_simp; try (with_reducible rfl))
          simp only [Act.put, List.setIfInBounds_toArray, List.set_cons_zero, List.set_cons_succ]
          refine tk_at (i := 2) (d := some 26) (v := ?_) rfl rfl (by kernel_rfl) (by kernel_rfl) (by kernel_rfl) (fun _ _ _ h => h) (Or.inl ⟨by rfl, ?_⟩) (by assumption) ?_
          rotate_left
          · (intro w hSw; (try dsimp only at hSw); go_simp; try (with_reducible rfl))
          simp only [Act.put, List.setIfInBounds_toArray, List.set_cons_zero, List.set_cons_succ]
          refine tk_at (i := 3) (d := some 27) (v := ?_) rfl rfl (by kernel_rfl) (by kernel_rfl) (by kernel_rfl) (fun _ _ _ h => h) (Or.inl ⟨by rfl, ?_⟩) (by assumption) ?_
          rotate_left
          · (intro w hSw; (try dsimp only at hSw); go_simp; try (with_reducible rfl))
          simp only [Act.put, List.setIfInBounds_toArray, List.set_cons_zero, List.set_cons_succ]
          refine tk_at (i := 4) (d := some 28) (v := ?_) rfl rfl (by kernel_rfl) (by kernel_rfl) (by kernel_rfl) (fun _ _ _ h => h) (Or.inl ⟨by rfl, ?_⟩) (by assumption) ?_
          rotate_left
          · (intro w hSw; (try dsimp only at hSw); go_simp; try (with_reducible rfl))
          simp only [Act.put, List.setIfInBounds_toArray, List.set_cons_zero, List.set_cons_succ]
          refine tk_at (i := 6) (d := some 30) (v := ?_) rfl rfl (by kernel_rfl) (by kernel_rfl) (by kernel_rfl) (fun _ _ _ h => h) (Or.inl ⟨by rfl, ?_⟩) (by assumption) ?_
          rotate_left
          · (intro w hSw; (try dsimp only at hSw); go_simp; try (with_reducible rfl))
          simp only [Act.put, List.setIfInBounds_toArray, List.set_cons_zero, List.set_cons_succ]
          refine tk_at (i := 7) (d := some 31) (v := ?_) rfl rfl (by kernel_rfl) (by kernel_rfl) (by kernel_rfl) (fun _ _ _ h => h) (Or.inl ⟨by rfl, ?_⟩) (by assumption) ?_
          rotate_left
          · (intro w hSw; (try dsimp only at hSw); go_simp; try (with_reducible rfl))
          simp only [Act.put, List.setIfInBounds_toArray, List.set_cons_zero, List.set_cons_succ]
          refine tk_at (i := 8) (d := some 32) (v := ?_) rfl rfl (by kernel_rfl) (by kernel_rfl) (by kernel_rfl) (fun _ _ _ h => h) (Or.inl ⟨by rfl, ?_⟩) (by assumption) ?_
          rotate_left
          · (intro w hSw; (try dsimp only at hSw); go_simp; try (with_reducible rfl))
          simp only [Act.put, List.setIfInBounds_toArray, List.set_cons_zero, List.set_cons_succ]
          refine tk_at (i := 9) (d := some 33) (v := ?_) rfl rfl (by kernel_rfl) (by kernel_rfl) (by kernel_rfl) (fun _ _ _ h => h) (Or.inl ⟨by rfl, ?_⟩) (by assumption) ?_
          rotate_left
          · (intro w hSw; (try dsimp only at hSw); go_simp; try (with_reducible rfl))
          simp only [Act.put, List.setIfInBounds_toArray, List.set_cons_zero, List.set_cons_succ]
          refine wpAnyH_ready (rs := [5]) (by kernel_rfl) (by simp) ?_
          refine AllReadyH.cons rfl (fun K hK => ?_) AllReadyH.nil
          go_simp
          go_wp2_with fail
          refine hK.out _ _ (HUB.out _ (blw_drew HI.out.1)) (fun hHeld => ?_)
          clear hK K
          try simp only [Act.put, List.setIfInBounds_toArray, List.set_cons_zero, List.set_cons_succ]
          refine tk_at (i := 10) (d := some 34) (v := ?_) rfl rfl (by kernel_rfl) (by kernel_rfl) (by kernel_rfl) (fun _ _ _ h => h) (Or.inl ⟨by rfl, ?_⟩) (by assumption) ?_
          rotate_left
          · (intro w hSw; (try dsimp only at hSw); go_simp; try (with_reducible rfl))
          simp only [Act.put, List.setIfInBounds_toArray, List.set_cons_zero, List.set_cons_succ]
          refine tk_at (i := 11) (d := some 35) (v := ?_) rfl rfl (by kernel_rfl) (by kernel_rfl) (by kernel_rfl) (fun _ _ _ h => h) (Or.inl ⟨by rfl, ?_⟩) (by assumption) ?_
          rotate_left
          · (intro w hSw; (try dsimp only at hSw); go_simp; try (with_reducible rfl))
          simp only [Act.put, List.setIfInBounds_toArray, List.set_cons_zero, List.set_cons_succ]
          refine wpAnyH_ready (rs := [12]) (by kernel_rfl) (by simp) ?_
          refine AllReadyH.cons rfl (fun K hK => ?_) AllReadyH.nil
          go_simp
          go_wp2_with fail
          refine hK.out _ _ (HUB.out _ (blw_drew (HI.out.1.setCell (p := ⟨w.heap.size, i, none⟩) (Nat.le_refl _) _))) (fun hHeld => ?_)
          clear hK K
          try simp only [Act.put, List.setIfInBounds_toArray, List.set_cons_zero, List.set_cons_succ]
          refine wpAnyH_done (by kernel_rfl) ?_ _
          clear hHeld
          have HS6 := hid (heap_setCell_at _ _ i _ _ _ (.int .u32 (sl l (k + 1) : Nat)) HI.out.2)
          rw [HFS.out] at HS6
          clear c6 f6 hx hadd
          go_wp2
          go_roundw
          case rel => exact ⟨k + 1, by omega, by go_num, blw_drew (HI.out.1.setCell (p := ⟨w.heap.size, i, none⟩) (Nat.le_refl _) _), HS6.out⟩
          case measure => simp [intOf]; omega
        · have hke : k = i := by omega
          subst hke
          obtain ⟨x, rfl, hx⟩ := (HU.out.below hB) k hlt
          have HUB := hid (show ∀ w' : World, Below w.heap.size w w' → w'.cell? (x.add k) = some (.int .u32 (l[k] : Int)) from fun w' hb => by
            obtain ⟨y, hy, hc⟩ := (HU.out.below hb) k hlt
            cases hy; exact hc)
          have HSS := hid (show addW (sl l k) l[k] = sl l (k + 1) by show _ = addW (sl l k) (l.getD k 0); rw [List.getD_eq_getElem?_getD, List.getElem?_eq_getElem hlt]; rfl)
          have hadd := addw_wrap (sl l k) l[k]
          rw [HSS.out] at hadd
          have HFNk := hid (HFN.out k)
          obtain ⟨v, hv⟩ : ∃ v, l[k] = v := ⟨_, rfl⟩
          rw [hv] at hx HUB hadd
          have c6 := cell_of_heap (i := k) hb0 (rowF_get hlt)
          rw [fo_at] at c6
          have f6 := frozen_of_heap (i := k) hb0
          clear hB hb0 hv
          cases b
          · have HR := hid (show wr.heap[w.heap.size]? = some (.cells (rowF l.length (fo (slF l false) (k + 1) 0)) 30 (0, 0)) by rw [← HFNk.out]; exact HI.out.2)
            go_wp2
            go_roundw
            case rel => exact ⟨k + 1, by omega, rfl, by go_num, HI.out.1, HR.out⟩
            case measure => simp [intOf]; omega
          · go_wp2_with fail
            refine wp_region_held_drew (S := (fun w' => w'.cell? (x.add k) = some (.int .u32 (v : Int)))) (by kernel_rfl) (HUB.out _ (blw_drew HI.out.1)) (fun hHeld => ?_)
            refine tk_at (i := 0) (d := some 37) (v := ?_) rfl rfl (by kernel_rfl) (by kernel_rfl) (by kernel_rfl) (fun _ _ _ h => h) (Or.inl ⟨by rfl, ?_⟩) (by assumption) ?_
            rotate_left
            · (intro w hSw; (try dsimp only at hSw); go_simp; try (with_reducible rfl))
            simp only [Act.put, List.setIfInBounds_toArray, List.set_cons_zero, List.set_cons_succ]
            refine tk_at (i := 1) (d := some 38) (v := ?_) rfl rfl (by kernel_rfl) (by kernel_rfl) (by kernel_rfl) (fun _ _ _ h => h) (Or.inl ⟨by rfl, ?_⟩) (by assumption) ?_
            rotate_left
            · (intro w hSw; (try dsimp only at hSw); go_simp; try (with_reducible rfl))
            simp only [Act.put, List.setIfInBounds_toArray, List.set_cons_zero, List.set_cons_succ]
            refine tk_at (i := 2) (d := some 39) (v := ?_) rfl rfl (by kernel_rfl) (by kernel_rfl) (by kernel_rfl) (fun _ _ _ h => h) (Or.inl ⟨by rfl, ?_⟩) (by assumption) ?_
            rotate_left
            · (intro w hSw; (try dsimp only at hSw); go_simp; try (with_reducible rfl))
            simp only [Act.put, List.setIfInBounds_toArray, List.set_cons_zero, List.set_cons_succ]
            refine tk_at (i := 3) (d := some 40) (v := ?_) rfl rfl (by kernel_rfl) (by kernel_rfl) (by kernel_rfl) (fun _ _ _ h => h) (Or.inl ⟨by rfl, ?_⟩) (by assumption) ?_
            rotate_left
            · (intro w hSw; (try dsimp only at hSw); go_simp; try (with_reducible rfl))
            simp only [Act.put, List.setIfInBounds_toArray, List.set_cons_zero, List.set_cons_succ]
            refine tk_at (i := 4) (d := some 41) (v := ?_) rfl rfl (by kernel_rfl) (by kernel_rfl) (by kernel_rfl) (fun _ _ _ h => h) (Or.inl ⟨by rfl, ?_⟩) (by assumption) ?_
            rotate_left
            · (intro w hSw; (try dsimp only at hSw); go_simp; try (with_reducible rfl))
            simp only [Act.put, List.setIfInBounds_toArray, List.set_cons_zero, List.set_cons_succ]
            refine tk_at (i := 6) (d := some 43) (v := ?_) rfl rfl (by kernel_rfl) (by kernel_rfl) (by kernel_rfl) (fun _ _ _ h => h) (Or.inl ⟨by rfl, ?_⟩) (by assumption) ?_
            rotate_left
            · (intro w hSw; (try dsimp only at hSw); go_simp; try (with_reducible rfl))
            simp only [Act.put, List.setIfInBounds_toArray, List.set_cons_zero, List.set_cons_succ]
            refine tk_at (i := 7) (d := some 44) (v := ?_) rfl rfl (by kernel_rfl) (by kernel_rfl) (by kernel_rfl) (fun _ _ _ h => h) (Or.inl ⟨by rfl, ?_⟩) (by assumption) ?_
            rotate_left
            · (intro w hSw; (try dsimp only at hSw); go_simp; try (with_reducible rfl))
            simp only [Act.put, List.setIfInBounds_toArray, List.set_cons_zero, List.set_cons_succ]
            refine tk_at (i := 8) (d := some 45) (v := ?_) rfl rfl (by kernel_rfl) (by kernel_rfl) (by kernel_rfl) (fun _ _ _ h => h) (Or.inl ⟨by rfl, ?_⟩) (by assumption) ?_
            rotate_left
            · (intro w hSw; (try dsimp only at hSw); go_simp; try (with_reducible rfl))
            simp only [Act.put, List.setIfInBounds_toArray, List.set_cons_zero, List.set_cons_succ]
            refine tk_at (i := 9) (d := some 46) (v := ?_) rfl rfl (by kernel_rfl) (by kernel_rfl) (by kernel_rfl) (fun _ _ _ h => h) (Or.inl ⟨by rfl, ?_⟩) (by assumption) ?_
            rotate_left
            · (intro w hSw; (try dsimp only at hSw); go_simp; try (with_reducible rfl))
            simp only [Act.put, List.setIfInBounds_toArray, List.set_cons_zero, List.set_cons_succ]
            refine wpAnyH_ready (rs := [5]) (by kernel_rfl) (by simp) ?_
            refine AllReadyH.cons rfl (fun K hK => ?_) AllReadyH.nil
            go_simp
            go_wp2_with fail
            refine hK.out _ _ (HUB.out _ (blw_drew HI.out.1)) (fun hHeld => ?_)
            clear hK K
            try simp only [Act.put, List.setIfInBounds_toArray, List.set_cons_zero, List.set_cons_succ]
            refine tk_at (i := 10) (d := some 47) (v := ?_) rfl rfl (by kernel_rfl) (by kernel_rfl) (by kernel_rfl) (fun _ _ _ h => h) (Or.inl ⟨by rfl, ?_⟩) (by assumption) ?_
            rotate_left
            · (intro w hSw; (try dsimp only at hSw); go_simp; try (with_reducible rfl))
            simp only [Act.put, List.setIfInBounds_toArray, List.set_cons_zero, List.set_cons_succ]
            refine tk_at (i := 11) (d := some 48) (v := ?_) rfl rfl (by kernel_rfl) (by kernel_rfl) (by kernel_rfl) (fun _ _ _ h => h) (Or.inl ⟨by rfl, ?_⟩) (by assumption) ?_
            rotate_left
            · (intro w hSw; (try dsimp only at hSw); go_simp; try (with_reducible rfl))
            simp only [Act.put, List.setIfInBounds_toArray, List.set_cons_zero, List.set_cons_succ]
            refine wpAnyH_ready (rs := [12]) (by kernel_rfl) (by simp) ?_
            refine AllReadyH.cons rfl (fun K hK => ?_) AllReadyH.nil
            go_simp
            go_wp2_with fail
            refine hK.out _ _ (HUB.out _ (blw_drew (HI.out.1.setCell (p := ⟨w.heap.size, k, none⟩) (Nat.le_refl _) _))) (fun hHeld => ?_)
            clear hK K
            try simp only [Act.put, List.setIfInBounds_toArray, List.set_cons_zero, List.set_cons_succ]
            refine wpAnyH_done (by kernel_rfl) ?_ _
            clear hHeld
            have HS6 := hid (heap_setCell_at _ _ k _ _ _ (.int .u32 (sl l (k + 1) : Nat)) HI.out.2)
            rw [HFS.out] at HS6
            have HR := hid (show (wr.setCell ⟨w.heap.size, k, none⟩ (.int .u32 (sl l (k + 1) : Nat))).heap[w.heap.size]? = some (.cells (rowF l.length (fo (slF l true) (k + 1) 0)) 30 (0, 0)) by rw [← HFNk.out]; exact HS6.out)
            have HBL := hid (show Below w.heap.size w (wr.setCell ⟨w.heap.size, k, none⟩ (.int .u32 (sl l (k + 1) : Nat))) from HI.out.1.setCell (p := ⟨w.heap.size, k, none⟩) (Nat.le_refl _) _)
            have hx2 := HUB.out _ (blw_drew HBL.out)
            clear c6 f6 hx
            go_wp2
            go_roundw
            case rel => exact ⟨k + 1, by omega, rfl, by go_num, blw_drew HBL.out, HR.out⟩
            case measure => simp [intOf]; omega
    · have hke : i = l.length := by omega
      subst hke
      rw [HFE.out] at HH
      clear hB hb0
      go_wp2
      exact bodyPost_ret (v := .tuple #[.slice (some ⟨w.heap.size, 0, none⟩) l.length l.length, .int .u32 (sl l l.length : Nat)]) (by simp [results, Try.results10, go_sem]) rfl ⟨rfl, HH.out.2, HH.out.1⟩
end Go.Proofs.Ytnnmaegpiddnbaa
