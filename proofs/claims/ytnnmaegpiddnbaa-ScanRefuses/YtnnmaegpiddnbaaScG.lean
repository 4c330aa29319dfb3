/- The document's Ors (layer 5), over this seat's translation. Conditions: at most a million words. -/
import Derived.Test.YtnnmaegpiddnbaaScF
namespace Go.Proofs.Ytnnmaegpiddnbaa
open Go.RowKit

def cnd (b : Bool) (i k : Nat) : Bool := if b then decide (i ≤ k) else decide (k ≤ i)
def ol (l : List Nat) (b : Bool) (i : Nat) : Nat → Nat
  | 0 => 0
  | k + 1 => if cnd b i k then orW (ol l b i k) (l.getD k 0) else ol l b i k
def oa (l : List Nat) : Nat → Nat
  | 0 => 0
  | k + 1 => orW (oa l k) (l.getD k 0)
theorem getD_lt {l : List Nat} (h : ∀ x ∈ l, x < 4294967296) (k : Nat) : l.getD k 0 < 4294967296 := by
  rcases Nat.lt_or_ge k l.length with h1 | h1
  · simp [List.getD, h1]; exact h _ (List.getElem_mem h1)
  · simp [List.getD, List.getElem?_eq_none h1]
theorem ol_lt {l : List Nat} (h : ∀ x ∈ l, x < 4294967296) (b : Bool) (i k : Nat) : ol l b i k < 4294967296 := by
  induction k with
  | zero => exact (by decide : (0 : Nat) < 4294967296)
  | succ k ih => unfold ol; split; exact orW_lt ih (getD_lt h k); exact ih
theorem oa_lt {l : List Nat} (h : ∀ x ∈ l, x < 4294967296) (k : Nat) : oa l k < 4294967296 := by
  induction k with
  | zero => exact (by decide : (0 : Nat) < 4294967296)
  | succ k ih => exact orW_lt ih (getD_lt h k)
def olF (l : List Nat) (b : Bool) (q : Nat) : Nat := ol l b q l.length
theorem orw_bits (u v : Nat) (hu : u < 4294967296) (hv : v < 4294967296) : bits .or .u32 (u : Int) (v : Int) = ((orW u v : Nat) : Int) := u32_or_nat _ _ hu hv

set_option maxHeartbeats 3200000 in
theorem rors_any (ad : Option Addr) (c : Nat) (l : List Nat) (b : Bool) (w : World) (hu : U32s w ad l) (hl : ∀ x ∈ l, x < 4294967296) (hn : l.length ≤ 1000000) :
    Calls Try.prog 14 #[.slice ad l.length c, .bool b] w fun e w' => e = .returned (.tuple #[.slice (some ⟨w.heap.size, 0, none⟩) l.length l.length, u32 (oa l l.length : Nat)]) ∧ w'.heap[w.heap.size]? = some (.cells (rowF l.length (olF l b)) 30 (0, 0)) ∧ Below w.heap.size w w' := by
  have HU := hid hu
  have HL := hid hl
  have HM := hid (run_make_uk l.length (by omega))
  have HF0 := hid (fo_start l.length (olF l b))
  have HFN := hid (fo_next l.length (olF l b))
  have HFE := hid (fo_end l.length (olF l b))
  have HFS := hid (fo_set l.length (olF l b))
  clear hu hl
  have hmk := HM.out
  go_enter Try.func14, Try.ntmps14
  go_wp2_with fail
  clear hmk
  go_loopw [7, 8] (fun t ci wr => ∃ i : Nat, i ≤ l.length ∧ t = .int .u32 (oa l i : Nat) ∧ ci = .int .i64 (i : Int) ∧ Below w.heap.size w wr ∧ wr.heap[w.heap.size]? = some (.cells (rowF l.length (fo (olF l b) i 0)) 30 (0, 0))) (fun _ ci _ => l.length - (intOf ci).toNat)
  case atStart => exact ⟨0, Nat.zero_le _, rfl, rfl, (by repeat (first | exact Below.refl _ _ | refine blw_alloc ?_ | refine blw_drew ?_ | assumption)), by rw [← HF0.out]; exact heap_alloc_at _ _⟩
  case round =>
    obtain ⟨i, hi, rfl, rfl, hB, hb0⟩ := hrel
    have HH := hid (And.intro hB hb0)
    by_cases hlt : i < l.length
    · clear hB hb0
      go_wp2_with fail
      go_loopw [9] (fun ck wr => ∃ k : Nat, k ≤ l.length ∧ ck = .int .i64 (k : Int) ∧ Below w.heap.size w wr ∧ wr.heap[w.heap.size]? = some (.cells (rowF l.length (fo (olF l b) i (ol l b i k))) 30 (0, 0))) (fun ck _ => l.length - (intOf ck).toNat)
      case atStart => exact ⟨0, Nat.zero_le _, rfl, HH.out.1, HH.out.2⟩
      case round =>
        obtain ⟨k, hk, rfl, hB, hb0⟩ := hrel
        have HI := hid (And.intro hB hb0)
        by_cases hkl : k < l.length
        · by_cases hcd : cnd b i k = true
          · obtain ⟨x, rfl, hx⟩ := (HU.out.below hB) k hkl
            have HUB := hid (show ∀ w' : World, Below w.heap.size w w' → w'.cell? (x.add k) = some (.int .u32 (l[k] : Int)) from fun w' hb => by
              obtain ⟨y, hy, hc⟩ := (HU.out.below hb) k hkl
              cases hy; exact hc)
            have HSS := hid (show orW (ol l b i k) l[k] = ol l b i (k + 1) by
              show _ = if cnd b i k then orW (ol l b i k) (l.getD k 0) else ol l b i k
              rw [if_pos hcd, List.getD_eq_getElem?_getD, List.getElem?_eq_getElem hkl]; rfl)
            have hor := orw_bits (ol l b i k) l[k] (ol_lt HL.out b i k) (HL.out _ (List.getElem_mem hkl))
            rw [HSS.out] at hor
            obtain ⟨v, hv⟩ : ∃ v, l[k] = v := ⟨_, rfl⟩
            rw [hv] at hx HUB hor
            have c6 := cell_of_heap (i := i) hb0 (rowF_get hlt)
            rw [fo_at] at c6
            have f6 := frozen_of_heap (i := i) hb0
            obtain ⟨u0, hu0⟩ : ∃ u0, ol l b i k = u0 := ⟨_, rfl⟩
            obtain ⟨u1, hu1⟩ : ∃ u1, ol l b i (k + 1) = u1 := ⟨_, rfl⟩
            rw [hu0] at hor c6
            rw [hu1] at hor
            have HU1 := hid hu1
            clear hB hb0 hv hu0 hu1
            have hci : (b = false ∧ k ≤ i) ∨ (b = true ∧ i ≤ k) := by
              unfold cnd at hcd
              cases b
              · exact Or.inl ⟨rfl, by simpa using hcd⟩
              · exact Or.inr ⟨rfl, by simpa using hcd⟩
            clear hcd
            rcases hci with ⟨rfl, hci⟩ | ⟨rfl, hci⟩
            · go_wp2_with fail
              refine wp_region_held_drew (S := (fun w' => w'.cell? (x.add k) = some (.int .u32 (v : Int)))) (by kernel_rfl) (HUB.out _ (blw_drew HI.out.1)) (fun hHeld => ?_)
              refine tk_at (i := 0) (d := some 40) (v := ?_) rfl rfl (by kernel_rfl) (by kernel_rfl) (by kernel_rfl) (fun _ _ _ h => h) (Or.inl ⟨by rfl, ?_⟩) (by assumption) ?_
              rotate_left
              · (intro w hSw; (try dsimp only at hSw); go_simp; try (with_reducible rfl))
              simp only [Act.put, List.setIfInBounds_toArray, List.set_cons_zero, List.set_cons_succ]
              refine tk_at (i := 1) (d := some 41) (v := ?_) rfl rfl (by kernel_rfl) (by kernel_rfl) (by kernel_rfl) (fun _ _ _ h => h) (Or.inl ⟨by rfl, ?_⟩) (by assumption) ?_
              rotate_left
              · (intro w hSw; (try dsimp only at hSw); go_simp; try (with_reducible rfl))
              simp only [Act.put, List.setIfInBounds_toArray, List.set_cons_zero, List.set_cons_succ]
              refine tk_at (i := 2) (d := some 42) (v := ?_) rfl rfl (by kernel_rfl) (by kernel_rfl) (by kernel_rfl) (fun _ _ _ h => h) (Or.inl ⟨by rfl, ?_⟩) (by assumption) ?_
              rotate_left
              · (intro w hSw; (try dsimp only at hSw); go_simp; try (with_reducible rfl))
              simp only [Act.put, List.setIfInBounds_toArray, List.set_cons_zero, List.set_cons_succ]
              refine tk_at (i := 3) (d := some 43) (v := ?_) rfl rfl (by kernel_rfl) (by kernel_rfl) (by kernel_rfl) (fun _ _ _ h => h) (Or.inl ⟨by rfl, ?_⟩) (by assumption) ?_
              rotate_left
              · (intro w hSw; (try dsimp only at hSw); go_simp; try (with_reducible rfl))
              simp only [Act.put, List.setIfInBounds_toArray, List.set_cons_zero, List.set_cons_succ]
              refine tk_at (i := 4) (d := some 44) (v := ?_) rfl rfl (by kernel_rfl) (by kernel_rfl) (by kernel_rfl) (fun _ _ _ h => h) (Or.inl ⟨by rfl, ?_⟩) (by assumption) ?_
              rotate_left
              · (intro w hSw; (try dsimp only at hSw); go_simp; try (with_reducible rfl))
              simp only [Act.put, List.setIfInBounds_toArray, List.set_cons_zero, List.set_cons_succ]
              refine tk_at (i := 6) (d := some 46) (v := ?_) rfl rfl (by kernel_rfl) (by kernel_rfl) (by kernel_rfl) (fun _ _ _ h => h) (Or.inl ⟨by rfl, ?_⟩) (by assumption) ?_
              rotate_left
              · (intro w hSw; (try dsimp only at hSw); go_simp; try (with_reducible rfl))
              simp only [Act.put, List.setIfInBounds_toArray, List.set_cons_zero, List.set_cons_succ]
              refine tk_at (i := 7) (d := some 47) (v := ?_) rfl rfl (by kernel_rfl) (by kernel_rfl) (by kernel_rfl) (fun _ _ _ h => h) (Or.inl ⟨by rfl, ?_⟩) (by assumption) ?_
              rotate_left
              · (intro w hSw; (try dsimp only at hSw); go_simp; try (with_reducible rfl))
              simp only [Act.put, List.setIfInBounds_toArray, List.set_cons_zero, List.set_cons_succ]
              refine tk_at (i := 8) (d := some 48) (v := ?_) rfl rfl (by kernel_rfl) (by kernel_rfl) (by kernel_rfl) (fun _ _ _ h => h) (Or.inl ⟨by rfl, ?_⟩) (by assumption) ?_
              rotate_left
              · (intro w hSw; (try dsimp only at hSw); go_simp; try (with_reducible rfl))
              simp only [Act.put, List.setIfInBounds_toArray, List.set_cons_zero, List.set_cons_succ]
              refine tk_at (i := 9) (d := some 49) (v := ?_) rfl rfl (by kernel_rfl) (by kernel_rfl) (by kernel_rfl) (fun _ _ _ h => h) (Or.inl ⟨by rfl, ?_⟩) (by assumption) ?_
              rotate_left
              · (intro w hSw; (try dsimp only at hSw); go_simp; try (with_reducible rfl))
              simp only [Act.put, List.setIfInBounds_toArray, List.set_cons_zero, List.set_cons_succ]
              refine wpAnyH_ready (rs := [5]) (by kernel_rfl) (by simp) ?_
              refine AllReadyH.cons rfl (fun K hK => ?_) AllReadyH.nil
              go_simp
              go_wp2_with fail
              refine hK.out _ _ (HUB.out _ (blw_drew HI.out.1)) (fun hHeld => ?_)
              clear hK K
              try simp only [Act.put, List.setIfInBounds_toArray, List.set_cons_zero, List.set_cons_succ]
              refine tk_at (i := 10) (d := some 50) (v := ?_) rfl rfl (by kernel_rfl) (by kernel_rfl) (by kernel_rfl) (fun _ _ _ h => h) (Or.inl ⟨by rfl, ?_⟩) (by assumption) ?_
              rotate_left
              · (intro w hSw; (try dsimp only at hSw); go_simp; try (with_reducible rfl))
              simp only [Act.put, List.setIfInBounds_toArray, List.set_cons_zero, List.set_cons_succ]
              refine tk_at (i := 11) (d := some 51) (v := ?_) rfl rfl (by kernel_rfl) (by kernel_rfl) (by kernel_rfl) (fun _ _ _ h => h) (Or.inl ⟨by rfl, ?_⟩) (by assumption) ?_
              rotate_left
              · (intro w hSw; (try dsimp only at hSw); go_simp; try (with_reducible rfl))
              simp only [Act.put, List.setIfInBounds_toArray, List.set_cons_zero, List.set_cons_succ]
              refine wpAnyH_ready (rs := [12]) (by kernel_rfl) (by simp) ?_
              refine AllReadyH.cons rfl (fun K hK => ?_) AllReadyH.nil
              go_simp
              go_wp2_with fail
              refine hK.out _ _ (HUB.out _ (blw_drew (HI.out.1.setCell (p := ⟨w.heap.size, i, none⟩) (Nat.le_refl _) _))) (fun hHeld => ?_)
              clear hK K
              try simp only [Act.put, List.setIfInBounds_toArray, List.set_cons_zero, List.set_cons_succ]
              refine wpAnyH_done (by kernel_rfl) ?_ _
              clear hHeld
              have HS6 := hid (heap_setCell_at _ _ i _ _ _ (.int .u32 (u1 : Nat)) HI.out.2)
              rw [HFS.out] at HS6
              clear c6 f6 hx hor
              go_wp2
              go_roundw
              case rel => exact ⟨k + 1, by omega, by go_num, blw_drew (HI.out.1.setCell (p := ⟨w.heap.size, i, none⟩) (Nat.le_refl _) _), by rw [HU1.out]; exact HS6.out⟩
              case measure => simp [intOf]; omega
            · by_cases hke : k ≤ i
              · have hki : k = i := by omega
                subst hki
                go_wp2_with fail
                refine wp_region_held_drew (S := (fun w' => w'.cell? (x.add k) = some (.int .u32 (v : Int)))) (by kernel_rfl) (HUB.out _ (blw_drew HI.out.1)) (fun hHeld => ?_)
                refine tk_at (i := 0) (d := some 40) (v := ?_) rfl rfl (by kernel_rfl) (by kernel_rfl) (by kernel_rfl) (fun _ _ _ h => h) (Or.inl ⟨by rfl, ?_⟩) (by assumption) ?_
                rotate_left
                · (intro w hSw; (try dsimp only at hSw); go_simp; try (with_reducible rfl))
                simp only [Act.put, List.setIfInBounds_toArray, List.set_cons_zero, List.set_cons_succ]
                refine tk_at (i := 1) (d := some 41) (v := ?_) rfl rfl (by kernel_rfl) (by kernel_rfl) (by kernel_rfl) (fun _ _ _ h => h) (Or.inl ⟨by rfl, ?_⟩) (by assumption) ?_
                rotate_left
                · (intro w hSw; (try dsimp only at hSw); go_simp; try (with_reducible rfl))
                simp only [Act.put, List.setIfInBounds_toArray, List.set_cons_zero, List.set_cons_succ]
                refine tk_at (i := 2) (d := some 42) (v := ?_) rfl rfl (by kernel_rfl) (by kernel_rfl) (by kernel_rfl) (fun _ _ _ h => h) (Or.inl ⟨by rfl, ?_⟩) (by assumption) ?_
                rotate_left
                · (intro w hSw; (try dsimp only at hSw); go_simp; try (with_reducible rfl))
                simp only [Act.put, List.setIfInBounds_toArray, List.set_cons_zero, List.set_cons_succ]
                refine tk_at (i := 3) (d := some 43) (v := ?_) rfl rfl (by kernel_rfl) (by kernel_rfl) (by kernel_rfl) (fun _ _ _ h => h) (Or.inl ⟨by rfl, ?_⟩) (by assumption) ?_
                rotate_left
                · (intro w hSw; (try dsimp only at hSw); go_simp; try (with_reducible rfl))
                simp only [Act.put, List.setIfInBounds_toArray, List.set_cons_zero, List.set_cons_succ]
                refine tk_at (i := 4) (d := some 44) (v := ?_) rfl rfl (by kernel_rfl) (by kernel_rfl) (by kernel_rfl) (fun _ _ _ h => h) (Or.inl ⟨by rfl, ?_⟩) (by assumption) ?_
                rotate_left
                · (intro w hSw; (try dsimp only at hSw); go_simp; try (with_reducible rfl))
                simp only [Act.put, List.setIfInBounds_toArray, List.set_cons_zero, List.set_cons_succ]
                refine tk_at (i := 6) (d := some 46) (v := ?_) rfl rfl (by kernel_rfl) (by kernel_rfl) (by kernel_rfl) (fun _ _ _ h => h) (Or.inl ⟨by rfl, ?_⟩) (by assumption) ?_
                rotate_left
                · (intro w hSw; (try dsimp only at hSw); go_simp; try (with_reducible rfl))
                simp only [Act.put, List.setIfInBounds_toArray, List.set_cons_zero, List.set_cons_succ]
                refine tk_at (i := 7) (d := some 47) (v := ?_) rfl rfl (by kernel_rfl) (by kernel_rfl) (by kernel_rfl) (fun _ _ _ h => h) (Or.inl ⟨by rfl, ?_⟩) (by assumption) ?_
                rotate_left
                · (intro w hSw; (try dsimp only at hSw); go_simp; try (with_reducible rfl))
                simp only [Act.put, List.setIfInBounds_toArray, List.set_cons_zero, List.set_cons_succ]
                refine tk_at (i := 8) (d := some 48) (v := ?_) rfl rfl (by kernel_rfl) (by kernel_rfl) (by kernel_rfl) (fun _ _ _ h => h) (Or.inl ⟨by rfl, ?_⟩) (by assumption) ?_
                rotate_left
                · (intro w hSw; (try dsimp only at hSw); go_simp; try (with_reducible rfl))
                simp only [Act.put, List.setIfInBounds_toArray, List.set_cons_zero, List.set_cons_succ]
                refine tk_at (i := 9) (d := some 49) (v := ?_) rfl rfl (by kernel_rfl) (by kernel_rfl) (by kernel_rfl) (fun _ _ _ h => h) (Or.inl ⟨by rfl, ?_⟩) (by assumption) ?_
                rotate_left
                · (intro w hSw; (try dsimp only at hSw); go_simp; try (with_reducible rfl))
                simp only [Act.put, List.setIfInBounds_toArray, List.set_cons_zero, List.set_cons_succ]
                refine wpAnyH_ready (rs := [5]) (by kernel_rfl) (by simp) ?_
                refine AllReadyH.cons rfl (fun K hK => ?_) AllReadyH.nil
                go_simp
                go_wp2_with fail
                refine hK.out _ _ (HUB.out _ (blw_drew HI.out.1)) (fun hHeld => ?_)
                clear hK K
                try simp only [Act.put, List.setIfInBounds_toArray, List.set_cons_zero, List.set_cons_succ]
                refine tk_at (i := 10) (d := some 50) (v := ?_) rfl rfl (by kernel_rfl) (by kernel_rfl) (by kernel_rfl) (fun _ _ _ h => h) (Or.inl ⟨by rfl, ?_⟩) (by assumption) ?_
                rotate_left
                · (intro w hSw; (try dsimp only at hSw); go_simp; try (with_reducible rfl))
                simp only [Act.put, List.setIfInBounds_toArray, List.set_cons_zero, List.set_cons_succ]
                refine tk_at (i := 11) (d := some 51) (v := ?_) rfl rfl (by kernel_rfl) (by kernel_rfl) (by kernel_rfl) (fun _ _ _ h => h) (Or.inl ⟨by rfl, ?_⟩) (by assumption) ?_
                rotate_left
                · (intro w hSw; (try dsimp only at hSw); go_simp; try (with_reducible rfl))
                simp only [Act.put, List.setIfInBounds_toArray, List.set_cons_zero, List.set_cons_succ]
                refine wpAnyH_ready (rs := [12]) (by kernel_rfl) (by simp) ?_
                refine AllReadyH.cons rfl (fun K hK => ?_) AllReadyH.nil
                go_simp
                go_wp2_with fail
                refine hK.out _ _ (HUB.out _ (blw_drew (HI.out.1.setCell (p := ⟨w.heap.size, k, none⟩) (Nat.le_refl _) _))) (fun hHeld => ?_)
                clear hK K
                try simp only [Act.put, List.setIfInBounds_toArray, List.set_cons_zero, List.set_cons_succ]
                refine wpAnyH_done (by kernel_rfl) ?_ _
                clear hHeld
                have HS6 := hid (heap_setCell_at _ _ k _ _ _ (.int .u32 (u1 : Nat)) HI.out.2)
                rw [HFS.out] at HS6
                clear c6 f6 hx hor
                go_wp2
                go_roundw
                case rel => exact ⟨k + 1, by omega, by go_num, blw_drew (HI.out.1.setCell (p := ⟨w.heap.size, k, none⟩) (Nat.le_refl _) _), by rw [HU1.out]; exact HS6.out⟩
                case measure => simp [intOf]; omega
              · have hnk : decide (k ≤ i) = false := by simp; omega
                go_wp2_with fail
                refine wp_region_held_drew (S := (fun w' => w'.cell? (x.add k) = some (.int .u32 (v : Int)))) (by kernel_rfl) (HUB.out _ (blw_drew HI.out.1)) (fun hHeld => ?_)
                refine tk_at (i := 0) (d := some 40) (v := ?_) rfl rfl (by kernel_rfl) (by kernel_rfl) (by kernel_rfl) (fun _ _ _ h => h) (Or.inl ⟨by rfl, ?_⟩) (by assumption) ?_
                rotate_left
                · (intro w hSw; (try dsimp only at hSw); go_simp; try (with_reducible rfl))
                simp only [Act.put, List.setIfInBounds_toArray, List.set_cons_zero, List.set_cons_succ]
                refine tk_at (i := 1) (d := some 41) (v := ?_) rfl rfl (by kernel_rfl) (by kernel_rfl) (by kernel_rfl) (fun _ _ _ h => h) (Or.inl ⟨by rfl, ?_⟩) (by assumption) ?_
                rotate_left
                · (intro w hSw; (try dsimp only at hSw); go_simp; try (with_reducible rfl))
                simp only [Act.put, List.setIfInBounds_toArray, List.set_cons_zero, List.set_cons_succ]
                refine tk_at (i := 2) (d := some 42) (v := ?_) rfl rfl (by kernel_rfl) (by kernel_rfl) (by kernel_rfl) (fun _ _ _ h => h) (Or.inl ⟨by rfl, ?_⟩) (by assumption) ?_
                rotate_left
                · (intro w hSw; (try dsimp only at hSw); go_simp; try (with_reducible rfl))
                simp only [Act.put, List.setIfInBounds_toArray, List.set_cons_zero, List.set_cons_succ]
                refine tk_at (i := 3) (d := some 43) (v := ?_) rfl rfl (by kernel_rfl) (by kernel_rfl) (by kernel_rfl) (fun _ _ _ h => h) (Or.inl ⟨by rfl, ?_⟩) (by assumption) ?_
                rotate_left
                · (intro w hSw; (try dsimp only at hSw); go_simp; try (with_reducible rfl))
                simp only [Act.put, List.setIfInBounds_toArray, List.set_cons_zero, List.set_cons_succ]
                refine tk_at (i := 4) (d := some 44) (v := ?_) rfl rfl (by kernel_rfl) (by kernel_rfl) (by kernel_rfl) (fun _ _ _ h => h) (Or.inl ⟨by rfl, ?_⟩) (by assumption) ?_
                rotate_left
                · (intro w hSw; (try dsimp only at hSw); go_simp; try (with_reducible rfl))
                simp only [Act.put, List.setIfInBounds_toArray, List.set_cons_zero, List.set_cons_succ]
                refine tk_at (i := 6) (d := some 46) (v := ?_) rfl rfl (by kernel_rfl) (by kernel_rfl) (by kernel_rfl) (fun _ _ _ h => h) (Or.inl ⟨by rfl, ?_⟩) (by assumption) ?_
                rotate_left
                · (intro w hSw; (try dsimp only at hSw); go_simp; try (with_reducible rfl))
                simp only [Act.put, List.setIfInBounds_toArray, List.set_cons_zero, List.set_cons_succ]
                refine tk_at (i := 7) (d := some 47) (v := ?_) rfl rfl (by kernel_rfl) (by kernel_rfl) (by kernel_rfl) (fun _ _ _ h => h) (Or.inl ⟨by rfl, ?_⟩) (by assumption) ?_
                rotate_left
                · (intro w hSw; (try dsimp only at hSw); go_simp; try (with_reducible rfl))
                simp only [Act.put, List.setIfInBounds_toArray, List.set_cons_zero, List.set_cons_succ]
                refine tk_at (i := 8) (d := some 48) (v := ?_) rfl rfl (by kernel_rfl) (by kernel_rfl) (by kernel_rfl) (fun _ _ _ h => h) (Or.inl ⟨by rfl, ?_⟩) (by assumption) ?_
                rotate_left
                · (intro w hSw; (try dsimp only at hSw); go_simp; try (with_reducible rfl))
                simp only [Act.put, List.setIfInBounds_toArray, List.set_cons_zero, List.set_cons_succ]
                refine tk_at (i := 9) (d := some 49) (v := ?_) rfl rfl (by kernel_rfl) (by kernel_rfl) (by kernel_rfl) (fun _ _ _ h => h) (Or.inl ⟨by rfl, ?_⟩) (by assumption) ?_
                rotate_left
                · (intro w hSw; (try dsimp only at hSw); go_simp; try (with_reducible rfl))
                simp only [Act.put, List.setIfInBounds_toArray, List.set_cons_zero, List.set_cons_succ]
                refine wpAnyH_ready (rs := [5]) (by kernel_rfl) (by simp) ?_
                refine AllReadyH.cons rfl (fun K hK => ?_) AllReadyH.nil
                go_simp
                go_wp2_with fail
                refine hK.out _ _ (HUB.out _ (blw_drew HI.out.1)) (fun hHeld => ?_)
                clear hK K
                try simp only [Act.put, List.setIfInBounds_toArray, List.set_cons_zero, List.set_cons_succ]
                refine tk_at (i := 10) (d := some 50) (v := ?_) rfl rfl (by kernel_rfl) (by kernel_rfl) (by kernel_rfl) (fun _ _ _ h => h) (Or.inl ⟨by rfl, ?_⟩) (by assumption) ?_
                rotate_left
                · (intro w hSw; (try dsimp only at hSw); go_simp; try (with_reducible rfl))
                simp only [Act.put, List.setIfInBounds_toArray, List.set_cons_zero, List.set_cons_succ]
                refine tk_at (i := 11) (d := some 51) (v := ?_) rfl rfl (by kernel_rfl) (by kernel_rfl) (by kernel_rfl) (fun _ _ _ h => h) (Or.inl ⟨by rfl, ?_⟩) (by assumption) ?_
                rotate_left
                · (intro w hSw; (try dsimp only at hSw); go_simp; try (with_reducible rfl))
                simp only [Act.put, List.setIfInBounds_toArray, List.set_cons_zero, List.set_cons_succ]
                refine wpAnyH_ready (rs := [12]) (by kernel_rfl) (by simp) ?_
                refine AllReadyH.cons rfl (fun K hK => ?_) AllReadyH.nil
                go_simp
                go_wp2_with fail
                refine hK.out _ _ (HUB.out _ (blw_drew (HI.out.1.setCell (p := ⟨w.heap.size, i, none⟩) (Nat.le_refl _) _))) (fun hHeld => ?_)
                clear hK K
                try simp only [Act.put, List.setIfInBounds_toArray, List.set_cons_zero, List.set_cons_succ]
                refine wpAnyH_done (by kernel_rfl) ?_ _
                clear hHeld
                have HS6 := hid (heap_setCell_at _ _ i _ _ _ (.int .u32 (u1 : Nat)) HI.out.2)
                rw [HFS.out] at HS6
                clear c6 f6 hx hor
                go_wp2
                go_roundw
                case rel => exact ⟨k + 1, by omega, by go_num, blw_drew (HI.out.1.setCell (p := ⟨w.heap.size, i, none⟩) (Nat.le_refl _) _), by rw [HU1.out]; exact HS6.out⟩
                case measure => simp [intOf]; omega
          · have hce : cnd b i k = false := by cases hx : cnd b i k; rfl; exact absurd hx hcd
            have HSS := hid (show ol l b i (k + 1) = ol l b i k by
              show (if cnd b i k then orW (ol l b i k) (l.getD k 0) else ol l b i k) = _
              rw [hce]; rfl)
            rw [← HSS.out] at HI
            clear hB hb0
            have hci : (b = false ∧ ¬ k ≤ i) ∨ (b = true ∧ ¬ i ≤ k) := by
              unfold cnd at hce
              cases b
              · exact Or.inl ⟨rfl, by simpa using hce⟩
              · exact Or.inr ⟨rfl, by simpa using hce⟩
            clear hcd hce
            rcases hci with ⟨rfl, hci⟩ | ⟨rfl, hci⟩
            · go_wp2
              go_roundw
              case rel => exact ⟨k + 1, by omega, by go_num, HI.out.1, HI.out.2⟩
              case measure => simp [intOf]; omega
            · have h1 : k ≤ i := by omega
              go_wp2
              go_roundw
              case rel => exact ⟨k + 1, by omega, by go_num, HI.out.1, HI.out.2⟩
              case measure => simp [intOf]; omega
        · have hke : k = l.length := by omega
          subst hke
          obtain ⟨x, rfl, hx⟩ := (HU.out.below hB) i hlt
          have HSS := hid (show orW (oa l i) l[i] = oa l (i + 1) by show _ = orW (oa l i) (l.getD i 0); rw [List.getD_eq_getElem?_getD, List.getElem?_eq_getElem hlt]; rfl)
          have hor := orw_bits (oa l i) l[i] (oa_lt HL.out i) (HL.out _ (List.getElem_mem hlt))
          rw [HSS.out] at hor
          have HR := hid (show wr.heap[w.heap.size]? = some (.cells (rowF l.length (fo (olF l b) (i + 1) 0)) 30 (0, 0)) by rw [← HFN.out]; exact HI.out.2)
          obtain ⟨v, hv⟩ : ∃ v, l[i] = v := ⟨_, rfl⟩
          rw [hv] at hx hor
          obtain ⟨u0, hu0⟩ : ∃ u0, oa l i = u0 := ⟨_, rfl⟩
          obtain ⟨u1, hu1⟩ : ∃ u1, oa l (i + 1) = u1 := ⟨_, rfl⟩
          rw [hu0, hu1] at hor
          rw [hu0]
          have HU1 := hid hu1
          have HU0 := hid hu0
          clear hB hb0 hv hu1 hu0
          go_wp2
          go_roundw
          case rel => exact ⟨i + 1, by omega, by rw [HU1.out], by go_num, HI.out.1, HR.out⟩
          case measure => simp [intOf]; omega
    · have hke : i = l.length := by omega
      subst hke
      rw [HFE.out] at HH
      clear hB hb0
      go_wp2
      exact bodyPost_ret (v := .tuple #[.slice (some ⟨w.heap.size, 0, none⟩) l.length l.length, .int .u32 (oa l l.length : Nat)]) (by simp [results, Try.results14, go_sem]) rfl ⟨rfl, HH.out.2, HH.out.1⟩
end Go.Proofs.Ytnnmaegpiddnbaa
