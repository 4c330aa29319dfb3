/- The document's Carry (layer 5), over this seat's translation, and what is found and carried, held against the document's. Conditions: at most a million words. -/
import Derived.Test.YtjdbofgjieljlaaScO
namespace Go.Proofs.Ytjdbofgjieljlaa
open Go.RowKit

/-- from the end on, the last one that has -/
def rb (l m : List Nat) (n : Nat) : Nat → Nat
  | 0 => 0
  | j + 1 => if od m (bk n j) then l.getD (bk n j) 0 else rb l m n j
def caF (l m : List Nat) (b : Bool) (i : Nat) : Nat := if b then rb l m l.length (l.length - i) else eV l m true (i + 1)

set_option maxHeartbeats 3200000 in
theorem rcarry_any (ad ae : Option Addr) (c d : Nat) (l m : List Nat) (b : Bool) (w : World) (h1 : U32s w ad l) (h2 : U32s w ae m) (hm : m.length = l.length) (hn : l.length ≤ 1000000) :
    Calls Try.prog 46 #[.slice ad l.length c, .slice ae l.length d, .bool b] w fun e w' => e = .returned (.slice (some ⟨w.heap.size, 0, none⟩) l.length l.length) ∧ w'.heap[w.heap.size]? = some (.cells (rowF l.length (caF l m b)) 31 (0, 0)) ∧ Below w.heap.size w w' := by
  have H1 := hid h1
  have H2 := hid h2
  have HM := hid hm
  have HMK := hid (run_make_uk l.length (by omega))
  have HF0 := hid (fo_start l.length (caF l m b))
  have HFN := hid (fo_next l.length (caF l m b))
  have HFE := hid (fo_end l.length (caF l m b))
  have HFS := hid (fo_set l.length (caF l m b))
  clear h1 h2 hm
  have hmk := HMK.out
  go_enter Try.func46, Try.ntmps46
  go_wp2_with fail
  clear hmk
  go_loopw [8] (fun ci wr => ∃ i : Nat, i ≤ l.length ∧ ci = .int .i64 (i : Int) ∧ Below w.heap.size w wr ∧ wr.heap[w.heap.size]? = some (.cells (rowF l.length (fo (caF l m b) i 0)) 31 (0, 0))) (fun ci _ => l.length - (intOf ci).toNat)
  case atStart => exact ⟨0, Nat.zero_le _, rfl, (by repeat (first | exact Below.refl _ _ | refine blw_alloc ?_ | refine blw_drew ?_ | assumption)), by rw [← HF0.out]; exact heap_alloc_at _ _⟩
  case round =>
    obtain ⟨i, hi, rfl, hB, hb0⟩ := hrel
    have HH := hid (And.intro hB hb0)
    by_cases hlt : i < l.length
    · clear hB hb0
      cases b
      · go_wp2_with fail
        go_loopw [10] (fun ck wr => ∃ k : Nat, k ≤ i + 1 ∧ ck = .int .i64 (k : Int) ∧ Below w.heap.size w wr ∧ wr.heap[w.heap.size]? = some (.cells (rowF l.length (fo (caF l m false) i (eV l m true k))) 31 (0, 0))) (fun ck _ => i + 1 - (intOf ck).toNat)
        case atStart => exact ⟨0, Nat.zero_le _, rfl, HH.out.1, HH.out.2⟩
        case round =>
          obtain ⟨k, hk, rfl, hB, hb0⟩ := hrel
          have HI := hid (And.intro hB hb0)
          by_cases hki : k ≤ i
          · have hkl : k < l.length := by omega
            have hmk : k < m.length := by rw [HM.out]; exact hkl
            obtain ⟨x, rfl, hx⟩ := (H1.out.below hB) k hkl
            obtain ⟨y, rfl, hy⟩ := (H2.out.below hB) k hmk
            have HVS := hid (show eV l m true (k + 1) = if od m k then l[k] else eV l m true k by show (if od m k && (true || !eA m k) then l.getD k 0 else eV l m true k) = _; simp [List.getD, hkl])
            have HHs := hid (fun w => has5_any m[k] w)
            rw [od_at hmk] at HHs
            obtain ⟨o, ho⟩ : ∃ o, od m k = o := ⟨_, rfl⟩
            rw [ho] at HVS HHs
            obtain ⟨xv, hxv⟩ : ∃ xv, l[k] = xv := ⟨_, rfl⟩
            obtain ⟨yv, hyv⟩ : ∃ yv, m[k] = yv := ⟨_, rfl⟩
            rw [hxv] at hx HVS
            rw [hyv] at hy HHs
            have c6 := cell_of_heap (i := i) hb0 (rowF_get hlt)
            have f6 := frozen_of_heap (i := i) hb0
            clear ho hxv hyv hmk hB hb0
            go_wp2_with fail
            refine (HHs.out _).mono ?_
            rintro e w1 ⟨rfl, hw1⟩
            subst w1
            cases o
            · have HR := hid (show wr.heap[w.heap.size]? = some (.cells (rowF l.length (fo (caF l m false) i (eV l m true (k + 1)))) 31 (0, 0)) by rw [HVS.out]; exact HI.out.2)
              clear c6 f6 hx hy
              go_wp2
              go_roundw
              case rel => exact ⟨k + 1, by omega, by go_num, HI.out.1, HR.out⟩
              case measure => simp [intOf]; omega
            · have HS6 := hid (heap_setCell_at _ _ i _ _ _ (.int .u32 (xv : Nat)) HI.out.2)
              rw [HFS.out] at HS6
              have HR := hid (show (wr.setCell ⟨w.heap.size, i, none⟩ (.int .u32 (xv : Nat))).heap[w.heap.size]? = some (.cells (rowF l.length (fo (caF l m false) i (eV l m true (k + 1)))) 31 (0, 0)) by rw [HVS.out]; exact HS6.out)
              go_wp2
              go_roundw
              case rel => exact ⟨k + 1, by omega, by go_num, HI.out.1.setCell (p := ⟨w.heap.size, i, none⟩) (Nat.le_refl _) _, HR.out⟩
              case measure => simp [intOf]; omega
          · have hke : k = i + 1 := by omega
            subst hke
            have HR := hid (show wr.heap[w.heap.size]? = some (.cells (rowF l.length (fo (caF l m false) (i + 1) 0)) 31 (0, 0)) by rw [← HFN.out]; exact HI.out.2)
            clear hB hb0
            go_wp2
            go_roundw
            case rel => exact ⟨i + 1, by omega, by go_num, HI.out.1, HR.out⟩
            case measure => simp [intOf]; omega
      · go_wp2_with fail
        go_loopw [9] (fun ck wr => ∃ j : Nat, j ≤ l.length - i ∧ ck = .int .i64 ((l.length : Int) - 1 - (j : Int)) ∧ Below w.heap.size w wr ∧ wr.heap[w.heap.size]? = some (.cells (rowF l.length (fo (caF l m true) i (rb l m l.length j))) 31 (0, 0))) (fun ck _ => (intOf ck + 1).toNat)
        case atStart => exact ⟨0, Nat.zero_le _, by go_num, HH.out.1, HH.out.2⟩
        case round =>
          obtain ⟨j, hj, rfl, hB, hb0⟩ := hrel
          have HI := hid (And.intro hB hb0)
          by_cases hji : j < l.length - i
          · obtain ⟨k, hke⟩ : ∃ k, bk l.length j = k := ⟨_, rfl⟩
            have hkl : k < l.length := by unfold bk at hke; omega
            have hik : i ≤ k := by unfold bk at hke; omega
            have hkj : (l.length : Int) - 1 - (j : Int) = (k : Int) := by unfold bk at hke; omega
            have HKJ := hid hkj
            have hmk : k < m.length := by rw [HM.out]; exact hkl
            obtain ⟨x, rfl, hx⟩ := (H1.out.below hB) k hkl
            obtain ⟨y, rfl, hy⟩ := (H2.out.below hB) k hmk
            have HVS := hid (show rb l m l.length (j + 1) = if od m k then l[k] else rb l m l.length j by show (if od m (bk l.length j) then l.getD (bk l.length j) 0 else rb l m l.length j) = _; rw [hke]; simp [List.getD, hkl])
            have HHs := hid (fun w => has5_any m[k] w)
            rw [od_at hmk] at HHs
            obtain ⟨o, ho⟩ : ∃ o, od m k = o := ⟨_, rfl⟩
            rw [ho] at HVS HHs
            obtain ⟨xv, hxv⟩ : ∃ xv, l[k] = xv := ⟨_, rfl⟩
            obtain ⟨yv, hyv⟩ : ∃ yv, m[k] = yv := ⟨_, rfl⟩
            rw [hxv] at hx HVS
            rw [hyv] at hy HHs
            have c6 := cell_of_heap (i := i) hb0 (rowF_get hlt)
            have f6 := frozen_of_heap (i := i) hb0
            rw [hkj]
            clear ho hxv hyv hmk hB hb0 hke hkj
            go_wp2_with fail
            refine (HHs.out _).mono ?_
            rintro e w1 ⟨rfl, hw1⟩
            subst w1
            cases o
            · have HR := hid (show wr.heap[w.heap.size]? = some (.cells (rowF l.length (fo (caF l m true) i (rb l m l.length (j + 1)))) 31 (0, 0)) by rw [HVS.out]; exact HI.out.2)
              clear c6 f6 hx hy
              go_wp2
              go_roundw
              case rel => exact ⟨j + 1, by omega, by have := HKJ.out; go_num, HI.out.1, HR.out⟩
              case measure => have := HKJ.out; simp [intOf]
            · have HS6 := hid (heap_setCell_at _ _ i _ _ _ (.int .u32 (xv : Nat)) HI.out.2)
              rw [HFS.out] at HS6
              have HR := hid (show (wr.setCell ⟨w.heap.size, i, none⟩ (.int .u32 (xv : Nat))).heap[w.heap.size]? = some (.cells (rowF l.length (fo (caF l m true) i (rb l m l.length (j + 1)))) 31 (0, 0)) by rw [HVS.out]; exact HS6.out)
              go_wp2
              go_roundw
              case rel => exact ⟨j + 1, by omega, by have := HKJ.out; go_num, HI.out.1.setCell (p := ⟨w.heap.size, i, none⟩) (Nat.le_refl _) _, HR.out⟩
              case measure => have := HKJ.out; simp [intOf]
          · have hje : j = l.length - i := by omega
            have HR := hid (show wr.heap[w.heap.size]? = some (.cells (rowF l.length (fo (caF l m true) (i + 1) 0)) 31 (0, 0)) by rw [← HFN.out]; show _ = some (Obj.cells (rowF l.length (fo (caF l m true) i (rb l m l.length (l.length - i)))) 31 (0, 0)); rw [← hje]; exact HI.out.2)
            have hkj : (l.length : Int) - 1 - (j : Int) = (i : Int) - 1 := by omega
            rw [hkj]
            clear hB hb0 hkj
            go_wp2
            go_roundw
            case rel => exact ⟨i + 1, by omega, by go_num, HI.out.1, HR.out⟩
            case measure => simp [intOf]; omega
    · have hke : i = l.length := by omega
      subst hke
      rw [HFE.out] at HH
      clear hB hb0
      go_wp2
      go_ret
      exact ⟨rfl, HH.out.2, HH.out.1⟩
end Go.Proofs.Ytjdbofgjieljlaa
