/- The contract of package rows' Of, over this seat's translation. Conditions: at most a million places. -/
import Derived.Test.YtjcnkigadlmpgaaDoorRwB
import Derived.Laws.MakeOwn
namespace Go.Proofs.YtjcnkigadlmpgaaDoor
open Go.RowKit

theorem run_make_rr (z : Int) (n : Nat) (hz : z = (n : Int)) (hn : n ≤ 1000000) (w : World) : ∃ cs : Array Value, cs.size = n * 2 ∧
    (Instr.makeSlice 66 (.int .i64 z) (.int .i64 z)).run Tryd.prog w = .ok (.slice (some ⟨w.heap.size, 0, none⟩) n n) (w.alloc (.cells cs 65)) := by
  obtain ⟨i0, hi, hz0, hz1, hz2⟩ := info_parts Tryd.infoRR
  subst hz
  have := run_make (P := Tryd.prog) w 66 65 i0 _ Tryd.underlying66 hi hz0 .i64 .i64 n n (by omega) (Int.le_refl _) (by rw [hz2]; omega) (by omega)
  exact ⟨_, by simp [madeCells, hz1], this⟩
theorem cell_some {w : World} {g i : Nat} {cs : Array Value} {t : TypeId} (hb : w.heap[g]? = some (.cells cs t (0, 0))) (h : i < cs.size) : w.cell? ⟨g, i, none⟩ = some cs[i] := cell_of_heap hb (by simp [h])

set_option maxHeartbeats 1600000 in
theorem ofRows_any (n : Int) (b cap : Nat) (zs : List Int) (w : World) (hlen : zs.length ≤ 1000000) (hb : b < w.heap.size) (hcs : ∀ j, j < zs.length → w.cell? ⟨b, j, none⟩ = some (.int .i64 (zs[j]?.getD 0))) :
    Calls Tryd.prog 44 #[.int .i64 n, .slice (some ⟨b, 0, none⟩) zs.length cap] w fun e w' => e = .returned (.slice (some ⟨w.heap.size, 0, none⟩) zs.length zs.length) ∧
      (∀ j (h : j < (zs.map fun z => (z, n)).length), w'.cell? ⟨w.heap.size, j * 2, none⟩ = some (.int .i64 (zs.map fun z => (z, n))[j].1) ∧ w'.cell? ⟨w.heap.size, j * 2 + 1, none⟩ = some (.int .i64 (zs.map fun z => (z, n))[j].2)) ∧ Below w.heap.size w w' ∧ w.heap.size < w'.heap.size := by
  have HC := hid hcs
  obtain ⟨cs0, hs0, hmk⟩ := run_make_rr zs.length zs.length rfl hlen w
  clear hcs
  go_enter Tryd.func44, Tryd.ntmps44
  go_wp2_with fail
  clear hmk
  go_loopw [13] (fun c wr => ∃ (k : Nat) (cs : Array Value), k ≤ zs.length ∧ c = .int .i64 (k : Int) ∧ wr.heap[w.heap.size]? = some (.cells cs 65 (0, 0)) ∧ cs.size = zs.length * 2 ∧ (∀ j (h : j < zs.length), j < k → cs[j * 2]? = some (.int .i64 zs[j]) ∧ cs[j * 2 + 1]? = some (.int .i64 n)) ∧ Below w.heap.size w wr) (fun c _ => zs.length - (intOf c).toNat)
  case atStart => exact ⟨0, cs0, Nat.zero_le _, rfl, heap_alloc_at _ _, hs0, fun j _ h => by omega, (Below.refl _ _).alloc (Nat.le_refl _) _⟩
  case round =>
    obtain ⟨k, cs, hk, rfl, hblk, hsz, hall, hB⟩ := hrel
    have HAL := hid hall
    have HB := hid hB
    have HBK := hid hblk
    have HSZ := hid hsz
    clear hall
    by_cases hlt : k < zs.length
    · have c0 := laterB hB hb (HC.out k hlt)
      rw [List.getElem?_eq_getElem hlt, Option.getD_some] at c0
      obtain ⟨v1, c1⟩ : ∃ v, wr.cell? ⟨w.heap.size, k * 2, none⟩ = some v := ⟨_, cell_some (i := k * 2) hblk (by omega)⟩
      obtain ⟨v2, c2⟩ : ∃ v, wr.cell? ⟨w.heap.size, k * 2 + 1, none⟩ = some v := ⟨_, cell_some (i := k * 2 + 1) hblk (by omega)⟩
      have f1 := frozen_of_heap (i := k * 2) hblk
      have f2 := frozen_of_heap (i := k * 2 + 1) hblk
      obtain ⟨z, hze⟩ : ∃ z, zs[k] = z := ⟨_, rfl⟩
      rw [hze] at c0
      have HZE := hid hze
      clear hblk hB hsz hze
      go_wp2
      go_roundw
      case rel =>
        have hb1 := heap_setCell_at _ _ (k * 2) _ _ _ (.int .i64 z) HBK.out
        have hb2 := heap_setCell_at _ _ (k * 2 + 1) _ _ _ (.int .i64 n) hb1
        refine ⟨k + 1, _, by omega, by go_num, hb2, by simp [HSZ.out], fun j hj hjk => ?_, (HB.out.setCell (p := ⟨w.heap.size, k * 2, none⟩) (by simp) _).setCell (p := ⟨w.heap.size, k * 2 + 1, none⟩) (by simp) _⟩
        have hs := HSZ.out
        by_cases e : j = k
        · subst e
          rw [HZE.out]
          constructor
          · rw [Array.getElem?_setIfInBounds_ne (by omega), Array.getElem?_setIfInBounds_self_of_lt (by omega)]
          · rw [Array.getElem?_setIfInBounds_self_of_lt (by simp; omega)]
        · obtain ⟨k0, k1⟩ := HAL.out j hj (by omega)
          constructor
          · rw [Array.getElem?_setIfInBounds_ne (by omega), Array.getElem?_setIfInBounds_ne (by omega)]; exact k0
          · rw [Array.getElem?_setIfInBounds_ne (by omega), Array.getElem?_setIfInBounds_ne (by omega)]; exact k1
      case measure => simp [intOf]; omega
    · have hke : k = zs.length := by omega
      clear hblk hB hsz
      go_wp2
      go_ret
      refine ⟨rfl, fun j hj => ?_, HB.out, lt_of_heap HBK.out⟩
      have hj' : j < zs.length := by simpa using hj
      obtain ⟨k0, k1⟩ := HAL.out j hj' (by omega)
      rw [List.getElem_map]
      exact ⟨cell_of_heap HBK.out k0, cell_of_heap HBK.out k1⟩

def ApartZ (n : Int) (a b : Int) : Prop := a + n ≤ b ∨ b + n ≤ a
theorem rfine_of (A : Ars) (n : Int) (zs : List Int) (hn : 0 ≤ n) : Rfine A (zs.map fun z => (z, n)) ↔ (∀ z ∈ zs, A.fits z n = true) ∧ zs.Pairwise (ApartZ n) := by
  have e : ∀ l : List Int, ((l.map fun z => (z, n)).filter fun x => decide (0 < x.2)) = if 0 < n then l.map (fun z => (z, n)) else [] := fun l => by
    by_cases h : 0 < n
    · rw [if_pos h]; exact List.filter_eq_self.2 fun x hx => by obtain ⟨z, _, rfl⟩ := List.mem_map.1 hx; simpa using h
    · rw [if_neg h]; exact List.filter_eq_nil_iff.2 fun x hx => by obtain ⟨z, _, rfl⟩ := List.mem_map.1 hx; simpa using h
  unfold Rfine
  rw [e]
  have h1 : (∀ x ∈ zs.map fun z => (z, n), A.fits x.1 x.2 = true) ↔ ∀ z ∈ zs, A.fits z n = true := by simp
  rw [h1]
  refine and_congr_right fun _ => ?_
  by_cases h : 0 < n
  · rw [if_pos h, List.pairwise_map]; exact Iff.rfl
  · rw [if_neg h]
    refine ⟨fun _ => ?_, fun _ => List.Pairwise.nil⟩
    have : n = 0 := by omega
    subst this
    exact List.pairwise_iff_getElem.2 fun i j _ _ _ => by unfold ApartZ; omega
end Go.Proofs.YtjcnkigadlmpgaaDoor
