/- Contracts of package arena (New, Blank, Put, Show, Give), over this seat's translation. Conditions: the log has at most a thousand million events; numbers are those of int. -/
import Derived.Test.YtlnankianpchbaaArB
namespace Go.Proofs.Ytlnankianpchbaa
open Go.RowKit

theorem ar_rel (h : Hn) (F : Nat → Prop) (A : Ars) (at_ : Int) (w : World) (a : Ar w h F A) (ha : at_ < 9223372036854775808) (hn : A.es.length < 1000000000) :
    Calls Try.prog 25 #[arPtr h, .int .i64 at_] w fun e w' => e = .returned (u32 (A.loadV at_ : Nat)) ∧ ∃ F', Ar w' h F' (A.rel at_) ∧ Step w F w' F' := by
  cases hc : A.fits at_ 1
  · refine (ar_rel_no h F A at_ w a ha hc).mono ?_
    rintro e w' ⟨rfl, rfl⟩
    refine ⟨by simp [Ars.loadV, hc], F, ?_, Step.refl _ _⟩
    simp only [Ars.rel, hc]; exact a
  · have h1 := Ars.fits_iff.1 hc
    obtain ⟨i, rfl⟩ := Int.eq_ofNat_of_zero_le h1.1
    refine (ar_rel_yes h F A i w a (by omega) hn).mono ?_
    rintro e w' ⟨rfl, F', a', s'⟩
    refine ⟨by simp [Ars.loadV, hc], F', ?_, s'⟩
    simp only [Ars.rel, hc]; exact a'

theorem Ar.words {w : World} {h : Hn} {F : Nat → Prop} {A : Ars} (a : Ar w h F A) : w.ownsRow 0 47 1 (.slice (some ⟨h.rw, 0, none⟩) A.ws.length A.ws.length) A.ws.length (secs A.ws) := by
  refine ⟨by simp [secs], Or.inr ⟨h.rw, A.ws.length, _, rfl, Nat.zero_le _, a.hw, Nat.le_refl _, ?_, by simp [secs], List.take_of_length_le (by simp [secs])⟩⟩
  have := a.ok.2.1
  unfold maxLen; omega
/-- n words 0 -/
def rowZ (n : Nat) : Array Value := (secs (List.replicate n 0)).toArray
theorem Try.infoSec : (Try.prog.info? 47).map (fun i => (i.zero, i.size, i.bytes)) = some (some (.agg #[.int .u32 0]), 1, 8) := by kernel_rfl
theorem made_rowZ (n : Nat) : madeCells #[Value.int .u32 0] n = rowZ n := by
  unfold rowZ madeCells secs
  apply Array.ext
  · simp
  · intro i h1 h2
    simp [Nat.mod_one]
theorem run_make_secs (z : Int) (n : Nat) (hz : z = (n : Int)) (hn : n ≤ 4194304) (w : World) :
    (Instr.makeSlice 63 (.int .i64 z) (.int .i64 z)).run Try.prog w = .ok (.slice (some ⟨w.heap.size, 0, none⟩) n n) (w.alloc (.cells (rowZ n) 47)) := by
  obtain ⟨i0, hi, hz0, hz1, hz2⟩ := info_parts Try.infoSec
  subst hz
  have := run_make (P := Try.prog) w 63 47 i0 _ Try.underlying63 hi hz0 .i64 .i64 n n (by omega) (Int.le_refl _) (by rw [hz2]; omega) (by omega)
  rw [this, hz1, ← made_rowZ]; simp [Value.cells]

theorem ar_made {w : World} {g r l n : Nat} (hn : n ≤ 4194304) (h1 : w.heap[g]? = some (arObj ⟨g, r, l⟩ n 0)) (h2 : w.heap[r]? = some (.cells (rowZ n) 47 (0, 0))) (h3 : w.heap[l]? = some (.cells #[.slice none 0 0] 71 (0, 0))) :
    Ar w ⟨g, r, l⟩ (fun i => i = g ∨ i = r ∨ i = l ∨ none = some i) (Ars.new n) := by
  refine ⟨Ars.ok_new _ (by omega), ?_, ?_, none, ?_, fun _ => Iff.rfl⟩
  · simpa [Ars.new] using h1
  · simpa [Ars.new, rowZ] using h2
  · exact ⟨.slice none 0 0, h3, rfl, World.ownsRow_nil _ _ _ _⟩

theorem three_at (w : World) (a b c : Obj) : (((w.alloc a).alloc b).alloc c).heap[w.heap.size]? = some a ∧ (((w.alloc a).alloc b).alloc c).heap[w.heap.size + 1]? = some b ∧ (((w.alloc a).alloc b).alloc c).heap[w.heap.size + 1 + 1]? = some c := by
  have e1 : (w.alloc a).heap.size = w.heap.size + 1 := by simp
  have e2 : ((w.alloc a).alloc b).heap.size = w.heap.size + 1 + 1 := by simp
  refine ⟨?_, ?_, ?_⟩
  · rw [heap_alloc_old _ _ _ (by omega), heap_alloc_old _ _ _ (by omega)]; exact heap_alloc_at _ _
  · rw [heap_alloc_old _ _ _ (by omega), ← e1]; exact heap_alloc_at _ _
  · rw [← e2]; exact heap_alloc_at _ _
theorem new_high {s g r l : Nat} (h1 : s ≤ g) (h2 : s ≤ r) (h3 : s ≤ l) : ∀ i, (i = g ∨ i = r ∨ i = l ∨ none = some i) → s ≤ i := by
  rintro i (rfl | rfl | rfl | x)
  · exact h1
  · exact h2
  · exact h3
  · cases x
set_option maxHeartbeats 800000 in
theorem ar_new_at (z : Int) (n : Nat) (w : World) (hz : z < 0 ∧ n = 0 ∨ z = (n : Int)) (hn : n ≤ 4194304) :
    Calls Try.prog 7 #[.int .i64 z] w fun e w' => ∃ h F, e = .returned (arPtr h) ∧ Ar w' h F (Ars.new n) ∧ (∀ i, F i → w.heap.size ≤ i) ∧ Below w.heap.size w w' := by
  rcases hz with ⟨hz, rfl⟩ | rfl
  · have hmk := run_make_secs 0 0 rfl (by decide)
    go_enter Try.func7, Try.ntmps7
    go_wp2
    go_region_with (first | (go_at_call 29; refine (newlog_any _).mono ?_; rintro e w1 ⟨rfl, rfl⟩))
    all_goals
      go_wp2
      go_ret
      first
        | exact ⟨⟨w.heap.size + 1 + 1, w.heap.size, w.heap.size + 1⟩, _, rfl, ar_made hn (three_at w _ _ _).2.2 (three_at w _ _ _).1 (three_at w _ _ _).2.1, new_high (by omega) (Nat.le_refl _) (by omega), (by repeat (first | exact Below.refl _ _ | refine blw_alloc ?_ | refine blw_drew ?_ | assumption))⟩
        | exact ⟨⟨w.heap.size + 1 + 1, w.heap.size + 1, w.heap.size⟩, _, rfl, ar_made hn (three_at w _ _ _).2.2 (three_at w _ _ _).2.1 (three_at w _ _ _).1, new_high (by omega) (by omega) (Nat.le_refl _), (by repeat (first | exact Below.refl _ _ | refine blw_alloc ?_ | refine blw_drew ?_ | assumption))⟩
  · have hmk := run_make_secs n n rfl hn
    go_enter Try.func7, Try.ntmps7
    go_wp2
    go_region_with (first | (go_at_call 29; refine (newlog_any _).mono ?_; rintro e w1 ⟨rfl, rfl⟩))
    all_goals
      go_wp2
      go_ret
      first
        | exact ⟨⟨w.heap.size + 1 + 1, w.heap.size, w.heap.size + 1⟩, _, rfl, ar_made hn (three_at w _ _ _).2.2 (three_at w _ _ _).1 (three_at w _ _ _).2.1, new_high (by omega) (Nat.le_refl _) (by omega), (by repeat (first | exact Below.refl _ _ | refine blw_alloc ?_ | refine blw_drew ?_ | assumption))⟩
        | exact ⟨⟨w.heap.size + 1 + 1, w.heap.size + 1, w.heap.size⟩, _, rfl, ar_made hn (three_at w _ _ _).2.2 (three_at w _ _ _).2.1 (three_at w _ _ _).1, new_high (by omega) (by omega) (Nat.le_refl _), (by repeat (first | exact Below.refl _ _ | refine blw_alloc ?_ | refine blw_drew ?_ | assumption))⟩
end Go.Proofs.Ytlnankianpchbaa
