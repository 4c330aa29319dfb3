/- Rows of words as functions, and new rows of words, over this seat's translation. No conditions but the sizes. -/
import Derived.Test.YtjcnkigadlmpgaaDoorProg
import Derived.Test.YtjcnkigadlmpgaaDoorFs
import Derived.OwnWalk
import Derived.Laws.MakeOwn
namespace Go.Proofs.YtjcnkigadlmpgaaDoor
open Go.RowKit

/-- words of a row of secret words -/
def rowF (n : Nat) (f : Nat → Nat) : Array Value := ((List.range n).map fun j => Value.int .u32 (f j : Int)).toArray
theorem rowF_get {n : Nat} {f : Nat → Nat} {j : Nat} (h : j < n) : (rowF n f)[j]? = some (.int .u32 (f j : Int)) := by
  simp [rowF, h]
theorem rowF_congr {n : Nat} {f g : Nat → Nat} (h : ∀ j, j < n → f j = g j) : rowF n f = rowF n g := by
  unfold rowF
  congr 1
  apply List.map_congr_left
  intro j hj
  rw [h j (List.mem_range.1 hj)]
theorem rowF_set {n : Nat} {f : Nat → Nat} {j v : Nat} : (rowF n f).setIfInBounds j (.int .u32 (v : Int)) = rowF n (fun q => if q = j then v else f q) := by
  apply Array.ext_getElem?
  intro q
  rw [Array.getElem?_setIfInBounds]
  unfold rowF
  by_cases hq : q < n
  · by_cases e : j = q
    · subst e; simp [hq]
    · have e' : ¬ q = j := fun x => e x.symm
      simp [hq, e, e']
  · have e : (List.range n)[q]? = none := by simp; omega
    by_cases e2 : j = q
    · subst e2; simp [hq]
    · simp [hq, e2]
theorem made_rowF (n : Nat) : madeCells #[Value.int .u32 0] n = rowF n (fun _ => 0) := by
  unfold rowF madeCells
  apply Array.ext
  · simp
  · intro i h1 h2
    simp [Nat.mod_one]
theorem Tryd.infoU32w : (Tryd.prog.info? 30).map (fun i => (i.zero, i.size, i.bytes)) = some (some (.int .u32 0), 1, 4) := by kernel_rfl
theorem run_make_uk (n : Nat) (hn : n ≤ 4194304) (w : World) :
    (Instr.makeSlice 22 (.int .i64 (n : Int)) (.int .i64 (n : Int))).run Tryd.prog w = .ok (.slice (some ⟨w.heap.size, 0, none⟩) n n) (w.alloc (.cells (rowF n (fun _ => 0)) 30)) := by
  obtain ⟨i0, hi, hz0, hz1, hz2⟩ := info_parts Tryd.infoU32w
  have := run_make (P := Tryd.prog) w 22 30 i0 _ Tryd.underlying22 hi hz0 .i64 .i64 n n (by omega) (Int.le_refl _) (by rw [hz2]; omega) (by omega)
  rw [this, hz1, ← made_rowF]; simp [Value.cells]
end Go.Proofs.YtjcnkigadlmpgaaDoor
