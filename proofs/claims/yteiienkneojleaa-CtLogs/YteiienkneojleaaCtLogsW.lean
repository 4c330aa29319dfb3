/- The law CtLogs returns true at all lists of notes: how the argument is read, and the way where there are too many. -/
import Derived.Test.YteiienkneojleaaCtLogsR
import Derived.ProofKit
import Derived.Deep.Slices
namespace Go.Proofs.Yteiienkneojleaa
open Go.RowKit

theorem mapM_each {α β : Type} (f : α → Option β) : ∀ (l : List α) (cs : List β), l.mapM f = some cs → ∀ i (h : i < l.length), f l[i] = cs[i]? := by
  intro l
  induction l with
  | nil => intro cs _ i h; simp at h
  | cons x l ih =>
    intro cs hm i h
    simp only [List.mapM_cons, Option.bind_eq_bind, Option.bind_eq_some_iff, Option.pure_def, Option.some.injEq] at hm
    obtain ⟨y, hy, ys, hys, rfl⟩ := hm
    cases i with
    | zero => simpa using hy
    | succ i => simpa using ih ys hys i (by simpa using h)
theorem cells_each {w : World} {base n : Nat} {a : Addr} {cs : List Value} (h : w.cells? base a n = some cs) : ∀ i, i < n → w.cell? (a.add i) = cs[i]? := by
  unfold World.cells? at h
  split at h
  · intro i hi
    have := mapM_each _ _ _ h i (by simpa using hi)
    simpa using this
  · cases h

theorem wf_u8 {n : Int} (h : (Lit.int .u8 n).wf = true) : 0 ≤ n ∧ n < 256 := by
  simp only [Lit.wf, Bool.and_eq_true, decide_eq_true_eq] at h
  have hmin : IntKind.u8.min = 0 := rfl
  have hmax : IntKind.u8.max = 255 := rfl
  omega

variable {H : Type} {enc : TypeId × Value → H}
/-- one note, read -/
theorem read_note {W : World} {base : Nat} {spare : Nat → Bool} {held : Bool} {fuel : Nat} {cs : List Value} {x : DataW H × List MemPlace}
    (h : DataW.trod enc Try.prog W base spare held fuel 48 cs = some x) : ∃ t : Nt, cs = [.int .u8 (t.kd : Int), .int .i64 t.at_, .int .i64 t.n, .int .u32 (t.v : Int)] ∧ t.kd < 256 ∧ t.v < 4294967296 := by
  obtain ⟨xs, n, _, _, hl, hx, hf⟩ := DataW.trod_struct Try.underlying48 h
  have hc : Try.prog.cellsOf 48 = 4 := by kernel_rfl
  have c3 : Try.prog.cellsOf 3 = 1 := by kernel_rfl
  have c5 : Try.prog.cellsOf 5 = 1 := by kernel_rfl
  have c22 : Try.prog.cellsOf 22 = 1 := by kernel_rfl
  rw [hc] at hl
  obtain ⟨y0, y1, y2, y3, rfl⟩ : ∃ a b c d, cs = [a, b, c, d] := by
    match cs, hl with
    | [a, b, c, d], _ => exact ⟨a, b, c, d, rfl⟩
  have g0 : DataW.trod enc Try.prog W base spare held n 5 (([y0, y1, y2, y3].drop 0).take (Try.prog.cellsOf 5)) = xs[0]? := hf 0 _ rfl
  have g1 : DataW.trod enc Try.prog W base spare held n 3 (([y0, y1, y2, y3].drop 1).take (Try.prog.cellsOf 3)) = xs[1]? := hf 1 _ rfl
  have g2 : DataW.trod enc Try.prog W base spare held n 3 (([y0, y1, y2, y3].drop 2).take (Try.prog.cellsOf 3)) = xs[2]? := hf 2 _ rfl
  have g3 : DataW.trod enc Try.prog W base spare held n 22 (([y0, y1, y2, y3].drop 3).take (Try.prog.cellsOf 22)) = xs[3]? := hf 3 _ rfl
  rw [c5] at g0
  rw [c3] at g1 g2
  rw [c22] at g3
  have hx4 : xs.length = 4 := hx
  obtain ⟨z0, z1, z2, z3, rfl⟩ : ∃ a b c d, xs = [a, b, c, d] := by
    match xs, hx4 with
    | [a, b, c, d], _ => exact ⟨a, b, c, d, rfl⟩
  obtain ⟨a, e0, _, wa⟩ := DataW.trod_int Try.underlying5 (g0.trans rfl)
  obtain ⟨b, e1, _, wb⟩ := DataW.trod_int Try.underlying3 (g1.trans rfl)
  obtain ⟨c, e2, _, wc⟩ := DataW.trod_int Try.underlying3 (g2.trans rfl)
  obtain ⟨d, e3, _, wd⟩ := DataW.trod_int Try.underlying22 (g3.trans rfl)
  simp at e0 e1 e2 e3
  subst e0 e1 e2 e3
  have ba := wf_u8 wa
  have bd := wf_u32 wd
  refine ⟨⟨a.toNat, b, c, d.toNat⟩, ?_, by show a.toNat < 256; omega, by show d.toNat < 4294967296; omega⟩
  simp only [Int.toNat_of_nonneg ba.1, Int.toNat_of_nonneg bd.1]

/-- the notes that came in -/
def NotesAt (w : World) (ad : Option Addr) (l : List Nt) : Prop :=
  (∀ t ∈ l, t.kd < 256 ∧ t.v < 4294967296) ∧
  ∀ k (hk : k < l.length), ∃ x, ad = some x ∧ w.cell? (x.add (k * 4)) = some (.int .u8 (l[k].kd : Int)) ∧ w.cell? ⟨(x.add (k * 4)).block, (x.add (k * 4)).off + 1, none⟩ = some (.int .i64 l[k].at_) ∧ w.cell? ⟨(x.add (k * 4)).block, (x.add (k * 4)).off + 2, none⟩ = some (.int .i64 l[k].n) ∧ w.cell? ⟨(x.add (k * 4)).block, (x.add (k * 4)).off + 3, none⟩ = some (.int .u32 (l[k].v : Int))

theorem read_ctLogs {W : World} {ad : Option Addr} {len cap : Nat} {d : DataW H} {p : List MemPlace} (h : DataW.Trod enc Try.prog W 0 (fun _ => true) true 42 (.slice ad len cap) d p) :
    ∃ l : List Nt, l.length = len ∧ NotesAt W ad l := by
  obtain ⟨fuel, hf⟩ := h
  rcases Deep.open_slice Try.underlying42 hf with ⟨hcs, _⟩ | ⟨a, len', cap', m, n, D, Pl, hcs, _, hlc, _, hm, _, hel⟩
  · simp [Value.cells] at hcs
    obtain ⟨rfl, rfl, rfl⟩ := hcs
    refine ⟨[], rfl, ?_, ?_⟩
    · intro t ht; cases ht
    · intro k hk; cases hk
  · simp [Value.cells] at hcs
    obtain ⟨rfl, rfl, rfl⟩ := hcs
    simp only [if_true] at hm
    subst hm
    have hc : Try.prog.cellsOf 48 = 4 := by kernel_rfl
    rw [hc] at hel
    have hex : ∀ i, i < len → ∃ t : Nt, (W.cell? (a.add (i * 4)) = some (.int .u8 (t.kd : Int)) ∧ W.cell? ⟨(a.add (i * 4)).block, (a.add (i * 4)).off + 1, none⟩ = some (.int .i64 t.at_) ∧ W.cell? ⟨(a.add (i * 4)).block, (a.add (i * 4)).off + 2, none⟩ = some (.int .i64 t.n) ∧ W.cell? ⟨(a.add (i * 4)).block, (a.add (i * 4)).off + 3, none⟩ = some (.int .u32 (t.v : Int))) ∧ t.kd < 256 ∧ t.v < 4294967296 := by
      intro i hi
      obtain ⟨cs', h1, h2⟩ := hel i (by omega)
      obtain ⟨t, rfl, hb⟩ := read_note h2
      have hE := cells_each h1
      exact ⟨t, ⟨hE 0 (by decide), hE 1 (by decide), hE 2 (by decide), hE 3 (by decide)⟩, hb⟩
    obtain ⟨f, hf⟩ := @Deep.choose_lt Nt ⟨⟨0, 0, 0, 0⟩⟩ len _ hex
    refine ⟨(List.range len).map f, by simp, ?_, ?_⟩
    · intro t ht
      obtain ⟨i, hi, rfl⟩ := List.mem_map.1 ht
      exact (hf i (List.mem_range.1 hi)).2
    · intro k hk
      have hk2 : k < len := by simpa using hk
      refine ⟨a, rfl, ?_⟩
      simp only [List.getElem_map, List.getElem_range]
      exact (hf k hk2).1

set_option maxRecDepth 100000 in
set_option maxHeartbeats 400000 in
theorem ctLogs_far (ad : Option Addr) (len cap : Nat) (w : World) (hl : 100 < len) :
    Calls Try.prog 7 #[.slice ad len cap] w fun e w' => e = .returned (.bool true) ∧ Below w.heap.size w w' := by
  go_enter Try.func7, Try.ntmps7
  go_wp2_with fail
  refine (awake_any _).mono ?_
  rintro e w1 ⟨rfl, hb1⟩
  go_wp2
  go_ret
  exact ⟨rfl, hb1⟩

theorem ctLogs_walk (ad : Option Addr) (len cap : Nat) (w : World) (h : ∃ l : List Nt, l.length = len ∧ NotesAt w ad l) :
    Calls Try.prog 7 #[.slice ad len cap] w fun e w' => e = .returned (.bool true) ∧ Below w.heap.size w w' := by
  obtain ⟨l, rfl, h1, h2⟩ := h
  by_cases hf : 100 < l.length
  · exact ctLogs_far ad _ cap w hf
  · exact ctLogs_at ad cap l w h1 (by omega) h2
end Go.Proofs.Yteiienkneojleaa
