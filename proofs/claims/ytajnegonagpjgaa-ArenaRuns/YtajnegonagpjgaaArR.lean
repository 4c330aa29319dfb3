/- How a list of acts is read, and what the law's 'few' and 'do' make of it, over this seat's translation. -/
import Derived.Test.YtajnegonagpjgaaArAw
import Derived.ProofKit
import Derived.Deep.Slices
import Derived.OpenShut
namespace Go.Proofs.Ytajnegonagpjgaa
open Go.RowKit

theorem mapM_each {α β : Type} (f : α → Option β) : ∀ (l : List α) (cs : List β), l.mapM f = some cs → ∀ i (h : i < l.length), f l[i] = cs[i]? := by
  intro l
  induction l with
  | nil => intro cs _ i h; simp at h
  | cons x l ih =>
    intro cs hm i h
    simp only [List.mapM_cons, Option.bind_eq_bind, Option.bind_eq_some_iff, Option.pure_def, Option.some.injEq] at hm
    obtain ⟨y, hy, ys, hys, rfl⟩ := hm
    cases i with
    | zero => simpa using hy
    | succ i => simpa using ih ys hys i (by simpa using h)
theorem cells_each {w : World} {base n : Nat} {a : Addr} {cs : List Value} (h : w.cells? base a n = some cs) : ∀ i, i < n → w.cell? (a.add i) = cs[i]? := by
  unfold World.cells? at h
  split at h
  · intro i hi
    have := mapM_each _ _ _ h i (by simpa using hi)
    simpa using this
  · cases h
theorem wf_u8 {n : Int} (h : (Lit.int .u8 n).wf = true) : 0 ≤ n ∧ n < 256 := by
  simp only [Lit.wf, Bool.and_eq_true, decide_eq_true_eq] at h
  have hmin : IntKind.u8.min = 0 := rfl
  have hmax : IntKind.u8.max = 255 := rfl
  omega
theorem wf_i64 {n : Int} (h : (Lit.int .i64 n).wf = true) : -9223372036854775808 ≤ n ∧ n < 9223372036854775808 := by
  simp only [Lit.wf, Bool.and_eq_true, decide_eq_true_eq] at h
  have hmin : IntKind.i64.min = -9223372036854775808 := rfl
  have hmax : IntKind.i64.max = 9223372036854775807 := rfl
  omega

/-- an act, as the law takes it; where its words lie -/
structure Act where
  kd : Nat
  at_ : Int
  n : Int
  v : Nat
  ad : Option Addr
  cap : Nat
  l : List Nat
abbrev Act.cells (t : Act) : List Value := [.int .u8 (t.kd : Int), .int .i64 t.at_, .int .i64 t.n, .int .u32 (t.v : Int), .slice t.ad t.l.length t.cap]
abbrev Act.agg (t : Act) : Value := .agg #[.int .u8 (t.kd : Int), .int .i64 t.at_, .int .i64 t.n, .int .u32 (t.v : Int), .slice t.ad t.l.length t.cap]
/-- its numbers fit, its words lie there -/
structure Act.Ok (w : World) (t : Act) : Prop where
  kd : t.kd < 256
  at1 : t.at_ < 9223372036854775808
  at0 : -9223372036854775808 ≤ t.at_
  n1 : t.n < 9223372036854775808
  n0 : -9223372036854775808 ≤ t.n
  v : t.v < 4294967296
  l : ∀ x ∈ t.l, x < 4294967296
  u : U32s w t.ad t.l
theorem Act.Ok.below {w w' : World} {t : Act} (o : Act.Ok w t) (hb : Below w.heap.size w w') : Act.Ok w' t := ⟨o.kd, o.at1, o.at0, o.n1, o.n0, o.v, o.l, o.u.below hb⟩

variable {H : Type} {enc : TypeId × Value → H}
/-- one act, read -/
theorem read_act {W : World} {base : Nat} {held : Bool} {fuel : Nat} {cs : List Value} {x : DataW H × List MemPlace}
    (h : DataW.trod enc Try.prog W base (fun _ => true) held fuel 32 cs = some x) : ∃ t : Act, cs = t.cells ∧ Act.Ok W t := by
  obtain ⟨xs, n, _, _, hl, hx, hf⟩ := DataW.trod_struct Try.underlying32 h
  have hc : Try.prog.cellsOf 32 = 5 := by kernel_rfl
  have c3 : Try.prog.cellsOf 3 = 1 := by kernel_rfl
  have c5 : Try.prog.cellsOf 5 = 1 := by kernel_rfl
  have c22 : Try.prog.cellsOf 29 = 1 := by kernel_rfl
  have c30 : Try.prog.cellsOf 30 = 1 := by kernel_rfl
  rw [hc] at hl
  obtain ⟨y0, y1, y2, y3, y4, rfl⟩ : ∃ a b c d e, cs = [a, b, c, d, e] := by
    match cs, hl with
    | [a, b, c, d, e], _ => exact ⟨a, b, c, d, e, rfl⟩
  have g0 : DataW.trod enc Try.prog W base (fun _ => true) held n 5 (([y0, y1, y2, y3, y4].drop 0).take (Try.prog.cellsOf 5)) = xs[0]? := hf 0 _ rfl
  have g1 : DataW.trod enc Try.prog W base (fun _ => true) held n 3 (([y0, y1, y2, y3, y4].drop 1).take (Try.prog.cellsOf 3)) = xs[1]? := hf 1 _ rfl
  have g2 : DataW.trod enc Try.prog W base (fun _ => true) held n 3 (([y0, y1, y2, y3, y4].drop 2).take (Try.prog.cellsOf 3)) = xs[2]? := hf 2 _ rfl
  have g3 : DataW.trod enc Try.prog W base (fun _ => true) held n 29 (([y0, y1, y2, y3, y4].drop 3).take (Try.prog.cellsOf 29)) = xs[3]? := hf 3 _ rfl
  have g4 : DataW.trod enc Try.prog W base (fun _ => true) held n 30 (([y0, y1, y2, y3, y4].drop 4).take (Try.prog.cellsOf 30)) = xs[4]? := hf 4 _ rfl
  rw [c5] at g0
  rw [c3] at g1 g2
  rw [c22] at g3
  rw [c30] at g4
  have hx4 : xs.length = 5 := hx
  obtain ⟨z0, z1, z2, z3, z4, rfl⟩ : ∃ a b c d e, xs = [a, b, c, d, e] := by
    match xs, hx4 with
    | [a, b, c, d, e], _ => exact ⟨a, b, c, d, e, rfl⟩
  obtain ⟨a, e0, _, wa⟩ := DataW.trod_int Try.underlying5 (g0.trans rfl)
  obtain ⟨b, e1, _, wb⟩ := DataW.trod_int Try.underlying3 (g1.trans rfl)
  obtain ⟨c, e2, _, wc⟩ := DataW.trod_int Try.underlying3 (g2.trans rfl)
  obtain ⟨d, e3, _, wd⟩ := DataW.trod_int Try.underlying29 (g3.trans rfl)
  obtain ⟨ad, len, cap, zs, e4, hrow⟩ : ∃ ad len cap zs, y4 = .slice ad len cap ∧ IsRow .u32 W ad len cap zs := by
    rcases Go.ChangeShapes.open_ints Try.underlying30 Try.underlying29 c22 (g4.trans rfl) with ⟨hcs, _⟩ | ⟨x, l, c, zs, hcs, _, hl, hm, hz, _, hcell, hwz⟩
    · refine ⟨none, 0, 0, [], ?_, .inl ⟨rfl, rfl, rfl, rfl⟩⟩
      simpa using hcs
    · refine ⟨some x, l, c, zs, ?_, .inr ⟨_, rfl, hl, hm, by simpa using hz, hcell, hwz⟩⟩
      simpa using hcs
  obtain ⟨l, rfl, hlw, hlu⟩ := isRow_u32s hrow
  simp at e0 e1 e2 e3
  subst e0 e1 e2 e3 e4
  have ba := wf_u8 wa
  have bb := wf_i64 wb
  have bc := wf_i64 wc
  have bd := wf_u32 wd
  refine ⟨⟨a.toNat, b, c, d.toNat, ad, cap, l⟩, ?_, ⟨by show a.toNat < 256; omega, bb.2, bb.1, bc.2, bc.1, by show d.toNat < 4294967296; omega, hlw, hlu⟩⟩
  simp only [Act.cells, Int.toNat_of_nonneg ba.1, Int.toNat_of_nonneg bd.1]

/-- the acts that came in -/
def ActAt (w : World) (x : Addr) (k : Nat) (t : Act) : Prop :=
  w.cell? (x.add (k * 5)) = some (.int .u8 (t.kd : Int)) ∧ w.cell? ⟨(x.add (k * 5)).block, (x.add (k * 5)).off + 1, none⟩ = some (.int .i64 t.at_) ∧ w.cell? ⟨(x.add (k * 5)).block, (x.add (k * 5)).off + 2, none⟩ = some (.int .i64 t.n) ∧
    w.cell? ⟨(x.add (k * 5)).block, (x.add (k * 5)).off + 3, none⟩ = some (.int .u32 (t.v : Int)) ∧ w.cell? ⟨(x.add (k * 5)).block, (x.add (k * 5)).off + 4, none⟩ = some (.slice t.ad t.l.length t.cap)
def ActsAt (w : World) (ad : Option Addr) (l : List Act) : Prop :=
  (∀ t ∈ l, Act.Ok w t) ∧ ∀ k (hk : k < l.length), ∃ x, ad = some x ∧ ActAt w x k l[k]
theorem ActAt.below {w w' : World} {x : Addr} {k : Nat} {t : Act} (h : ActAt w x k t) (hb : Below w.heap.size w w') : ActAt w' x k t := by
  obtain ⟨c0, c1, c2, c3, c4⟩ := h
  exact ⟨cell_later hb c0, cell_later hb c1, cell_later hb c2, cell_later hb c3, cell_later hb c4⟩
theorem ActsAt.below {w w' : World} {ad : Option Addr} {l : List Act} (h : ActsAt w ad l) (hb : Below w.heap.size w w') : ActsAt w' ad l :=
  ⟨fun t ht => (h.1 t ht).below hb, fun k hk => by obtain ⟨x, hx, hc⟩ := h.2 k hk; exact ⟨x, hx, hc.below hb⟩⟩

theorem read_acts {W : World} {ad : Option Addr} {len cap : Nat} {d : DataW H} {p : List MemPlace} (h : DataW.Trod enc Try.prog W 0 (fun _ => true) true 22 (.slice ad len cap) d p) :
    ∃ l : List Act, l.length = len ∧ ActsAt W ad l := by
  obtain ⟨fuel, hf⟩ := h
  rcases Deep.open_slice Try.underlying22 hf with ⟨hcs, _⟩ | ⟨a, len', cap', m, n, D, Pl, hcs, _, hlc, _, hm, _, hel⟩
  · simp [Value.cells] at hcs
    obtain ⟨rfl, rfl, rfl⟩ := hcs
    refine ⟨[], rfl, ?_, ?_⟩
    · intro t ht; cases ht
    · intro k hk; cases hk
  · simp [Value.cells] at hcs
    obtain ⟨rfl, rfl, rfl⟩ := hcs
    simp only [if_true] at hm
    subst hm
    have hc : Try.prog.cellsOf 32 = 5 := by kernel_rfl
    rw [hc] at hel
    have hex : ∀ i, i < len → ∃ t : Act, ActAt W a i t ∧ Act.Ok W t := by
      intro i hi
      obtain ⟨cs', h1, h2⟩ := hel i (by omega)
      obtain ⟨t, rfl, hb⟩ := read_act h2
      have hE := cells_each h1
      exact ⟨t, ⟨hE 0 (by decide), hE 1 (by decide), hE 2 (by decide), hE 3 (by decide), hE 4 (by decide)⟩, hb⟩
    obtain ⟨f, hf⟩ := @Deep.choose_lt Act ⟨⟨0, 0, 0, 0, none, 0, []⟩⟩ len _ hex
    refine ⟨(List.range len).map f, by simp, ?_, ?_⟩
    · intro t ht
      obtain ⟨i, hi, rfl⟩ := List.mem_map.1 ht
      exact (hf i (List.mem_range.1 hi)).2
    · intro k hk
      have hk2 : k < len := by simpa using hk
      refine ⟨a, rfl, ?_⟩
      simp only [List.getElem_map, List.getElem_range]
      exact (hf k hk2).1
end Go.Proofs.Ytajnegonagpjgaa
