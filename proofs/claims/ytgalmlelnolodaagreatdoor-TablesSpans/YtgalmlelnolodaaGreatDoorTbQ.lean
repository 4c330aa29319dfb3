/- slices.Grow of a nil slice of spans, slices.Concat of lists of spans, and package tables' Union, over this seat's translation. Conditions: at most 10^9 spans in all; each list is nil or in memory; at most 1000 lists. -/
import Derived.Test.YtgalmlelnolodaaGreatDoorTbN
import Derived.Lib.AppendZeros
import Derived.Laws.AppendOwnNone
namespace Go.Proofs.YtgalmlelnolodaaGreatDoor
open Go.RowKit
set_option linter.unusedVariables false

/-- a list of spans, as a slice: where, the spans, its capacity -/
structure Zsl where
  ad : Option Addr
  l : List Zp
  c : Nat
/-- what the first k lists hold, one behind the other -/
def catZ (Z : List Zsl) (k : Nat) : List Zp := (Z.take k).flatMap (·.l)
theorem catZ_succ (Z : List Zsl) (k : Nat) (h : k < Z.length) : catZ Z (k + 1) = catZ Z k ++ Z[k].l := by
  unfold catZ; rw [List.take_succ_eq_append_getElem h, List.flatMap_append]; simp
theorem catZ_le (Z : List Zsl) (k : Nat) : (catZ Z k).length ≤ (catZ Z Z.length).length := by
  unfold catZ
  rw [List.take_length]
  conv => rhs; rw [← List.take_append_drop k Z, List.flatMap_append, List.length_append]
  omega
/-- lists of spans that came in -/
def ZsIn (w : World) (g : Nat) (Z : List Zsl) : Prop := ∀ k (h : k < Z.length), w.cell? ⟨g, k, none⟩ = some (.slice Z[k].ad Z[k].l.length Z[k].c) ∧ SpIn w Z[k].ad Z[k].l Z[k].c
theorem SpIn.below {w w' : World} {ad : Option Addr} {l : List Zp} {c : Nat} (h : SpIn w ad l c) (hB : Below w.heap.size w w') : SpIn w' ad l c := by
  rcases h with h | ⟨x, h1, h2⟩
  · exact Or.inl h
  · exact Or.inr ⟨x, h1, fun j u hj => cell_below hB (h2 j u hj) (cell_block_lt (h2 j u hj))⟩
theorem ZsIn.below {w w' : World} {g : Nat} {Z : List Zsl} (h : ZsIn w g Z) (hB : Below w.heap.size w w') : ZsIn w' g Z := fun k hk => by
  obtain ⟨h1, h2⟩ := h k hk
  exact ⟨cell_below hB h1 (cell_block_lt h1), h2.below hB⟩
theorem wpList_append_optS {P : Program} {w : World} {ops : Array Oper} {rest : List Oper} {o : Oper} {a : Go.Act} {Q : Exit → Go.Act → World → Prop} (hgd : o.guard = none) (s x : Operand) (t : TypeId)
    (ho : o.op = .call { callee := .builtin .append, args := #[s, x], argTypes := #[t, t] })
    (base : Nat) (e : TypeId) (i : TypeInfo) (z : Value) (size bytes : Nat) (ht : P.underlying t = some (.slice e)) (hi : P.info? e = some i) (hz : i.zero = some z)
    (hsize : i.size = size) (hby : i.bytes = bytes) (hzs : z.cells.size = size) (hsz : 0 < size)
    (v : Value) (n : Nat) (xs : List Value) (hs : a.eval s = v) (hown : w.ownsRow base e size v n xs)
    (ad : Option Addr) (m c : Nat) (news : List Value) (hx : a.eval x = .slice ad m c)
    (hd : (ad = none ∧ m = 0 ∧ c = 0 ∧ news = []) ∨ ∃ q, ad = some q ∧ news.length = m * size ∧ ∀ j u, news[j]? = some u → w.cell? (q.add j) = some u) (h1 : ∀ u ∈ news, u.oneCell' = true)
    (h63 : n + m ≤ maxLen) (hbytes : (n + m) * bytes ≤ 140737488355328) (hbase : base ≤ w.heap.size)
    (h : ∀ v' w', w'.ownsRow base e size v' (n + m) (xs ++ news) → w.grownBy w' v.ownBlock → wpList P ops Q rest (a.put o.dst v') w') : wpList P ops Q (o :: rest) a w := by
  rcases hd with ⟨rfl, rfl, rfl, rfl⟩ | ⟨q, rfl, hl, hn⟩
  · exact wpList_append_own_none hgd s x t ho base e i size ht hi v n xs hs hown hx (h v w (by simpa using hown) ⟨rfl, rfl, rfl, Nat.le_refl _, fun _ _ _ => rfl⟩)
  · exact wpList_append_own w hgd s x t ho base e i z size bytes ht hi hz hsize hby hzs hsz v n xs hs hown q m c news hx hl hn h1 h63 hbytes hbase fun v' w' h2 h3 _ => h v' w' h2 h3
theorem SpIn.src {w : World} {ad : Option Addr} {l : List Zp} {c : Nat} (h : SpIn w ad l c) : (ad = none ∧ l.length = 0 ∧ c = 0 ∧ zpC l = []) ∨ ∃ q, ad = some q ∧ (zpC l).length = l.length * 2 ∧ ∀ j u, (zpC l)[j]? = some u → w.cell? (q.add j) = some u := by
  rcases h with ⟨rfl, rfl, rfl⟩ | ⟨x, rfl, h2⟩
  · exact Or.inl ⟨rfl, rfl, rfl, rfl⟩
  · exact Or.inr ⟨x, rfl, zpC_len l, h2⟩
theorem own_base {w : World} {b c : Nat} {e : TypeId} {size : Nat} {v : Value} {n : Nat} {xs : List Value} (h : w.ownsRow b e size v n xs) (hb : c ≤ b) : w.ownsRow c e size v n xs :=
  ⟨h.1, h.2.elim Or.inl fun ⟨g, cap, cur, hv, hg, r⟩ => Or.inr ⟨g, cap, cur, hv, Nat.le_trans hb hg, r⟩⟩
/-- a row of spans is as one that came in -/
theorem SpIn.own {w : World} {base cap : Nat} {ad : Option Addr} {l : List Zp} (h : w.ownsRow base 47 2 (.slice ad l.length cap) l.length (zpC l)) : SpIn w ad l cap := by
  rcases h.2 with ⟨h0, h1⟩ | ⟨g, cap2, cur, hv, hb, hg, h1, h2, h3, h4⟩
  · injection h0 with e1 e2 e3
    exact Or.inl ⟨e1, List.length_eq_zero_iff.1 h1, e3⟩
  · cases hv
    refine Or.inr ⟨⟨g, 0, none⟩, rfl, fun j u hj => ?_⟩
    rw [add_plain]
    refine cell_of_heap hg ?_
    rw [← h4, List.getElem?_take] at hj
    split at hj
    · simpa using hj
    · cases hj

end Go.Proofs.YtgalmlelnolodaaGreatDoor
