/- The contract of package pack's Pack where it refuses, over this seat's translation. Conditions: at most 20 lanes, in a slice apart from the arena. -/
import Derived.Test.YtnnmaegpiddnbaaPkF
import Derived.Laws.AppendOwnNone
namespace Go.Proofs.Ytnnmaegpiddnbaa
open Go.RowKit

theorem Try.infoInt : (Try.prog.info? 3).map (fun i => (i.zero, i.size, i.bytes)) = some (some (.int .i64 0), 1, 8) := by kernel_rfl
/-- append of a slice that may be nil -/
theorem wpList_append_opt {P : Program} {w : World} {ops : Array Oper} {rest : List Oper} {o : Oper} {a : Go.Act} {Q : Exit → Go.Act → World → Prop} (hgd : o.guard = none) (s x : Operand) (t : TypeId)
    (ho : o.op = .call { callee := .builtin .append, args := #[s, x], argTypes := #[t, t] })
    (base : Nat) (e : TypeId) (i : TypeInfo) (z : Value) (size bytes : Nat) (ht : P.underlying t = some (.slice e)) (hi : P.info? e = some i) (hz : i.zero = some z)
    (hsize : i.size = size) (hby : i.bytes = bytes) (hzs : z.cells.size = size) (hsz : 0 < size)
    (v : Value) (n : Nat) (xs : List Value) (hs : a.eval s = v) (hown : w.ownsRow base e size v n xs)
    (ad : Option Addr) (m c : Nat) (news : List Value) (hx : a.eval x = .slice ad m c)
    (hd : (ad = none ∧ m = 0 ∧ c = 0 ∧ news = []) ∨ ∃ q, ad = some q ∧ news.length = m * size ∧ ∀ j u, news[j]? = some u → w.cell? (q.add j) = some u) (h1 : ∀ u ∈ news, u.oneCell' = true)
    (h63 : n + m ≤ maxLen) (hbytes : (n + m) * bytes ≤ 140737488355328) (hbase : base ≤ w.heap.size)
    (h : ∀ v' w', w'.ownsRow base e size v' (n + m) (xs ++ news) → w.grownBy w' v.ownBlock → wpList P ops Q rest (a.put o.dst v') w') : wpList P ops Q (o :: rest) a w := by
  rcases hd with ⟨rfl, rfl, rfl, rfl⟩ | ⟨q, rfl, hl, hn⟩
  · exact wpList_append_own_none hgd s x t ho base e i size ht hi v n xs hs hown hx (h v w (by simpa using hown) ⟨rfl, rfl, rfl, Nat.le_refl _, fun _ _ _ => rfl⟩)
  · exact wpList_append_own w hgd s x t ho base e i z size bytes ht hi hz hsize hby hzs hsz v n xs hs hown q m c news hx hl hn h1 h63 hbytes hbase fun v' w' h2 h3 _ => h v' w' h2 h3
abbrev ints (zs : List Int) : List Value := zs.map fun z => .int .i64 z
theorem ints_get (zs : List Int) (j : Nat) (hj : j < zs.length) : (ints zs)[j]? = some (.int .i64 (zs[j]?.getD 0)) := by simp [ints, hj]
theorem owns_one (w : World) (B : Nat) (x : Int) (hB : B ≤ w.heap.size) : (w.alloc (.cells #[.int .i64 x] 3 (0, 0))).ownsRow B 3 1 (.slice (some ⟨w.heap.size, 0, none⟩) 1 1) 1 (ints [x]) :=
  ⟨rfl, Or.inr ⟨w.heap.size, 1, #[.int .i64 x], rfl, hB, heap_alloc_at _ _, by decide, by decide, rfl, rfl⟩⟩
/-- a slice of lanes that may be nil -/
def Lz (w : World) (F : Nat → Prop) (ad : Option Addr) (cap : Nat) (zs : List Int) : Prop := (ad = none ∧ cap = 0 ∧ zs = []) ∨ ∃ b, ad = some ⟨b, 0, none⟩ ∧ b < w.heap.size ∧ ¬ F b ∧ ∀ j, j < zs.length → w.cell? ⟨b, j, none⟩ = some (.int .i64 (zs[j]?.getD 0))
theorem Lz.step {w w' : World} {F F' : Nat → Prop} {ad : Option Addr} {cap : Nat} {zs : List Int} (l : Lz w F ad cap zs) (s : Step w F w' F') : Lz w' F' ad cap zs := by
  rcases l with h | ⟨b, h1, h2, h3, h4⟩
  · exact Or.inl h
  · exact Or.inr ⟨b, h1, Nat.lt_of_lt_of_le h2 s.size, s.out h3 h2, fun j hj => s.cell (h4 j hj) h3⟩
theorem Lz.src {w w' : World} {F : Nat → Prop} {ad : Option Addr} {cap : Nat} {zs : List Int} (l : Lz w F ad cap zs) (hB : Below w.heap.size w w') :
    (ad = none ∧ zs.length = 0 ∧ cap = 0 ∧ ints zs = []) ∨ ∃ q, ad = some q ∧ (ints zs).length = zs.length * 1 ∧ ∀ j u, (ints zs)[j]? = some u → w'.cell? (q.add j) = some u := by
  rcases l with ⟨rfl, rfl, rfl⟩ | ⟨b, rfl, h2, h3, h4⟩
  · exact Or.inl ⟨rfl, rfl, rfl, rfl⟩
  · refine Or.inr ⟨_, rfl, by simp, fun j u hj => ?_⟩
    have hl : j < zs.length := by have := (List.getElem?_eq_some_iff.1 hj).1; simpa using this
    rw [ints_get zs j hl] at hj; cases hj
    rw [add_plain]
    exact cell_below hB (h4 j hl) h2
theorem ints_one (zs : List Int) : ∀ u ∈ ints zs, u.oneCell' = true := fun u hu => by
  obtain ⟨z, _, rfl⟩ := List.mem_map.1 hu; rfl

theorem all_row {w w3 : World} {keep : Int} {zs : List Int} {v : Value} (hown : w3.ownsRow (w.heap.size + 1) 3 1 v (1 + zs.length) (ints [keep] ++ ints zs)) (hg : ((w.alloc (.cells #[.int .u32 0] 32 (0, 0))).alloc (.cells #[.int .i64 keep] 3 (0, 0))).grownBy w3 (Value.slice (some ⟨w.heap.size + 1, 0, none⟩) 1 1).ownBlock) :
    ∃ sd sc g, v = .slice sd (1 + zs.length) sc ∧ sd = some ⟨g, 0, none⟩ ∧ (w3.heap[w.heap.size]? = some (.cells #[.int .u32 0] 32 (0, 0)) ∧ Below w.heap.size w w3 ∧ g < w3.heap.size ∧ ∀ j, j < (keep :: zs).length → w3.cell? ⟨g, j, none⟩ = some (.int .i64 ((keep :: zs)[j]?.getD 0))) := by
  obtain ⟨sd, sc, rfl⟩ := owns_shape hown
  obtain ⟨g, rfl, h1, h2, h3⟩ := owns_cell hown (by omega)
  have hB := belowCat (below1p w (.cells #[.int .u32 0] 32 (0, 0))) (below1p _ (.cells #[.int .i64 keep] 3 (0, 0)))
  refine ⟨_, sc, g, rfl, rfl, ?_, hB.grown hg (by simp; omega) (fun k hk => by simp [Value.ownBlock] at hk; omega), h2, fun j hj => h3 j _ (ints_get (keep :: zs) j hj)⟩
  rw [hg.block _ (by simp; omega) (by intro e; simp [Value.ownBlock] at e), heap_alloc_old _ _ _ (by simp)]
  exact heap_alloc_at _ _
end Go.Proofs.Ytnnmaegpiddnbaa
