/- A row of decompositions in one block, and slices.DeleteFunc as plain mathematics over any elements. No conditions. -/
import Derived.Test.YtgalmlelnolodaaGreatDoorChMd
import Derived.Test.YtgalmlelnolodaaGreatDoorTbV
import Derived.Deep.MidRow
import Derived.Laws.CopyRow
import Derived.Lib.SliceRun
import Derived.Deep.WholeRow
namespace Go.Proofs.YtgalmlelnolodaaGreatDoor
open Go.RowKit
set_option linter.unusedVariables false

section
variable {α : Type}
/-- j elements of l are gone through; those that stay are the first i of the row c; from j on it is as it was -/
structure DstG (f : α → Bool) (l c : List α) (i j : Nat) : Prop where
  len : c.length = l.length
  hij : i < j
  hj : j ≤ l.length
  kept : c.take i = (l.take j).filter f
  rest : c.drop j = l.drop j
theorem filter_stepG (f : α → Bool) (l : List α) (j : Nat) (h : j < l.length) : (l.take (j + 1)).filter f = (l.take j).filter f ++ (if f l[j] then [l[j]] else []) := by
  rw [List.take_succ_eq_append_getElem h, List.filter_append]
  congr 1
  cases hf : f l[j] <;> simp [hf]
theorem DstG.get {f : α → Bool} {l c : List α} {i j : Nat} (d : DstG f l c i j) (h : j < l.length) : c[j]? = some l[j] := by
  have e : (c.drop j)[0]? = (l.drop j)[0]? := by rw [d.rest]
  rw [List.getElem?_drop, List.getElem?_drop] at e
  simpa [h] using e
theorem drop_moreG {l c : List α} {j : Nat} (h : c.drop j = l.drop j) : c.drop (j + 1) = l.drop (j + 1) := by
  rw [← List.drop_drop, ← List.drop_drop, h]
theorem DstG.skip {f : α → Bool} {l c : List α} {i j : Nat} (d : DstG f l c i j) (h : j < l.length) (hf : f l[j] = false) : DstG f l c i (j + 1) :=
  ⟨d.len, Nat.lt_succ_of_lt d.hij, h, by rw [filter_stepG f l j h, hf, d.kept]; simp, drop_moreG d.rest⟩
theorem DstG.put {f : α → Bool} {l c : List α} {i j : Nat} (d : DstG f l c i j) (h : j < l.length) (hf : f l[j] = true) : DstG f l (c.set i l[j]) (i + 1) (j + 1) := by
  have hi : i < c.length := by have := d.len; have := d.hij; omega
  refine ⟨by simp [d.len], Nat.succ_lt_succ d.hij, h, ?_, ?_⟩
  · rw [filter_stepG f l j h, hf, ← d.kept, List.take_succ_eq_append_getElem (by simpa using hi), List.take_set_of_le (Nat.le_refl i)]
    simp
  · rw [List.drop_set_of_lt (Nat.lt_succ_of_lt d.hij)]
    exact drop_moreG d.rest
theorem DstG.done {f : α → Bool} {l c : List α} {i : Nat} (d : DstG f l c i l.length) : c.take i = l.filter f ∧ i ≤ c.length ∧ (l.filter f).length = i := by
  have h := d.kept
  rw [List.take_length] at h
  have h1 := d.hij
  have h2 := d.len
  refine ⟨h, by omega, ?_⟩
  rw [← h, List.length_take]
  omega
theorem DstG.start {f : α → Bool} {l : List α} {k : Nat} (h : k < l.length) (h1 : ∀ j (hj : j < k), f (l[j]'(by omega)) = true) (h2 : f l[k] = false) : DstG f l l k (k + 1) := by
  refine ⟨rfl, Nat.lt_succ_self k, h, ?_, rfl⟩
  rw [filter_stepG f l k h, h2]
  have : (l.take k).filter f = l.take k := List.filter_eq_self.2 fun s hs => by
    obtain ⟨j, hj, rfl⟩ := List.getElem_of_mem hs
    rw [List.length_take] at hj
    rw [List.getElem_take]
    exact h1 j (by omega)
  rw [this]; simp
theorem keep_allG {f : α → Bool} {l : List α} (h : ∀ j (hj : j < l.length), f l[j] = true) : l.filter f = l :=
  List.filter_eq_self.2 fun s hs => by
    obtain ⟨j, hj, rfl⟩ := List.getElem_of_mem hs
    exact h j hj
end

/-- a decomposition, and where its words lie -/
structure Dq where
  d : Dt
  g : Nat
  cap : Nat
abbrev Dq.sl (x : Dq) : Value := .slice (some ⟨x.g, 0, none⟩) x.d.to.length x.cap
abbrev dqA (x : Dq) : List Value := [.int .u32 (x.d.p : Int), x.sl, .bool x.d.c, .bool x.d.a]
/-- decompositions as cells -/
def dqC : List Dq → List Value
  | [] => []
  | s :: r => .int .u32 (s.d.p : Int) :: s.sl :: .bool s.d.c :: .bool s.d.a :: dqC r
theorem dqC_app (l r : List Dq) : dqC (l ++ r) = dqC l ++ dqC r := by
  induction l with
  | nil => rfl
  | cons s t ih => simp [dqC, ih]
theorem dqC_len (l : List Dq) : (dqC l).length = l.length * 4 := by
  induction l with
  | nil => rfl
  | cons s t ih => simp only [dqC, List.length_cons, ih]; omega
theorem dqC_at {l : List Dq} {k : Nat} (h : k < l.length) : (dqC l)[k * 4]? = some (.int .u32 ((l[k].d.p : Nat) : Int)) ∧ (dqC l)[k * 4 + 1]? = some l[k].sl ∧ (dqC l)[k * 4 + 2]? = some (.bool l[k].d.c) ∧ (dqC l)[k * 4 + 3]? = some (.bool l[k].d.a) := by
  induction l generalizing k with
  | nil => simp at h
  | cons s t ih =>
    cases k with
    | zero => exact ⟨rfl, rfl, rfl, rfl⟩
    | succ k =>
      have := ih (k := k) (by simpa using h)
      rw [show (k + 1) * 4 = k * 4 + 1 + 1 + 1 + 1 by omega]
      exact ⟨this.1, this.2.1, this.2.2.1, this.2.2.2⟩
theorem dqC_set (c : List Dq) (i : Nat) (p : Dq) (h : i < c.length) : ((((dqC c).set (i * 4) (.int .u32 (p.d.p : Int))).set (i * 4 + 1) p.sl).set (i * 4 + 2) (.bool p.d.c)).set (i * 4 + 3) (.bool p.d.a) = dqC (c.set i p) := by
  induction c generalizing i with
  | nil => simp at h
  | cons s t ih =>
    cases i with
    | zero => rfl
    | succ k =>
      rw [show (k + 1) * 4 = k * 4 + 1 + 1 + 1 + 1 by omega]
      simp only [dqC, List.set_cons_succ]
      rw [ih k (by simpa using h)]
theorem dqC_one (l : List Dq) : ∀ u ∈ dqC l, u.oneCell' = true := by
  induction l with
  | nil => intro u hu; cases hu
  | cons s r ih =>
    intro u hu
    simp only [dqC, List.mem_cons] at hu
    rcases hu with rfl | rfl | rfl | rfl | hu
    · rfl
    · rfl
    · rfl
    · rfl
    · exact ih u hu
/-- block g holds these decompositions, and what lies behind them -/
def BlkD (w : World) (g : Nat) (c : List Dq) (tl : List Value) : Prop := w.heap[g]? = some (.cells (dqC c ++ tl).toArray 64 (0, 0))
theorem BlkD.lt {w : World} {g : Nat} {c : List Dq} {tl : List Value} (h : BlkD w g c tl) : g < w.heap.size := lt_of_heap h
theorem BlkD.below {w w' : World} {g : Nat} {c : List Dq} {tl : List Value} (h : BlkD w g c tl) (hb : Below w.heap.size w w') : BlkD w' g c tl := by
  unfold BlkD at h ⊢
  rw [hb.block g (lt_of_heap h)]; exact h
theorem BlkD.cell {w : World} {g : Nat} {c : List Dq} {tl : List Value} (h : BlkD w g c tl) {k : Nat} (hk : k < c.length) : w.cell? ⟨g, k * 4, none⟩ = some (.int .u32 ((c[k].d.p : Nat) : Int)) ∧ w.cell? ⟨g, k * 4 + 1, none⟩ = some c[k].sl ∧ w.cell? ⟨g, k * 4 + 2, none⟩ = some (.bool c[k].d.c) ∧ w.cell? ⟨g, k * 4 + 3, none⟩ = some (.bool c[k].d.a) := by
  obtain ⟨h1, h2, h3, h4⟩ := dqC_at hk
  have hl := dqC_len c
  refine ⟨?_, ?_, ?_, ?_⟩
  · exact cell_of_heap h (by rw [List.getElem?_toArray, List.getElem?_append_left (by omega)]; exact h1)
  · exact cell_of_heap h (by rw [List.getElem?_toArray, List.getElem?_append_left (by omega)]; exact h2)
  · exact cell_of_heap h (by rw [List.getElem?_toArray, List.getElem?_append_left (by omega)]; exact h3)
  · exact cell_of_heap h (by rw [List.getElem?_toArray, List.getElem?_append_left (by omega)]; exact h4)
theorem BlkD.there {w : World} {g : Nat} {c : List Dq} {tl : List Value} (h : BlkD w g c tl) {k : Nat} (hk : k < c.length) : w.there g (k * 4) 4 := by
  intro j hj
  refine ⟨?_, frozen_of_heap h⟩
  obtain ⟨h1, h2, h3, h4⟩ := h.cell hk
  have : j = 0 ∨ j = 1 ∨ j = 2 ∨ j = 3 := by omega
  rcases this with rfl | rfl | rfl | rfl
  · rw [show k * 4 + 0 = k * 4 by omega, h1]; rfl
  · rw [h2]; rfl
  · rw [h3]; rfl
  · rw [h4]; rfl
set_option maxHeartbeats 1600000 in
theorem BlkD.put {w : World} {g : Nat} {c : List Dq} {tl : List Value} (h : BlkD w g c tl) {k : Nat} (hk : k < c.length) (p : Dq) : BlkD (w.setCells g (k * 4) (dqA p)) g (c.set k p) tl := by
  unfold BlkD at h ⊢
  simp only [World.setCells]
  rw [setCell_eq_setRow w g (k * 4) _ _ _ _ h]
  have h2 := setRow_heap w g _ ((dqC c ++ tl).toArray.setIfInBounds (k * 4) (.int .u32 (p.d.p : Int))) _ _ h
  rw [setCell_eq_setRow _ g (k * 4 + 1) _ _ _ _ h2]
  have h3 := setRow_heap _ g _ (((dqC c ++ tl).toArray.setIfInBounds (k * 4) (.int .u32 (p.d.p : Int))).setIfInBounds (k * 4 + 1) p.sl) _ _ h2
  rw [show k * 4 + 1 + 1 = k * 4 + 2 by omega, setCell_eq_setRow _ g (k * 4 + 2) _ _ _ _ h3]
  have h4 := setRow_heap _ g _ ((((dqC c ++ tl).toArray.setIfInBounds (k * 4) (.int .u32 (p.d.p : Int))).setIfInBounds (k * 4 + 1) p.sl).setIfInBounds (k * 4 + 2) (.bool p.d.c)) _ _ h3
  rw [show k * 4 + 2 + 1 = k * 4 + 3 by omega, setCell_eq_setRow _ g (k * 4 + 3) _ _ _ _ h4]
  have h5 := setRow_heap _ g _ (((((dqC c ++ tl).toArray.setIfInBounds (k * 4) (.int .u32 (p.d.p : Int))).setIfInBounds (k * 4 + 1) p.sl).setIfInBounds (k * 4 + 2) (.bool p.d.c)).setIfInBounds (k * 4 + 3) (.bool p.d.a)) _ _ h4
  rw [h5]
  have hl := dqC_len c
  have e : ((((dqC c ++ tl).set (k * 4) (.int .u32 (p.d.p : Int))).set (k * 4 + 1) p.sl).set (k * 4 + 2) (.bool p.d.c)).set (k * 4 + 3) (.bool p.d.a) = dqC (c.set k p) ++ tl := by
    rw [List.set_append_left _ _ (by omega), List.set_append_left _ _ (by simp; omega), List.set_append_left _ _ (by simp; omega), List.set_append_left _ _ (by simp; omega), dqC_set c k p hk]
  rw [← e]
  simp only [List.setIfInBounds_toArray]
theorem setCells_belowD {w0 w : World} {g o : Nat} {vs : List Value} {B : Nat} (h : Below B w0 w) (hg : B ≤ g) : Below B w0 (w.setCells g o vs) := by
  induction vs generalizing w o with
  | nil => exact h
  | cons v r ih => exact ih (h.setCell (p := ⟨g, o, none⟩) hg v)
theorem BlkD.own {w : World} {g base cap : Nat} {c : List Dq} {tl : List Value} {i : Nat} (h : BlkD w g c tl) (hb : base ≤ g) (hi : i ≤ c.length) (hc : c.length ≤ cap) (hm : cap ≤ maxLen) (ht : c.length * 4 + tl.length = cap * 4) : w.ownsRow base 64 4 (.slice (some ⟨g, 0, none⟩) i cap) i (dqC (c.take i)) := by
  have hl := dqC_len c
  refine ⟨by rw [dqC_len, List.length_take]; omega, Or.inr ⟨g, cap, _, rfl, hb, h, by omega, hm, by simp; omega, ?_⟩⟩
  have e : dqC c = dqC (c.take i) ++ dqC (c.drop i) := by rw [← dqC_app, List.take_append_drop]
  have e2 : (dqC (c.take i)).length = i * 4 := by rw [dqC_len, List.length_take]; omega
  rw [List.toList_toArray, e, List.append_assoc, ← e2, List.take_left]
theorem blkD_of {w : World} {base cap n : Nat} {ad : Option Addr} {c : List Dq} (h : w.ownsRow base 64 4 (.slice ad n cap) n (dqC c)) (hn : 0 < n) (hc : n = c.length) : ∃ g tl, ad = some ⟨g, 0, none⟩ ∧ base ≤ g ∧ BlkD w g c tl ∧ n ≤ cap ∧ cap ≤ maxLen ∧ c.length * 4 + tl.length = cap * 4 := by
  rcases h.2 with ⟨h0, h1⟩ | ⟨g, cap2, cur, hv, hb, hg, h1, h2, h3, h4⟩
  · omega
  · cases hv
    refine ⟨g, cur.toList.drop (n * 4), rfl, hb, ?_, h1, h2, ?_⟩
    · unfold BlkD; rw [← h4, List.take_append_drop, Array.toArray_toList]; exact hg
    · have hl := dqC_len c
      have h5 := congrArg List.length h4
      rw [List.length_take] at h5
      have h6 : cur.toList.length = cap * 4 := by simpa using h3
      rw [List.length_drop]
      omega
/-- what a call of chart's answers, as such rows -/
theorem OutD.rows {w : World} {lo base : Nat} {v : Value} {its : List Dt} {vs : List Value} (o : OutD w lo base v its vs) : ∃ ds : List Dq, ds.map (·.d) = its ∧ vs = dqC ds ∧ ∀ x ∈ ds, lo ≤ x.g ∧ U32B w x.g x.d.to := by
  have hl := o.own.1
  have hr := o.row
  clear o
  induction its generalizing vs with
  | nil => refine ⟨[], rfl, ?_, fun x hx => by cases hx⟩; exact List.length_eq_zero_iff.1 (by simpa using hl)
  | cons d r ih =>
    obtain ⟨g, cap, h1, h2, h3⟩ := hr 0 (by simp)
    have h1' : ∀ (j : Nat) (x : Value), (dcA d (.slice (some ⟨g, 0, none⟩) d.to.length cap))[j]? = some x → vs[j]? = some x := fun j x hx => by have := h1 j x hx; simpa using this
    simp only [List.length_cons] at hl
    have hd : (vs.drop 4).length = r.length * 4 := by rw [List.length_drop]; omega
    obtain ⟨ds, e1, e2, e3⟩ := ih (vs := vs.drop 4) hd (fun i hi => by
      obtain ⟨g', cap', k1, k2, k3⟩ := hr (i + 1) (by simp; omega)
      refine ⟨g', cap', fun j x hx => ?_, k2, k3⟩
      have := k1 j x hx
      rw [List.getElem?_drop, show 4 + (i * 4 + j) = (i + 1) * 4 + j by omega]
      exact this)
    refine ⟨⟨d, g, cap⟩ :: ds, by rw [List.map_cons, e1], ?_, fun x hx => ?_⟩
    · rw [dqC, ← e2]
      have a0 := h1' 0 _ rfl
      have a1 := h1' 1 _ rfl
      have a2 := h1' 2 _ rfl
      have a3 := h1' 3 _ rfl
      clear ih e2 hd h1 h1' hr hl
      match vs, a0, a1, a2, a3 with
      | [], a0, _, _, _ => cases a0
      | [_], _, a1, _, _ => cases a1
      | [_, _], _, _, a2, _ => cases a2
      | [_, _, _], _, _, _, a3 => cases a3
      | x0 :: x1 :: x2 :: x3 :: t, a0, a1, a2, a3 =>
        simp only [List.getElem?_cons_zero, List.getElem?_cons_succ, Option.some.injEq] at a0 a1 a2 a3
        subst a0 a1 a2 a3
        rfl
    · rcases List.mem_cons.1 hx with rfl | hx
      · exact ⟨h2, h3⟩
      · exact e3 x hx
end Go.Proofs.YtgalmlelnolodaaGreatDoor
