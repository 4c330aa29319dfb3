/- Rows of texts that a call makes, and the contract of the document's Lines, over this seat's translation. Conditions: a text's size. -/
import Derived.Test.YtiekffkeagcaiaaDoorChT
import Derived.Test.YtiekffkeagcaiaaDoorChL
namespace Go.Proofs.YtiekffkeagcaiaaDoor
open Go.RowKit
set_option linter.unusedVariables false

/-- a slice of texts, in a block from lo on -/
def StrR (w : World) (lo : Nat) (v : Value) (l : List ByteArray) : Prop := ∃ g cap cs, v = .slice (some ⟨g, 0, none⟩) l.length cap ∧ lo ≤ g ∧ w.heap[g]? = some (.cells cs 9 (0, 0)) ∧ ∀ k, k < l.length → cs[k]? = some (.string (wd l k))
theorem StrR.keep {w w' : World} {lo : Nat} {v : Value} {l : List ByteArray} (r : StrR w lo v l) (hk : ∀ (q : Nat) (cs : Array Value), lo ≤ q → w.heap[q]? = some (.cells cs 9 (0, 0)) → w'.heap[q]? = some (.cells cs 9 (0, 0))) : StrR w' lo v l := by
  obtain ⟨g, cap, cs, h1, h2, h3, h4⟩ := r
  exact ⟨g, cap, cs, h1, h2, hk g cs h2 h3, h4⟩
theorem StrR.below {w w' : World} {lo : Nat} {v : Value} {l : List ByteArray} (r : StrR w lo v l) (hB : Below w.heap.size w w') : StrR w' lo v l :=
  r.keep fun q _ _ h => (hB.block q (lt_of_heap h)).trans h
theorem StrR.base {w : World} {lo b : Nat} {v : Value} {l : List ByteArray} (r : StrR w lo v l) (hb : b ≤ lo) : StrR w b v l := by
  obtain ⟨g, cap, cs, h1, h2, h3⟩ := r
  exact ⟨g, cap, cs, h1, Nat.le_trans hb h2, h3⟩
theorem strR_of_own {w : World} {base g cap : Nat} {l : List ByteArray} (h : w.ownsRow base 9 1 (.slice (some ⟨g, 0, none⟩) l.length cap) l.length (strV l)) : StrR w base (.slice (some ⟨g, 0, none⟩) l.length cap) l := by
  rcases h.2 with ⟨hx, _⟩ | ⟨g', cap', cur, hx, hb, hg, h1, h2, h3, h4⟩
  · cases hx
  · cases hx
    refine ⟨_, _, cur, rfl, hb, hg, fun k hk => ?_⟩
    have : (cur.toList.take (l.length * 1))[k]? = some (.string (wd l k)) := by rw [h4]; exact strV_at hk
    rw [List.getElem?_take] at this
    simp [hk] at this; rw [this]
/-- a slice of such rows that is the call's own -/
structure OutS (w : World) (lo base : Nat) (v : Value) (L : List (List ByteArray)) (vs : List Value) : Prop where
  own : w.ownsRow base 41 1 v L.length vs
  row : ∀ i, i < L.length → ∃ r, vs[i]? = some r ∧ StrR w lo r (L.getD i [])
theorem OutS.nil (w : World) (lo base : Nat) : OutS w lo base (.slice none 0 0) [] [] := ⟨⟨rfl, Or.inl ⟨rfl, rfl⟩⟩, fun i h => by simp at h⟩
theorem OutS.below {w w' : World} {lo base : Nat} {v : Value} {L : List (List ByteArray)} {vs : List Value} (o : OutS w lo base v L vs) (hB : Below w.heap.size w w') : OutS w' lo base v L vs :=
  ⟨owns_below o.own hB, fun i h => by obtain ⟨r, h1, h2⟩ := o.row i h; exact ⟨r, h1, h2.below hB⟩⟩
theorem OutS.base {w : World} {lo base b : Nat} {v : Value} {L : List (List ByteArray)} {vs : List Value} (o : OutS w lo base v L vs) (hl : b ≤ lo) (hb : b ≤ base) : OutS w b b v L vs :=
  ⟨owns_base o.own hb, fun i h => by obtain ⟨r, h1, h2⟩ := o.row i h; exact ⟨r, h1, h2.base hl⟩⟩
theorem OutS.append {w w2 : World} {lo base : Nat} {v v2 r : Value} {L : List (List ByteArray)} {vs : List Value} {l : List ByteArray} (o : OutS w lo base v L vs) (hr : StrR w lo r l) (ho : w2.ownsRow base 41 1 v2 (L.length + 1) (vs ++ [r])) (hg : w.grownBy w2 v.ownBlock) : OutS w2 lo base v2 (L ++ [l]) (vs ++ [r]) := by
  have keep : ∀ (q : Nat) (cs : Array Value), lo ≤ q → w.heap[q]? = some (.cells cs 9 (0, 0)) → w2.heap[q]? = some (.cells cs 9 (0, 0)) := fun q cs _ h =>
    (hg.block q (lt_of_heap h) (fun e => rowNe o.own h (by decide) e.symm)).trans h
  have hlen : vs.length = L.length := by have := o.own.1; omega
  refine ⟨by simpa using ho, fun i hi => ?_⟩
  by_cases e : i < L.length
  · obtain ⟨r', h1, h2⟩ := o.row i e
    refine ⟨r', by rw [List.getElem?_append_left (by omega)]; exact h1, ?_⟩
    rw [List.getD_eq_getElem?_getD, List.getElem?_append_left e, ← List.getD_eq_getElem?_getD]
    exact h2.keep keep
  · have : i = L.length := by simp at hi; omega
    subst this
    refine ⟨r, by rw [← hlen]; simp, ?_⟩
    rw [List.getD_eq_getElem?_getD]
    simp
    exact hr.keep keep
/-- row i of it: where it lies, and its texts -/
theorem OutS.at {w : World} {lo base n : Nat} {ad : Option Addr} {cap : Nat} {L : List (List ByteArray)} {vs : List Value} (o : OutS w lo base (.slice ad n cap) L vs) (hn : n = L.length) (i : Nat) (h : i < L.length) : ∃ g q rc, ad = some ⟨g, 0, none⟩ ∧ w.cell? ⟨g, i, none⟩ = some (.slice (some ⟨q, 0, none⟩) (L.getD i []).length rc) ∧ ∀ k, k < (L.getD i []).length → w.cell? ⟨q, k, none⟩ = some (.string (wd (L.getD i []) k)) := by
  subst hn
  obtain ⟨g, h1, _, _, h2⟩ := owns_cell o.own (by omega)
  obtain ⟨r, h3, q, rc, cs, rfl, _, h5, h6⟩ := o.row i h
  exact ⟨g, q, rc, h1, h2 i _ h3, fun k hk => cell_of_heap h5 (h6 k hk)⟩
theorem infoStrs : (Tryd.prog.info? 41).map (fun i => (i.zero, i.size, i.bytes)) = some (some (.slice none 0 0), 1, 24) := by kernel_rfl
theorem lwV_nil {s : ByteArray} (h : s.size = 0) : lwV s = [] := by unfold lwV lnV; rw [if_pos h]; rfl
theorem lwV_lines {s : ByteArray} (h : s.size ≠ 0) : lwV s = (splS 10 s).map (splS 32) := by unfold lwV lnV; rw [if_neg h]

end Go.Proofs.YtiekffkeagcaiaaDoor
