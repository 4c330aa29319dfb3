/- Rows of words that a call makes, and the contract of the document's Pack (layer 4), over this seat's translation. Conditions: at most 1000 rows, of at most 1000 words. -/
import Derived.Test.YtlnankianpchbaaPkM
namespace Go.Proofs.Ytlnankianpchbaa
open Go.RowKit

theorem Try.infoRowU : (Try.prog.info? 29).map (fun i => (i.zero, i.size, i.bytes)) = some (some (.slice none 0 0), 1, 24) := by kernel_rfl
/-- a row of words, by its header -/
def RowB (w : World) (lo : Nat) (v : Value) (l : List Nat) : Prop := ∃ ra rc, v = .slice ra l.length rc ∧ (l = [] ∨ ∃ q cs, lo ≤ q ∧ ra = some ⟨q, 0, none⟩ ∧ w.heap[q]? = some (.cells cs 31 (0, 0)) ∧ ∀ k (h : k < l.length), cs[k]? = some (.int .u32 (l[k] : Int)))
theorem RowB.keep {w w' : World} {lo : Nat} {v : Value} {l : List Nat} (r : RowB w lo v l) (hk : ∀ (q : Nat) (cs : Array Value), lo ≤ q → w.heap[q]? = some (.cells cs 31 (0, 0)) → w'.heap[q]? = some (.cells cs 31 (0, 0))) : RowB w' lo v l := by
  obtain ⟨ra, rc, h1, h2⟩ := r
  refine ⟨ra, rc, h1, h2.imp id ?_⟩
  rintro ⟨q, cs, h0, h3, h4, h5⟩
  exact ⟨q, cs, h0, h3, hk q cs h0 h4, h5⟩
theorem RowB.below {w w' : World} {lo : Nat} {v : Value} {l : List Nat} (r : RowB w lo v l) (hB : Below w.heap.size w w') : RowB w' lo v l :=
  r.keep fun q _ _ h => (hB.block q (lt_of_heap h)).trans h
theorem RowB.u32s {w : World} {lo : Nat} {ra : Option Addr} {rc n : Nat} {l : List Nat} (r : RowB w lo (.slice ra n rc) l) : n = l.length ∧ U32s w ra l := by
  obtain ⟨ra', rc', h1, h2⟩ := r
  cases h1
  refine ⟨rfl, fun k hk => ?_⟩
  rcases h2 with rfl | ⟨q, cs, _, rfl, h4, h5⟩
  · simp at hk
  · exact ⟨_, rfl, by rw [add_plain]; exact cell_of_heap h4 (h5 k hk)⟩
theorem RowB.one {w : World} {lo : Nat} {v : Value} {l : List Nat} (r : RowB w lo v l) : v.oneCell' = true := by obtain ⟨ra, rc, rfl, _⟩ := r; rfl
theorem rowB_of_own {w : World} {base : Nat} {sd : Option Addr} {sc : Nat} {l : List Nat} (h : w.ownsRow base 31 1 (.slice sd l.length sc) l.length (secs l)) : RowB w base (.slice sd l.length sc) l := by
  refine ⟨sd, sc, rfl, ?_⟩
  rcases h.2 with ⟨_, h0⟩ | ⟨g, cap, cur, hv, hb, hg, h1, h2, h3, h4⟩
  · exact Or.inl (List.eq_nil_of_length_eq_zero h0)
  · cases hv
    refine Or.inr ⟨g, cur, hb, rfl, hg, fun k hk => ?_⟩
    have : (cur.toList.take (l.length * 1))[k]? = some (.int .u32 (l[k] : Int)) := by rw [h4]; simp [secs, hk]
    rw [List.getElem?_take] at this
    simp [hk] at this; exact this
theorem rowB_new (w : World) (lo : Nat) (hlo : lo ≤ w.heap.size) (l : List Nat) : RowB (w.alloc (.cells (secs l).toArray 31 (0, 0))) lo (.slice (some ⟨w.heap.size, 0, none⟩) l.length l.length) l :=
  ⟨_, _, rfl, Or.inr ⟨_, _, hlo, rfl, heap_alloc_at _ _, fun k hk => by simp [secs, hk]⟩⟩
/-- a slice of such rows that is the call's own -/
structure OutR (w : World) (lo base : Nat) (v : Value) (L : List (List Nat)) (vs : List Value) : Prop where
  own : w.ownsRow base 29 1 v L.length vs
  row : ∀ i (h : i < L.length), ∃ r, vs[i]? = some r ∧ RowB w lo r L[i]
theorem OutR.nil (w : World) (lo base : Nat) : OutR w lo base (.slice none 0 0) [] [] := ⟨⟨rfl, Or.inl ⟨rfl, rfl⟩⟩, fun i h => by simp at h⟩
theorem OutR.below {w w' : World} {lo base : Nat} {v : Value} {L : List (List Nat)} {vs : List Value} (o : OutR w lo base v L vs) (hB : Below w.heap.size w w') : OutR w' lo base v L vs :=
  ⟨owns_below o.own hB, fun i h => by obtain ⟨r, h1, h2⟩ := o.row i h; exact ⟨r, h1, h2.below hB⟩⟩
theorem OutR.append {w w2 : World} {lo base : Nat} {v v2 r : Value} {L : List (List Nat)} {vs : List Value} {l : List Nat} (o : OutR w lo base v L vs) (hr : RowB w lo r l) (ho : w2.ownsRow base 29 1 v2 (L.length + 1) (vs ++ [r])) (hg : w.grownBy w2 v.ownBlock) : OutR w2 lo base v2 (L ++ [l]) (vs ++ [r]) := by
  have keep : ∀ (q : Nat) (cs : Array Value), lo ≤ q → w.heap[q]? = some (.cells cs 31 (0, 0)) → w2.heap[q]? = some (.cells cs 31 (0, 0)) := fun q cs _ h =>
    (hg.block q (lt_of_heap h) (fun e => rowNe o.own h (by decide) e.symm)).trans h
  have hlen : vs.length = L.length := by have := o.own.1; omega
  refine ⟨by simpa using ho, fun i hi => ?_⟩
  by_cases e : i < L.length
  · obtain ⟨r', h1, h2⟩ := o.row i e
    exact ⟨r', by rw [List.getElem?_append_left (by omega)]; exact h1, by rw [List.getElem_append_left e]; exact h2.keep keep⟩
  · have : i = L.length := by simp at hi; omega
    subst this
    exact ⟨r, by rw [← hlen]; simp, by simp; exact hr.keep keep⟩
theorem OutR.at {w : World} {lo base n : Nat} {ad : Option Addr} {cap : Nat} {L : List (List Nat)} {vs : List Value} (o : OutR w lo base (.slice ad n cap) L vs) (hn : n = L.length) (i : Nat) (h : i < L.length) : ∃ g ra rc, ad = some ⟨g, 0, none⟩ ∧ w.cell? ⟨g, i, none⟩ = some (.slice ra (L[i]).length rc) ∧ RowB w lo (.slice ra (L[i]).length rc) L[i] := by
  subst hn
  obtain ⟨g, h1, _, _, h2⟩ := owns_cell o.own (by omega)
  obtain ⟨r, h3, h4⟩ := o.row i h
  obtain ⟨ra, rc, rfl, _⟩ := id h4
  exact ⟨g, ra, rc, h1, h2 i _ h3, h4⟩
theorem OutR.grid {w : World} {lo base : Nat} {ad : Option Addr} {cap : Nat} {L : List (List Nat)} {vs : List Value} (o : OutR w lo base (.slice ad L.length cap) L vs) : Grid w ad L := fun i h => by
  obtain ⟨g, ra, rc, h1, h2, h3⟩ := o.at rfl i h
  exact ⟨_, h1, ra, rc, by rw [add_plain]; exact h2, h3.u32s.2⟩
theorem OutR.step {w w' : World} {lo base : Nat} {v : Value} {L : List (List Nat)} {vs : List Value} {F F' : Nat → Prop} (o : OutR w lo base v L vs) (s : Step w F w' F') (hF : ∀ q, lo ≤ q → q < w.heap.size → ¬ F q) (hb : lo ≤ base) : OutR w' lo base v L vs :=
  ⟨owns_of_blocks o.own fun q hq => s.fr.block q (o.own.lt q hq).2 (hF q (Nat.le_trans hb (o.own.lt q hq).1) (o.own.lt q hq).2),
    fun i h => by obtain ⟨r, h1, h2⟩ := o.row i h; exact ⟨r, h1, h2.keep fun q _ h0 h3 => s.heap h3 (hF q h0 (lt_of_heap h3))⟩⟩
/-- the rows that are kept, of the first k -/
def kpR (kl : List Nat) (L : List (List Nat)) (k : Nat) : List (List Nat) := (kp (fun i => kl.getD i 0 % 2 == 1) k).map fun p => L.getD p []
theorem kpR_yes (kl : List Nat) (L : List (List Nat)) (k : Nat) (h : kl.getD k 0 % 2 = 1) : kpR kl L (k + 1) = kpR kl L k ++ [L.getD k []] := by
  have hb : (kl.getD k 0 % 2 == 1) = true := by simpa using h
  unfold kpR; rw [kp_succ, hb]; simp
theorem kpR_no (kl : List Nat) (L : List (List Nat)) (k : Nat) (h : ¬ kl.getD k 0 % 2 = 1) : kpR kl L (k + 1) = kpR kl L k := by
  have hb : (kl.getD k 0 % 2 == 1) = false := by simpa using h
  unfold kpR; rw [kp_succ, hb]; simp
theorem kpR_len (kl : List Nat) (L : List (List Nat)) (k : Nat) : (kpR kl L k).length = rk (fun i => kl.getD i 0 % 2 == 1) k := by simp [kpR, rk]
/-- and zeros, up to row m -/
def wantR (kl : List Nat) (L : List (List Nat)) (m : Nat) : List (List Nat) := kpR kl L L.length ++ ((List.range (m - rk (fun i => kl.getD i 0 % 2 == 1) L.length)).map fun j => List.replicate (L.getD (rk (fun i => kl.getD i 0 % 2 == 1) L.length + j) []).length 0)
end Go.Proofs.Ytlnankianpchbaa
