/- The state of the law CtLogs in its first loop: a log, the events that are wanted, the values that were told; and how each step turns it. Plain facts on worlds. -/
import Derived.Test.YteiienkneojleaaCtO
namespace Go.Proofs.Yteiienkneojleaa
open Go.RowKit

/-- B: the blocks from B on are the call's own; w0: the world when it began. -/
structure St (w0 : World) (B G : Nat) (w : World) (ob : Option Nat) (el ew et : List Ev) (wv tv : Value) : Prop where
  log : LogAt w G ob el.length (ecells el)
  obB : ∀ x, ob = some x → B ≤ x
  want : w.ownsRow B 51 3 wv ew.length (ecells ew)
  told : w.ownsRow B 22 1 tv (toldE et).length (u32s (toldE et))
  sep : ∀ x, wv.ownBlock = some x → ob ≠ some x
  bel : Below B w0 w
  base : B ≤ w0.heap.size
  GB : B ≤ G

theorem row_block {w : World} {base : Nat} {e : TypeId} {size : Nat} {v : Value} {n : Nat} {xs : List Value} (h : w.ownsRow base e size v n xs) {x : Nat} (hx : v.ownBlock = some x) : ∃ cs, w.heap[x]? = some (.cells cs e (0, 0)) := by
  rcases h.2 with ⟨rfl, _⟩ | ⟨g, cap, cur, rfl, hb, hg, _⟩
  · cases hx
  · have : g = x := by simpa [Value.ownBlock] using hx
    subst this; exact ⟨cur, hg⟩
theorem log_block {w : World} {g : Nat} {ob : Option Nat} {n : Nat} {xs : List Value} (h : LogAt w g ob n xs) : (∃ cs, w.heap[g]? = some (.cells cs 67 (0, 0))) ∧ ∀ x, ob = some x → ∃ cs, w.heap[x]? = some (.cells cs 51 (0, 0)) := by
  obtain ⟨v, h1, h2, h3⟩ := h
  exact ⟨⟨_, h1⟩, fun x hx => row_block h3 (h2.trans hx)⟩
theorem types_apart {w : World} {x y : Nat} {c d : Array Value} {s t : TypeId} (h : w.heap[x]? = some (.cells c s (0, 0))) (k : w.heap[y]? = some (.cells d t (0, 0))) (hne : s ≠ t) : x ≠ y := by
  intro e; subst e; rw [h] at k; cases k; exact hne rfl

variable {w0 w : World} {B G : Nat} {ob : Option Nat} {el ew et : List Ev} {wv tv : Value}
theorem St.alloc (h : St w0 B G w ob el ew et wv tv) (o : Obj) : St w0 B G (w.alloc o) ob el ew et wv tv :=
  ⟨h.log.alloc o, h.obB, h.want.alloc o, h.told.alloc o, h.sep, h.bel.alloc (Nat.le_trans h.base h.bel.size) o, h.base, h.GB⟩
theorem St.drew (h : St w0 B G w ob el ew et wv tv) : St w0 B G w.drew ob el ew et wv tv :=
  ⟨h.log.drew, h.obB, h.want, h.told, h.sep, h.bel.drew, h.base, h.GB⟩

theorem St.wantG (h : St w0 B G w ob el ew et wv tv) : ∀ x, wv.ownBlock = some x → x ≠ G := by
  intro x hx
  obtain ⟨c, hc⟩ := row_block h.want hx
  obtain ⟨⟨d, hd⟩, _⟩ := log_block h.log
  exact types_apart hc hd (by decide)
theorem St.toldG (h : St w0 B G w ob el ew et wv tv) : ∀ x, tv.ownBlock = some x → x ≠ G ∧ ob ≠ some x ∧ wv.ownBlock ≠ some x := by
  intro x hx
  obtain ⟨c, hc⟩ := row_block h.told hx
  obtain ⟨⟨d, hd⟩, hr⟩ := log_block h.log
  refine ⟨types_apart hc hd (by decide), fun e => ?_, fun e => ?_⟩
  · obtain ⟨q, hq⟩ := hr x e; exact types_apart hc hq (by decide) rfl
  · obtain ⟨q, hq⟩ := row_block h.want e; exact types_apart hc hq (by decide) rfl

theorem St.note (h : St w0 B G w ob el ew et wv tv) {w' : World} {e : Ev} (hN : Noted G ob el.length (ecells el) (ev e.k e.i e.v) w w') :
    ∃ k, St w0 B G w' (some k) (el ++ [e]) ew et wv tv ∧ Fr (fun i => i = G ∨ ob = some i) w w' := by
  obtain ⟨k, h1, h2, h3⟩ := hN
  have hsz := Nat.le_trans h.base h.bel.size
  refine ⟨k, ⟨?_, ?_, ?_, ?_, ?_, ?_, h.base, h.GB⟩, h3⟩
  · rw [ecells_snoc]; simpa using h1
  · intro x hx; cases hx
    rcases h2 with h2 | h2
    · exact h.obB _ h2
    · omega
  · refine owns_of_blocks h.want fun x hx => h3.block x (h.want.lt x hx).2 ?_
    rintro (e | e)
    · exact h.wantG x hx e
    · exact h.sep x hx e
  · refine owns_of_blocks h.told fun x hx => h3.block x (h.told.lt x hx).2 ?_
    rintro (e | e)
    · exact (h.toldG x hx).1 e
    · exact (h.toldG x hx).2.1 e
  · intro x hx e
    cases e
    rcases h2 with h2 | h2
    · exact h.sep k hx h2
    · have := (h.want.lt k hx).2; omega
  · exact h.bel.trans (h3.below hsz (fun i hi x => x.elim (fun e => by have := h.GB; omega) (fun e => by have := h.obB i e; omega)))

theorem St.wantStep (h : St w0 B G w ob el ew et wv tv) {w' : World} {e : Ev} {g cap H : Nat} (hown : w'.ownsRow B 51 3 (.slice (some ⟨g, 0, none⟩) (ew.length + 1) cap) (ew.length + 1) (ecells ew ++ ev e.k e.i e.v))
    (hgrow : w.grownBy w' wv.ownBlock) (hat : wv.ownBlock = some g ∨ g = H) (hH : w.heap.size = H) : St w0 B G w' ob el (ew ++ [e]) et (.slice (some ⟨g, 0, none⟩) (ew.length + 1) cap) tv := by
  have hF : Fr (fun i => wv.ownBlock = some i) w w' := Fr.grown (Fr.refl _ w) hgrow fun k hk _ => hk
  have hsz := Nat.le_trans h.base h.bel.size
  refine ⟨?_, h.obB, ?_, ?_, ?_, ?_, h.base, h.GB⟩
  · exact h.log.kept hF (fun e => h.wantG G e rfl) (fun k hk e => h.sep k e hk)
  · rw [ecells_snoc]; simpa using hown
  · exact owns_of_blocks h.told fun x hx => hF.block x (h.told.lt x hx).2 (fun e => (h.toldG x hx).2.2 e)
  · intro x hx e
    have : g = x := by simpa [Value.ownBlock] using hx
    subst this
    rcases hat with hat | hat
    · exact h.sep g hat e
    · have := h.log.row_lt g e; omega
  · exact h.bel.trans (hF.below hsz (fun i hi e => by have := (h.want.lt i e).1; omega))

theorem St.toldStep (h : St w0 B G w ob el ew et wv tv) {w' : World} {e : Ev} {g cap : Nat} (he : (e.k == 3) = true) (hown : w'.ownsRow B 22 1 (.slice (some ⟨g, 0, none⟩) ((toldE et).length + 1) cap) ((toldE et).length + 1) (u32s (toldE et) ++ [.int .u32 e.v]))
    (hgrow : w.grownBy w' tv.ownBlock) : St w0 B G w' ob el ew (et ++ [e]) wv (.slice (some ⟨g, 0, none⟩) ((toldE et).length + 1) cap) := by
  have hF : Fr (fun i => tv.ownBlock = some i) w w' := Fr.grown (Fr.refl _ w) hgrow fun k hk _ => hk
  have hsz := Nat.le_trans h.base h.bel.size
  refine ⟨?_, h.obB, ?_, ?_, h.sep, ?_, h.base, h.GB⟩
  · exact h.log.kept hF (fun e => (h.toldG G e).1 rfl) (fun k hk e => (h.toldG k e).2.1 hk)
  · exact owns_of_blocks h.want fun x hx => hF.block x (h.want.lt x hx).2 (fun e => (h.toldG x e).2.2 hx)
  · have : toldE (et ++ [e]) = toldE et ++ [e.v] := by rw [toldE_append]; simp [toldE, he]
    rw [this]; simpa using hown
  · exact h.bel.trans (hF.below hsz (fun i hi e => by have := (h.told.lt i e).1; omega))
theorem St.toldSkip (h : St w0 B G w ob el ew et wv tv) {e : Ev} (he : (e.k == 3) = false) : St w0 B G w ob el ew (et ++ [e]) wv tv := by
  have : toldE (et ++ [e]) = toldE et := by rw [toldE_append]; simp [toldE, he]
  exact ⟨h.log, h.obB, h.want, by rw [this]; exact h.told, h.sep, h.bel, h.base, h.GB⟩
end Go.Proofs.Yteiienkneojleaa
