/- An arena in memory: which blocks it has, how each step of memory turns it. Plain facts on worlds. -/
import Derived.Test.YtjcnkigadlmpgaaDoorArP
import Derived.Test.YtjcnkigadlmpgaaDoorLb
namespace Go.Proofs.YtjcnkigadlmpgaaDoor
open Go.RowKit

/-- where an arena lies: its struct, its words, its log -/
structure Hn where
  g : Nat
  rw : Nat
  gl : Nat
abbrev arPtr (h : Hn) : Value := .pointer (some ⟨h.g, 0, none⟩)
abbrev arObj (h : Hn) (n t : Nat) : Obj := .cells #[.slice (some ⟨h.rw, 0, none⟩) n n, .int .i64 t, .pointer (some ⟨h.gl, 0, none⟩)] 61 (0, 0)
/-- F: the blocks that the arena has now. -/
structure Ar (w : World) (h : Hn) (F : Nat → Prop) (A : Ars) : Prop where
  ok : A.ok
  hg : w.heap[h.g]? = some (arObj h A.ws.length A.top)
  hw : w.heap[h.rw]? = some (.cells (secs A.ws).toArray 32 (0, 0))
  hl : ∃ ob, LogAt w h.gl ob A.es.length (ecells A.es) ∧ ∀ i, F i ↔ (i = h.g ∨ i = h.rw ∨ i = h.gl ∨ ob = some i)
/-- w' is w but for blocks of F, and new ones; F' has nothing old that F has not. -/
structure Step (w : World) (F : Nat → Prop) (w' : World) (F' : Nat → Prop) : Prop where
  fr : Fr F w w'
  sub : ∀ i, F' i → F i ∨ w.heap.size ≤ i

theorem Step.refl (w : World) (F : Nat → Prop) : Step w F w F := ⟨Fr.refl _ _, fun _ h => Or.inl h⟩
theorem Step.trans {a b c : World} {F G H : Nat → Prop} (h : Step a F b G) (k : Step b G c H) : Step a F c H :=
  ⟨h.1.trans k.1 fun i hi x => (h.2 i x).resolve_right (by omega), fun i x => (k.2 i x).elim (fun y => h.2 i y) (fun y => Or.inr (Nat.le_trans h.1.size y))⟩
theorem Step.alloc {a b : World} {F G : Nat → Prop} (h : Step a F b G) (o : Obj) : Step a F (b.alloc o) G := ⟨h.1.alloc o, h.2⟩
theorem Step.drew {a b : World} {F G : Nat → Prop} (h : Step a F b G) : Step a F b.drew G := ⟨h.1.drew, h.2⟩
theorem Fr.drewN {S : Nat → Prop} {a b : World} (h : Fr S a b) (k : Nat) : Fr S a (b.drewN k) := ⟨h.os, h.tape, h.output, h.size, h.block⟩
theorem Step.drewN {a b : World} {F G : Nat → Prop} (h : Step a F b G) (k : Nat) : Step a F (b.drewN k) G := ⟨h.1.drewN k, h.2⟩
theorem Step.ofBelow {a b : World} {F : Nat → Prop} (h : Below a.heap.size a b) : Step a F b F := ⟨Fr.ofBelow h, fun _ x => Or.inl x⟩
theorem Step.size {a b : World} {F G : Nat → Prop} (h : Step a F b G) : a.heap.size ≤ b.heap.size := h.1.size
theorem Step.below {a b : World} {F G : Nat → Prop} {B : Nat} (h : Step a F b G) (hB : B ≤ a.heap.size) (hF : ∀ i, F i → B ≤ i) : Below B a b :=
  h.1.below hB fun i hi x => by have := hF i x; omega
theorem Step.high {a b : World} {F G : Nat → Prop} {B : Nat} (h : Step a F b G) (hB : B ≤ a.heap.size) (hF : ∀ i, F i → B ≤ i) : ∀ i, G i → B ≤ i := fun i x => (h.2 i x).elim (hF i) (fun y => by omega)
theorem Step.cell {a b : World} {F G : Nat → Prop} {p : Addr} {v : Value} (h : Step a F b G) (hc : a.cell? p = some v) (hp : ¬ F p.block) : b.cell? p = some v := by
  have hlt : p.block < a.heap.size := by
    rcases Nat.lt_or_ge p.block a.heap.size with hlt | hge
    · exact hlt
    · simp [World.cell?, Array.getElem?_eq_none hge] at hc
  rw [World.cell?_of_block (h.1.block p.block hlt hp)]; exact hc
theorem Step.heap {a b : World} {F G : Nat → Prop} {i : Nat} {o : Obj} (h : Step a F b G) (hc : a.heap[i]? = some o) (hp : ¬ F i) : b.heap[i]? = some o := by
  rw [h.1.block i (lt_of_heap hc) hp]; exact hc

variable {w w' : World} {h : Hn} {F F' G : Nat → Prop} {A : Ars}
theorem Ar.lt (a : Ar w h F A) : ∀ i, F i → i < w.heap.size := by
  obtain ⟨_, h1, h2, ob, h3, hF⟩ := a
  intro i x
  rcases (hF i).1 x with rfl | rfl | rfl | x
  · exact lt_of_heap h1
  · exact lt_of_heap h2
  · exact h3.lt
  · exact h3.row_lt i x
theorem Ar.kept (a : Ar w h F A) (hf : Fr G w w') (hd : ∀ i, F i → ¬ G i) : Ar w' h F A := by
  obtain ⟨ok, h1, h2, ob, h3, hF⟩ := a
  refine ⟨ok, ?_, ?_, ob, ?_, hF⟩
  · rw [hf.block _ (lt_of_heap h1) (hd _ ((hF _).2 (Or.inl rfl)))]; exact h1
  · rw [hf.block _ (lt_of_heap h2) (hd _ ((hF _).2 (Or.inr (Or.inl rfl))))]; exact h2
  · exact h3.kept hf (hd _ ((hF _).2 (Or.inr (Or.inr (Or.inl rfl))))) fun k hk => hd _ ((hF _).2 (Or.inr (Or.inr (Or.inr hk))))
theorem Ar.below (a : Ar w h F A) (hb : Below w.heap.size w w') : Ar w' h F A := a.kept (G := fun _ => False) (Fr.ofBelow hb) fun _ _ x => x
theorem Ar.alloc (a : Ar w h F A) (o : Obj) : Ar (w.alloc o) h F A := a.kept (G := fun _ => False) ((Fr.refl _ w).alloc o) fun _ _ x => x
theorem Ar.drew (a : Ar w h F A) : Ar w.drew h F A := a.kept (G := fun _ => False) (Fr.refl _ w).drew fun _ _ x => x
theorem Ar.drewN (a : Ar w h F A) (k : Nat) : Ar (w.drewN k) h F A := a.kept (G := fun _ => False) (Fr.drewN (Fr.refl _ w) k) fun _ _ x => x
theorem Ar.gF (a : Ar w h F A) : F h.g := by obtain ⟨_, _, _, _, _, hF⟩ := a; exact (hF _).2 (Or.inl rfl)
theorem Ar.c0 (a : Ar w h F A) : w.cell? ⟨h.g, 0, none⟩ = some (.slice (some ⟨h.rw, 0, none⟩) A.ws.length A.ws.length) := cell_of_heap a.hg rfl
theorem Ar.c1 (a : Ar w h F A) : w.cell? ⟨h.g, 1, none⟩ = some (.int .i64 A.top) := cell_of_heap a.hg rfl
theorem Ar.c2 (a : Ar w h F A) : w.cell? ⟨h.g, 2, none⟩ = some (.pointer (some ⟨h.gl, 0, none⟩)) := cell_of_heap a.hg rfl
theorem Ar.f1 (a : Ar w h F A) : w.frozen? ⟨h.g, 1, none⟩ = false := frozen_of_heap a.hg
theorem Ar.fw (a : Ar w h F A) (i : Nat) : w.frozen? ⟨h.rw, i, none⟩ = false := frozen_of_heap a.hw
theorem Ar.cw (a : Ar w h F A) (i : Nat) (hi : i < A.ws.length) : w.cell? ⟨h.rw, i, none⟩ = some (.int .u32 (A.word i : Nat)) := by
  refine cell_of_heap a.hw ?_
  simp [Ars.word, List.getD_eq_getElem?_getD, List.getElem?_eq_getElem hi]
/-- a note to its log -/
theorem Ar.log (a : Ar w h F A) : ∃ ob, LogAt w h.gl ob A.es.length (ecells A.es) ∧ ∀ (w' : World) (e : Ev), Noted h.gl ob A.es.length (ecells A.es) (ev e.k e.i e.v) w w' →
    ∃ F', Ar w' h F' (A.note e) ∧ Step w F w' F' := by
  obtain ⟨ok, h1, h2, ob, h3, hF⟩ := a
  refine ⟨ob, h3, fun w' e hN => ?_⟩
  obtain ⟨k, n1, n2, n3⟩ := hN
  obtain ⟨⟨cl, hl⟩, hr⟩ := log_block h3
  have e1 : h.g ≠ h.gl := types_apart h1 hl (by decide)
  have e2 : h.rw ≠ h.gl := types_apart h2 hl (by decide)
  have e3 : ob ≠ some h.g := fun x => by obtain ⟨c, hc⟩ := hr _ x; exact types_apart h1 hc (by decide) rfl
  have e4 : ob ≠ some h.rw := fun x => by obtain ⟨c, hc⟩ := hr _ x; exact types_apart h2 hc (by decide) rfl
  refine ⟨fun i => i = h.g ∨ i = h.rw ∨ i = h.gl ∨ some k = some i, ⟨Ars.ok_note ok, ?_, ?_, some k, ?_, fun _ => Iff.rfl⟩, ?_, ?_⟩
  · rw [n3.block _ (lt_of_heap h1) (fun x => x.elim e1 e3)]; exact h1
  · rw [n3.block _ (lt_of_heap h2) (fun x => x.elim e2 e4)]; exact h2
  · show LogAt w' h.gl (some k) (A.es ++ [e]).length (ecells (A.es ++ [e]))
    rw [ecells_snoc, List.length_append]; exact n1
  · exact n3.mono fun i _ x => (hF i).2 (x.elim (fun y => Or.inr (Or.inr (Or.inl y))) (fun y => Or.inr (Or.inr (Or.inr y))))
  · rintro i (x | x | x | x)
    · exact Or.inl ((hF i).2 (Or.inl x))
    · exact Or.inl ((hF i).2 (Or.inr (Or.inl x)))
    · exact Or.inl ((hF i).2 (Or.inr (Or.inr (Or.inl x))))
    · cases x
      rcases n2 with y | y
      · exact Or.inl ((hF k).2 (Or.inr (Or.inr (Or.inr y))))
      · exact Or.inr y
theorem secs_set (l : List Nat) (i v : Nat) : secs (l.set i v) = (secs l).set i (.int .u32 (v : Int)) := by simp [secs, List.map_set]
theorem Ar.setWord (a : Ar w h F A) (i v : Nat) (hv : v < 4294967296) : Ar (w.setCell ⟨h.rw, i, none⟩ (.int .u32 (v : Int))) h F ⟨A.ws.set i v, A.top, A.es⟩ ∧ Step w F (w.setCell ⟨h.rw, i, none⟩ (.int .u32 (v : Int))) F := by
  obtain ⟨ok, h1, h2, ob, h3, hF⟩ := a
  obtain ⟨⟨cl, hl⟩, hr⟩ := log_block h3
  have e1 : h.g ≠ h.rw := types_apart h1 h2 (by decide)
  have e2 : h.gl ≠ h.rw := types_apart hl h2 (by decide)
  have e4 : ob ≠ some h.rw := fun x => by obtain ⟨c, hc⟩ := hr _ x; exact types_apart h2 hc (by decide) rfl
  have hfr : Fr (fun i => i = h.rw) w (w.setCell ⟨h.rw, i, none⟩ (.int .u32 (v : Int))) := (Fr.refl _ w).setCell _ fun _ => rfl
  refine ⟨⟨Ars.ok_storeN (i := i) ok hv, ?_, ?_, ob, ?_, hF⟩, hfr.mono fun i _ x => (hF i).2 (Or.inr (Or.inl x)), fun _ x => Or.inl x⟩
  · show _ = some (arObj h (A.ws.set i v).length A.top)
    rw [hfr.block _ (lt_of_heap h1) e1, List.length_set]; exact h1
  · rw [heap_setCell_at _ _ _ _ _ _ _ h2]
    show _ = some (Obj.cells (secs (A.ws.set i v)).toArray 32 (0, 0))
    rw [secs_set]; simp
  · exact h3.kept hfr e2 fun k hk x => e4 (by rw [hk, x])
theorem Ar.setTop (a : Ar w h F A) (z : Int) (t : Nat) (hz : z = (t : Int)) (ht : t ≤ A.ws.length) : Ar (w.setCell ⟨h.g, 1, none⟩ (.int .i64 z)) h F (A.downTo t) ∧ Step w F (w.setCell ⟨h.g, 1, none⟩ (.int .i64 z)) F := by
  subst hz
  obtain ⟨ok, h1, h2, ob, h3, hF⟩ := a
  obtain ⟨⟨cl, hl⟩, hr⟩ := log_block h3
  have e1 : h.rw ≠ h.g := types_apart h2 h1 (by decide)
  have e2 : h.gl ≠ h.g := types_apart hl h1 (by decide)
  have e4 : ob ≠ some h.g := fun x => by obtain ⟨c, hc⟩ := hr _ x; exact types_apart h1 hc (by decide) rfl
  have hfr : Fr (fun i => i = h.g) w (w.setCell ⟨h.g, 1, none⟩ (.int .i64 t)) := (Fr.refl _ w).setCell _ fun _ => rfl
  refine ⟨⟨⟨ht, ok.2⟩, ?_, ?_, ob, ?_, hF⟩, hfr.mono fun i _ x => (hF i).2 (Or.inl x), fun _ x => Or.inl x⟩
  · rw [heap_setCell_at _ _ _ _ _ _ _ h1]; rfl
  · rw [hfr.block _ (lt_of_heap h2) e1]; exact h2
  · exact h3.kept hfr e2 fun k hk x => e4 (by rw [hk, x])
theorem Step.setNew {a b : World} (s : Step a F b F') (p : Addr) (u : Value) (hp : a.heap.size ≤ p.block) : Step a F (b.setCell p u) F' := ⟨s.fr.setCell u fun x => by omega, s.sub⟩
theorem Ar.setOther (a : Ar w h F A) (p : Addr) (u : Value) (hp : ¬ F p.block) : Ar (w.setCell p u) h F A :=
  a.kept (G := fun i => i = p.block) ((Fr.refl _ w).setCell u fun _ => rfl) fun _ x e => hp (e ▸ x)
theorem Step.out {a b : World} (s : Step a F b F') {i : Nat} (h1 : ¬ F i) (h2 : i < a.heap.size) : ¬ F' i := fun x => (s.sub i x).elim h1 fun y => by omega
end Go.Proofs.YtjcnkigadlmpgaaDoor
