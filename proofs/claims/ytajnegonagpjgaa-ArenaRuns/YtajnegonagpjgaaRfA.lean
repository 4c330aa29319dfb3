/- The document's own arena in memory, and contracts of its calls (note, In, Fits, New), over this seat's translation. Conditions: at most a thousand million events; numbers are those of int. -/
import Derived.Test.YtajnegonagpjgaaArBl
namespace Go.Proofs.Ytajnegonagpjgaa
open Go.RowKit

/-- where it lies: its struct, its words -/
structure Hr where
  g : Nat
  rw : Nat
abbrev rfPtr (h : Hr) : Value := .pointer (some ⟨h.g, 0, none⟩)
abbrev rfObj (h : Hr) (n t : Nat) (v : Value) : Obj := .cells #[.slice (some ⟨h.rw, 0, none⟩) n n, .int .i64 t, v] 37 (0, 0)
structure Rf (w : World) (h : Hr) (F : Nat → Prop) (A : Ars) : Prop where
  ok : A.ok
  hw : w.heap[h.rw]? = some (.cells (secs A.ws).toArray 29 (0, 0))
  hl : ∃ ad cap ob, w.heap[h.g]? = some (rfObj h A.ws.length A.top (.slice ad A.es.length cap)) ∧ (Value.slice ad A.es.length cap).ownBlock = ob ∧ w.ownsRow 0 43 3 (.slice ad A.es.length cap) A.es.length (ecells A.es) ∧ ∀ i, F i ↔ (i = h.g ∨ i = h.rw ∨ ob = some i)

variable {w w' : World} {h : Hr} {F F' G : Nat → Prop} {A : Ars}
theorem Rf.lt (a : Rf w h F A) : ∀ i, F i → i < w.heap.size := by
  obtain ⟨_, h2, ad, cap, ob, h1, ho, hr, hF⟩ := a
  intro i x
  rcases (hF i).1 x with rfl | rfl | x
  · exact lt_of_heap h1
  · exact lt_of_heap h2
  · exact (hr.lt i (ho.trans x)).2
theorem Rf.kept (a : Rf w h F A) (hf : Fr G w w') (hd : ∀ i, F i → ¬ G i) : Rf w' h F A := by
  obtain ⟨ok, h2, ad, cap, ob, h1, ho, hr, hF⟩ := a
  refine ⟨ok, ?_, ad, cap, ob, ?_, ho, ?_, hF⟩
  · rw [hf.block _ (lt_of_heap h2) (hd _ ((hF _).2 (Or.inr (Or.inl rfl))))]; exact h2
  · rw [hf.block _ (lt_of_heap h1) (hd _ ((hF _).2 (Or.inl rfl)))]; exact h1
  · exact owns_of_blocks hr fun k hk => hf.block k (hr.lt k hk).2 (hd k ((hF k).2 (Or.inr (Or.inr (ho ▸ hk)))))
theorem rf_owns (h : Hr) (A : Ars) : Owns (fun w F => Rf w h F A) := ⟨fun a => a.lt, fun a hf hd => a.kept hf hd⟩
theorem Rf.below (a : Rf w h F A) (hb : Below w.heap.size w w') : Rf w' h F A := a.kept (G := fun _ => False) (Fr.ofBelow hb) fun _ _ x => x
theorem Rf.alloc (a : Rf w h F A) (o : Obj) : Rf (w.alloc o) h F A := a.kept (G := fun _ => False) ((Fr.refl _ w).alloc o) fun _ _ x => x
theorem Rf.drew (a : Rf w h F A) : Rf w.drew h F A := a.kept (G := fun _ => False) (Fr.refl _ w).drew fun _ _ x => x
theorem Rf.drewN (a : Rf w h F A) (k : Nat) : Rf (w.drewN k) h F A := a.kept (G := fun _ => False) (Fr.drewN (Fr.refl _ w) k) fun _ _ x => x
theorem Rf.gF (a : Rf w h F A) : F h.g := by obtain ⟨_, _, _, _, _, _, _, _, hF⟩ := a; exact (hF _).2 (Or.inl rfl)
theorem Rf.c0 (a : Rf w h F A) : w.cell? ⟨h.g, 0, none⟩ = some (.slice (some ⟨h.rw, 0, none⟩) A.ws.length A.ws.length) := by
  obtain ⟨_, _, _, _, _, h1, _⟩ := a; exact cell_of_heap h1 rfl
theorem Rf.c1 (a : Rf w h F A) : w.cell? ⟨h.g, 1, none⟩ = some (.int .i64 A.top) := by
  obtain ⟨_, _, _, _, _, h1, _⟩ := a; exact cell_of_heap h1 rfl
theorem Rf.f1 (a : Rf w h F A) : w.frozen? ⟨h.g, 1, none⟩ = false := by
  obtain ⟨_, _, _, _, _, h1, _⟩ := a; exact frozen_of_heap h1
theorem Rf.fw (a : Rf w h F A) (i : Nat) : w.frozen? ⟨h.rw, i, none⟩ = false := frozen_of_heap a.hw
theorem Rf.cw (a : Rf w h F A) (i : Nat) (hi : i < A.ws.length) : w.cell? ⟨h.rw, i, none⟩ = some (.int .u32 (A.word i : Nat)) := by
  refine cell_of_heap a.hw ?_
  simp [Ars.word, List.getD_eq_getElem?_getD, List.getElem?_eq_getElem hi]
theorem Rf.setWord (a : Rf w h F A) (i v : Nat) (hv : v < 4294967296) : Rf (w.setCell ⟨h.rw, i, none⟩ (.int .u32 (v : Int))) h F ⟨A.ws.set i v, A.top, A.es⟩ ∧ Step w F (w.setCell ⟨h.rw, i, none⟩ (.int .u32 (v : Int))) F := by
  obtain ⟨ok, h2, ad, cap, ob, h1, ho, hr, hF⟩ := a
  have e1 : h.g ≠ h.rw := types_apart h1 h2 (by decide)
  have e4 : ∀ k, (Value.slice ad A.es.length cap).ownBlock = some k → k ≠ h.rw := fun k hk => by
    obtain ⟨c, hc⟩ := row_block hr hk
    exact types_apart hc h2 (by decide)
  have hfr : Fr (fun i => i = h.rw) w (w.setCell ⟨h.rw, i, none⟩ (.int .u32 (v : Int))) := (Fr.refl _ w).setCell _ fun _ => rfl
  refine ⟨⟨Ars.ok_storeN (i := i) ok hv, ?_, ad, cap, ob, ?_, ho, ?_, hF⟩, hfr.mono fun i _ x => (hF i).2 (Or.inr (Or.inl x)), fun _ x => Or.inl x⟩
  · rw [heap_setCell_at _ _ _ _ _ _ _ h2]
    show _ = some (Obj.cells (secs (A.ws.set i v)).toArray 29 (0, 0))
    rw [secs_set]; simp
  · show _ = some (rfObj h (A.ws.set i v).length A.top _)
    rw [hfr.block _ (lt_of_heap h1) e1, List.length_set]; exact h1
  · exact owns_of_blocks hr fun k hk => hfr.block k (hr.lt k hk).2 (e4 k hk)
theorem Rf.setTop (a : Rf w h F A) (z : Int) (t : Nat) (hz : z = (t : Int)) (ht : t ≤ A.ws.length) : Rf (w.setCell ⟨h.g, 1, none⟩ (.int .i64 z)) h F (A.downTo t) ∧ Step w F (w.setCell ⟨h.g, 1, none⟩ (.int .i64 z)) F := by
  subst hz
  obtain ⟨ok, h2, ad, cap, ob, h1, ho, hr, hF⟩ := a
  have e1 : h.rw ≠ h.g := types_apart h2 h1 (by decide)
  have e4 : ∀ k, (Value.slice ad A.es.length cap).ownBlock = some k → k ≠ h.g := fun k hk => by
    obtain ⟨c, hc⟩ := row_block hr hk
    exact types_apart hc h1 (by decide)
  have hfr : Fr (fun i => i = h.g) w (w.setCell ⟨h.g, 1, none⟩ (.int .i64 t)) := (Fr.refl _ w).setCell _ fun _ => rfl
  refine ⟨⟨⟨ht, ok.2⟩, ?_, ad, cap, ob, ?_, ho, ?_, hF⟩, hfr.mono fun i _ x => (hF i).2 (Or.inl x), fun _ x => Or.inl x⟩
  · rw [hfr.block _ (lt_of_heap h2) e1]; exact h2
  · rw [heap_setCell_at _ _ _ _ _ _ _ h1]; rfl
  · exact owns_of_blocks hr fun k hk => hfr.block k (hr.lt k hk).2 (e4 k hk)

/-- behind an append and a store of the new slice, one event more -/
theorem Rf.noteStep {w1 : World} {g2 cap2 : Nat} {ad : Option Addr} {cap : Nat} {e : Ev} {o : Obj} (ok : A.ok) (h2 : w.heap[h.rw]? = some (.cells (secs A.ws).toArray 29 (0, 0))) (h1 : w.heap[h.g]? = some (rfObj h A.ws.length A.top (.slice ad A.es.length cap)))
    (hr : w.ownsRow 0 43 3 (.slice ad A.es.length cap) A.es.length (ecells A.es)) (hF : ∀ i, F i ↔ (i = h.g ∨ i = h.rw ∨ (Value.slice ad A.es.length cap).ownBlock = some i))
    (hown : w1.ownsRow 0 43 3 (.slice (some ⟨g2, 0, none⟩) (A.es.length + 1) cap2) (A.es.length + 1) (ecells A.es ++ ev e.k e.i e.v)) (hgrow : (w.alloc o).grownBy w1 (Value.slice ad A.es.length cap).ownBlock) (hat : (Value.slice ad A.es.length cap).ownBlock = some g2 ∨ g2 = w.heap.size + 1) :
    ∃ F', Rf (w1.setCell ⟨h.g, 2, none⟩ (.slice (some ⟨g2, 0, none⟩) (A.es.length + 1) cap2)) h F' (A.note e) ∧ Step w F (w1.setCell ⟨h.g, 2, none⟩ (.slice (some ⟨g2, 0, none⟩) (A.es.length + 1) cap2)) F' := by
  have e1 : h.rw ≠ h.g := types_apart h2 h1 (by decide)
  have e2 : ∀ k, (Value.slice ad A.es.length cap).ownBlock = some k → k ≠ h.g ∧ k ≠ h.rw := fun k hk => by
    obtain ⟨c, hc⟩ := row_block hr hk
    exact ⟨types_apart hc h1 (by decide), types_apart hc h2 (by decide)⟩
  have hF1 : Fr (fun i => (Value.slice ad A.es.length cap).ownBlock = some i) w w1 := Fr.grown ((Fr.refl _ w).alloc o) hgrow fun k hk _ => hk
  have g1 : w1.heap[h.g]? = some (rfObj h A.ws.length A.top (.slice ad A.es.length cap)) := by rw [hF1.block _ (lt_of_heap h1) (fun x => (e2 _ x).1 rfl)]; exact h1
  have g3 : w1.heap[h.rw]? = some (.cells (secs A.ws).toArray 29 (0, 0)) := by rw [hF1.block _ (lt_of_heap h2) (fun x => (e2 _ x).2 rfl)]; exact h2
  obtain ⟨c2, hc2⟩ := row_block hown (x := g2) rfl
  have n1 : g2 ≠ h.g := types_apart hc2 g1 (by decide)
  have n2 : g2 ≠ h.rw := types_apart hc2 g3 (by decide)
  have hS : Fr F w (w1.setCell ⟨h.g, 2, none⟩ (.slice (some ⟨g2, 0, none⟩) (A.es.length + 1) cap2)) :=
    (hF1.mono fun i _ x => (hF i).2 (Or.inr (Or.inr x))).setCell _ fun _ => (hF _).2 (Or.inl rfl)
  refine ⟨fun i => i = h.g ∨ i = h.rw ∨ some g2 = some i, ⟨Ars.ok_note ok, ?_, some ⟨g2, 0, none⟩, cap2, some g2, ?_, rfl, ?_, fun _ => Iff.rfl⟩, hS, ?_⟩
  · rw [Below.heap_setCell _ _ _ _ e1]; exact g3
  · rw [heap_setCell_at _ _ _ _ _ _ _ g1]
    show _ = some (rfObj h A.ws.length A.top (.slice (some ⟨g2, 0, none⟩) (A.es ++ [e]).length cap2))
    rw [List.length_append]; rfl
  · show World.ownsRow _ 0 43 3 (.slice (some ⟨g2, 0, none⟩) (A.es ++ [e]).length cap2) (A.es ++ [e]).length (ecells (A.es ++ [e]))
    rw [ecells_snoc, List.length_append]
    refine owns_of_blocks hown fun k hk => ?_
    have : k = g2 := by simpa [Value.ownBlock] using hk.symm
    subst this
    exact Below.heap_setCell _ _ _ _ n1
  · rintro i (x | x | x)
    · exact Or.inl ((hF i).2 (Or.inl x))
    · exact Or.inl ((hF i).2 (Or.inr (Or.inl x)))
    · cases x
      rcases hat with y | y
      · exact Or.inl ((hF g2).2 (Or.inr (Or.inr y)))
      · exact Or.inr (by omega)

set_option maxHeartbeats 800000 in
theorem rf_note (h : Hr) (F : Nat → Prop) (A : Ars) (e : Ev) (w : World) (a : Rf w h F A) (hn : A.es.length ≤ 1000000000) :
    Calls Try.prog 43 #[rfPtr h, .int .i64 e.k, .int .i64 e.i, .int .u32 e.v] w fun r w' => r = .returned (.tuple #[]) ∧ ∃ F', Rf w' h F' (A.note e) ∧ Step w F w' F' := by
  obtain ⟨ok, h2, ad, cap, ob, h1, ho, hr, hF⟩ := a
  subst ho
  have c2 : w.cell? ⟨h.g, 2, none⟩ = some (.slice ad A.es.length cap) := cell_of_heap h1 (i := 2) rfl
  have f2 := frozen_of_heap (i := 2) h1
  have hglt := lt_of_heap h1
  have hap : ∀ k, (Value.slice ad A.es.length cap).ownBlock = some k → k ≠ h.g := fun k hk => by
    obtain ⟨c, hc⟩ := row_block hr hk
    exact types_apart hc h1 (by decide)
  obtain ⟨i0, hi, hz0, hz1, hz2⟩ := info_parts Try.infoEvent
  have H1 := hid h1
  have H2 := hid h2
  have HF := hid hF
  have HAP := hid hap
  have HOK := hid ok
  have HR := hid hr
  clear h1 h2 hF hap ok hr
  go_enter Try.func43, Try.ntmps43
  go_wp2_with (at_builtin; refine wpList_append_lies _ rfl (.tmp 12) (.tmp 17) 35 rfl 0 43 i0 _ 3 24 Try.underlying35 hi hz0 hz1 hz2 rfl (by decide) _ A.es.length (ecells A.es) rfl (HR.out.alloc _) ⟨w.heap.size, 0, none⟩ 1 1 (ev e.k e.i e.v) rfl rfl ?c1 ?c2 (by decide) ?c3 ?c4 (Nat.zero_le _) _ rfl ?_)
  case c1 => exact World.news_of_block (heap_alloc_at _ _)
  case c2 => intro u hu; simp only [List.mem_cons, List.not_mem_nil, or_false] at hu; rcases hu with rfl | rfl | rfl <;> rfl
  case c3 => unfold maxLen; omega
  case c4 => omega
  intro g2 cap2 w1 hown hgrow hat hlt2
  have HF1 := hid (Rf.noteStep (e := e) HOK.out H2.out H1.out HR.out HF.out hown hgrow (hat.imp_right (fun x => by simpa using x)))
  have hw1 : w1.cell? ⟨h.g, 2, none⟩ = some (.slice ad A.es.length cap) := by
    rw [World.cell?_of_block (hgrow.block h.g (by simp; omega) (fun x => HAP.out _ x.symm rfl)), World.cell?_of_block (heap_alloc_old _ _ _ hglt)]; exact c2
  have hf1 : w1.frozen? ⟨h.g, 2, none⟩ = false := by
    rw [World.frozen?_of_block (hgrow.block h.g (by simp; omega) (fun x => HAP.out _ x.symm rfl)), World.frozen?_of_block (heap_alloc_old _ _ _ hglt)]; exact f2
  clear hown hgrow hat hlt2 c2 f2 hi hz0 hz1 hz2
  go_wp2
  go_end0
  exact ⟨rfl, HF1.out⟩
end Go.Proofs.Ytajnegonagpjgaa
