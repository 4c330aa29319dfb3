/- Two things in memory that have no block in common, and how a step of one leaves the other; logs that are alike. Plain facts. -/
import Derived.Test.YtajnegonagpjgaaArF
namespace Go.Proofs.Ytajnegonagpjgaa
open Go.RowKit

/-- a thing in memory, and its blocks -/
structure Owns (P : World → (Nat → Prop) → Prop) : Prop where
  lt : ∀ {w F}, P w F → ∀ i, F i → i < w.heap.size
  kept : ∀ {w w' F G}, P w F → Fr G w w' → (∀ i, F i → ¬ G i) → P w' F
theorem ar_owns (h : Hn) (A : Ars) : Owns (fun w F => Ar w h F A) := ⟨fun a => a.lt, fun a hf hd => a.kept hf hd⟩
/-- both, apart from one another, and made from block B on -/
structure Pair (P Q : World → (Nat → Prop) → Prop) (w0 w : World) (F G : Nat → Prop) : Prop where
  p : P w F
  q : Q w G
  d : ∀ i, F i → ¬ G i
  hf : ∀ i, F i → w0.heap.size ≤ i
  hg : ∀ i, G i → w0.heap.size ≤ i
  bel : Below w0.heap.size w0 w
variable {P Q P' Q' : World → (Nat → Prop) → Prop} {w0 w w' : World} {F G F' G' : Nat → Prop}
theorem Pair.left (x : Pair P Q w0 w F G) (oq : Owns Q) (a : P' w' F') (s : Step w F w' F') : Pair P' Q w0 w' F' G :=
  ⟨a, oq.kept x.q s.fr fun i hg hf => x.d i hf hg, fun i hf hg => (s.sub i hf).elim (fun y => x.d i y hg) (fun y => by have := oq.lt x.q i hg; omega),
    s.high x.bel.size x.hf, x.hg, x.bel.trans (s.below x.bel.size x.hf)⟩
theorem Pair.right (x : Pair P Q w0 w F G) (op : Owns P) (b : Q' w' G') (s : Step w G w' G') : Pair P Q' w0 w' F G' :=
  ⟨op.kept x.p s.fr x.d, b, fun i hf hg => (s.sub i hg).elim (fun y => x.d i hf y) (fun y => by have := op.lt x.p i hf; omega),
    x.hf, s.high x.bel.size x.hg, x.bel.trans (s.below x.bel.size x.hg)⟩
theorem Pair.below (x : Pair P Q w0 w F G) (op : Owns P) (oq : Owns Q) (hb : Below w.heap.size w w') : Pair P Q w0 w' F G :=
  ⟨op.kept x.p (Fr.ofBelow (S := fun _ => False) hb) fun _ _ y => y, oq.kept x.q (Fr.ofBelow (S := fun _ => False) hb) fun _ _ y => y, x.d, x.hf, x.hg, x.bel.trans (hb.mono x.bel.size)⟩

/-- logs that are the same but for what was told -/
structure Like (A B : Ars) : Prop where
  top : A.top = B.top
  len : A.ws.length = B.ws.length
  es : A.es.map blindE = B.es.map blindE
  kd : ∀ e ∈ A.es, 1 ≤ e.k ∧ e.k ≤ 5
namespace Like
variable {A B : Ars}
theorem note (h : Like A B) (e f : Ev) (hb : blindE e = blindE f) (hk : 1 ≤ e.k ∧ e.k ≤ 5) : Like (A.note e) (B.note f) := by
  refine ⟨h.top, h.len, ?_, ?_⟩
  · show (A.es ++ [e]).map blindE = (B.es ++ [f]).map blindE
    rw [List.map_append, List.map_append, h.es]; simp [hb]
  · intro x hx
    have hx' : x ∈ A.es ++ [e] := hx
    rcases List.mem_append.1 hx' with h1 | h1
    · exact h.kd x h1
    · have : x = e := by simpa using h1
      rw [this]; exact hk
theorem storeN (h : Like A B) (i u v : Nat) : Like (A.storeN i u) (B.storeN i v) := by
  have := h.note ⟨2, i, 0⟩ ⟨2, i, 0⟩ rfl (by simp)
  exact ⟨this.top, by simp [h.len], this.es, this.kd⟩
theorem downTo (h : Like A B) (t : Nat) : Like (A.downTo t) (B.downTo t) := ⟨rfl, h.len, h.es, h.kd⟩
theorem relN (h : Like A B) (i : Nat) : Like (A.relN i) (B.relN i) := (h.note ⟨1, i, 0⟩ ⟨1, i, 0⟩ rfl (by simp)).note _ _ rfl (by simp)
theorem putK (h : Like A B) (i : Nat) (l m : List Nat) (k : Nat) : Like (A.putK i l k) (B.putK i m k) := by
  induction k with
  | zero => exact h
  | succ k ih => exact ih.storeN _ _ _
theorem relK (h : Like A B) (i k : Nat) : Like (A.relK i k) (B.relK i k) := by
  induction k with
  | zero => exact h
  | succ k ih => exact ih.relN _
theorem zeroK (h : Like A B) (t k : Nat) : Like (A.zeroK t k) (B.zeroK t k) := by
  induction k with
  | zero => exact h
  | succ k ih => exact ih.storeN _ _ _
theorem fits (h : Like A B) (x n : Int) : A.fits x n = B.fits x n := by simp [Ars.fits, h.top]
theorem canTake (h : Like A B) (n : Int) : A.canTake n = B.canTake n := by simp [Ars.canTake, h.top, h.len]
theorem act (h : Like A B) (t u : Act) (h1 : u.kd = t.kd) (h2 : u.at_ = t.at_) (h3 : u.n = t.n) (h4 : u.l.length = t.l.length) : Like (A.act t) (B.act u) := by
  unfold Ars.act
  rw [h1, h2, h3]
  split
  · unfold Ars.take; rw [h.canTake]; split
    · have := h.note ⟨4, A.top, cnt t.n⟩ ⟨4, B.top, cnt t.n⟩ (by rw [h.top]) (by simp)
      exact ⟨by simp [h.top], this.len, this.es, this.kd⟩
    · exact h
  split
  · unfold Ars.give; rw [h.fits]; split
    · unfold Ars.giveN; rw [← h.top]
      exact ((h.zeroK _ _).downTo _).note _ _ rfl (by simp)
    · exact h
  split
  · unfold Ars.load; rw [h.fits]; split
    · exact h.note _ _ rfl (by simp)
    · exact h
  split
  · unfold Ars.store; rw [h.fits]; split
    · exact h.storeN _ _ _
    · exact h
  split
  · unfold Ars.rel; rw [h.fits]; split
    · exact h.relN _
    · exact h
  split
  · unfold Ars.put; rw [h.fits, h4]; split
    · exact h.putK _ _ _ _
    · exact h
  · unfold Ars.shown; rw [h.fits]; split
    · exact h.relK _ _
    · exact h
end Like
/-- how much an act notes, at most -/
theorem act_es (A : Ars) (t : Act) (hl : t.l.length ≤ 40) (ht : A.top ≤ 100) : (A.act t).es.length ≤ A.es.length + 202 := by
  unfold Ars.act
  split
  · unfold Ars.take; split
    · simp
    · omega
  split
  · unfold Ars.give; split
    · rw [Ars.giveN_eslen]; omega
    · omega
  split
  · unfold Ars.load; split
    · simp [Ars.loadN, Ars.note]
    · omega
  split
  · unfold Ars.store; split
    · simp
    · omega
  split
  · unfold Ars.rel; split
    · simp
    · omega
  split
  · unfold Ars.put; split
    · rw [Ars.putK_eslen]; omega
    · omega
  · unfold Ars.shown; split
    · rename_i h; have := Ars.fits_iff.1 h; rw [Ars.relK_eslen]; omega
    · omega
theorem act_ws (A : Ars) (t : Act) : (A.act t).ws.length = A.ws.length := by
  unfold Ars.act
  split
  · unfold Ars.take; split <;> rfl
  split
  · unfold Ars.give; split
    · exact Ars.giveN_wslen _
    · rfl
  split
  · unfold Ars.load; split <;> rfl
  split
  · unfold Ars.store; split
    · simp
    · rfl
  split
  · unfold Ars.rel; split <;> rfl
  split
  · unfold Ars.put; split
    · exact Ars.putK_wslen _ _ _
    · rfl
  · unfold Ars.shown; split
    · rw [Ars.relK_ws]
    · rfl
end Go.Proofs.Ytajnegonagpjgaa
