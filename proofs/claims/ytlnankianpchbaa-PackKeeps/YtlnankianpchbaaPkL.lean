/- The contract of the laws' lay (layer 4), over this seat's translation. Conditions: at most 60 tuples of at most 4 words. -/
import Derived.Test.YtlnankianpchbaaPkK
namespace Go.Proofs.Ytlnankianpchbaa
open Go.RowKit

abbrev lanesI (n k : Nat) : List Int := (List.range k).map fun j => ((n * (j + 1) : Nat) : Int)
structure Laid (A : Ars) (n W : Nat) (tg : Nat → Nat) (c : Nat) : Prop where
  top : A.top = n * (W + 1)
  wl : A.ws.length = n * (W + 2)
  es : A.es = ⟨4, 0, cnt ((n * (W + 1) : Nat) : Int)⟩ :: (List.range c).map evSt
  wd : ∀ x, x < c → A.word x = tg x
structure LayS (w wr : World) (h : Hn) (n W : Nat) (tg : Nat → Nat) (k c : Nat) (F : Nat → Prop) (A : Ars) (v : Value) : Prop where
  ar : Ar wr h F A
  bel : Below w.heap.size w wr
  far : ∀ i, F i → w.heap.size ≤ i
  own : wr.ownsRow w.heap.size 3 1 v k (ints (lanesI n k))
  off : ∀ q, v.ownBlock = some q → ¬ F q
  laid : Laid A n W tg c
section
variable {w wr w2 : World} {h : Hn} {n W k c : Nat} {tg : Nat → Nat} {F F' : Nat → Prop} {A : Ars} {v : Value}
theorem Laid.put (l : Laid A n W tg c) (hc : c < n * (W + 1)) : Laid (A.storeN c (tg c)) n W tg (c + 1) := by
  have hw : c < A.ws.length := by rw [l.wl]; exact Nat.lt_of_lt_of_le hc (Nat.mul_le_mul_left _ (by omega))
  refine ⟨l.top, by rw [← l.wl]; simp [Ars.storeN], ?_, fun x hx => ?_⟩
  · show A.es ++ [evSt c] = _
    rw [l.es, List.range_succ, List.map_append]; rfl
  · rw [word_st _ _ _ hw]
    by_cases e : x = c
    · simp [e]
    · simp [e]; exact l.wd x (by omega)
theorem LayS.put (l : LayS w wr h n W tg k c F A v) (s : Step wr F w2 F') (a : Ar w2 h F' (A.storeN c (tg c))) (hc : c < n * (W + 1)) : LayS w w2 h n W tg k (c + 1) F' (A.storeN c (tg c)) v :=
  ⟨a, l.bel.trans (s.below l.bel.size l.far), fun i hi => (s.sub i hi).elim (l.far i) fun x => Nat.le_trans l.bel.size x,
    owns_of_blocks l.own fun q hq => s.fr.block q (l.own.lt q hq).2 (l.off q hq), fun q hq => s.out (l.off q hq) (l.own.lt q hq).2, l.laid.put hc⟩
theorem LayS.alloc (l : LayS w wr h n W tg k c F A v) (o : Obj) : LayS w (wr.alloc o) h n W tg k c F A v :=
  ⟨l.ar.alloc o, l.bel.alloc l.bel.size o, l.far, l.own.alloc o, l.off, l.laid⟩
theorem LayS.grown {g cap : Nat} (l : LayS w wr h n W tg k c F A v) (ho : w2.ownsRow w.heap.size 3 1 (.slice (some ⟨g, 0, none⟩) (k + 1) cap) (k + 1) (ints (lanesI n (k + 1)))) (hg : wr.grownBy w2 v.ownBlock) (hat : v.ownBlock = some g ∨ g = wr.heap.size) : LayS w w2 h n W tg (k + 1) c F A (.slice (some ⟨g, 0, none⟩) (k + 1) cap) := by
  refine ⟨l.ar.kept (G := fun q => some q = v.ownBlock) ⟨hg.os, hg.tape, hg.output, hg.size, fun k hk hn => hg.block k hk hn⟩ (fun i hi e => l.off i e.symm hi), l.bel.grown hg l.bel.size (fun q hq => (l.own.lt q hq).1), l.far, ho, fun q hq => ?_, l.laid⟩
  have : g = q := by simpa [Value.ownBlock] using hq
  subst this
  rcases hat with hat | hat
  · exact l.off g hat
  · intro x; have := l.ar.lt _ x; omega
end
theorem lanesI_succ (n k : Nat) : ints (lanesI n (k + 1)) = ints (lanesI n k) ++ [.int .i64 ((n * (k + 1) : Nat) : Int)] := by simp [ints, lanesI, List.range_succ]
def tgF (kl : List Nat) (L : List (List Nat)) (n x : Nat) : Nat := if x < n then kl.getD x 0 else wd L (x % n) (x / n - 1)
theorem tgF_at (kl : List Nat) (L : List (List Nat)) (n k i : Nat) (hi : i < n) : tgF kl L n (n * (k + 1) + i) = wd L i k := by
  have h1 : ¬ n * (k + 1) + i < n := by rw [Nat.mul_succ]; omega
  unfold tgF
  rw [if_neg h1, Nat.mul_add_mod, Nat.mod_eq_of_lt hi, Nat.mul_add_div (by omega), Nat.div_eq_of_lt hi]
  rfl
theorem put1 (A : Ars) (x v : Nat) (h : x < A.top) : A.put (x : Int) [v] = A.storeN x v := by
  have hf : A.fits (x : Int) (([v] : List Nat).length : Nat) = true := by rw [Ars.fits_iff]; simp; omega
  rw [Ars.put_yes hf]
  simp [Ars.putK]
theorem putK_es (A : Ars) (i : Nat) (l : List Nat) (k : Nat) : (A.putK i l k).es = A.es ++ (List.range k).map fun j => evSt (i + j) := by
  induction k with
  | zero => simp [Ars.putK]
  | succ k ih => simp only [Ars.putK, Ars.storeN]; rw [ih, List.range_succ, List.map_append, List.append_assoc]; rfl
theorem laid0 (kl : List Nat) (L : List (List Nat)) (W : Nat) : Laid (((Ars.new ((kl.length * (W + 2) : Nat) : Int)).take ((kl.length * (W + 1) : Nat) : Int)).put 0 kl) kl.length W (tgF kl L kl.length) kl.length := by
  have hle : kl.length * (W + 1) ≤ kl.length * (W + 2) := Nat.mul_le_mul_left _ (by omega)
  have hc : (Ars.new ((kl.length * (W + 2) : Nat) : Int)).canTake ((kl.length * (W + 1) : Nat) : Int) = true := decide_eq_true (by simp only [Ars.new, List.length_replicate]; omega)
  have h1 : kl.length ≤ kl.length * (W + 1) := Nat.le_mul_of_pos_right _ (by omega)
  obtain ⟨B, hB⟩ : ∃ B, (Ars.new ((kl.length * (W + 2) : Nat) : Int)).take ((kl.length * (W + 1) : Nat) : Int) = B := ⟨_, rfl⟩
  have hBt : B.top = kl.length * (W + 1) ∧ B.ws.length = kl.length * (W + 2) ∧ B.es = [⟨4, 0, cnt ((kl.length * (W + 1) : Nat) : Int)⟩] := by
    rw [← hB]; unfold Ars.take; rw [if_pos hc]
    refine ⟨?_, ?_, rfl⟩
    · show 0 + ((kl.length * (W + 1) : Nat) : Int).toNat = _; omega
    · simp only [Ars.new, List.length_replicate]; omega
  rw [hB]
  have hf : B.fits 0 kl.length = true := by rw [Ars.fits_iff, hBt.1]; omega
  rw [Ars.put_yes hf]
  refine ⟨by rw [Ars.putK_top]; exact hBt.1, by rw [Ars.putK_wslen]; exact hBt.2.1, ?_, fun x hx => ?_⟩
  · rw [putK_es, hBt.2.2]
    simp
  · rw [Ars.putK_word _ _ _ _ (Nat.le_refl _) (by rw [hBt.2.1]; simp; omega), if_pos (by simp; exact hx)]
    unfold tgF; rw [if_pos hx]; simp
end Go.Proofs.Ytlnankianpchbaa
