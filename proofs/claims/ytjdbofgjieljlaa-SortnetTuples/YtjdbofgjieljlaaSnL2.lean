/- Plain facts for the law SortnetTuples: two arenas that are filled word by word, side by side. -/
import Derived.Test.YtjdbofgjieljlaaSnU2
import Derived.Test.YtjdbofgjieljlaaPkO
import Derived.Test.YtjdbofgjieljlaaRd2
namespace Go.Proofs.Ytjdbofgjieljlaa
open Go.RowKit

abbrev lanesK (n k : Nat) : List Int := (List.range k).map fun j => ((j * n : Nat) : Int)
theorem lanesK_succ (n k : Nat) : ints (lanesK n (k + 1)) = ints (lanesK n k) ++ [.int .i64 ((k * n : Nat) : Int)] := by simp [ints, lanesK, List.range_succ]
theorem lanesK_eq (n W : Nat) : lanesK n W = (lanesOf n W).map fun (L : Nat) => (L : Int) := by simp [lanesK, lanesOf]
structure Laid0 (A : Ars) (T : Nat) (tg : Nat → Nat) (c : Nat) : Prop where
  top : A.top = T
  wl : A.ws.length = T
  es : A.es = ⟨4, 0, cnt (T : Int)⟩ :: (List.range c).map evSt
  wd : ∀ x, x < c → A.word x = tg x
theorem Laid0.put {A : Ars} {T c : Nat} {tg : Nat → Nat} (l : Laid0 A T tg c) (hc : c < T) : Laid0 (A.storeN c (tg c)) T tg (c + 1) := by
  have hw : c < A.ws.length := by rw [l.wl]; exact hc
  refine ⟨l.top, by rw [← l.wl]; simp [Ars.storeN], ?_, fun x hx => ?_⟩
  · show A.es ++ [evSt c] = _
    rw [l.es, List.range_succ, List.map_append]; rfl
  · rw [word_st _ _ _ hw]
    by_cases e : x = c
    · simp [e]
    · simp [e]; exact l.wd x (by omega)
theorem laid0_new (T : Nat) (tg : Nat → Nat) : Laid0 ((Ars.new (T : Int)).take (T : Int)) T tg 0 := by
  have hc : (Ars.new (T : Int)).canTake (T : Int) = true := decide_eq_true (by simp [Ars.new])
  unfold Ars.take
  rw [if_pos hc]
  refine ⟨?_, by simp [Ars.new], rfl, fun x hx => by omega⟩
  show 0 + (T : Int).toNat = T; omega
structure Lay2 (w wr : World) (h1 h2 : Hn) (n T : Nat) (tg : Nat → Nat) (k c1 c2 : Nat) (F1 F2 : Nat → Prop) (A1 A2 : Ars) (v : Value) : Prop where
  a1 : Ar wr h1 F1 A1
  a2 : Ar wr h2 F2 A2
  bel : Below w.heap.size w wr
  far1 : ∀ i, F1 i → w.heap.size ≤ i
  far2 : ∀ i, F2 i → w.heap.size ≤ i
  own : wr.ownsRow w.heap.size 3 1 v k (ints (lanesK n k))
  off1 : ∀ q, v.ownBlock = some q → ¬ F1 q
  off2 : ∀ q, v.ownBlock = some q → ¬ F2 q
  dis : ∀ i, F1 i → F2 i → False
  l1 : Laid0 A1 T tg c1
  l2 : Laid0 A2 T (fun _ => 0) c2
section
variable {w wr w2 : World} {h1 h2 : Hn} {n T k c1 c2 : Nat} {tg : Nat → Nat} {F1 F2 F' : Nat → Prop} {A1 A2 : Ars} {v : Value}
theorem Lay2.putA (l : Lay2 w wr h1 h2 n T tg k c1 c2 F1 F2 A1 A2 v) (s : Step wr F1 w2 F') (a : Ar w2 h1 F' (A1.storeN c1 (tg c1))) (hc : c1 < T) : Lay2 w w2 h1 h2 n T tg k (c1 + 1) c2 F' F2 (A1.storeN c1 (tg c1)) A2 v :=
  ⟨a, l.a2.kept (G := F1) s.fr (fun i x y => l.dis i y x), l.bel.trans (s.below l.bel.size l.far1), fun i hi => (s.sub i hi).elim (l.far1 i) fun x => Nat.le_trans l.bel.size x, l.far2,
    owns_of_blocks l.own fun q hq => s.fr.block q (l.own.lt q hq).2 (l.off1 q hq), fun q hq => s.out (l.off1 q hq) (l.own.lt q hq).2, l.off2,
    fun i x y => (s.sub i x).elim (fun z => l.dis i z y) (fun z => by have := l.a2.lt i y; omega), l.l1.put hc, l.l2⟩
theorem Lay2.putB (l : Lay2 w wr h1 h2 n T tg k c1 c2 F1 F2 A1 A2 v) (s : Step wr F2 w2 F') (a : Ar w2 h2 F' (A2.storeN c2 0)) (hc : c2 < T) : Lay2 w w2 h1 h2 n T tg k c1 (c2 + 1) F1 F' A1 (A2.storeN c2 0) v :=
  ⟨l.a1.kept (G := F2) s.fr (fun i x y => l.dis i x y), a, l.bel.trans (s.below l.bel.size l.far2), l.far1, fun i hi => (s.sub i hi).elim (l.far2 i) fun x => Nat.le_trans l.bel.size x,
    owns_of_blocks l.own fun q hq => s.fr.block q (l.own.lt q hq).2 (l.off2 q hq), l.off1, fun q hq => s.out (l.off2 q hq) (l.own.lt q hq).2,
    fun i x y => (s.sub i y).elim (fun z => l.dis i x z) (fun z => by have := l.a1.lt i x; omega), l.l1, l.l2.put hc⟩
theorem Lay2.alloc (l : Lay2 w wr h1 h2 n T tg k c1 c2 F1 F2 A1 A2 v) (o : Obj) : Lay2 w (wr.alloc o) h1 h2 n T tg k c1 c2 F1 F2 A1 A2 v :=
  ⟨l.a1.alloc o, l.a2.alloc o, l.bel.alloc l.bel.size o, l.far1, l.far2, l.own.alloc o, l.off1, l.off2, l.dis, l.l1, l.l2⟩
theorem Lay2.grown {g cap : Nat} (l : Lay2 w wr h1 h2 n T tg k c1 c2 F1 F2 A1 A2 v) (ho : w2.ownsRow w.heap.size 3 1 (.slice (some ⟨g, 0, none⟩) (k + 1) cap) (k + 1) (ints (lanesK n (k + 1)))) (hg : wr.grownBy w2 v.ownBlock) (hat : v.ownBlock = some g ∨ g = wr.heap.size) : Lay2 w w2 h1 h2 n T tg (k + 1) c1 c2 F1 F2 A1 A2 (.slice (some ⟨g, 0, none⟩) (k + 1) cap) := by
  have hf : Fr (fun q => some q = v.ownBlock) wr w2 := ⟨hg.os, hg.tape, hg.output, hg.size, fun k hk hn => hg.block k hk hn⟩
  have hq : ∀ q, (Value.slice (some ⟨g, 0, none⟩) (k + 1) cap).ownBlock = some q → v.ownBlock = some q ∨ q = wr.heap.size := fun q hq => by
    have : g = q := by simpa [Value.ownBlock] using hq
    subst this; exact hat
  refine ⟨l.a1.kept hf (fun i hi e => l.off1 i e.symm hi), l.a2.kept hf (fun i hi e => l.off2 i e.symm hi), l.bel.grown hg l.bel.size (fun q hq => (l.own.lt q hq).1), l.far1, l.far2, ho, fun q x y => ?_, fun q x y => ?_, l.dis, l.l1, l.l2⟩
  · rcases hq q x with z | z
    · exact l.off1 q z y
    · have := l.a1.lt q y; omega
  · rcases hq q x with z | z
    · exact l.off2 q z y
    · have := l.a2.lt q y; omega
end
/-- the word at a place: of lane x / n, tuple x % n -/
def tgS (L : List (List Nat)) (n x : Nat) : Nat := wd L (x % n) (x / n)
theorem tgS_at (L : List (List Nat)) (n k i : Nat) (hi : i < n) : tgS L n (k * n + i) = wd L i k := by
  unfold tgS
  rw [Nat.mul_comm k n, Nat.mul_add_mod, Nat.mod_eq_of_lt hi, Nat.mul_add_div (by omega), Nat.div_eq_of_lt hi]
  rfl
end Go.Proofs.Ytjdbofgjieljlaa
