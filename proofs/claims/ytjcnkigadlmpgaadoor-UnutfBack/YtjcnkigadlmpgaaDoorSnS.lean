/- Plain facts: what a sort of lanes makes of an arena's words, and what it notes. Nothing of the program is named here. -/
import Derived.Test.YtjcnkigadlmpgaaDoorSnQ
import Derived.Test.YtjcnkigadlmpgaaDoorArQ
namespace Go.Proofs.YtjcnkigadlmpgaaDoor
open Go.RowKit

def pick (b : Bool) (x y : Nat) : Nat := if b then x else y
theorem pick_lt {b : Bool} {x y : Nat} (h1 : x < 4294967296) (h2 : y < 4294967296) : pick b x y < 4294967296 := by cases b <;> simpa [pick]
/-- both words of a lane, exchanged if b -/
def stepF (b : Bool) (i j : Nat) (f : Nat → Nat) (L : Nat) : Nat → Nat := fun x => if x = L + i then pick b (f (L + j)) (f (L + i)) else if x = L + j then pick b (f (L + i)) (f (L + j)) else f x
structure Apart (n : Nat) (a b : Nat) : Prop where
  d : a + n ≤ b ∨ b + n ≤ a
theorem lanesF (b : Bool) (n i j : Nat) (hi : i < n) (hj : j < n) (hij : i ≠ j) : ∀ (ls : List Nat) (f : Nat → Nat), ls.Pairwise (Apart n) →
    (∀ L ∈ ls, (ls.foldl (stepF b i j) f) (L + i) = pick b (f (L + j)) (f (L + i)) ∧ (ls.foldl (stepF b i j) f) (L + j) = pick b (f (L + i)) (f (L + j))) ∧
    ∀ x, (∀ L ∈ ls, x ≠ L + i ∧ x ≠ L + j) → (ls.foldl (stepF b i j) f) x = f x
  | [], f, _ => ⟨fun L h => (by cases h), fun _ _ => rfl⟩
  | K :: ls, f, hp => by
    obtain ⟨h1, h2⟩ := List.pairwise_cons.1 hp
    obtain ⟨a, c⟩ := lanesF b n i j hi hj hij ls (stepF b i j f K) h2
    rw [List.foldl_cons]
    have hK : ∀ L ∈ ls, K + i ≠ L + i ∧ K + i ≠ L + j ∧ K + j ≠ L + i ∧ K + j ≠ L + j := fun L hL => by
      have := (h1 L hL).d; omega
    refine ⟨fun L hL => ?_, fun x hx => ?_⟩
    · rcases List.mem_cons.1 hL with rfl | hL
      · rw [c (L + i) (fun M hM => ⟨(hK M hM).1, (hK M hM).2.1⟩), c (L + j) (fun M hM => ⟨(hK M hM).2.2.1, (hK M hM).2.2.2⟩)]
        unfold stepF
        have : ¬ L + j = L + i := by omega
        rw [if_pos rfl, if_neg this, if_pos rfl]; exact ⟨rfl, rfl⟩
      · obtain ⟨e1, e2⟩ := a L hL
        obtain ⟨k1, k2, k3, k4⟩ := hK L hL
        have f1 : stepF b i j f K (L + i) = f (L + i) := by unfold stepF; rw [if_neg (Ne.symm k1), if_neg (Ne.symm k3)]
        have f2 : stepF b i j f K (L + j) = f (L + j) := by unfold stepF; rw [if_neg (Ne.symm k2), if_neg (Ne.symm k4)]
        rw [e1, e2, f1, f2]; exact ⟨rfl, rfl⟩
    · rw [c x (fun M hM => hx M (List.mem_cons_of_mem _ hM))]
      have := hx K (List.mem_cons_self ..)
      unfold stepF; rw [if_neg this.1, if_neg this.2]
/-- what stands at the same number in each lane -/
def tup (f : Nat → Nat) (ls : List Nat) (i : Nat) : List Nat := ls.map fun L => f (L + i)
def tups (f : Nat → Nat) (ls : List Nat) (n : Nat) : List (List Nat) := (List.range n).map (tup f ls)
theorem tups_len (f : Nat → Nat) (ls : List Nat) (n : Nat) : (tups f ls n).length = n := by simp [tups]
theorem tups_at (f : Nat → Nat) (ls : List Nat) (n i : Nat) (h : i < (tups f ls n).length) : (tups f ls n)[i] = tup f ls i := by simp [tups]
/-- by the first word, then by the second -/
def tkey (t : List Nat) : Nat := t.getD 0 0 * 4294967296 + t.getD 1 0
theorem tup_swap (b : Bool) (n i j : Nat) (hi : i < n) (hj : j < n) (hij : i ≠ j) (ls : List Nat) (hp : ls.Pairwise (Apart n)) (f : Nat → Nat) :
    tup (ls.foldl (stepF b i j) f) ls i = (if b then tup f ls j else tup f ls i) ∧ tup (ls.foldl (stepF b i j) f) ls j = (if b then tup f ls i else tup f ls j) ∧ ∀ x, x < n → x ≠ i → x ≠ j → tup (ls.foldl (stepF b i j) f) ls x = tup f ls x := by
  obtain ⟨a, c⟩ := lanesF b n i j hi hj hij ls f hp
  refine ⟨?_, ?_, fun x hx h1 h2 => ?_⟩
  · cases b
    · exact List.map_congr_left fun L hL => (a L hL).1
    · exact List.map_congr_left fun L hL => (a L hL).1
  · cases b
    · exact List.map_congr_left fun L hL => (a L hL).2
    · exact List.map_congr_left fun L hL => (a L hL).2
  · refine List.map_congr_left fun L hL => c (L + x) fun M hM => ?_
    by_cases e : L = M
    · subst e; omega
    · have : Apart n L M ∨ Apart n M L := by
        have h3 := List.pairwise_iff_getElem.1 hp
        obtain ⟨p, hp1, hp2⟩ := List.getElem_of_mem hL
        obtain ⟨q, hq1, hq2⟩ := List.getElem_of_mem hM
        rcases Nat.lt_trichotomy p q with h | h | h
        · left; rw [← hp2, ← hq2]; exact h3 p q hp1 hq1 h
        · subst h; exact absurd (hp2.symm.trans hq2) e
        · right; rw [← hp2, ← hq2]; exact h3 q p hq1 hp1 h
      rcases this with h | h <;> have := h.d <;> omega
theorem tups_swap (n i j : Nat) (hij : i < j) (hj : j < n) (ls : List Nat) (hp : ls.Pairwise (Apart n)) (f : Nat → Nat) (b : Bool) (hb : b = decide (tkey (tup f ls j) < tkey (tup f ls i))) :
    tups (ls.foldl (stepF b i j) f) ls n = exch tkey (tups f ls n) (i, j) := by
  have hi : i < n := by omega
  obtain ⟨a, c, d⟩ := tup_swap b n i j hi hj (by omega) ls hp f
  have hl := tups_len f ls n
  by_cases hk : tkey (tup f ls j) < tkey (tup f ls i)
  · have hb' : b = true := by rw [hb]; simpa using hk
    rw [hb'] at a c d ⊢
    have hE : exch tkey (tups f ls n) (i, j) = ((tups f ls n).set i (tup f ls j)).set j (tup f ls i) := by
      unfold exch
      rw [dif_pos ⟨hij, by rw [hl]; exact hj⟩]
      simp only [tups_at]
      rw [if_pos hk]
    rw [hE]
    apply List.ext_getElem
    · simp [tups_len]
    · intro x h1 h2
      rw [tups_len] at h1
      rw [tups_at]
      by_cases hx : x = i
      · subst hx
        have : ¬ j = x := by omega
        rw [a]; simp [this]
      · by_cases hy : x = j
        · subst hy; rw [c]; simp
        · have e1 : ¬ i = x := fun e => hx e.symm
          have e2 : ¬ j = x := fun e => hy e.symm
          rw [d x h1 hx hy]; simp [e1, e2, tups_at]
  · have hb' : b = false := by rw [hb]; simpa using hk
    rw [hb'] at a c d ⊢
    have hE : exch tkey (tups f ls n) (i, j) = tups f ls n := by
      unfold exch
      rw [dif_pos ⟨hij, by rw [hl]; exact hj⟩]
      simp only [tups_at]
      rw [if_neg hk]
    rw [hE]
    apply List.ext_getElem
    · simp [tups_len]
    · intro x h1 h2
      rw [tups_len] at h1
      rw [tups_at, tups_at]
      by_cases hx : x = i
      · subst hx; rw [a]; rfl
      · by_cases hy : x = j
        · subst hy; rw [c]; rfl
        · exact d x h1 hx hy

/- what is noted -/
def evR (p q : Nat) : List Ev := [⟨1, (p : Int), 0⟩, ⟨1, (q : Int), 0⟩]
def evW (p q : Nat) : List Ev := [⟨2, (p : Int), 0⟩, ⟨2, (q : Int), 0⟩]
def evL (i j : Nat) (L : Nat) : List Ev := evR (L + i) (L + j) ++ evW (L + i) (L + j)
def evS (i j : Nat) : List Nat → List Ev
  | a :: b :: ls => evR (a + i) (a + j) ++ evR (b + i) (b + j) ++ evW (a + i) (a + j) ++ evW (b + i) (b + j) ++ ls.flatMap (evL i j)
  | _ => []
theorem evL_len (i j : Nat) (ls : List Nat) : (ls.flatMap (evL i j)).length = 4 * ls.length := by
  induction ls with
  | nil => rfl
  | cons L ls ih => rw [List.flatMap_cons, List.length_append, ih]; simp [evL, evR, evW]; omega
theorem evS_len (i j : Nat) (ls : List Nat) (h : 2 ≤ ls.length) : (evS i j ls).length = 4 * ls.length := by
  match ls, h with
  | a :: b :: ls, _ => simp only [evS, List.length_append, evL_len]; simp [evR, evW]; omega
def evN (ps : List (Nat × Nat)) (ls : List Nat) : List Ev := ps.flatMap fun p => evS p.1 p.2 ls
theorem evN_len (ps : List (Nat × Nat)) (ls : List Nat) (h : 2 ≤ ls.length) : (evN ps ls).length = ps.length * (4 * ls.length) := by
  unfold evN
  induction ps with
  | nil => simp
  | cons p ps ih => rw [List.flatMap_cons, List.length_append, ih, evS_len _ _ _ h, List.length_cons, Nat.add_mul]; omega

/- steps of an arena -/
def rdA (A : Ars) (p q : Nat) : Ars := (A.loadN p).loadN q
def wrA (A : Ars) (p q lo hi : Nat) (b : Bool) : Ars := (A.storeN p (pick b hi lo)).storeN q (pick b lo hi)
theorem rdA_word (A : Ars) (p q x : Nat) : (rdA A p q).word x = A.word x := rfl
theorem rdA_es (A : Ars) (p q : Nat) : (rdA A p q).es = A.es ++ evR p q := by simp [rdA, Ars.loadN, Ars.note, evR]
theorem wrA_es (A : Ars) (p q lo hi : Nat) (b : Bool) : (wrA A p q lo hi b).es = A.es ++ evW p q := by simp [wrA, Ars.storeN, evW]
theorem wrA_wl (A : Ars) (p q lo hi : Nat) (b : Bool) : (wrA A p q lo hi b).ws.length = A.ws.length := by simp [wrA]
theorem wrA_word (A : Ars) (L i j : Nat) (b : Bool) (lo hi : Nat) (hij : i ≠ j) (h1 : L + i < A.ws.length) (h2 : L + j < A.ws.length) (hl : lo = A.word (L + i)) (hh : hi = A.word (L + j)) :
    (wrA A (L + i) (L + j) lo hi b).word = stepF b i j A.word L := by
  funext x
  unfold wrA stepF
  rw [Ars.storeN_word, Ars.storeN_word]
  simp only [Ars.storeN_wslen]
  subst hl hh
  by_cases hx : x = L + i
  · subst hx
    simp [h1, hij]
  · by_cases hy : x = L + j
    · subst hy; simp [h2, Ne.symm hij]
    · simp [hx, hy]
/-- an arena behind: the same numbers of words, words by f, events behind -/
structure Grew (A B : Ars) (f : Nat → Nat) (es : List Ev) : Prop where
  top : B.top = A.top
  wl : B.ws.length = A.ws.length
  word : B.word = f
  es : B.es = A.es ++ es
theorem Grew.refl (A : Ars) : Grew A A A.word [] := ⟨rfl, rfl, rfl, by simp⟩
theorem Grew.trans {A B C : Ars} {f g : Nat → Nat} {d e : List Ev} (h : Grew A B f d) (k : Grew B C g e) : Grew A C g (d ++ e) := ⟨k.top.trans h.top, k.wl.trans h.wl, k.word, by rw [k.es, h.es, List.append_assoc]⟩
theorem grew_rd (A : Ars) (p q : Nat) : Grew A (rdA A p q) A.word (evR p q) := ⟨rfl, rfl, rfl, rdA_es A p q⟩
theorem grew_wr (A : Ars) (L i j : Nat) (b : Bool) (lo hi : Nat) (hij : i ≠ j) (h1 : L + i < A.ws.length) (h2 : L + j < A.ws.length) (hl : lo = A.word (L + i)) (hh : hi = A.word (L + j)) :
    Grew A (wrA A (L + i) (L + j) lo hi b) (stepF b i j A.word L) (evW (L + i) (L + j)) := ⟨rfl, wrA_wl .., wrA_word A L i j b lo hi hij h1 h2 hl hh, wrA_es ..⟩
end Go.Proofs.YtjcnkigadlmpgaaDoor
