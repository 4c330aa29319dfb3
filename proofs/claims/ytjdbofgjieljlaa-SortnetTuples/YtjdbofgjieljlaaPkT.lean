/- Plain facts for the law PackKeeps: lanes, rows and what is wanted. -/
import Derived.Test.YtjdbofgjieljlaaPkO
import Derived.Test.YtjdbofgjieljlaaRd2
namespace Go.Proofs.Ytjdbofgjieljlaa
open Go.RowKit

abbrev lsN (n W : Nat) : List Nat := (List.range W).map fun j => n * (j + 1)
theorem lanesI_eq (n W : Nat) : lanesI n W = (lsN n W).map fun (L : Nat) => (L : Int) := by simp [lanesI, lsN]
theorem lanes_in (n W : Nat) : ∀ L ∈ 0 :: lsN n W, L + n ≤ n * (W + 1) := fun L hL => by
  rcases List.mem_cons.1 hL with rfl | hL
  · rw [Nat.zero_add]; exact Nat.le_mul_of_pos_right _ (by omega)
  · obtain ⟨j, hj, rfl⟩ := List.mem_map.1 hL
    rw [← Nat.mul_succ]; exact Nat.mul_le_mul_left _ (by have := List.mem_range.1 hj; omega)
theorem lanes_pw (n W : Nat) : (0 :: lsN n W).Pairwise (Apart n) := by
  refine List.pairwise_cons.2 ⟨fun x hx => ?_, ?_⟩
  · obtain ⟨j, _, rfl⟩ := List.mem_map.1 hx
    exact ⟨Or.inl (by rw [Nat.zero_add]; exact Nat.le_mul_of_pos_right _ (by omega))⟩
  · refine List.pairwise_map.2 (List.pairwise_lt_range.imp fun {a b} hab => ⟨Or.inl ?_⟩)
    rw [← Nat.mul_succ]; exact Nat.mul_le_mul_left _ (by omega)
theorem own_lz {wr w' : World} {base n W : Nat} {sd : Option Addr} {sc : Nat} {F' : Nat → Prop} (o : wr.ownsRow base 3 1 (.slice sd W sc) W (ints (lanesI n W))) (hk : ∀ q, (Value.slice sd W sc).ownBlock = some q → w'.heap[q]? = wr.heap[q]? ∧ ¬ F' q) : Lz w' F' sd sc (lanesI n W) := by
  rcases o.2 with ⟨h1, h2⟩ | ⟨g, cap, cur, hv, hb, hg, h1, h2, h3, h4⟩
  · cases h1; exact Or.inl ⟨rfl, rfl, rfl⟩
  · cases hv
    obtain ⟨k1, k2⟩ := hk g rfl
    have hg' := k1.trans hg
    refine Or.inr ⟨g, rfl, lt_of_heap hg', k2, fun j hj => ?_⟩
    have hj' : j < W := by simpa using hj
    have : (cur.toList.take (W * 1))[j]? = some (.int .i64 ((lanesI n W)[j]?.getD 0)) := by rw [h4]; exact ints_get _ j hj
    rw [List.getElem?_take] at this
    simp only [Nat.mul_one, hj', if_true] at this
    exact cell_of_heap hg' (by simpa using this)
theorem RowB.lo {w : World} {a b : Nat} {v : Value} {l : List Nat} (r : RowB w b v l) (h : a ≤ b) : RowB w a v l := by
  obtain ⟨ra, rc, h1, h2⟩ := r
  refine ⟨ra, rc, h1, h2.imp id ?_⟩
  rintro ⟨q, cs, h0, h3⟩
  exact ⟨q, cs, Nat.le_trans h h0, h3⟩
theorem OutR.kept {w w' : World} {lo base : Nat} {v : Value} {L : List (List Nat)} {vs : List Value} (o : OutR w lo base v L vs) (hk : ∀ q, lo ≤ q → q < w.heap.size → w'.heap[q]? = w.heap[q]?) (hb : lo ≤ base) : OutR w' lo base v L vs :=
  ⟨owns_of_blocks o.own fun q hq => hk q (Nat.le_trans hb (o.own.lt q hq).1) (o.own.lt q hq).2,
    fun i h => by obtain ⟨r, h1, h2⟩ := o.row i h; exact ⟨r, h1, h2.keep fun q _ h0 h3 => (hk q h0 (lt_of_heap h3)).trans h3⟩⟩
theorem kp_congr {b b' : Nat → Bool} {n : Nat} (h : ∀ i, i < n → b i = b' i) : kp b n = kp b' n := List.filter_congr fun i hi => h i (List.mem_range.1 hi)
abbrev rowL (L : List (List Nat)) (W i : Nat) : List Nat := (List.range W).map fun k => wd L i k
abbrev allL (L : List (List Nat)) (W n : Nat) : List (List Nat) := (List.range n).map fun i => rowL L W i
theorem rowL_succ (L : List (List Nat)) (k i : Nat) : rowL L (k + 1) i = rowL L k i ++ [wd L i k] := by simp [rowL, List.range_succ]
theorem allL_succ (L : List (List Nat)) (W n : Nat) : allL L W (n + 1) = allL L W n ++ [rowL L W n] := by simp [allL, List.range_succ]
theorem allL_get (L : List (List Nat)) (W n p : Nat) (h : p < n) : (allL L W n).getD p [] = rowL L W p := by simp [allL, h]
theorem want_row (kl : List Nat) (L : List (List Nat)) (W n i : Nat) (hi : i < n) : ∃ r, (wantR kl (allL L W n) n)[i]? = some r ∧ r.length = W ∧ ∀ k, k < W → r[k]? = some (((kp (fun i => kl.getD i 0 % 2 == 1) n).map fun p => wd L p k).getD i 0) := by
  have hl : (allL L W n).length = n := by simp
  unfold wantR
  rw [hl]
  obtain ⟨R, hR⟩ : ∃ R, rk (fun i => kl.getD i 0 % 2 == 1) n = R := ⟨_, rfl⟩
  have hkl : (kpR kl (allL L W n) n).length = R := by rw [kpR_len]; exact hR
  have hkp : (kp (fun i => kl.getD i 0 % 2 == 1) n).length = R := hR
  rw [hR]
  rcases Nat.lt_or_ge i R with h1 | h1
  · rw [List.getElem?_append_left (by omega)]
    obtain ⟨p, hp⟩ : ∃ p, (kp (fun i => kl.getD i 0 % 2 == 1) n)[i]? = some p := ⟨_, List.getElem?_eq_getElem (by omega)⟩
    have hpn := (kp_at _ n i p hp).1
    refine ⟨rowL L W p, ?_, by simp, fun k hk => ?_⟩
    · unfold kpR; rw [List.getElem?_map, hp]; simp [hpn]
    · have e : ((kp (fun i => kl.getD i 0 % 2 == 1) n).map fun p => wd L p k).getD i 0 = wd L p k := by
        rw [List.getD_eq_getElem?_getD, List.getElem?_map, hp]; rfl
      rw [e]; simp [hk]
  · rw [List.getElem?_append_right (by omega), hkl]
    refine ⟨List.replicate W 0, ?_, by simp, fun k hk => ?_⟩
    · rw [List.getElem?_map, List.getElem?_range (by omega)]
      simp only [Option.map_some]
      rw [allL_get L W n _ (by omega)]; simp
    · have e : ((kp (fun i => kl.getD i 0 % 2 == 1) n).map fun p => wd L p k).getD i 0 = 0 := by
        rw [List.getD_eq_getElem?_getD, List.getElem?_map, List.getElem?_eq_none (by omega)]; rfl
      rw [e]; simp [hk]
theorem rel_facts (A : Ars) (x : Nat) (h : x < A.top) : A.loadV (x : Int) = A.word x ∧ (A.rel (x : Int)).word = A.word ∧ (A.rel (x : Int)).top = A.top ∧ (A.rel (x : Int)).es.length = A.es.length + 2 := by
  have hf : A.fits (x : Int) 1 = true := by rw [Ars.fits_iff]; omega
  unfold Ars.loadV Ars.rel
  rw [if_pos hf, if_pos hf, Int.toNat_natCast]
  exact ⟨rfl, rfl, rfl, by simp [Ars.relN, Ars.loadN, Ars.note]⟩
theorem keeps_words {A B : Ars} {kl : List Nat} {L : List (List Nat)} {n W : Nat} (l : Laid A n W (tgF kl L n) (n * (W + 1))) (p : Packed A B 0 n (lsN n W)) :
    rk (fun i => A.word (0 + i) % 2 == 1) n = rk (fun i => kl.getD i 0 % 2 == 1) n ∧ (∀ i, i < n → B.word i = mk (decide (i < rk (fun i => kl.getD i 0 % 2 == 1) n))) ∧
      ∀ k, k < W → ∀ i, i < n → B.word (n * (k + 1) + i) = ((kp (fun i => kl.getD i 0 % 2 == 1) n).map fun p => wd L p k).getD i 0 := by
  have hle : n ≤ n * (W + 1) := Nat.le_mul_of_pos_right _ (by omega)
  have hb : ∀ i, i < n → (A.word (0 + i) % 2 == 1) = (kl.getD i 0 % 2 == 1) := fun i hi => by
    rw [Nat.zero_add, l.wd i (by omega)]
    unfold tgF; rw [if_pos hi]
  have hkp := kp_congr hb
  have hrk : rk (fun i => A.word (0 + i) % 2 == 1) n = rk (fun i => kl.getD i 0 % 2 == 1) n := by unfold rk; rw [hkp]
  refine ⟨hrk, fun i hi => ?_, fun k hk i hi => ?_⟩
  · have := p.kps i hi
    rw [hrk, Nat.zero_add] at this; exact this
  · have := p.lane (n * (k + 1)) (List.mem_map.2 ⟨k, List.mem_range.2 hk, rfl⟩) i hi
    rw [this, hkp]
    congr 1
    refine List.map_congr_left fun q hq => ?_
    obtain ⟨j, hj, hje⟩ := List.getElem_of_mem hq
    have hqn := (kp_at _ n j q (by rw [List.getElem?_eq_getElem hj, hje])).1
    have hlt : n * (k + 1) + q < n * (W + 1) := by
      have : n * (k + 1) + n ≤ n * (W + 1) := by rw [← Nat.mul_succ]; exact Nat.mul_le_mul_left _ (by omega)
      omega
    rw [l.wd _ hlt]; exact tgF_at kl L n k q hqn
structure KpS (w w10 wr : World) (h : Hn) (lo : Nat) (B : Ars) (T m : Nat) (F : Nat → Prop) (A : Ars) : Prop where
  ar : Ar wr h F A
  wd : A.word = B.word
  top : A.top = T
  es : A.es.length ≤ m
  kp : ∀ q, lo ≤ q → q < w10.heap.size → wr.heap[q]? = w10.heap[q]? ∧ ¬ F q
  bel : Below w.heap.size w wr
  far : ∀ q, F q → w.heap.size ≤ q
  sz : w10.heap.size ≤ wr.heap.size
theorem KpS.rel {w w10 wr w' : World} {h : Hn} {lo T m x : Nat} {B A : Ars} {F F' : Nat → Prop} (s : KpS w w10 wr h lo B T m F A) (hx : x < T) (st : Step wr F w' F') (a : Ar w' h F' (A.rel (x : Int))) : KpS w w10 w' h lo B T (m + 2) F' (A.rel (x : Int)) := by
  obtain ⟨_, r2, r3, r4⟩ := rel_facts A x (by rw [s.top]; exact hx)
  refine ⟨a, r2.trans s.wd, r3.trans s.top, by have := s.es; omega, fun q h1 h2 => ?_, s.bel.trans (st.below s.bel.size s.far), fun q hq => (st.sub q hq).elim (s.far q) fun y => Nat.le_trans s.bel.size y, Nat.le_trans s.sz st.size⟩
  obtain ⟨k1, k2⟩ := s.kp q h1 h2
  have hq : q < wr.heap.size := Nat.lt_of_lt_of_le h2 s.sz
  exact ⟨(st.fr.block q hq k2).trans k1, st.out k2 hq⟩
theorem KpS.drew {w w10 wr : World} {h : Hn} {lo T m : Nat} {B A : Ars} {F : Nat → Prop} (s : KpS w w10 wr h lo B T m F A) : KpS w w10 wr.drew h lo B T m F A :=
  ⟨s.ar.drew, s.wd, s.top, s.es, s.kp, s.bel.drew, s.far, s.sz⟩
theorem KpS.more {w w10 wr : World} {h : Hn} {lo T m m' : Nat} {B A : Ars} {F : Nat → Prop} (s : KpS w w10 wr h lo B T m F A) (hm : m ≤ m') : KpS w w10 wr h lo B T m' F A :=
  ⟨s.ar, s.wd, s.top, Nat.le_trans s.es hm, s.kp, s.bel, s.far, s.sz⟩
theorem OutR.cells {w : World} {lo base n : Nat} {ad : Option Addr} {cap : Nat} {L : List (List Nat)} {vs : List Value} (o : OutR w lo base (.slice ad n cap) L vs) (hn : n = L.length) (hb : lo ≤ base) (i : Nat) (r : List Nat) (hr : L[i]? = some r) (k v : Nat) (hk : r[k]? = some v) :
    ∃ g q rc, ad = some ⟨g, 0, none⟩ ∧ lo ≤ g ∧ g < w.heap.size ∧ lo ≤ q ∧ q < w.heap.size ∧ w.cell? ⟨g, i, none⟩ = some (.slice (some ⟨q, 0, none⟩) r.length rc) ∧ w.cell? ⟨q, k, none⟩ = some (.int .u32 (v : Int)) := by
  subst hn
  obtain ⟨hi, rfl⟩ := List.getElem?_eq_some_iff.1 hr
  obtain ⟨hk1, rfl⟩ := List.getElem?_eq_some_iff.1 hk
  obtain ⟨g, h1, h2, h3, h4⟩ := owns_cell o.own (by omega)
  obtain ⟨v, h5, ra, rc, rfl, h6⟩ := o.row i hi
  rcases h6 with h6 | ⟨q, cs, h7, rfl, h8, h9⟩
  · rw [h6] at hk1; simp at hk1
  · exact ⟨g, q, rc, h1, Nat.le_trans hb h2, h3, h7, lt_of_heap h8, h4 i _ h5, cell_of_heap h8 (h9 k hk1)⟩
end Go.Proofs.Ytjdbofgjieljlaa
