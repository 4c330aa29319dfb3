/- Contracts of the document's Before and of the law's same, over this seat's translation: which of two tuples is ahead, and whether they are the same. Conditions: tuples of at least two words (Before), of the same number of words (same). Rows of words that lie apart from each other, and what an append to one of them leaves. Plain lemmas on worlds. What the law's 'tuples' has made in memory while it fills its two arrays of rows. Plain lemmas over this seat's types. -/
import Derived.Test.YtjdbofgjieljlaaSnD
import Derived.Test.YtjdbofgjieljlaaSnX2
namespace Go.Proofs.Ytjdbofgjieljlaa
open Go.RowKit

theorem us_cell {w : World} {ad : Option Addr} {l : List Nat} (h : Us w ad l) (k : Nat) (hk : k < l.length) : ∃ x, ad = some x ∧ w.cell? (x.add k) = some (.int .u32 (l[k] : Int)) := h k hk
set_option maxHeartbeats 1600000 in
theorem before_int (x y : Addr) (lx ly cx cy : Nat) (x0 x1 y0 y1 : Int) (w : World) (h1 : 2 ≤ lx) (h2 : 2 ≤ ly) (a0 : w.cell? x = some (.int .u32 x0)) (a1 : w.cell? ⟨x.block, x.off + 1, none⟩ = some (.int .u32 x1)) (b0 : w.cell? y = some (.int .u32 y0)) (b1 : w.cell? ⟨y.block, y.off + 1, none⟩ = some (.int .u32 y1)) (r : Bool) (hr : r = decide (x0 < y0 ∨ (x0 = y0 ∧ x1 < y1))) :
    Calls Try.prog 61 #[.slice (some x) lx cx, .slice (some y) ly cy] w fun e w' => e = .returned (.bool r) ∧ ∃ q, w' = w.drewN q := by
  have i0 : (0 : Int) < lx := by omega
  have i1 : (1 : Int) < lx := by omega
  have j0 : (0 : Int) < ly := by omega
  have j1 : (1 : Int) < ly := by omega
  have n0 : 0 < lx := by omega
  have n1 : 1 < lx := by omega
  have o0 : 0 < ly := by omega
  have o1 : 1 < ly := by omega
  by_cases c0 : x0 < y0
  · have HR := hid (show r = true by rw [hr]; simp [c0])
    have hd : decide (x0 < y0) = true := by simp [c0]
    clear hr c0
    go_enter Try.func61, Try.ntmps61
    go_wp2_with fail
    go_quiet (fail)
    go_wp2
    go_ret
    exact ⟨by rw [HR.out]; rfl, nq, rfl⟩
  · have hd : decide (x0 < y0) = false := by simp; omega
    by_cases c1 : x0 = y0
    · subst c1
      have HR := hid (show r = decide (x1 < y1) by rw [hr]; simp)
      clear hr c0
      go_enter Try.func61, Try.ntmps61
      go_wp2_with fail
      go_quiet (fail)
      go_wp2
      go_ret
      exact ⟨by rw [HR.out]; simp, nq, rfl⟩
    · have HR := hid (show r = false by rw [hr]; simp [c1]; omega)
      have he : (x0 == y0) = false := by simp [c1]
      clear hr c0 c1
      go_enter Try.func61, Try.ntmps61
      go_wp2_with fail
      go_quiet (fail)
      go_wp2
      go_ret
      exact ⟨by rw [HR.out]; rfl, nq, rfl⟩
theorem before_any (x y : Addr) (lx ly cx cy x0 x1 y0 y1 : Nat) (w : World) (h1 : 2 ≤ lx) (h2 : 2 ≤ ly) (a0 : w.cell? x = some (.int .u32 (x0 : Int))) (a1 : w.cell? ⟨x.block, x.off + 1, none⟩ = some (.int .u32 (x1 : Int))) (b0 : w.cell? y = some (.int .u32 (y0 : Int))) (b1 : w.cell? ⟨y.block, y.off + 1, none⟩ = some (.int .u32 (y1 : Int))) :
    Calls Try.prog 61 #[.slice (some x) lx cx, .slice (some y) ly cy] w fun e w' => e = .returned (.bool (decide (x0 < y0 ∨ (x0 = y0 ∧ x1 < y1)))) ∧ ∃ q, w' = w.drewN q :=
  before_int x y lx ly cx cy x0 x1 y0 y1 w h1 h2 a0 a1 b0 b1 _ (by rw [decide_eq_decide]; omega)

set_option maxHeartbeats 1600000 in
theorem same_any (a b : Option Addr) (ca cb : Nat) (l m : List Nat) (w : World) (h1 : Us w a l) (h2 : Us w b m) (hl : l.length = m.length) (hn : l.length ≤ 1000) :
    Calls Try.prog 62 #[.slice a l.length ca, .slice b m.length cb] w fun e w' => e = .returned (.bool (decide (l = m))) ∧ ∃ q, w' = w.drewN q := by
  have H1 := hid h1
  have H2 := hid h2
  clear h1 h2
  go_enter Try.func62, Try.ntmps62
  go_wp2_with fail
  go_loopw [8] (fun i wr => ∃ k : Nat, k ≤ l.length ∧ i = .int .i64 (k : Int) ∧ (∃ q, wr = w.drewN q) ∧ ∀ j (h : j < l.length), j < k → l[j] = m[j]'(by omega)) (fun i _ => l.length - (intOf i).toNat)
  case atStart => exact ⟨0, Nat.zero_le _, rfl, ⟨0, rfl⟩, fun j _ h => by omega⟩
  case round =>
    obtain ⟨k, hk, rfl, ⟨q, hwr⟩, hall⟩ := hrel
    have HAL := hid hall
    have HWR := hid hwr
    by_cases hlt : k < l.length
    · have hlm : k < m.length := by omega
      obtain ⟨x, rfl, cx⟩ := H1.out k hlt
      obtain ⟨y, rfl, cy⟩ := H2.out k hlm
      have cx' : wr.cell? (x.add k) = some (.int .u32 (l[k] : Int)) := by rw [hwr]; exact cx
      have cy' : wr.cell? (y.add k) = some (.int .u32 (m[k] : Int)) := by rw [hwr]; exact cy
      have HN := hid (show l[k] = m[k] → ∀ j (h : j < l.length), j < k + 1 → l[j] = m[j]'(by omega) from fun hq j h hj => by
        by_cases e : j = k
        · subst e; exact hq
        · exact HAL.out j h (by omega))
      have HF := hid (show l[k] ≠ m[k] → l ≠ m from fun hq e => hq (by subst e; rfl))
      obtain ⟨A, hA⟩ : ∃ A, l[k] = A := ⟨_, rfl⟩
      obtain ⟨B, hB⟩ : ∃ B, m[k] = B := ⟨_, rfl⟩
      rw [hA] at cx'
      rw [hB] at cy'
      by_cases e : A = B
      · have HN2 := hid (HN.out (by rw [hA, hB, e]))
        subst e
        clear cx cy hwr hall hA hB HN HF HAL
        go_wp2_with fail
        go_quiet (fail)
        go_wp2
        go_roundw
        case rel => exact ⟨k + 1, by omega, by go_num, ⟨q + nq, by rw [HWR.out]; simp [World.drewN, Nat.add_assoc]⟩, HN2.out⟩
        case measure => simp [intOf]; omega
      · have HF2 := hid (show decide (l = m) = false by simpa using HF.out (by rw [hA, hB]; exact e))
        have e' : ¬ ((A : Int) = B) := by omega
        clear cx cy hwr hall hA hB HN HF HAL
        go_wp2_with fail
        go_quiet (fail)
        go_wp2
        go_ret
        exact ⟨by rw [HF2.out]; rfl, q + nq, by rw [HWR.out]; simp [World.drewN, Nat.add_assoc]⟩
    · have hke : k = l.length := by omega
      have HT := hid (show decide (l = m) = true by
        simp only [decide_eq_true_eq]
        apply List.ext_getElem hl
        intro j h1 h2
        exact HAL.out j h1 (by omega))
      clear hwr hall HAL
      go_wp2
      go_ret
      exact ⟨by rw [HT.out]; rfl, q, HWR.out⟩

theorem owns_us {w : World} {base n cap : Nat} {ad : Option Addr} {l : List Nat} (h : w.ownsRow base 31 1 (.slice ad n cap) n (us l)) (hn : n = l.length) : Us w ad l ∧ (ad = none → cap = 0 ∧ l.length = 0) := by
  refine ⟨fun k hk => ?_, fun hne => ?_⟩
  · obtain ⟨g, rfl, _, _, hc⟩ := owns_cell h (by omega)
    exact ⟨_, rfl, by rw [add_plain]; exact hc _ _ (us_at l k hk)⟩
  · rcases h.2 with ⟨hv, h0⟩ | ⟨g, cap', cur, hv, _⟩
    · cases hv; exact ⟨rfl, by omega⟩
    · cases hv; cases hne

/-- rows vs hold the words ls; no two have a block in common, and none has one of X -/
structure Rows (B : Nat) (w : World) (X : Nat → Prop) (vs : List Value) (ls : List (List Nat)) : Prop where
  len : vs.length = ls.length
  own : ∀ j (h : j < vs.length), w.ownsRow B 31 1 vs[j] (ls[j]'(by omega)).length (us (ls[j]'(by omega)))
  dis : ∀ i j (hi : i < vs.length) (hj : j < vs.length) g, vs[i].ownBlock = some g → vs[j].ownBlock = some g → i = j
  out : ∀ j (h : j < vs.length) g, vs[j].ownBlock = some g → ¬ X g
theorem Rows.kept {B : Nat} {w w' : World} {X S : Nat → Prop} {vs : List Value} {ls : List (List Nat)} (r : Rows B w X vs ls) (hf : Fr S w w') (hS : ∀ j (h : j < vs.length) g, vs[j].ownBlock = some g → ¬ S g) : Rows B w' X vs ls :=
  ⟨r.len, fun j h => owns_of_blocks (r.own j h) fun k hk => hf.block k ((r.own j h).lt k hk).2 (hS j h k hk), r.dis, r.out⟩
theorem Rows.sub {B : Nat} {w : World} {X Y : Nat → Prop} {vs : List Value} {ls : List (List Nat)} (r : Rows B w X vs ls) (h : ∀ g, g < w.heap.size → Y g → X g) : Rows B w Y vs ls :=
  ⟨r.len, r.own, r.dis, fun j hj g hg hy => r.out j hj g hg (h g ((r.own j hj).lt g hg).2 hy)⟩
theorem Rows.nil (B : Nat) (w : World) (X : Nat → Prop) (n : Nat) : Rows B w X (List.replicate n (.slice none 0 0)) (List.replicate n []) := by
  refine ⟨by simp, fun j h => ?_, fun i j hi hj g h1 => ?_, fun j h g h1 => ?_⟩
  · simp only [List.getElem_replicate]; exact World.ownsRow_nil _ _ _ _
  · simp [Value.ownBlock] at h1
  · simp [Value.ownBlock] at h1
/-- behind an append to row j -/
theorem Rows.append {B : Nat} {w w2 : World} {X : Nat → Prop} {vs : List Value} {ls : List (List Nat)} (r : Rows B w X vs ls) (j x g cap H : Nat) (h : j < vs.length)
    (hown : w2.ownsRow B 31 1 (.slice (some ⟨g, 0, none⟩) ((ls[j]'(by rw [← r.len]; exact h)).length + 1) cap) ((ls[j]'(by rw [← r.len]; exact h)).length + 1) (us (ls[j]'(by rw [← r.len]; exact h)) ++ [.int .u32 (x : Int)]))
    (hg : w.grownBy w2 vs[j].ownBlock) (hat : vs[j].ownBlock = some g ∨ g = H) (hH : w.heap.size ≤ H) (hX : ∀ q, X q → q < w.heap.size) :
    Rows B w2 X (vs.set j (.slice (some ⟨g, 0, none⟩) ((ls[j]'(by rw [← r.len]; exact h)).length + 1) cap)) (ls.set j (ls[j]'(by rw [← r.len]; exact h) ++ [x])) := by
  have hl : j < ls.length := by rw [← r.len]; exact h
  have hne : ∀ i (hi : i < vs.length), i ≠ j → ∀ q, vs[i].ownBlock = some q → some q ≠ vs[j].ownBlock ∧ q ≠ g := fun i hi hij q hq => by
    refine ⟨fun e => hij (r.dis i j hi h q hq e.symm), fun e => ?_⟩
    subst e
    rcases hat with h1 | h1
    · exact hij (r.dis i j hi h _ hq h1)
    · have := ((r.own i hi).lt _ hq).2; omega
  refine ⟨by simp [r.len], fun i hi => ?_, fun i k hi hk q h1 h2 => ?_, fun i hi q h1 => ?_⟩
  · have hi' : i < vs.length := by simpa using hi
    by_cases e : i = j
    · subst e
      simp only [List.getElem_set_self]
      simpa [us] using hown
    · have e' : ¬ j = i := fun z => e z.symm
      simp only [List.getElem_set_ne e']
      exact owns_of_blocks (r.own i hi') fun q hq => hg.block q ((r.own i hi').lt q hq).2 (hne i hi' e q hq).1
  · have hi' : i < vs.length := by simpa using hi
    have hk' : k < vs.length := by simpa using hk
    by_cases e1 : i = j <;> by_cases e2 : k = j
    · rw [e1, e2]
    · subst e1
      have e2' : ¬ i = k := fun z => e2 z.symm
      simp only [List.getElem_set_self, Value.ownBlock, Option.some.injEq] at h1
      simp only [List.getElem_set_ne e2'] at h2
      exact absurd h1.symm (hne k hk' e2 q h2).2
    · subst e2
      have e1' : ¬ k = i := fun z => e1 z.symm
      simp only [List.getElem_set_self, Value.ownBlock, Option.some.injEq] at h2
      simp only [List.getElem_set_ne e1'] at h1
      exact absurd h2.symm (hne i hi' e1 q h1).2
    · have e1' : ¬ j = i := fun z => e1 z.symm
      have e2' : ¬ j = k := fun z => e2 z.symm
      simp only [List.getElem_set_ne e1'] at h1
      simp only [List.getElem_set_ne e2'] at h2
      exact r.dis i k hi' hk' q h1 h2
  · have hi' : i < vs.length := by simpa using hi
    by_cases e : i = j
    · subst e
      simp only [List.getElem_set_self, Value.ownBlock, Option.some.injEq] at h1
      subst h1
      rcases hat with h2 | h2
      · exact r.out i hi' _ h2
      · intro hx; have := hX _ hx; omega
    · have e' : ¬ j = i := fun z => e z.symm
      simp only [List.getElem_set_ne e'] at h1
      exact r.out i hi' q h1
theorem Rows.us {B : Nat} {w : World} {X : Nat → Prop} {vs : List Value} {ls : List (List Nat)} (r : Rows B w X vs ls) (j : Nat) (h : j < vs.length) : ∃ ad cap, vs[j] = .slice ad (ls[j]'(by rw [← r.len]; exact h)).length cap ∧ Us w ad (ls[j]'(by rw [← r.len]; exact h)) := by
  obtain ⟨ad, cap, hv⟩ := owns_shape (r.own j h)
  refine ⟨ad, cap, hv, ?_⟩
  have ho := r.own j h
  rw [hv] at ho
  exact (owns_us ho rfl).1

theorem Rows.step {B : Nat} {w w' : World} {F F' Y : Nat → Prop} {vs : List Value} {ls : List (List Nat)} (r : Rows B w (fun g => F g ∨ Y g) vs ls) (s : Step w F w' F') : Rows B w' (fun g => F' g ∨ Y g) vs ls := by
  have k := r.kept s.fr (fun j h g hg hf => r.out j h g hg (Or.inl hf))
  refine ⟨k.len, k.own, k.dis, fun j h g hg hx => ?_⟩
  rcases hx with hx | hx
  · rcases s.sub g hx with h1 | h1
    · exact r.out j h g hg (Or.inl h1)
    · have := ((r.own j h).lt g hg).2; omega
  · exact r.out j h g hg (Or.inr hx)

/-- the rows of t ahead of the i-th one whole, k words of the i-th one, nothing of those behind it -/
def cutR (t : List (List Nat)) (i k : Nat) : List (List Nat) := (List.range t.length).map fun r => if r < i then t.getD r [] else if r = i then (t.getD r []).take k else []
theorem cutR_len (t : List (List Nat)) (i k : Nat) : (cutR t i k).length = t.length := by simp [cutR]
theorem cutR_at (t : List (List Nat)) (i k r : Nat) (h : r < (cutR t i k).length) : (cutR t i k)[r] = if r < i then t.getD r [] else if r = i then (t.getD r []).take k else [] := by simp [cutR]
theorem cutR_zero (t : List (List Nat)) : cutR t 0 0 = List.replicate t.length [] := by
  apply List.ext_getElem
  · simp [cutR]
  · intro r h1 h2; rw [cutR_at]; simp
theorem cutR_all (t : List (List Nat)) : cutR t t.length 0 = t := by
  apply List.ext_getElem
  · simp [cutR]
  · intro r h1 h2
    rw [cutR_at, if_pos h2, List.getD_eq_getElem?_getD, List.getElem?_eq_getElem h2]; rfl
theorem cutR_next (t : List (List Nat)) (i m : Nat) (hm : (t.getD i []).length = m) : cutR t i m = cutR t (i + 1) 0 := by
  apply List.ext_getElem
  · simp [cutR]
  · intro r h1 h2
    rw [cutR_at, cutR_at]
    by_cases e1 : r < i
    · rw [if_pos e1, if_pos (by omega)]
    · by_cases e2 : r = i
      · subst e2; rw [if_neg e1, if_pos rfl, if_pos (by omega), ← hm, List.take_length]
      · rw [if_neg e1, if_neg e2, if_neg (by omega)]
        by_cases e3 : r = i + 1
        · rw [if_pos e3]; rfl
        · rw [if_neg e3]
theorem cutR_succ (t : List (List Nat)) (i k : Nat) (hi : i < t.length) (hk : k < (t.getD i []).length) : (cutR t i k).set i ((cutR t i k)[i]'(by rw [cutR_len]; exact hi) ++ [(t.getD i []).getD k 0]) = cutR t i (k + 1) := by
  apply List.ext_getElem
  · simp [cutR]
  · intro r h1 h2
    simp only [List.getElem_set, cutR_at]
    by_cases e : i = r
    · subst e
      simp only [Nat.lt_irrefl, if_true, if_false]
      rw [List.take_succ_eq_append_getElem hk, List.getD_eq_getElem?_getD (i := k), List.getElem?_eq_getElem hk]; rfl
    · have e' : ¬ r = i := fun z => e z.symm
      rw [if_neg e, if_neg e', if_neg e']
theorem Try.infoRow : (Try.prog.info? 29).map (fun i => (i.zero, i.size, i.bytes)) = some (some (.slice none 0 0), 1, 24) := by kernel_rfl
theorem made_nil (n : Nat) : madeCells #[Value.slice none 0 0] n = (List.replicate n (Value.slice none 0 0)).toArray := by
  apply Array.ext
  · simp [madeCells]
  · intro i h1 h2
    simp [madeCells, Nat.mod_one]
theorem run_make_rows (z : Int) (n : Nat) (hz : z = (n : Int)) (hn : n ≤ 1000) (w : World) :
    (Instr.makeSlice 22 (.int .i64 z) (.int .i64 z)).run Try.prog w = .ok (.slice (some ⟨w.heap.size, 0, none⟩) n n) (w.alloc (.cells (List.replicate n (Value.slice none 0 0)).toArray 29)) := by
  obtain ⟨i0, hi, hz0, hz1, hz2⟩ := info_parts Try.infoRow
  subst hz
  have := run_make (P := Try.prog) w 22 29 i0 _ Try.underlying22 hi hz0 .i64 .i64 n n (by omega) (Int.le_refl _) (by rw [hz2]; omega) (by omega)
  rw [this, hz1, ← made_nil]; simp [Value.cells]

structure Tl where
  ad : Option Addr
  cap : Nat
  l : List Nat
/-- tuples that came in, below B0 -/
def TLs (B0 : Nat) (w : World) (ad : Option Addr) (ts : List Tl) : Prop := ∀ k (hk : k < ts.length), ∃ x, ad = some x ∧ x.block < B0 ∧ w.cell? (x.add k) = some (.slice ts[k].ad ts[k].l.length ts[k].cap) ∧
  ∀ m (hm : m < ts[k].l.length), ∃ y, ts[k].ad = some y ∧ y.block < B0 ∧ w.cell? (y.add m) = some (.int .u32 (ts[k].l[m] : Int))
theorem cell_belowB {B : Nat} {w w' : World} {a : Addr} {v : Value} (hb : Below B w w') (h : w.cell? a = some v) (hlt : a.block < B) : w'.cell? a = some v := (World.cell?_of_block (hb.block _ hlt)).trans h
theorem TLs.below {B0 : Nat} {w w' : World} {ad : Option Addr} {ts : List Tl} (h : TLs B0 w ad ts) (hb : Below B0 w w') : TLs B0 w' ad ts := fun k hk => by
  obtain ⟨x, rfl, h1, h2, h3⟩ := h k hk
  refine ⟨x, rfl, h1, cell_belowB hb h2 (by rw [add_block]; exact h1), fun m hm => ?_⟩
  obtain ⟨y, hy, h4, h5⟩ := h3 m hm
  exact ⟨y, hy, h4, cell_belowB hb h5 (by rw [add_block]; exact h4)⟩

structure Fill (w0 : World) (B0 : Nat) (h : Hn) (A : Ars) (bo bi n : Nat) (w : World) (F1 : Nat → Prop) (A1 : Ars) (vs : List Value) (ls : List (List Nat)) (e : Nat) : Prop where
  ar : Ar w h F1 A1
  word : A1.word = A.word
  top : A1.top = A.top
  es : A1.es.length ≤ A.es.length + e
  bel : Below B0 w0 w
  hF : ∀ g, F1 g → B0 ≤ g
  ho : w.heap[bo]? = some (.cells (vs.take n).toArray 29 (0, 0))
  hi : w.heap[bi]? = some (.cells (vs.drop n).toArray 29 (0, 0))
  nf : ¬ F1 bo ∧ ¬ F1 bi
  rows : Rows B0 w (fun g => F1 g ∨ (g = bo ∨ g = bi)) vs ls
  len : vs.length = 2 * n
  hb : B0 ≤ bo ∧ B0 ≤ bi ∧ bo ≠ bi
  h0 : B0 ≤ w0.heap.size
variable {w0 w w1 w2 : World} {B0 : Nat} {h : Hn} {A A1 A2 : Ars} {bo bi n : Nat} {F1 F2 : Nat → Prop} {vs : List Value} {ls : List (List Nat)} {e : Nat}
theorem Fill.rel (f : Fill w0 B0 h A bo bi n w F1 A1 vs ls e) (p : Nat) (a : Ar w1 h F2 (A1.relN p)) (s : Step w F1 w1 F2) : Fill w0 B0 h A bo bi n w1 F2 (A1.relN p) vs ls (e + 2) := by
  have hs := Nat.le_trans f.h0 f.bel.size
  refine ⟨a, f.word, f.top, by rw [Ars.relN_eslen]; have := f.es; omega, f.bel.trans (s.below hs f.hF), s.high hs f.hF, s.heap f.ho f.nf.1, s.heap f.hi f.nf.2, ⟨s.out f.nf.1 (lt_of_heap f.ho), s.out f.nf.2 (lt_of_heap f.hi)⟩, f.rows.step s, f.len, f.hb, f.h0⟩
theorem Fill.drew (f : Fill w0 B0 h A bo bi n w F1 A1 vs ls e) : Fill w0 B0 h A bo bi n w.drew F1 A1 vs ls e :=
  ⟨f.ar.drew, f.word, f.top, f.es, f.bel.drew, f.hF, f.ho, f.hi, f.nf, ⟨f.rows.len, fun j h => owns_of_blocks (f.rows.own j h) fun _ _ => rfl, f.rows.dis, f.rows.out⟩, f.len, f.hb, f.h0⟩
theorem Fill.alloc (f : Fill w0 B0 h A bo bi n w F1 A1 vs ls e) (o : Obj) : Fill w0 B0 h A bo bi n (w.alloc o) F1 A1 vs ls e :=
  ⟨f.ar.alloc o, f.word, f.top, f.es, f.bel.alloc (Nat.le_trans f.h0 f.bel.size) o, f.hF, (heap_alloc_old _ _ _ (lt_of_heap f.ho)).trans f.ho, (heap_alloc_old _ _ _ (lt_of_heap f.hi)).trans f.hi, f.nf, f.rows.kept ((Fr.refl (fun _ => False) w).alloc o) (fun _ _ _ _ z => z), f.len, f.hb, f.h0⟩
/-- behind an append to row j, the array as it was -/
theorem Fill.grown (f : Fill w0 B0 h A bo bi n w F1 A1 vs ls e) (j x g cap H : Nat) (hj : j < vs.length)
    (hown : w2.ownsRow B0 31 1 (.slice (some ⟨g, 0, none⟩) ((ls[j]'(by rw [← f.rows.len]; exact hj)).length + 1) cap) ((ls[j]'(by rw [← f.rows.len]; exact hj)).length + 1) (us (ls[j]'(by rw [← f.rows.len]; exact hj)) ++ [.int .u32 (x : Int)]))
    (hg : w.grownBy w2 vs[j].ownBlock) (hat : vs[j].ownBlock = some g ∨ g = H) (hH : w.heap.size ≤ H) :
    Ar w2 h F1 A1 ∧ Below B0 w0 w2 ∧ w2.heap[bo]? = some (.cells (vs.take n).toArray 29 (0, 0)) ∧ w2.heap[bi]? = some (.cells (vs.drop n).toArray 29 (0, 0)) ∧
      Rows B0 w2 (fun g => F1 g ∨ (g = bo ∨ g = bi)) (vs.set j (.slice (some ⟨g, 0, none⟩) ((ls[j]'(by rw [← f.rows.len]; exact hj)).length + 1) cap)) (ls.set j (ls[j]'(by rw [← f.rows.len]; exact hj) ++ [x])) := by
  have hr := f.rows.append j x g cap H hj hown hg hat hH (fun q hq => by
    rcases hq with hq | hq | hq
    · exact f.ar.lt q hq
    · rw [hq]; exact lt_of_heap f.ho
    · rw [hq]; exact lt_of_heap f.hi)
  have hne : ∀ q, (F1 q ∨ q = bo ∨ q = bi) → some q ≠ vs[j].ownBlock := fun q hq e => f.rows.out j hj q e.symm hq
  refine ⟨f.ar.kept (G := fun q => some q = vs[j].ownBlock) ⟨hg.os, hg.tape, hg.output, hg.size, fun k hk hn => hg.block k hk hn⟩ (fun i hi e => hne i (Or.inl hi) e), f.bel.grown hg (Nat.le_trans f.h0 f.bel.size) (fun q hq => ((f.rows.own j hj).lt q hq).1), ?_, ?_, hr⟩
  · rw [hg.block bo (lt_of_heap f.ho) (hne bo (Or.inr (Or.inl rfl)))]; exact f.ho
  · rw [hg.block bi (lt_of_heap f.hi) (hne bi (Or.inr (Or.inr rfl)))]; exact f.hi
theorem Fill.putO (f : Fill w0 B0 h A bo bi n w F1 A1 vs ls e) (j x g cap H : Nat) (hjn : j < n) (hj : j < vs.length)
    (hown : w2.ownsRow B0 31 1 (.slice (some ⟨g, 0, none⟩) ((ls[j]'(by rw [← f.rows.len]; exact hj)).length + 1) cap) ((ls[j]'(by rw [← f.rows.len]; exact hj)).length + 1) (us (ls[j]'(by rw [← f.rows.len]; exact hj)) ++ [.int .u32 (x : Int)]))
    (hg : w.grownBy w2 vs[j].ownBlock) (hat : vs[j].ownBlock = some g ∨ g = H) (hH : w.heap.size ≤ H) :
    Fill w0 B0 h A bo bi n (w2.setCell ⟨bo, j, none⟩ (.slice (some ⟨g, 0, none⟩) ((ls[j]'(by rw [← f.rows.len]; exact hj)).length + 1) cap)) F1 A1 (vs.set j (.slice (some ⟨g, 0, none⟩) ((ls[j]'(by rw [← f.rows.len]; exact hj)).length + 1) cap)) (ls.set j (ls[j]'(by rw [← f.rows.len]; exact hj) ++ [x])) e := by
  obtain ⟨a2, b2, o2, i2, r2⟩ := f.grown j x g cap H hj hown hg hat hH
  refine ⟨a2.setOther _ _ f.nf.1, f.word, f.top, f.es, b2.setCell (p := ⟨bo, j, none⟩) f.hb.1 _, f.hF, ?_, ?_, f.nf, r2.kept (S := fun q => q = bo) ((Fr.refl _ w2).setCell _ (fun _ => rfl)) (fun k hk q hq e => r2.out k hk q hq (Or.inr (Or.inl e))), by simpa using f.len, f.hb, f.h0⟩
  · rw [heap_setCell_at _ _ _ _ _ _ _ o2, List.take_set]; simp
  · rw [Below.heap_setCell _ _ _ _ (Ne.symm f.hb.2.2), i2, List.drop_set_of_lt hjn]
theorem Fill.putI (f : Fill w0 B0 h A bo bi n w F1 A1 vs ls e) (i x g cap H : Nat) (hj : n + i < vs.length)
    (hown : w2.ownsRow B0 31 1 (.slice (some ⟨g, 0, none⟩) ((ls[n + i]'(by rw [← f.rows.len]; exact hj)).length + 1) cap) ((ls[n + i]'(by rw [← f.rows.len]; exact hj)).length + 1) (us (ls[n + i]'(by rw [← f.rows.len]; exact hj)) ++ [.int .u32 (x : Int)]))
    (hg : w.grownBy w2 vs[n + i].ownBlock) (hat : vs[n + i].ownBlock = some g ∨ g = H) (hH : w.heap.size ≤ H) :
    Fill w0 B0 h A bo bi n (w2.setCell ⟨bi, i, none⟩ (.slice (some ⟨g, 0, none⟩) ((ls[n + i]'(by rw [← f.rows.len]; exact hj)).length + 1) cap)) F1 A1 (vs.set (n + i) (.slice (some ⟨g, 0, none⟩) ((ls[n + i]'(by rw [← f.rows.len]; exact hj)).length + 1) cap)) (ls.set (n + i) (ls[n + i]'(by rw [← f.rows.len]; exact hj) ++ [x])) e := by
  obtain ⟨a2, b2, o2, i2, r2⟩ := f.grown (n + i) x g cap H hj hown hg hat hH
  refine ⟨a2.setOther _ _ f.nf.2, f.word, f.top, f.es, b2.setCell (p := ⟨bi, i, none⟩) f.hb.2.1 _, f.hF, ?_, ?_, f.nf, r2.kept (S := fun q => q = bi) ((Fr.refl _ w2).setCell _ (fun _ => rfl)) (fun k hk q hq e => r2.out k hk q hq (Or.inr (Or.inr e))), by simpa using f.len, f.hb, f.h0⟩
  · rw [Below.heap_setCell _ _ _ _ f.hb.2.2, o2, List.take_set_of_le (by omega)]
  · rw [heap_setCell_at _ _ _ _ _ _ _ i2, List.drop_set]
    have : ¬ n + i < n := by omega
    rw [if_neg this]; simp
end Go.Proofs.Ytjdbofgjieljlaa
