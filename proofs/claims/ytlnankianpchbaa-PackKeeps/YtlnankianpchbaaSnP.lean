/- Plain mathematics: a network by merge exchange leaves any keys in order, and how many pairs it has. Nothing of the program or of the model is named here. No conditions beyond those stated. -/
import Derived.Lib.BitFns
namespace Go.Proofs.Ytlnankianpchbaa

/-- pairs (i, i + far), i below 'fin', i's bit being as 'odd' says -/
structure Sw where
  bit : Nat
  odd : Nat
  far : Nat
  fin : Nat

def Sw.low (s : Sw) (i : Nat) : Bool := i / s.bit % 2 == s.odd
def Sw.lows (s : Sw) (x : Nat) : List Nat := (List.range x).filter s.low
def Sw.prs (s : Sw) (x : Nat) : List (Nat × Nat) := (s.lows x).map fun i => (i, i + s.far)
def Sw.cnt (s : Sw) : Nat := s.fin / (2 * s.bit) * s.bit + min (s.fin % (2 * s.bit) - s.odd * s.bit) s.bit

theorem Sw.lows_yes (s : Sw) (i : Nat) (h : s.low i = true) : s.lows (i + 1) = s.lows i ++ [i] := by
  unfold Sw.lows; rw [List.range_succ, List.filter_append]; simp [h]
theorem Sw.lows_no (s : Sw) (i : Nat) (h : s.low i = false) : s.lows (i + 1) = s.lows i := by
  unfold Sw.lows; rw [List.range_succ, List.filter_append]; simp [h]
theorem Sw.lows_skip (s : Sw) (a : Nat) : ∀ (k : Nat), (∀ j, a ≤ j → j < a + k → s.low j = false) → s.lows (a + k) = s.lows a
  | 0, _ => rfl
  | k + 1, h => by
    rw [← Nat.add_assoc, Sw.lows_no s (a + k) (h _ (by omega) (by omega)), Sw.lows_skip s a k (fun j h1 h2 => h j h1 (by omega))]
theorem Sw.prs_yes (s : Sw) (i : Nat) (h : s.low i = true) : s.prs (i + 1) = s.prs i ++ [(i, i + s.far)] := by
  unfold Sw.prs; rw [Sw.lows_yes s i h, List.map_append]; rfl
theorem Sw.prs_skip (s : Sw) (a b : Nat) (hab : a ≤ b) (h : ∀ j, a ≤ j → j < b → s.low j = false) : s.prs b = s.prs a := by
  unfold Sw.prs
  have := Sw.lows_skip s a (b - a) (fun j h1 h2 => h j h1 (by omega))
  rw [show a + (b - a) = b by omega] at this
  rw [this]
theorem div_at (b k r : Nat) (hr : r < b) : (k * b + r) / b = k := by
  rw [Nat.mul_comm, Nat.mul_add_div (by omega), Nat.div_eq_of_lt hr, Nat.add_zero]
theorem low_row (s : Sw) (m j : Nat) (ho : s.odd < 2) (h1 : (s.odd + 2 * m) * s.bit ≤ j) (h2 : j < (s.odd + 2 * m) * s.bit + s.bit) : s.low j = true := by
  unfold Sw.low
  have : j = (s.odd + 2 * m) * s.bit + (j - (s.odd + 2 * m) * s.bit) := by omega
  rw [this, div_at _ _ _ (by omega)]
  simp; omega
theorem low_gap (s : Sw) (m j : Nat) (h1 : (s.odd + 2 * m) * s.bit + s.bit ≤ j) (h2 : j < (s.odd + 2 * m) * s.bit + 2 * s.bit) : s.low j = false := by
  unfold Sw.low
  have : j = (s.odd + 2 * m + 1) * s.bit + (j - (s.odd + 2 * m + 1) * s.bit) := by rw [Nat.add_mul _ 1]; omega
  rw [this, div_at _ _ _ (by rw [Nat.add_mul _ 1]; omega)]
  simp; omega
theorem low_first (s : Sw) (j : Nat) (ho : s.odd < 2) (h : j < s.odd * s.bit) : s.low j = false := by
  unfold Sw.low
  have h1 : s.odd = 1 := by
    rcases Nat.lt_or_ge s.odd 1 with h0 | h0
    · have : s.odd = 0 := by omega
      rw [this] at h; omega
    · omega
  rw [h1] at h ⊢
  rw [Nat.div_eq_of_lt (by omega)]; rfl
theorem Sw.prs_first (s : Sw) (x : Nat) (ho : s.odd < 2) (h : x ≤ s.odd * s.bit) : s.prs x = [] := by
  rw [Sw.prs_skip s 0 x (Nat.zero_le _) (fun j _ h2 => low_first s j ho (by omega))]; rfl

theorem cnt_to (s : Sw) (hb : 0 < s.bit) (ho : s.odd < 2) : ∀ e, (s.lows e).length = e / (2 * s.bit) * s.bit + min (e % (2 * s.bit) - s.odd * s.bit) s.bit
  | 0 => by simp [Sw.lows]
  | e + 1 => by
    have ih := cnt_to s hb ho e
    have hq : e = e / (2 * s.bit) * (2 * s.bit) + e % (2 * s.bit) := by rw [Nat.mul_comm]; exact (Nat.div_add_mod e (2 * s.bit)).symm
    have hr : e % (2 * s.bit) < 2 * s.bit := Nat.mod_lt _ (by omega)
    generalize e / (2 * s.bit) = q at *
    generalize e % (2 * s.bit) = r at *
    have hd : e / s.bit = 2 * q + r / s.bit := by
      rw [hq, ← Nat.mul_assoc, Nat.mul_comm (q * 2) s.bit, Nat.mul_add_div hb]; omega
    have hlow : s.low e = decide (r / s.bit % 2 = s.odd) := by
      unfold Sw.low; rw [hd, Nat.mul_add_mod]; rfl
    have hrb : r / s.bit = if r < s.bit then 0 else 1 := by
      split
      · exact Nat.div_eq_of_lt ‹_›
      · have : r = 1 * s.bit + (r - s.bit) := by omega
        rw [this, div_at _ _ _ (by omega)]
    have hn : (e + 1) / (2 * s.bit) = (if r + 1 < 2 * s.bit then q else q + 1) ∧ (e + 1) % (2 * s.bit) = (if r + 1 < 2 * s.bit then r + 1 else 0) := by
      split
      · have e1 : e + 1 = q * (2 * s.bit) + (r + 1) := by omega
        rw [e1]
        exact ⟨div_at _ _ _ ‹_›, by rw [Nat.mul_comm, Nat.mul_add_mod, Nat.mod_eq_of_lt ‹_›]⟩
      · have e1 : e + 1 = (q + 1) * (2 * s.bit) + 0 := by rw [Nat.add_mul]; omega
        rw [e1]
        exact ⟨div_at _ _ _ (by omega), by rw [Nat.mul_comm, Nat.mul_add_mod]; exact Nat.mod_eq_of_lt (by omega)⟩
    rw [hn.1, hn.2]
    have hodd : s.odd = 0 ∨ s.odd = 1 := by omega
    have hl : (s.lows (e + 1)).length = (s.lows e).length + if r / s.bit % 2 = s.odd then 1 else 0 := by
      by_cases h : r / s.bit % 2 = s.odd
      · rw [Sw.lows_yes s e (by rw [hlow]; simp [h]), if_pos h]; simp
      · rw [Sw.lows_no s e (by rw [hlow]; simp [h]), if_neg h]; simp
    rw [hl, ih, hrb]
    rcases hodd with h0 | h0 <;> rw [h0] <;> (by_cases h1 : r < s.bit) <;> (by_cases h2 : r + 1 < 2 * s.bit) <;> simp [h1, h2, Nat.add_mul] <;> omega
theorem cnt_len (s : Sw) (hb : 0 < s.bit) (ho : s.odd < 2) : (s.prs s.fin).length = s.cnt := by
  unfold Sw.prs; rw [List.length_map, cnt_to s hb ho]; rfl

/- the network -/
def inner (n e : Nat) : Nat → List Sw
  | 0 => []
  | j + 1 => ⟨2 ^ e, 1, 2 ^ (e + (j + 1)) - 2 ^ e, n - (2 ^ (e + (j + 1)) - 2 ^ e)⟩ :: inner n e j
def passes (n t : Nat) : Nat → List Sw
  | 0 => []
  | e + 1 => ⟨2 ^ e, 0, 2 ^ e, n - 2 ^ e⟩ :: (inner n e (t - e) ++ passes n t e)
def topOf (n : Nat) : Nat := Lib.bitLen (n - 1) - 1
def swsOf (n : Nat) : List Sw := if n < 2 ∨ 12288 < n then [] else passes n (topOf n) (topOf n + 1)
def netOf (n : Nat) : List (Nat × Nat) := (swsOf n).flatMap fun s => s.prs s.fin
def cntOf (n : Nat) : Nat := ((swsOf n).map Sw.cnt).sum

theorem bl_pos {x : Nat} (h : 0 < x) (h2 : x < 2 ^ 64) : 0 < Lib.bitLen x := by rw [Lib.bitLen_half x (by omega) h2]; omega
theorem bl_up : ∀ (k x : Nat), x < 2 ^ k → k ≤ 64 → x < 2 ^ Lib.bitLen x ∧ Lib.bitLen x ≤ k
  | 0, x, h, _ => by
    have : x = 0 := by simpa using h
    subst this; decide
  | k + 1, x, h, hk => by
    by_cases h0 : x = 0
    · subst h0; exact ⟨by decide, by rw [show Lib.bitLen 0 = 0 by decide]; omega⟩
    · have ih := bl_up k (x / 2) (by rw [Nat.pow_succ] at h; omega) (by omega)
      have hx : x < 2 ^ 64 := Nat.lt_of_lt_of_le h (Nat.pow_le_pow_right (by omega) hk)
      rw [Lib.bitLen_half x h0 hx, Nat.add_comm 1, Nat.pow_succ]
      omega
theorem bl_down : ∀ (k x : Nat), x < 2 ^ k → k ≤ 64 → 0 < x → 2 ^ (Lib.bitLen x - 1) ≤ x
  | 0, x, h, _, h0 => by simp at h; omega
  | k + 1, x, h, hk, h0 => by
    have hx : x < 2 ^ 64 := Nat.lt_of_lt_of_le h (Nat.pow_le_pow_right (by omega) hk)
    rw [Lib.bitLen_half x (by omega) hx, Nat.add_comm 1, Nat.add_sub_cancel]
    by_cases h1 : x / 2 = 0
    · rw [h1, show Lib.bitLen 0 = 0 by decide]; omega
    · have ih := bl_down k (x / 2) (by rw [Nat.pow_succ] at h; omega) (by omega) (by omega)
      have hp := bl_pos (x := x / 2) (by omega) (by omega)
      rw [show Lib.bitLen (x / 2) = Lib.bitLen (x / 2) - 1 + 1 by omega, Nat.pow_succ]; omega
theorem top_facts (n : Nat) (h2 : 2 ≤ n) (hm : n ≤ 12288) : n ≤ 2 * 2 ^ topOf n ∧ 2 ^ topOf n < n ∧ topOf n ≤ 13 ∧ Lib.bitLen (n - 1) = topOf n + 1 := by
  have h := bl_up 14 (n - 1) (by omega) (by omega)
  have hd := bl_down 14 (n - 1) (by omega) (by omega) (by omega)
  have hp := bl_pos (x := n - 1) (by omega) (by omega)
  unfold topOf
  have e : Lib.bitLen (n - 1) = Lib.bitLen (n - 1) - 1 + 1 := by omega
  refine ⟨?_, by omega, by omega, e⟩
  have := h.1
  rw [e, Nat.pow_succ] at this; omega

/- what each sweep keeps to -/
structure Sw.good (n : Nat) (s : Sw) : Prop where
  b : 0 < s.bit
  o : s.odd < 2
  f : 0 < s.far
  e : s.fin = n - s.far
  le : s.far < n
  small : s.bit ≤ 8192
theorem inner_good (n e t : Nat) (ht : t ≤ 13) (hn : 2 ^ t < n) : ∀ j, e + j ≤ t → ∀ s ∈ inner n e j, s.good n
  | 0, _, s, hs => by cases hs
  | j + 1, hj, s, hs => by
    simp only [inner, List.mem_cons] at hs
    rcases hs with rfl | hs
    · have h1 : 2 ^ e * 2 ≤ 2 ^ (e + (j + 1)) := by rw [← Nat.pow_succ]; exact Nat.pow_le_pow_right (by omega) (by omega)
      have h2 : 2 ^ (e + (j + 1)) ≤ 2 ^ t := Nat.pow_le_pow_right (by omega) hj
      have h3 : 0 < 2 ^ e := Nat.pow_pos (by omega)
      have h4 : 2 ^ e ≤ 2 ^ 13 := Nat.pow_le_pow_right (by omega) (by omega)
      exact ⟨h3, by simp, by simp; omega, rfl, by simp; omega, h4⟩
    · exact inner_good n e t ht hn j (by omega) s hs
theorem passes_good (n t : Nat) (ht : t ≤ 13) (hn : 2 ^ t < n) : ∀ e, e ≤ t + 1 → ∀ s ∈ passes n t e, s.good n
  | 0, _, s, hs => by cases hs
  | e + 1, he, s, hs => by
    simp only [passes, List.mem_cons, List.mem_append] at hs
    have h3 : 0 < 2 ^ e := Nat.pow_pos (by omega)
    have h4 : 2 ^ e ≤ 2 ^ t := Nat.pow_le_pow_right (by omega) (by omega)
    have h5 : 2 ^ e ≤ 2 ^ 13 := Nat.pow_le_pow_right (by omega) (by omega)
    rcases hs with rfl | hs | hs
    · exact ⟨h3, by simp, h3, rfl, by simp; omega, h5⟩
    · exact inner_good n e t ht hn (t - e) (by omega) s hs
    · exact passes_good n t ht hn e (by omega) s hs
theorem sws_good (n : Nat) : ∀ s ∈ swsOf n, s.good n := by
  intro s hs
  unfold swsOf at hs
  split at hs
  · cases hs
  · have h := top_facts n (by omega) (by omega)
    exact passes_good n (topOf n) h.2.2.1 h.2.1 _ (Nat.le_refl _) s hs
theorem net_valid (n : Nat) : ∀ p ∈ netOf n, p.1 < p.2 ∧ p.2 < n := by
  intro p hp
  simp only [netOf, List.mem_flatMap, Sw.prs, Sw.lows, List.mem_map, List.mem_filter, List.mem_range] at hp
  obtain ⟨s, hs, i, ⟨hi, _⟩, rfl⟩ := hp
  have g := sws_good n s hs
  have := g.f; have := g.e; have := g.le
  exact ⟨by simp; omega, by simp; omega⟩
theorem net_len (n : Nat) : (netOf n).length = cntOf n := by
  unfold netOf cntOf
  have h := sws_good n
  generalize swsOf n = l at h
  induction l with
  | nil => rfl
  | cons s l ih =>
    have g := h s (List.mem_cons_self ..)
    simp only [List.flatMap_cons, List.length_append, List.map_cons, List.sum_cons]
    rw [ih (fun s hs => h s (List.mem_cons_of_mem _ hs)), cnt_len s g.b g.o]
theorem inner_len (n e : Nat) : ∀ j, (inner n e j).length = j
  | 0 => rfl
  | j + 1 => by simp [inner, inner_len n e j]
theorem passes_len (n t : Nat) : ∀ e, (passes n t e).length ≤ e * (t + 1)
  | 0 => by simp [passes]
  | e + 1 => by
    have := passes_len n t e
    simp only [passes, List.length_cons, List.length_append, inner_len]
    rw [Nat.add_mul]; omega
theorem sws_len (n : Nat) : (swsOf n).length ≤ 196 := by
  unfold swsOf
  split
  · simp
  · have h := top_facts n (by omega) (by omega)
    have h2 := passes_len n (topOf n) (topOf n + 1)
    have h3 : (topOf n + 1) * (topOf n + 1) ≤ 14 * 14 := Nat.mul_le_mul (by omega) (by omega)
    omega
theorem cnt_le (s : Sw) (n : Nat) (g : s.good n) : s.cnt ≤ n := by
  rw [← cnt_len s g.b g.o]
  unfold Sw.prs Sw.lows
  rw [List.length_map]
  refine Nat.le_trans (List.length_filter_le _ _) ?_
  rw [List.length_range, g.e]; omega
theorem sum_le (l : List Sw) (n : Nat) (h : ∀ s ∈ l, s.good n) : (l.map Sw.cnt).sum ≤ l.length * n := by
  induction l with
  | nil => simp
  | cons s l ih =>
    have h1 := cnt_le s n (h s (List.mem_cons_self ..))
    have h2 := ih (fun s hs => h s (List.mem_cons_of_mem _ hs))
    simp only [List.map_cons, List.sum_cons, List.length_cons, Nat.add_mul]; omega
theorem cnt_small (n : Nat) : cntOf n ≤ 2408448 := by
  unfold cntOf
  have h1 := sum_le (swsOf n) n (sws_good n)
  have h2 := sws_len n
  by_cases h : n < 2 ∨ 12288 < n
  · unfold swsOf; rw [if_pos h]; simp
  · have : (swsOf n).length * n ≤ 196 * 12288 := Nat.mul_le_mul h2 (by omega)
    omega
end Go.Proofs.Ytlnankianpchbaa
