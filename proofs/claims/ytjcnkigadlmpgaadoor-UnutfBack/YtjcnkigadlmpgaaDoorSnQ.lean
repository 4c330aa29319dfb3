/- Plain mathematics: a network by merge exchange leaves any keys in order, and how many pairs it has. Nothing of the program or of the model is named here. No conditions beyond those stated. Plain mathematics: the network of merge exchange leaves any keys in order; what goes through it is as often there as before. Nothing of the program or of the model is named here. -/
import Derived.Lib.BitFns
namespace Go.Proofs.YtjcnkigadlmpgaaDoor
/-- pairs (i, i + far), i below 'fin', i's bit being as 'odd' says -/
structure Sw where
  bit : Nat
  odd : Nat
  far : Nat
  fin : Nat

def Sw.low (s : Sw) (i : Nat) : Bool := i / s.bit % 2 == s.odd
def Sw.lows (s : Sw) (x : Nat) : List Nat := (List.range x).filter s.low
def Sw.prs (s : Sw) (x : Nat) : List (Nat × Nat) := (s.lows x).map fun i => (i, i + s.far)
def Sw.cnt (s : Sw) : Nat := s.fin / (2 * s.bit) * s.bit + min (s.fin % (2 * s.bit) - s.odd * s.bit) s.bit

theorem Sw.lows_yes (s : Sw) (i : Nat) (h : s.low i = true) : s.lows (i + 1) = s.lows i ++ [i] := by
  unfold Sw.lows; rw [List.range_succ, List.filter_append]; simp [h]
theorem Sw.lows_no (s : Sw) (i : Nat) (h : s.low i = false) : s.lows (i + 1) = s.lows i := by
  unfold Sw.lows; rw [List.range_succ, List.filter_append]; simp [h]
theorem Sw.lows_skip (s : Sw) (a : Nat) : ∀ (k : Nat), (∀ j, a ≤ j → j < a + k → s.low j = false) → s.lows (a + k) = s.lows a
  | 0, _ => rfl
  | k + 1, h => by
    rw [← Nat.add_assoc, Sw.lows_no s (a + k) (h _ (by omega) (by omega)), Sw.lows_skip s a k (fun j h1 h2 => h j h1 (by omega))]
theorem Sw.prs_yes (s : Sw) (i : Nat) (h : s.low i = true) : s.prs (i + 1) = s.prs i ++ [(i, i + s.far)] := by
  unfold Sw.prs; rw [Sw.lows_yes s i h, List.map_append]; rfl
theorem Sw.prs_skip (s : Sw) (a b : Nat) (hab : a ≤ b) (h : ∀ j, a ≤ j → j < b → s.low j = false) : s.prs b = s.prs a := by
  unfold Sw.prs
  have := Sw.lows_skip s a (b - a) (fun j h1 h2 => h j h1 (by omega))
  rw [show a + (b - a) = b by omega] at this
  rw [this]
theorem div_at (b k r : Nat) (hr : r < b) : (k * b + r) / b = k := by
  rw [Nat.mul_comm, Nat.mul_add_div (by omega), Nat.div_eq_of_lt hr, Nat.add_zero]
theorem low_row (s : Sw) (m j : Nat) (ho : s.odd < 2) (h1 : (s.odd + 2 * m) * s.bit ≤ j) (h2 : j < (s.odd + 2 * m) * s.bit + s.bit) : s.low j = true := by
  unfold Sw.low
  have : j = (s.odd + 2 * m) * s.bit + (j - (s.odd + 2 * m) * s.bit) := by omega
  rw [this, div_at _ _ _ (by omega)]
  simp; omega
theorem low_gap (s : Sw) (m j : Nat) (h1 : (s.odd + 2 * m) * s.bit + s.bit ≤ j) (h2 : j < (s.odd + 2 * m) * s.bit + 2 * s.bit) : s.low j = false := by
  unfold Sw.low
  have : j = (s.odd + 2 * m + 1) * s.bit + (j - (s.odd + 2 * m + 1) * s.bit) := by rw [Nat.add_mul _ 1]; omega
  rw [this, div_at _ _ _ (by rw [Nat.add_mul _ 1]; omega)]
  simp; omega
theorem low_first (s : Sw) (j : Nat) (ho : s.odd < 2) (h : j < s.odd * s.bit) : s.low j = false := by
  unfold Sw.low
  have h1 : s.odd = 1 := by
    rcases Nat.lt_or_ge s.odd 1 with h0 | h0
    · have : s.odd = 0 := by omega
      rw [this] at h; omega
    · omega
  rw [h1] at h ⊢
  rw [Nat.div_eq_of_lt (by omega)]; rfl
theorem Sw.prs_first (s : Sw) (x : Nat) (ho : s.odd < 2) (h : x ≤ s.odd * s.bit) : s.prs x = [] := by
  rw [Sw.prs_skip s 0 x (Nat.zero_le _) (fun j _ h2 => low_first s j ho (by omega))]; rfl

theorem cnt_to (s : Sw) (hb : 0 < s.bit) (ho : s.odd < 2) : ∀ e, (s.lows e).length = e / (2 * s.bit) * s.bit + min (e % (2 * s.bit) - s.odd * s.bit) s.bit
  | 0 => by simp [Sw.lows]
  | e + 1 => by
    have ih := cnt_to s hb ho e
    have hq : e = e / (2 * s.bit) * (2 * s.bit) + e % (2 * s.bit) := by rw [Nat.mul_comm]; exact (Nat.div_add_mod e (2 * s.bit)).symm
    have hr : e % (2 * s.bit) < 2 * s.bit := Nat.mod_lt _ (by omega)
    generalize e / (2 * s.bit) = q at *
    generalize e % (2 * s.bit) = r at *
    have hd : e / s.bit = 2 * q + r / s.bit := by
      rw [hq, ← Nat.mul_assoc, Nat.mul_comm (q * 2) s.bit, Nat.mul_add_div hb]; omega
    have hlow : s.low e = decide (r / s.bit % 2 = s.odd) := by
      unfold Sw.low; rw [hd, Nat.mul_add_mod]; rfl
    have hrb : r / s.bit = if r < s.bit then 0 else 1 := by
      split
      · exact Nat.div_eq_of_lt ‹_›
      · have : r = 1 * s.bit + (r - s.bit) := by omega
        rw [this, div_at _ _ _ (by omega)]
    have hn : (e + 1) / (2 * s.bit) = (if r + 1 < 2 * s.bit then q else q + 1) ∧ (e + 1) % (2 * s.bit) = (if r + 1 < 2 * s.bit then r + 1 else 0) := by
      split
      · have e1 : e + 1 = q * (2 * s.bit) + (r + 1) := by omega
        rw [e1]
        exact ⟨div_at _ _ _ ‹_›, by rw [Nat.mul_comm, Nat.mul_add_mod, Nat.mod_eq_of_lt ‹_›]⟩
      · have e1 : e + 1 = (q + 1) * (2 * s.bit) + 0 := by rw [Nat.add_mul]; omega
        rw [e1]
        exact ⟨div_at _ _ _ (by omega), by rw [Nat.mul_comm, Nat.mul_add_mod]; exact Nat.mod_eq_of_lt (by omega)⟩
    rw [hn.1, hn.2]
    have hodd : s.odd = 0 ∨ s.odd = 1 := by omega
    have hl : (s.lows (e + 1)).length = (s.lows e).length + if r / s.bit % 2 = s.odd then 1 else 0 := by
      by_cases h : r / s.bit % 2 = s.odd
      · rw [Sw.lows_yes s e (by rw [hlow]; simp [h]), if_pos h]; simp
      · rw [Sw.lows_no s e (by rw [hlow]; simp [h]), if_neg h]; simp
    rw [hl, ih, hrb]
    rcases hodd with h0 | h0 <;> rw [h0] <;> (by_cases h1 : r < s.bit) <;> (by_cases h2 : r + 1 < 2 * s.bit) <;> simp [h1, h2, Nat.add_mul] <;> omega
theorem cnt_len (s : Sw) (hb : 0 < s.bit) (ho : s.odd < 2) : (s.prs s.fin).length = s.cnt := by
  unfold Sw.prs; rw [List.length_map, cnt_to s hb ho]; rfl

/- the network -/
def inner (n e : Nat) : Nat → List Sw
  | 0 => []
  | j + 1 => ⟨2 ^ e, 1, 2 ^ (e + (j + 1)) - 2 ^ e, n - (2 ^ (e + (j + 1)) - 2 ^ e)⟩ :: inner n e j
def passes (n t : Nat) : Nat → List Sw
  | 0 => []
  | e + 1 => ⟨2 ^ e, 0, 2 ^ e, n - 2 ^ e⟩ :: (inner n e (t - e) ++ passes n t e)
def topOf (n : Nat) : Nat := Lib.bitLen (n - 1) - 1
def swsOf (n : Nat) : List Sw := if n < 2 ∨ 12288 < n then [] else passes n (topOf n) (topOf n + 1)
def netOf (n : Nat) : List (Nat × Nat) := (swsOf n).flatMap fun s => s.prs s.fin
def cntOf (n : Nat) : Nat := ((swsOf n).map Sw.cnt).sum

theorem bl_pos {x : Nat} (h : 0 < x) (h2 : x < 2 ^ 64) : 0 < Lib.bitLen x := by rw [Lib.bitLen_half x (by omega) h2]; omega
theorem bl_up : ∀ (k x : Nat), x < 2 ^ k → k ≤ 64 → x < 2 ^ Lib.bitLen x ∧ Lib.bitLen x ≤ k
  | 0, x, h, _ => by
    have : x = 0 := by simpa using h
    subst this; decide
  | k + 1, x, h, hk => by
    by_cases h0 : x = 0
    · subst h0; exact ⟨by decide, by rw [show Lib.bitLen 0 = 0 by decide]; omega⟩
    · have ih := bl_up k (x / 2) (by rw [Nat.pow_succ] at h; omega) (by omega)
      have hx : x < 2 ^ 64 := Nat.lt_of_lt_of_le h (Nat.pow_le_pow_right (by omega) hk)
      rw [Lib.bitLen_half x h0 hx, Nat.add_comm 1, Nat.pow_succ]
      omega
theorem bl_down : ∀ (k x : Nat), x < 2 ^ k → k ≤ 64 → 0 < x → 2 ^ (Lib.bitLen x - 1) ≤ x
  | 0, x, h, _, h0 => by simp at h; omega
  | k + 1, x, h, hk, h0 => by
    have hx : x < 2 ^ 64 := Nat.lt_of_lt_of_le h (Nat.pow_le_pow_right (by omega) hk)
    rw [Lib.bitLen_half x (by omega) hx, Nat.add_comm 1, Nat.add_sub_cancel]
    by_cases h1 : x / 2 = 0
    · rw [h1, show Lib.bitLen 0 = 0 by decide]; omega
    · have ih := bl_down k (x / 2) (by rw [Nat.pow_succ] at h; omega) (by omega) (by omega)
      have hp := bl_pos (x := x / 2) (by omega) (by omega)
      rw [show Lib.bitLen (x / 2) = Lib.bitLen (x / 2) - 1 + 1 by omega, Nat.pow_succ]; omega
theorem top_facts (n : Nat) (h2 : 2 ≤ n) (hm : n ≤ 12288) : n ≤ 2 * 2 ^ topOf n ∧ 2 ^ topOf n < n ∧ topOf n ≤ 13 ∧ Lib.bitLen (n - 1) = topOf n + 1 := by
  have h := bl_up 14 (n - 1) (by omega) (by omega)
  have hd := bl_down 14 (n - 1) (by omega) (by omega) (by omega)
  have hp := bl_pos (x := n - 1) (by omega) (by omega)
  unfold topOf
  have e : Lib.bitLen (n - 1) = Lib.bitLen (n - 1) - 1 + 1 := by omega
  refine ⟨?_, by omega, by omega, e⟩
  have := h.1
  rw [e, Nat.pow_succ] at this; omega

/- what each sweep keeps to -/
structure Sw.good (n : Nat) (s : Sw) : Prop where
  b : 0 < s.bit
  o : s.odd < 2
  f : 0 < s.far
  e : s.fin = n - s.far
  le : s.far < n
  small : s.bit ≤ 8192
theorem inner_good (n e t : Nat) (ht : t ≤ 13) (hn : 2 ^ t < n) : ∀ j, e + j ≤ t → ∀ s ∈ inner n e j, s.good n
  | 0, _, s, hs => by cases hs
  | j + 1, hj, s, hs => by
    simp only [inner, List.mem_cons] at hs
    rcases hs with rfl | hs
    · have h1 : 2 ^ e * 2 ≤ 2 ^ (e + (j + 1)) := by rw [← Nat.pow_succ]; exact Nat.pow_le_pow_right (by omega) (by omega)
      have h2 : 2 ^ (e + (j + 1)) ≤ 2 ^ t := Nat.pow_le_pow_right (by omega) hj
      have h3 : 0 < 2 ^ e := Nat.pow_pos (by omega)
      have h4 : 2 ^ e ≤ 2 ^ 13 := Nat.pow_le_pow_right (by omega) (by omega)
      exact ⟨h3, by simp, by simp; omega, rfl, by simp; omega, h4⟩
    · exact inner_good n e t ht hn j (by omega) s hs
theorem passes_good (n t : Nat) (ht : t ≤ 13) (hn : 2 ^ t < n) : ∀ e, e ≤ t + 1 → ∀ s ∈ passes n t e, s.good n
  | 0, _, s, hs => by cases hs
  | e + 1, he, s, hs => by
    simp only [passes, List.mem_cons, List.mem_append] at hs
    have h3 : 0 < 2 ^ e := Nat.pow_pos (by omega)
    have h4 : 2 ^ e ≤ 2 ^ t := Nat.pow_le_pow_right (by omega) (by omega)
    have h5 : 2 ^ e ≤ 2 ^ 13 := Nat.pow_le_pow_right (by omega) (by omega)
    rcases hs with rfl | hs | hs
    · exact ⟨h3, by simp, h3, rfl, by simp; omega, h5⟩
    · exact inner_good n e t ht hn (t - e) (by omega) s hs
    · exact passes_good n t ht hn e (by omega) s hs
theorem sws_good (n : Nat) : ∀ s ∈ swsOf n, s.good n := by
  intro s hs
  unfold swsOf at hs
  split at hs
  · cases hs
  · have h := top_facts n (by omega) (by omega)
    exact passes_good n (topOf n) h.2.2.1 h.2.1 _ (Nat.le_refl _) s hs
theorem net_valid (n : Nat) : ∀ p ∈ netOf n, p.1 < p.2 ∧ p.2 < n := by
  intro p hp
  simp only [netOf, List.mem_flatMap, Sw.prs, Sw.lows, List.mem_map, List.mem_filter, List.mem_range] at hp
  obtain ⟨s, hs, i, ⟨hi, _⟩, rfl⟩ := hp
  have g := sws_good n s hs
  have := g.f; have := g.e; have := g.le
  exact ⟨by simp; omega, by simp; omega⟩
theorem net_len (n : Nat) : (netOf n).length = cntOf n := by
  unfold netOf cntOf
  have h := sws_good n
  generalize swsOf n = l at h
  induction l with
  | nil => rfl
  | cons s l ih =>
    have g := h s (List.mem_cons_self ..)
    simp only [List.flatMap_cons, List.length_append, List.map_cons, List.sum_cons]
    rw [ih (fun s hs => h s (List.mem_cons_of_mem _ hs)), cnt_len s g.b g.o]
theorem inner_len (n e : Nat) : ∀ j, (inner n e j).length = j
  | 0 => rfl
  | j + 1 => by simp [inner, inner_len n e j]
theorem passes_len (n t : Nat) : ∀ e, (passes n t e).length ≤ e * (t + 1)
  | 0 => by simp [passes]
  | e + 1 => by
    have := passes_len n t e
    simp only [passes, List.length_cons, List.length_append, inner_len]
    rw [Nat.add_mul]; omega
theorem sws_len (n : Nat) : (swsOf n).length ≤ 196 := by
  unfold swsOf
  split
  · simp
  · have h := top_facts n (by omega) (by omega)
    have h2 := passes_len n (topOf n) (topOf n + 1)
    have h3 : (topOf n + 1) * (topOf n + 1) ≤ 14 * 14 := Nat.mul_le_mul (by omega) (by omega)
    omega
theorem cnt_le (s : Sw) (n : Nat) (g : s.good n) : s.cnt ≤ n := by
  rw [← cnt_len s g.b g.o]
  unfold Sw.prs Sw.lows
  rw [List.length_map]
  refine Nat.le_trans (List.length_filter_le _ _) ?_
  rw [List.length_range, g.e]; omega
theorem sum_le (l : List Sw) (n : Nat) (h : ∀ s ∈ l, s.good n) : (l.map Sw.cnt).sum ≤ l.length * n := by
  induction l with
  | nil => simp
  | cons s l ih =>
    have h1 := cnt_le s n (h s (List.mem_cons_self ..))
    have h2 := ih (fun s hs => h s (List.mem_cons_of_mem _ hs))
    simp only [List.map_cons, List.sum_cons, List.length_cons, Nat.add_mul]; omega
theorem cnt_small (n : Nat) : cntOf n ≤ 2408448 := by
  unfold cntOf
  have h1 := sum_le (swsOf n) n (sws_good n)
  have h2 := sws_len n
  by_cases h : n < 2 ∨ 12288 < n
  · unfold swsOf; rw [if_pos h]; simp
  · have : (swsOf n).length * n ≤ 196 * 12288 := Nat.mul_le_mul h2 (by omega)
    omega

def cxF (f : Nat → Nat) (p : Nat × Nat) : Nat → Nat := fun x => if x = p.1 then min (f p.1) (f p.2) else if x = p.2 then max (f p.1) (f p.2) else f x

theorem sweepF (far : Nat) (hf : 0 < far) : ∀ (is : List Nat) (f : Nat → Nat), is.Nodup → (∀ i ∈ is, i + far ∉ is) →
    (∀ x ∈ is, ((is.map fun i => (i, i + far)).foldl cxF f) x = min (f x) (f (x + far)) ∧ ((is.map fun i => (i, i + far)).foldl cxF f) (x + far) = max (f x) (f (x + far))) ∧
    (∀ y, y ∉ is → (∀ x ∈ is, y ≠ x + far) → ((is.map fun i => (i, i + far)).foldl cxF f) y = f y)
  | [], f, _, _ => ⟨fun x hx => (by cases hx), fun _ _ _ => rfl⟩
  | i :: is, f, hnd, hap => by
    obtain ⟨hi, hnd'⟩ := List.nodup_cons.1 hnd
    have hap' : ∀ x ∈ is, x + far ∉ is := fun x hx h => hap x (List.mem_cons_of_mem _ hx) (List.mem_cons_of_mem _ h)
    obtain ⟨h1, h2⟩ := sweepF far hf is (cxF f (i, i + far)) hnd' hap'
    have hiu : i + far ∉ is := fun h => hap i (List.mem_cons_self ..) (List.mem_cons_of_mem _ h)
    have hne : ∀ x ∈ is, x ≠ i ∧ x ≠ i + far ∧ x + far ≠ i ∧ x + far ≠ i + far := fun x hx =>
      ⟨fun e => hi (e ▸ hx), fun e => hiu (e ▸ hx), fun e => hap x (List.mem_cons_of_mem _ hx) (by rw [e]; exact List.mem_cons_self ..), fun e => hi (by have : x = i := by omega
                                                                                                                                                         exact this ▸ hx)⟩
    simp only [List.map_cons, List.foldl_cons]
    refine ⟨fun x hx => ?_, fun y hy hu => ?_⟩
    · rcases List.mem_cons.1 hx with rfl | hx
      · have a1 := h2 x hi (fun z hz e => (hne z hz).2.2.1 e.symm)
        have a2 := h2 (x + far) hiu (fun z hz e => (hne z hz).2.2.2 e.symm)
        rw [a1, a2]
        refine ⟨by simp [cxF], ?_⟩
        have : x + far ≠ x := by omega
        unfold cxF; rw [if_neg this, if_pos rfl]
      · obtain ⟨a1, a2⟩ := h1 x hx
        obtain ⟨n1, n2, n3, n4⟩ := hne x hx
        rw [a1, a2]
        have e1 : cxF f (i, i + far) x = f x := by simp [cxF, n1, n2]
        have e2 : cxF f (i, i + far) (x + far) = f (x + far) := by
          unfold cxF; rw [if_neg n3, if_neg n4]
        rw [e1, e2]; exact ⟨rfl, rfl⟩
    · have y1 : y ≠ i := fun e => hy (e ▸ List.mem_cons_self ..)
      have y2 : y ≠ i + far := hu i (List.mem_cons_self ..)
      rw [h2 y (fun h => hy (List.mem_cons_of_mem _ h)) (fun x hx => hu x (List.mem_cons_of_mem _ hx))]
      simp [cxF, y1, y2]

/-- keys, and beyond the n-th one a number that is above none of them -/
structure Ext (n M : Nat) (f : Nat → Nat) : Prop where
  top : ∀ x, n ≤ x → f x = M
  le : ∀ x, f x ≤ M

structure SwStep (s : Sw) (f g : Nat → Nat) : Prop where
  lo : ∀ x, s.low x = true → g x = min (f x) (f (x + s.far))
  hi : ∀ x, s.low x = true → g (x + s.far) = max (f x) (f (x + s.far))
  id : ∀ y, s.low y = false → (s.far ≤ y → s.low (y - s.far) = false) → g y = f y

theorem sweep_step (s : Sw) (n M : Nat) (g : s.good n) (hflip : ∀ i, s.low (i + s.far) = !s.low i) (f : Nat → Nat) (hE : Ext n M f) :
    SwStep s f ((s.prs s.fin).foldl cxF f) ∧ Ext n M ((s.prs s.fin).foldl cxF f) := by
  have hmem : ∀ i, i ∈ s.lows s.fin ↔ i < s.fin ∧ s.low i = true := fun i => by simp [Sw.lows]
  obtain ⟨h1, h2⟩ := sweepF s.far g.f (s.lows s.fin) f (List.nodup_range.filter _) (fun i hi h => by
    have a := ((hmem _).1 hi).2; have b := ((hmem _).1 h).2
    rw [hflip, a] at b; cases b)
  have hfin := g.e; have hle := g.le; have hf := g.f
  have hlo : ∀ x, s.low x = true → ((s.prs s.fin).foldl cxF f) x = min (f x) (f (x + s.far)) ∧ ((s.prs s.fin).foldl cxF f) (x + s.far) = max (f x) (f (x + s.far)) := by
    intro x hx
    by_cases hlt : x < s.fin
    · exact h1 x ((hmem x).2 ⟨hlt, hx⟩)
    · have hM := hE.top (x + s.far) (by omega)
      have hx' := hE.le x
      have e1 := h2 x (fun h => hlt ((hmem x).1 h).1) (fun z hz e => by
        have := ((hmem z).1 hz).2
        have hfl := hflip z; rw [← e, this, hx] at hfl; cases hfl)
      have e2 := h2 (x + s.far) (fun h => by have := ((hmem _).1 h).2; rw [hflip, hx] at this; cases this) (fun z hz e => hlt (by have : z = x := by omega
                                                                                                                                  exact this ▸ ((hmem z).1 hz).1))
      unfold Sw.prs
      rw [e1, e2, hM]; omega
  have hid : ∀ y, s.low y = false → (s.far ≤ y → s.low (y - s.far) = false) → ((s.prs s.fin).foldl cxF f) y = f y := fun y hy hu =>
    h2 y (fun h => by have := ((hmem y).1 h).2; rw [hy] at this; cases this) (fun z hz e => by
      have a := ((hmem z).1 hz).2
      have := hu (by omega)
      rw [e, Nat.add_sub_cancel, a] at this; cases this)
  refine ⟨⟨fun x hx => (hlo x hx).1, fun x hx => (hlo x hx).2, hid⟩, fun x hx => ?_, fun x => ?_⟩
  · by_cases hl : s.low x = true
    · rw [(hlo x hl).1, hE.top x hx, hE.top _ (by omega)]; omega
    · have hl' : s.low x = false := by simpa using hl
      by_cases hu : s.far ≤ x ∧ s.low (x - s.far) = true
      · have := (hlo _ hu.2).2
        rw [Nat.sub_add_cancel hu.1] at this
        rw [this, hE.top x hx]; have := hE.le (x - s.far); omega
      · rw [hid x hl' (fun h => by simpa using fun h3 => hu ⟨h, h3⟩), hE.top x hx]
  · by_cases hl : s.low x = true
    · rw [(hlo x hl).1]; have := hE.le x; omega
    · have hl' : s.low x = false := by simpa using hl
      by_cases hu : s.far ≤ x ∧ s.low (x - s.far) = true
      · have := (hlo _ hu.2).2
        rw [Nat.sub_add_cancel hu.1] at this
        rw [this]; have := hE.le (x - s.far); have := hE.le x; omega
      · rw [hid x hl' (fun h => by simpa using fun h3 => hu ⟨h, h3⟩)]; exact hE.le x

theorem climb {f : Nat → Nat} {d : Nat} (h : ∀ x, f x ≤ f (x + d)) : ∀ k x, f x ≤ f (x + k * d)
  | 0, x => by simp
  | k + 1, x => by
    have a := climb h k x; have b := h (x + k * d)
    rw [Nat.add_mul, Nat.one_mul, ← Nat.add_assoc]; omega

/-- x's bit -/
theorem par_add (p k x : Nat) (hp : 0 < p) : (x + k * p) / p = x / p + k := by rw [Nat.add_mul_div_right _ _ hp]
def Sorted2 (p : Nat) (f : Nat → Nat) : Prop := ∀ x, f x ≤ f (x + 2 * p)
def EvenUp (p : Nat) (f : Nat → Nat) : Prop := ∀ y, y / p % 2 = 0 → f y ≤ f (y + p)
def OddUp (p q : Nat) (f : Nat → Nat) : Prop := ∀ x, x / p % 2 = 1 → f x ≤ f (x + (2 * q - p))

theorem first_sweep (p n : Nat) (f g : Nat → Nat) (hp : 0 < p) (hS : Sorted2 p f) (h : SwStep ⟨p, 0, p, n⟩ f g) : Sorted2 p g ∧ EvenUp p g := by
  have lo : ∀ x, x / p % 2 = 0 → g x = min (f x) (f (x + p)) := fun x hx => h.lo x (by simp [Sw.low, hx])
  have hi : ∀ x, x / p % 2 = 0 → g (x + p) = max (f x) (f (x + p)) := fun x hx => h.hi x (by simp [Sw.low, hx])
  have par2 : ∀ x, (x + 2 * p) / p % 2 = x / p % 2 := fun x => by rw [par_add p 2 x hp]; omega
  refine ⟨fun x => ?_, fun y hy => ?_⟩
  · rcases Nat.mod_two_eq_zero_or_one (x / p) with hx | hx
    · have a := lo x hx
      have b := lo (x + 2 * p) (by rw [par2]; exact hx)
      have c := hS x
      have d := hS (x + p)
      rw [show x + p + 2 * p = x + 2 * p + p by omega] at d
      omega
    · have hge : p ≤ x := by
        rcases Nat.lt_or_ge x p with hl | hl
        · rw [Nat.div_eq_of_lt hl] at hx; cases hx
        · exact hl
      have hz : (x - p) / p % 2 = 0 := by
        have := par_add p 1 (x - p) hp
        rw [Nat.one_mul, Nat.sub_add_cancel hge] at this; omega
      have a := hi (x - p) hz
      have b := hi (x - p + 2 * p) (by rw [par2]; exact hz)
      have c := hS (x - p)
      have d := hS x
      rw [Nat.sub_add_cancel hge] at a
      rw [show x - p + 2 * p + p = x + 2 * p by omega] at b
      omega
  · have a := lo y hy; have b := hi y hy; omega

theorem inner_sweep (p q m n : Nat) (f g : Nat → Nat) (hp : 0 < p) (hm : 0 < m) (hq : q = 2 * m * p) (hS : Sorted2 p f) (hA : EvenUp p f) (hB : OddUp p q f) (h : SwStep ⟨p, 1, q - p, n⟩ f g) :
    Sorted2 p g ∧ EvenUp p g ∧ ∀ x, x / p % 2 = 1 → g x ≤ g (x + (q - p)) := by
  have lo : ∀ x, x / p % 2 = 1 → g x = min (f x) (f (x + (q - p))) := fun x hx => h.lo x (by simp [Sw.low, hx])
  have hi : ∀ x, x / p % 2 = 1 → g (x + (q - p)) = max (f x) (f (x + (q - p))) := fun x hx => h.hi x (by simp [Sw.low, hx])
  have par2 : ∀ x, (x + 2 * p) / p % 2 = x / p % 2 := fun x => by rw [par_add p 2 x hp]; omega
  have hqp : q - p = (2 * m - 1) * p := by rw [hq, Nat.sub_mul, Nat.one_mul]
  have hqge : p ≤ q := by rw [hq]; exact Nat.le_mul_of_pos_left _ (by omega)
  have hge : ∀ x, x / p % 2 = 1 → p ≤ x := fun x hx => by
    rcases Nat.lt_or_ge x p with hl | hl
    · rw [Nat.div_eq_of_lt hl] at hx; cases hx
    · exact hl
  have back : ∀ y, y / p % 2 = 0 → q - p ≤ y → (y - (q - p)) / p % 2 = 1 := fun y hy hl => by
    have := par_add p (2 * m - 1) (y - (q - p)) hp
    rw [← hqp, Nat.sub_add_cancel hl] at this; omega
  have ev : ∀ y, y / p % 2 = 0 → (q - p ≤ y ∧ g y = max (f (y - (q - p))) (f y)) ∨ (y < q - p ∧ g y = f y) := fun y hy => by
    rcases Nat.lt_or_ge y (q - p) with hl | hl
    · exact Or.inr ⟨hl, h.id y (by simp [Sw.low, hy]) (fun h2 => by simp only at h2; omega)⟩
    · have := hi _ (back y hy hl)
      rw [Nat.sub_add_cancel hl] at this
      exact Or.inl ⟨hl, this⟩
  have far : ∀ x, f x ≤ f (x + q) := fun x => by
    have := climb hS m x
    rw [hq, show 2 * m * p = m * (2 * p) by rw [Nat.mul_comm 2 m, Nat.mul_assoc]]; exact this
  refine ⟨fun x => ?_, fun y hy => ?_, fun x hx => ?_⟩
  · rcases Nat.mod_two_eq_zero_or_one (x / p) with hx | hx
    · have c := hS x
      rcases ev x hx with ⟨hl, a⟩ | ⟨hl, a⟩ <;> rcases ev (x + 2 * p) (by rw [par2]; exact hx) with ⟨hl2, b⟩ | ⟨hl2, b⟩
      · have d := hS (x - (q - p))
        rw [show x - (q - p) + 2 * p = x + 2 * p - (q - p) by omega] at d; omega
      · omega
      · omega
      · omega
    · have a := lo x hx
      have b := lo (x + 2 * p) (by rw [par2]; exact hx)
      have c := hS x
      have d := hS (x + (q - p))
      rw [show x + (q - p) + 2 * p = x + 2 * p + (q - p) by omega] at d
      omega
  · have hy1 : (y + p) / p % 2 = 1 := by
      have := par_add p 1 y hp
      rw [Nat.one_mul] at this; omega
    have a := lo (y + p) hy1
    rw [show y + p + (q - p) = y + q by omega] at a
    have c := hA y hy
    have d := far y
    rcases ev y hy with ⟨hl, b⟩ | ⟨hl, b⟩
    · have e := far (y - (q - p))
      rw [show y - (q - p) + q = y + p by omega] at e
      have k := hB (y - (q - p)) (back y hy hl)
      rw [show y - (q - p) + (2 * q - p) = y + q by omega] at k
      omega
    · omega
  · have a := lo x hx; have b := hi x hx; omega
theorem flipE (e : Nat) (o : Nat) (ho : o < 2) (k fin : Nat) (hk : k % 2 = 1) : ∀ i, (⟨2 ^ e, o, k * 2 ^ e, fin⟩ : Sw).low (i + (⟨2 ^ e, o, k * 2 ^ e, fin⟩ : Sw).far) = !(⟨2 ^ e, o, k * 2 ^ e, fin⟩ : Sw).low i := fun i => by
  have hp : 0 < 2 ^ e := Nat.pow_pos (by omega)
  simp only [Sw.low, par_add _ _ _ hp]
  have : (i / 2 ^ e + k) % 2 = (i / 2 ^ e % 2 + 1) % 2 := by omega
  rw [this]
  have h2 := Nat.mod_two_eq_zero_or_one (i / 2 ^ e)
  generalize i / 2 ^ e % 2 = z at *
  have ho' : o = 0 ∨ o = 1 := by omega
  rcases h2 with rfl | rfl <;> rcases ho' with rfl | rfl <;> rfl
def runF (l : List Sw) (f : Nat → Nat) : Nat → Nat := (l.flatMap fun s => s.prs s.fin).foldl cxF f
theorem runF_cons (s : Sw) (l : List Sw) (f : Nat → Nat) : runF (s :: l) f = runF l ((s.prs s.fin).foldl cxF f) := by
  unfold runF; rw [List.flatMap_cons, List.foldl_append]
theorem runF_append (k l : List Sw) (f : Nat → Nat) : runF (k ++ l) f = runF l (runF k f) := by
  unfold runF; rw [List.flatMap_append, List.foldl_append]
theorem inner_runs (n M e t : Nat) (ht : t ≤ 13) (hn : 2 ^ t < n) : ∀ (j : Nat) (f : Nat → Nat), e + j ≤ t → Ext n M f → Sorted2 (2 ^ e) f → EvenUp (2 ^ e) f → OddUp (2 ^ e) (2 ^ (e + j)) f →
    Ext n M (runF (inner n e j) f) ∧ ∀ x, runF (inner n e j) f x ≤ runF (inner n e j) f (x + 2 ^ e)
  | 0, f, _, hE, hS, hA, hB => by
    refine ⟨hE, fun x => ?_⟩
    have hp : 0 < 2 ^ e := Nat.pow_pos (by omega)
    rcases Nat.mod_two_eq_zero_or_one (x / 2 ^ e) with hx | hx
    · exact hA x hx
    · have := hB x hx
      rw [Nat.add_zero, show 2 * 2 ^ e - 2 ^ e = 2 ^ e by omega] at this; exact this
  | j + 1, f, hj, hE, hS, hA, hB => by
    have hp : 0 < 2 ^ e := Nat.pow_pos (by omega)
    have hg := inner_good n e t ht hn (j + 1) hj _ (List.mem_cons_self ..)
    have hq : 2 ^ (e + (j + 1)) = 2 * 2 ^ j * 2 ^ e := by rw [Nat.pow_add, Nat.pow_succ, Nat.mul_comm (2 ^ e), Nat.mul_comm (2 ^ j) 2]
    have hpj : 0 < 2 ^ j := Nat.pow_pos (by omega)
    have hfar : 2 ^ (e + (j + 1)) - 2 ^ e = (2 * 2 ^ j - 1) * 2 ^ e := by rw [hq, Nat.sub_mul, Nat.one_mul]
    simp only [inner, runF_cons]
    have hst := sweep_step _ n M hg (by rw [hfar]; exact flipE e 1 (by omega) (2 * 2 ^ j - 1) _ (by omega)) f hE
    obtain ⟨a, b, c⟩ := inner_sweep (2 ^ e) (2 ^ (e + (j + 1))) (2 ^ j) _ f _ hp hpj hq hS hA hB hst.1
    refine inner_runs n M e t ht hn j _ (by omega) hst.2 a b (fun x hx => ?_)
    have := c x hx
    rw [show 2 * 2 ^ (e + j) = 2 ^ (e + (j + 1)) by rw [← Nat.add_assoc, Nat.pow_succ, Nat.mul_comm]]
    exact this
theorem passes_run (n M t : Nat) (ht : t ≤ 13) (hn : 2 ^ t < n) (hn2 : n ≤ 2 * 2 ^ t) : ∀ (e : Nat) (f : Nat → Nat), e ≤ t + 1 → Ext n M f → (∀ x, f x ≤ f (x + 2 ^ e)) →
    Ext n M (runF (passes n t e) f) ∧ ∀ x, runF (passes n t e) f x ≤ runF (passes n t e) f (x + 1)
  | 0, f, _, hE, hS => ⟨hE, hS⟩
  | e + 1, f, he, hE, hS => by
    have hp : 0 < 2 ^ e := Nat.pow_pos (by omega)
    have hg := passes_good n t ht hn (e + 1) he _ (List.mem_cons_self ..)
    have hst := sweep_step _ n M hg (by have := flipE e 0 (by omega) 1 (n - 2 ^ e) (by omega); rw [Nat.one_mul] at this; exact this) f hE
    have h1 := first_sweep (2 ^ e) (n - 2 ^ e) f _ hp (fun x => by rw [Nat.mul_comm, ← Nat.pow_succ]; exact hS x) hst.1
    have hE' := hst.2
    simp only [passes, runF_cons, runF_append]
    generalize ((⟨2 ^ e, 0, 2 ^ e, n - 2 ^ e⟩ : Sw).prs (⟨2 ^ e, 0, 2 ^ e, n - 2 ^ e⟩ : Sw).fin).foldl cxF f = g at *
    obtain ⟨hS', hA'⟩ := h1
    have h2 := inner_runs n M e t ht hn (t - e) g (by omega) hE' hS' hA' (fun x hx => by
      have hge : 2 ^ e ≤ x := by
        rcases Nat.lt_or_ge x (2 ^ e) with hl | hl
        · rw [Nat.div_eq_of_lt hl] at hx; cases hx
        · exact hl
      have : 2 ^ e ≤ 2 ^ t := Nat.pow_le_pow_right (by omega) (by omega)
      rw [show e + (t - e) = t by omega, hE'.top (x + (2 * 2 ^ t - 2 ^ e)) (by omega)]
      exact hE'.le x)
    exact passes_run n M t ht hn hn2 e _ (by omega) h2.1 h2.2
theorem net_sorts (n M : Nat) (h2 : 2 ≤ n) (hm : n ≤ 12288) (f : Nat → Nat) (hE : Ext n M f) : Ext n M ((netOf n).foldl cxF f) ∧ ∀ x, (netOf n).foldl cxF f x ≤ (netOf n).foldl cxF f (x + 1) := by
  have h := top_facts n h2 hm
  have := passes_run n M (topOf n) h.2.2.1 h.2.1 h.1 (topOf n + 1) f (Nat.le_refl _) hE (fun x => by
    rw [hE.top (x + 2 ^ (topOf n + 1)) (by rw [Nat.pow_succ]; omega)]; exact hE.le x)
  unfold netOf swsOf
  rw [if_neg (by omega)]
  exact this

/- lists of things with keys -/
variable {α : Type}
def exch (key : α → Nat) (l : List α) (p : Nat × Nat) : List α :=
  if h : p.1 < p.2 ∧ p.2 < l.length then (if key l[p.2] < key l[p.1] then (l.set p.1 l[p.2]).set p.2 l[p.1] else l) else l
def thru (key : α → Nat) (l : List α) (ps : List (Nat × Nat)) : List α := ps.foldl (exch key) l
theorem exch_len (key : α → Nat) (l : List α) (p : Nat × Nat) : (exch key l p).length = l.length := by
  unfold exch; split
  · split <;> simp
  · rfl
theorem exch_perm (key : α → Nat) (l : List α) (p : Nat × Nat) : (exch key l p).Perm l := by
  unfold exch; split
  · rename_i h
    split
    · exact List.set_set_perm (by omega) h.2
    · exact List.Perm.refl _
  · exact List.Perm.refl _
theorem thru_len (key : α → Nat) : ∀ (ps : List (Nat × Nat)) (l : List α), (thru key l ps).length = l.length
  | [], _ => rfl
  | p :: ps, l => by unfold thru; rw [List.foldl_cons]; exact (thru_len key ps _).trans (exch_len key l p)
theorem thru_perm (key : α → Nat) : ∀ (ps : List (Nat × Nat)) (l : List α), (thru key l ps).Perm l
  | [], _ => List.Perm.refl _
  | p :: ps, l => by unfold thru; rw [List.foldl_cons]; exact (thru_perm key ps _).trans (exch_perm key l p)
def keyF (key : α → Nat) (M : Nat) (l : List α) : Nat → Nat := fun x => if h : x < l.length then key l[x] else M
theorem keyF_exch (key : α → Nat) (M : Nat) (l : List α) (p : Nat × Nat) (h : p.1 < p.2 ∧ p.2 < l.length) : keyF key M (exch key l p) = cxF (keyF key M l) p := by
  funext x
  have h1 : p.1 < l.length := by omega
  have ka : keyF key M l p.1 = key l[p.1] := by simp [keyF, h1]
  have kb : keyF key M l p.2 = key l[p.2] := by simp [keyF, h.2]
  unfold cxF
  rw [ka, kb]
  unfold exch
  rw [dif_pos h]
  by_cases hlt : key l[p.2] < key l[p.1]
  · rw [if_pos hlt]
    unfold keyF
    simp only [List.length_set, List.getElem_set]
    by_cases hx : x = p.1
    · subst hx
      have : p.2 ≠ p.1 := by omega
      simp [h1, this]; omega
    · by_cases hy : x = p.2
      · subst hy; simp [h.2, hx]; omega
      · have q1 : ¬ p.1 = x := fun e => hx e.symm
        have q2 : ¬ p.2 = x := fun e => hy e.symm
        simp [hx, hy, q1, q2]
  · rw [if_neg hlt]
    by_cases hx : x = p.1
    · subst hx; simp [ka]; omega
    · by_cases hy : x = p.2
      · subst hy; simp [kb, hx]; omega
      · simp [hx, hy]
theorem keyF_thru (key : α → Nat) (M : Nat) : ∀ (ps : List (Nat × Nat)) (l : List α), (∀ p ∈ ps, p.1 < p.2 ∧ p.2 < l.length) → keyF key M (thru key l ps) = ps.foldl cxF (keyF key M l)
  | [], _, _ => rfl
  | p :: ps, l, h => by
    unfold thru
    rw [List.foldl_cons, List.foldl_cons, ← keyF_exch key M l p (h p (List.mem_cons_self ..))]
    exact keyF_thru key M ps _ (fun q hq => by rw [exch_len]; exact h q (List.mem_cons_of_mem _ hq))
theorem thru_sorted (key : α → Nat) (M : Nat) (l : List α) (hm : l.length ≤ 12288) (hk : ∀ a ∈ l, key a ≤ M) (x : Nat) (hx : x + 1 < (thru key l (netOf l.length)).length) :
    key ((thru key l (netOf l.length))[x]'(by omega)) ≤ key (thru key l (netOf l.length))[x + 1] := by
  have hl := thru_len key (netOf l.length) l
  have hE : Ext l.length M (keyF key M l) := ⟨fun x hx => by simp [keyF]; intro h; omega, fun x => by
    unfold keyF; split
    · exact hk _ (List.getElem_mem _)
    · exact Nat.le_refl _⟩
  have h := (net_sorts l.length M (by omega) hm _ hE).2 x
  rw [← keyF_thru key M _ l (fun p hp => net_valid _ p hp)] at h
  unfold keyF at h
  rw [dif_pos (by omega), dif_pos hx] at h
  exact h
end Go.Proofs.YtjcnkigadlmpgaaDoor
