/- Charts as plain mathematics: texts cut at a byte, points, classes, names. Nothing of the program is named here. -/
import Derived.Lib.Split
import Derived.Lib.Strings
namespace Go.Proofs.YtgalmlelnolodaaGreatDoor

/-- a text cut at each byte c -/
def spl (c : UInt8) : List UInt8 → List (List UInt8)
  | [] => [[]]
  | b :: r => if b = c then [] :: spl c r else match spl c r with
    | [] => [[b]]
    | h :: t => (b :: h) :: t
theorem spl_ne (c : UInt8) (l : List UInt8) : spl c l ≠ [] := by
  cases l with
  | nil => simp [spl]
  | cons b r =>
    unfold spl
    split
    · simp
    · split <;> simp
theorem spl_none {c : UInt8} {l : List UInt8} (h : c ∉ l) : spl c l = [l] := by
  induction l with
  | nil => rfl
  | cons b r ih =>
    have hb : b ≠ c := fun e => h (by rw [e]; exact List.mem_cons_self)
    have hr : c ∉ r := fun e => h (List.mem_cons_of_mem _ e)
    unfold spl
    rw [if_neg hb, ih hr]
theorem spl_cut {c : UInt8} {a r : List UInt8} (h : c ∉ a) : spl c (a ++ c :: r) = a :: spl c r := by
  induction a with
  | nil => show spl c (c :: r) = _; rw [spl, if_pos rfl]
  | cons b a ih =>
    have hb : b ≠ c := fun e => h (by rw [e]; exact List.mem_cons_self)
    have ha : c ∉ a := fun e => h (List.mem_cons_of_mem _ e)
    show spl c (b :: (a ++ c :: r)) = _
    rw [spl, if_neg hb, ih ha]
/-- one byte more -/
theorem spl_snoc (c : UInt8) (l : List UInt8) (b : UInt8) : spl c (l ++ [b]) = if b = c then spl c l ++ [[]] else (spl c l).dropLast ++ [(spl c l).getLastD [] ++ [b]] := by
  induction l with
  | nil =>
    show spl c [b] = _
    by_cases hb : b = c
    · rw [if_pos hb]; unfold spl; rw [if_pos hb]; rfl
    · rw [if_neg hb]; unfold spl; rw [if_neg hb]; rfl
  | cons x r ih =>
    show spl c (x :: (r ++ [b])) = _
    have hne := spl_ne c r
    by_cases hx : x = c
    · have e1 : spl c (x :: (r ++ [b])) = [] :: spl c (r ++ [b]) := by rw [spl, if_pos hx]
      have e2 : spl c (x :: r) = [] :: spl c r := by rw [spl, if_pos hx]
      rw [e1, e2, ih]
      by_cases hb : b = c
      · simp only [if_pos hb, List.cons_append]
      · simp only [if_neg hb]
        obtain ⟨h, t, e⟩ : ∃ h t, spl c r = h :: t := by
          cases hs : spl c r with
          | nil => exact absurd hs hne
          | cons h t => exact ⟨h, t, rfl⟩
        rw [e]
        simp
    · obtain ⟨h, t, e⟩ : ∃ h t, spl c r = h :: t := by
        cases hs : spl c r with
        | nil => exact absurd hs hne
        | cons h t => exact ⟨h, t, rfl⟩
      have e2 : spl c (x :: r) = (x :: h) :: t := by rw [spl, if_neg hx, e]
      rw [e2]
      rw [spl, if_neg hx, ih, e]
      by_cases hb : b = c
      · simp only [if_pos hb, List.cons_append]
      · simp only [if_neg hb]
        cases t with
        | nil => simp
        | cons t1 t2 => simp

open Go.Lib in
theorem index_no {c : UInt8} {l : List UInt8} (h : c ∉ l) : index l [c] = -1 := by
  induction l with
  | nil => rfl
  | cons b r ih =>
    have hb : b ≠ c := fun e => h (by rw [e]; exact List.mem_cons_self)
    have hr : c ∉ r := fun e => h (List.mem_cons_of_mem _ e)
    unfold index
    rw [if_neg (by simp [List.isPrefixOf]; exact fun e => hb e.symm), ih hr]
    rfl
open Go.Lib in
theorem index_cut {c : UInt8} {a r : List UInt8} (h : c ∉ a) : index (a ++ c :: r) [c] = (a.length : Int) := by
  induction a with
  | nil => show index (c :: r) [c] = 0; unfold index; rw [if_pos (by simp [List.isPrefixOf])]
  | cons b a ih =>
    have hb : b ≠ c := fun e => h (by rw [e]; exact List.mem_cons_self)
    have ha : c ∉ a := fun e => h (List.mem_cons_of_mem _ e)
    show index (b :: (a ++ c :: r)) [c] = _
    unfold index
    rw [if_neg (by simp [List.isPrefixOf]; exact fun e => hb e.symm), ih ha, if_neg (by simp)]
    simp
open Go.Lib in
theorem split_spl (c : UInt8) : ∀ (n : Nat) (l : List UInt8), l.length ≤ n → splitK [c] 0 (count l [c]) l = spl c l := by
  intro n
  induction n with
  | zero =>
    intro l hl
    have : l = [] := List.length_eq_zero_iff.1 (by omega)
    subst this
    rfl
  | succ n ih =>
    intro l hl
    by_cases hc : c ∈ l
    · obtain ⟨a, r, rfl, ha⟩ := List.eq_append_cons_of_mem hc
      have hi := index_cut (r := r) ha
      have hd : (a ++ c :: r).drop (a.length + [c].length) = r := by
        rw [show a ++ c :: r = (a ++ [c]) ++ r by simp, List.drop_append_of_le_length (by simp)]
        simp
      rw [count_hit (by simp) hi, hd, spl_cut ha, Nat.add_comm, splitK, hi, if_neg (by simp)]
      rw [show ((a.length : Int).toNat + [c].length) = a.length + [c].length by simp, hd, ih r (by simp at hl; omega)]
      simp
    · rw [count_miss (index_no hc), spl_none hc]
      rfl
/-- the pieces of a string -/
def splS (c : UInt8) (s : ByteArray) : List ByteArray := (spl c s.data.toList).map fun l => ⟨l.toArray⟩
theorem splS_ne (c : UInt8) (s : ByteArray) : splS c s ≠ [] := by unfold splS; simp [spl_ne]
theorem mkB (s : ByteArray) : (⟨s.data.toList.toArray⟩ : ByteArray) = s := by cases s; simp
open Go.Lib in
theorem splitB_splS (c : UInt8) (s : ByteArray) : splitB ⟨#[c]⟩ 0 (countB s ⟨#[c]⟩) s = splS c s := by
  have e := splitB_data ⟨#[c]⟩ 0 (countB s ⟨#[c]⟩) s
  have e2 := split_spl c _ s.data.toList (Nat.le_refl _)
  unfold splS
  rw [← e2, show count s.data.toList [c] = countB s ⟨#[c]⟩ from rfl, show ([c] : List UInt8) = (⟨#[c]⟩ : ByteArray).data.toList from rfl, ← e, List.map_map]
  conv => lhs; rw [← List.map_id (splitB ⟨#[c]⟩ 0 (countB s ⟨#[c]⟩) s)]
  apply List.map_congr_left
  intro x _
  exact (mkB x).symm
open Go.Lib in
theorem countB_splS (c : UInt8) (s : ByteArray) : countB s ⟨#[c]⟩ + 1 = (splS c s).length := by
  rw [← splitB_splS]
  have : ∀ (k : Nat) (s : ByteArray), countB s ⟨#[c]⟩ = k → (splitB ⟨#[c]⟩ 0 k s).length = k + 1 := by
    intro k
    induction k with
    | zero => intro s _; rfl
    | succ k ih =>
      intro s hs
      rcases indexB_cases s ⟨#[c]⟩ with h | ⟨i, h, _⟩
      · rw [countB_miss s _ h] at hs; omega
      · rw [splitB_hit _ _ _ _ i h, List.length_cons, ih _ (by rw [countB_hit s ⟨#[c]⟩ i (Nat.le_refl 1) h] at hs; omega)]
  exact (this _ s rfl).symm

/-- a string's bytes, as numbers -/
def bs (s : ByteArray) : List Nat := s.data.toList.map (·.toNat)
theorem bs_len (s : ByteArray) : (bs s).length = s.size := by unfold bs; rw [List.length_map]; exact (Go.Lib.size_eq s).symm
theorem bs_at {s : ByteArray} {i : Nat} (h : i < s.size) : (bs s).getD i 0 = s[i].toNat := by
  have h2 : i < s.data.toList.length := by rw [← Go.Lib.size_eq]; exact h
  unfold bs
  rw [List.getD_eq_getElem?_getD, List.getElem?_map, List.getElem?_eq_getElem h2]
  rfl
theorem bs_lt {s : ByteArray} {x : Nat} (h : x ∈ bs s) : x < 256 := by
  unfold bs at h
  obtain ⟨b, _, rfl⟩ := List.mem_map.1 h
  exact b.toNat_lt

def dgV (b : Nat) : Option Nat := if 48 ≤ b ∧ b ≤ 57 then some (b - 48) else if 65 ≤ b ∧ b ≤ 70 then some (b - 55) else none
theorem dgV_lt {b d : Nat} (h : dgV b = some d) : d < 16 := by
  unfold dgV at h
  split at h
  · cases h; omega
  · split at h
    · cases h; omega
    · cases h
/-- what the first k digits come to -/
def hxV (l : List Nat) : Nat → Option Nat
  | 0 => some 0
  | k + 1 => match hxV l k, dgV (l.getD k 0) with
    | some p, some d => some (p * 16 + d)
    | _, _ => none
theorem hxV_lt (l : List Nat) (k : Nat) : ∀ p, hxV l k = some p → p < 16 ^ k := by
  induction k with
  | zero => intro p h; cases h; decide
  | succ k ih =>
    intro p h
    unfold hxV at h
    split at h
    · rename_i q d hq hd
      cases h
      have h1 := ih q hq
      have h2 := dgV_lt hd
      rw [Nat.pow_succ]
      omega
    · cases h
theorem hxV_none {l : List Nat} {k m : Nat} (h : hxV l k = none) (hm : k ≤ m) : hxV l m = none := by
  induction m with
  | zero => rw [show k = 0 by omega] at h; exact h
  | succ m ih =>
    by_cases e : k = m + 1
    · rw [← e]; exact h
    · unfold hxV; rw [ih (by omega)]
/-- a point -/
def ptV (l : List Nat) : Option Nat :=
  if l.length < 4 ∨ 6 < l.length ∨ (4 < l.length ∧ l.getD 0 0 = 48) then none else match hxV l l.length with
  | some p => if p ≤ 1114111 then some p else none
  | none => none
theorem ptV_le {l : List Nat} {p : Nat} (h : ptV l = some p) : p ≤ 1114111 := by
  unfold ptV at h
  split at h
  · cases h
  · split at h
    · split at h
      · cases h; omega
      · cases h
    · cases h
def spO : Option Nat → Option Nat → Option (Nat × Nat)
  | some x, some y => if x ≤ y then some (x, y) else none
  | _, _ => none
def spV (a b : List Nat) : Option (Nat × Nat) := spO (ptV a) (ptV b)
theorem spO_l (b : Option Nat) : spO none b = none := by cases b <;> rfl
theorem spO_r (a : Option Nat) : spO a none = none := by cases a <;> rfl
theorem spO_yes {x y : Nat} (h : x ≤ y) : spO (some x) (some y) = some (x, y) := if_pos h
theorem spO_no {x y : Nat} (h : ¬ x ≤ y) : spO (some x) (some y) = none := if_neg h
theorem spV_le {a b : List Nat} {p : Nat × Nat} (h : spV a b = some p) : p.1 ≤ 1114111 ∧ p.2 ≤ 1114111 := by
  unfold spV at h
  cases ha : ptV a with
  | none => rw [ha, spO_l] at h; cases h
  | some x =>
    cases hb : ptV b with
    | none => rw [hb, spO_r] at h; cases h
    | some y =>
      rw [ha, hb] at h
      by_cases hxy : x ≤ y
      · rw [spO_yes hxy] at h; cases h; exact ⟨ptV_le ha, ptV_le hb⟩
      · rw [spO_no hxy] at h; cases h
/-- decimal digits -/
def dcV (l : List Nat) : Nat → Nat
  | 0 => 0
  | k + 1 => dcV l k * 10 + (l.getD k 0 - 48)
def alV (lo hi : Nat) (l : List Nat) : Bool := l.all fun b => decide (lo ≤ b ∧ b ≤ hi)
def nmV (most : Nat) (l : List Nat) : Bool := decide (1 ≤ l.length ∧ l.length ≤ most) && alV 65 90 l
def ctV (l : List Nat) : Bool := decide (l.length = 2 ∧ 65 ≤ l.getD 0 0 ∧ l.getD 0 0 ≤ 90 ∧ 97 ≤ l.getD 1 0 ∧ l.getD 1 0 ≤ 122)
def jnV (s : ByteArray) : Bool := s.toList == [85] || s.toList == [68] || s.toList == [82] || s.toList == [76] || s.toList == [67] || s.toList == [84]
def edV (s : ByteArray) : Bool := s.toList == [111, 108, 100] || s.toList == [110, 101, 119]
def sgV (s : ByteArray) : Bool := s.toList == [61] || s.toList == [33] || s.toList == [126]
/-- a class: 1 to 254, without a nought ahead -/
def clV (l : List Nat) : Option Nat :=
  if (1 ≤ l.length ∧ l.length ≤ 3) ∧ alV 48 57 l = true ∧ l.getD 0 0 ≠ 48 ∧ dcV l l.length ≤ 254 then some (dcV l l.length) else none
theorem clV_le {l : List Nat} {n : Nat} (h : clV l = some n) : n ≤ 254 := by
  unfold clV at h
  split at h
  · rename_i hc; cases h; exact hc.2.2.2
  · cases h
end Go.Proofs.YtgalmlelnolodaaGreatDoor
