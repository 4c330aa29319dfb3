/- The law UtfDecodes' plain data: words put anew, points as two rows. Nothing of the program is named here. -/
import Derived.Test.YtgkpmcmgkdmeeaaDoorUfK
import Derived.Test.YtgkpmcmgkdmeeaaDoorRf
namespace Go.Proofs.YtgkpmcmgkdmeeaaDoor
open Go.RowKit
set_option linter.unusedVariables false

/-- words put anew -/
def reK (A : Ars) (v : Nat → Nat) : Nat → Ars
  | 0 => A
  | k + 1 => (reK A v k).storeN k (v k)
theorem reK_sizes (A : Ars) (v : Nat → Nat) (k : Nat) : (reK A v k).top = A.top ∧ (reK A v k).ws.length = A.ws.length ∧ (reK A v k).es.length = A.es.length + k := by
  induction k with
  | zero => exact ⟨rfl, rfl, rfl⟩
  | succ k ih => exact ⟨ih.1, by simp only [reK, Ars.storeN_wslen]; exact ih.2.1, by simp only [reK, Ars.storeN_eslen]; omega⟩
theorem reK_word (A : Ars) (v : Nat → Nat) (k : Nat) (hk : k ≤ A.ws.length) : ∀ j, j < k → (reK A v k).word j = v j := by
  induction k with
  | zero => intro j h; omega
  | succ k ih =>
    intro j hj
    show ((reK A v k).storeN k (v k)).word j = _
    rw [uword_st _ _ _ (by rw [(reK_sizes A v k).2.1]; omega)]
    by_cases e : j = k
    · subst e; simp
    · rw [if_neg e]; exact ih (by omega) j (by omega)
/-- a byte with other bits above it -/
def upW (b a : Nat) : Nat := orW b (a * 256 % 4294967296)
theorem upW_lt {b a : Nat} (hb : b < 256) : upW b a < 4294967296 := orW_lt (by omega) (Nat.mod_lt _ (by decide))
theorem upW_mod {b a : Nat} (hb : b < 256) : upW b a % 256 = b := by
  unfold upW orW
  have h1 : (b ||| a * 256 % 4294967296) % 2 ^ 8 = b % 2 ^ 8 ||| (a * 256 % 4294967296) % 2 ^ 8 := Nat.or_mod_two_pow
  have h2 : (a * 256 % 4294967296) % 2 ^ 8 = 0 := by omega
  have h3 : b % 2 ^ 8 = b := Nat.mod_eq_of_lt hb
  rw [h2, h3, Nat.or_zero] at h1
  exact h1
theorem dpsA_mem (n : Nat) : ∀ (l : List Nat), l.length ≤ n → (∀ b ∈ l, b < 256) → ∀ ps, dpsA l = some ps → ∀ q ∈ ps, blB q.1 = q.2 ∧ 0 < q.2 ∧ q.1 < 4294967296 := by
  induction n with
  | zero =>
    intro l hl _ ps hp q hq
    obtain rfl : l = [] := List.length_eq_zero_iff.1 (by omega)
    rw [dpsA_nil] at hp
    cases hp; cases hq
  | succ n ih =>
    intro l hl hb ps hp q hq
    by_cases h0 : l = []
    · subst h0; rw [dpsA_nil] at hp; cases hp; cases hq
    · by_cases hz : (dpB l).2 = 0
      · rw [dpsA_stop h0 hz] at hp; cases hp
      · rw [dpsA_next h0 hz] at hp
        obtain ⟨qs, hqs, rfl⟩ := Option.map_eq_some_iff.1 hp
        rcases List.mem_cons.1 hq with rfl | hq
        · obtain ⟨h1, h2, h3⟩ := dp_len l hb hz
          exact ⟨h1, by omega, h3⟩
        · have hpos := List.length_pos_iff.2 h0
          exact ih (l.drop (dpB l).2) (by rw [List.length_drop]; omega) (fun b h => hb b (List.mem_of_mem_drop h)) qs hqs q hq
theorem flatL_append (a b : List (Nat × Nat)) : flatL (a ++ b) = flatL a ++ flatL b := by
  induction a with
  | nil => rfl
  | cons q r ih => obtain ⟨p, k⟩ := q; simp [flatL, ih]
theorem flatL_take (ps : List (Nat × Nat)) (j : Nat) (hj : j < ps.length) : flatL (ps.take (j + 1)) = flatL (ps.take j) ++ (List.replicate (ps[j].2 - 1) none ++ [some ps[j].1]) := by
  rw [List.take_succ_eq_append_getElem hj, flatL_append]
  rfl
/-- how far the first j points reach -/
def atL (ps : List (Nat × Nat)) (j : Nat) : Nat := (flatL (ps.take j)).length
def wvL (ps : List (Nat × Nat)) (j i : Nat) : Nat := lnv ((flatL (ps.take j))[i]?)
def kvL (ps : List (Nat × Nat)) (j i : Nat) : Nat := mk (lnk ((flatL (ps.take j))[i]?))
theorem atL_zero (ps : List (Nat × Nat)) : atL ps 0 = 0 := rfl
theorem atL_succ (ps : List (Nat × Nat)) (j : Nat) (hj : j < ps.length) (hk : 0 < ps[j].2) : atL ps (j + 1) = atL ps j + ps[j].2 := by
  unfold atL
  rw [flatL_take ps j hj]
  simp only [List.length_append, List.length_replicate, List.length_singleton]
  omega
theorem atL_le (ps : List (Nat × Nat)) (j : Nat) : atL ps j ≤ (flatL ps).length := by
  unfold atL
  have h : flatL ps = flatL (ps.take j) ++ flatL (ps.drop j) := by rw [← flatL_append, List.take_append_drop]
  rw [h, List.length_append]; omega
theorem lane_step (ps : List (Nat × Nat)) (j : Nat) (hj : j < ps.length) (hk : 0 < ps[j].2) (i : Nat) :
    wvL ps (j + 1) i = (if i = atL ps j + ps[j].2 - 1 then ps[j].1 else wvL ps j i) ∧ kvL ps (j + 1) i = (if i = atL ps j + ps[j].2 - 1 then 4294967295 else kvL ps j i) := by
  unfold wvL kvL atL
  rw [flatL_take ps j hj]
  generalize flatL (ps.take j) = o
  rcases Nat.lt_or_ge i o.length with h | h
  · rw [List.getElem?_append_left h, if_neg (by omega), if_neg (by omega)]
    exact ⟨rfl, rfl⟩
  · rw [List.getElem?_append_right h, List.getElem?_eq_none h]
    by_cases e : i = o.length + ps[j].2 - 1
    · rw [if_pos e, if_pos e]
      have e2 : i - o.length = (List.replicate (ps[j].2 - 1) (none : Option Nat)).length := by simp; omega
      rw [List.getElem?_append_right (by omega), e2]
      simp [lnv, lnk, mk]
    · rw [if_neg e, if_neg e]
      rcases Nat.lt_or_ge (i - o.length) (ps[j].2 - 1) with h2 | h2
      · rw [List.getElem?_append_left (by simpa using h2)]
        simp [h2, lnv, lnk]
      · have : (List.replicate (ps[j].2 - 1) (none : Option Nat) ++ [some ps[j].1])[i - o.length]? = none := by
          rw [List.getElem?_eq_none]; simp; omega
        rw [this]
        exact ⟨rfl, rfl⟩
theorem lane_zero (ps : List (Nat × Nat)) (i : Nat) : wvL ps 0 i = 0 ∧ kvL ps 0 i = 0 := ⟨rfl, rfl⟩
/-- the points, if any, of bytes, and whether they are UTF-8: what the lanes then have -/
def ptsOf (l : List Nat) : List (Nat × Nat) := (dpsA l).getD []
theorem lanes_pts (l : List Nat) (hb : ∀ b ∈ l, b < 256) (i : Nat) :
    (dpsA l).isSome = good (runL us0 l) ∧ (flatL (ptsOf l)).length ≤ l.length ∧
    (if good (runL us0 l) then lnv ((lanes us0 l)[i]?) else 0) = wvL (ptsOf l) (ptsOf l).length i ∧ (if good (runL us0 l) then mk (lnk ((lanes us0 l)[i]?)) else 0) = kvL (ptsOf l) (ptsOf l).length i := by
  obtain ⟨h1, h2⟩ := dpsA_read l hb
  unfold ptsOf wvL kvL
  cases hd : dpsA l with
  | none => rw [h2 hd]; exact ⟨rfl, Nat.zero_le _, rfl, rfl⟩
  | some ps =>
    obtain ⟨g1, g2⟩ := h1 ps hd
    rw [g1, g2]
    simp only [Option.getD_some, List.take_length, if_true]
    exact ⟨by first | rfl | trivial, by rw [← g2, lanes_len]; exact Nat.le_refl _, by first | rfl | trivial, by first | rfl | trivial⟩
end Go.Proofs.YtgkpmcmgkdmeeaaDoor
