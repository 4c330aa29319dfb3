/- Pieces' sizes, rows of items in memory, and what stands behind what, over this seat's translation. No conditions. -/
import Derived.Test.YtgalmlelnolodaaGreatDoorChJ
import Derived.Deep.AppendLies
namespace Go.Proofs.YtgalmlelnolodaaGreatDoor
open Go.RowKit
set_option linter.unusedVariables false

theorem spl_le (c : UInt8) (l : List UInt8) : (∀ x ∈ spl c l, x.length ≤ l.length) ∧ (spl c l).length ≤ l.length + 1 := by
  induction l with
  | nil => exact ⟨fun x hx => by simp [spl] at hx; subst hx; exact Nat.le_refl _, Nat.le_refl _⟩
  | cons b r ih =>
    by_cases hb : b = c
    · rw [spl, if_pos hb]
      refine ⟨fun x hx => ?_, by rw [List.length_cons, List.length_cons]; have := ih.2; omega⟩
      rcases List.mem_cons.1 hx with rfl | hx
      · simp
      · have := ih.1 x hx; rw [List.length_cons]; omega
    · obtain ⟨h, t, e⟩ : ∃ h t, spl c r = h :: t := by
        cases hs : spl c r with
        | nil => exact absurd hs (spl_ne c r)
        | cons h t => exact ⟨h, t, rfl⟩
      rw [e] at ih
      have e2 : spl c (b :: r) = (b :: h) :: t := by rw [spl, if_neg hb, e]
      rw [e2]
      refine ⟨fun x hx => ?_, by rw [List.length_cons, List.length_cons]; have := ih.2; rw [List.length_cons] at this; omega⟩
      rcases List.mem_cons.1 hx with rfl | hx
      · have := ih.1 h List.mem_cons_self; rw [List.length_cons, List.length_cons]; omega
      · have := ih.1 x (List.mem_cons_of_mem _ hx); rw [List.length_cons]; omega
theorem splS_len (c : UInt8) (s : ByteArray) : (splS c s).length ≤ s.size + 1 := by
  unfold splS; rw [List.length_map, Lib.size_eq]; exact (spl_le c _).2
theorem splS_size {c : UInt8} {s x : ByteArray} (h : x ∈ splS c s) : x.size ≤ s.size := by
  unfold splS at h
  obtain ⟨l, hl, rfl⟩ := List.mem_map.1 h
  have := (spl_le c _).1 l hl
  rw [Lib.size_eq, Lib.size_eq]
  simpa using this
theorem wd_size {l : List ByteArray} {n : Nat} (h : ∀ x ∈ l, x.size ≤ n) (j : Nat) : (wd l j).size ≤ n := by
  unfold wd
  rw [List.getD_eq_getElem?_getD]
  rcases Nat.lt_or_ge j l.length with hj | hj
  · rw [List.getElem?_eq_getElem hj]; exact h _ (List.getElem_mem hj)
  · rw [List.getElem?_eq_none hj]; exact Nat.zero_le _
theorem lnV_size {s x : ByteArray} (h : x ∈ lnV s) : x.size ≤ s.size := by
  unfold lnV at h
  split at h
  · cases h
  · exact splS_size h
theorem lnV_len (s : ByteArray) : (lnV s).length ≤ s.size + 1 := by
  unfold lnV
  split
  · exact Nat.zero_le _
  · exact splS_len _ _
theorem lwV_wd {s : ByteArray} {k : Nat} (h : k < (lnV s).length) : (lwV s).getD k [] = splS 32 (wd (lnV s) k) := by
  refine lwV_at ?_
  unfold wd
  rw [List.getD_eq_getElem?_getD, List.getElem?_eq_getElem h]
  rfl
theorem lwV_len (s : ByteArray) : (lwV s).length = (lnV s).length := by unfold lwV; rw [List.length_map]

/-- items as cells, one behind the other -/
def rowC (C : It → Array Value) : List It → List Value
  | [] => []
  | i :: l => (C i).toList ++ rowC C l
theorem rowC_snoc (C : It → Array Value) (l : List It) (i : It) : rowC C (l ++ [i]) = rowC C l ++ (C i).toList := by
  induction l with
  | nil => simp [rowC]
  | cons x l ih => show (C x).toList ++ rowC C (l ++ [i]) = _; rw [ih, ← List.append_assoc]; rfl
theorem rowC_len {C : It → Array Value} {n : Nat} {l : List It} (h : ∀ i ∈ l, (C i).size = n) : (rowC C l).length = l.length * n := by
  induction l with
  | nil => simp [rowC]
  | cons x l ih =>
    have h1 := h x List.mem_cons_self
    have h2 := ih fun i hi => h i (List.mem_cons_of_mem _ hi)
    show ((C x).toList ++ rowC C l).length = _
    rw [List.length_append, h2, List.length_cons, Array.length_toList, h1, Nat.add_mul, Nat.one_mul, Nat.add_comm]
theorem rowC_at {C : It → Array Value} {n : Nat} {l : List It} (h : ∀ i ∈ l, (C i).size = n) {k j : Nat} (hk : k < l.length) (hj : j < n) : (rowC C l)[k * n + j]? = (C l[k])[j]? := by
  induction l generalizing k with
  | nil => simp at hk
  | cons x l ih =>
    have h1 := h x List.mem_cons_self
    have h3 : ∀ i ∈ l, (C i).size = n := fun i hi => h i (List.mem_cons_of_mem _ hi)
    show ((C x).toList ++ rowC C l)[k * n + j]? = _
    cases k with
    | zero =>
      rw [Nat.zero_mul, Nat.zero_add, List.getElem?_append_left (by rw [Array.length_toList, h1]; exact hj)]
      simp
    | succ k =>
      have := ih h3 (k := k) (by simpa using hk)
      rw [List.getElem?_append_right (by rw [Array.length_toList, h1, Nat.succ_mul]; omega), Array.length_toList, h1]
      rw [show (k + 1) * n + j - n = k * n + j by rw [Nat.succ_mul]; omega, this]
      simp
theorem rgOf_r {ws : List ByteArray} {i : It} (h : rgOf ws = some i) : i.a ≤ 1114111 ∧ i.b ≤ 1114111 ∧ ∃ s2 s3 s4 b5, i.r = [.string s2, .string s3, .string s4, .bool b5] := by
  by_cases h6 : ws.length = 6
  · rw [rgOf_6 h6] at h
    cases ho : spV (bs (wd ws 0)) (bs (wd ws 1)) with
    | none => rw [ho] at h; cases h
    | some p =>
      have hp := spV_le ho
      rw [ho] at h
      simp only [Option.bind_some] at h
      split at h
      · cases h; exact ⟨hp.1, hp.2, _, _, _, _, rfl⟩
      · cases h
  · rw [rgOf_no6 h6] at h; cases h
theorem wtOf_r {ws : List ByteArray} {i : It} (h : wtOf ws = some i) : i.a ≤ 1114111 ∧ i.b ≤ 1114111 ∧ ∃ n : Nat, n ≤ 1114111 ∧ i.r = [.int .u32 (n : Int)] := by
  by_cases h3 : ws.length = 3
  · rw [wtOf_3 h3] at h
    cases ho : spV (bs (wd ws 0)) (bs (wd ws 1)) with
    | none => rw [ho] at h; cases h
    | some p =>
      have hp := spV_le ho
      rw [ho] at h
      cases hc : clV (bs (wd ws 2)) with
      | none => rw [hc] at h; cases h
      | some n => rw [hc] at h; cases h; exact ⟨hp.1, hp.2, n, by have := clV_le hc; omega, rfl⟩
  · rw [wtOf_no h3] at h; cases h
theorem ruOf_r {ws : List ByteArray} {i : It} (h : ruOf ws = some i) : i.a ≤ 1114111 ∧ i.b ≤ 1114111 ∧ ∃ n : Nat, n ≤ 1114111 ∧ i.r = [.int .u32 (n : Int)] := by
  by_cases h3 : ws.length = 3
  · rw [ruOf_3 h3] at h
    cases ho : spV (bs (wd ws 0)) (bs (wd ws 1)) with
    | none => rw [ho] at h; cases h
    | some p =>
      have hp := spV_le ho
      rw [ho] at h
      cases hc : ptV (bs (wd ws 2)) with
      | none => rw [hc] at h; cases h
      | some n => rw [hc] at h; cases h; exact ⟨hp.1, hp.2, n, ptV_le hc, rfl⟩
  · rw [ruOf_no h3] at h; cases h
theorem nmOf_r {ws : List ByteArray} {i : It} (h : nmOf ws = some i) : i.a ≤ 1114111 ∧ i.b ≤ 1114111 ∧ ∃ s, i.r = [.string s] := by
  by_cases h3 : ws.length = 3
  · rw [nmOf_3 h3] at h
    split at h
    · cases ho : spV (bs (wd ws 1)) (bs (wd ws 2)) with
      | none => rw [ho] at h; cases h
      | some p =>
        have hp := spV_le ho
        rw [ho] at h; cases h; exact ⟨hp.1, hp.2, _, rfl⟩
    · cases h
  · rw [nmOf_no h3] at h; cases h
set_option maxHeartbeats 800000 in
theorem rangesB_any (a b x y : Nat) (p q r p' q' r' : ByteArray) (s s' : Bool) (w : World) (h1 : b ≤ 1114111) (h2 : x ≤ 1114111) :
    Calls Tryz.prog 64 #[.agg #[.int .u32 (a : Int), .int .u32 (b : Int), .string p, .string q, .string r, .bool s], .agg #[.int .u32 (x : Int), .int .u32 (y : Int), .string p', .string q', .string r', .bool s']] w fun e w' => e = .returned (.bool (decide (b < x))) ∧ Below w.heap.size w w' := by
  go_enter Tryz.func64, Tryz.ntmps64
  go_wp2
  go_ret
  exact ⟨retB (decide_eq_decide.2 (by omega)), ((Below.refl _ _).alloc (Nat.le_refl _) _).alloc (by simp) _⟩
end Go.Proofs.YtgalmlelnolodaaGreatDoor
