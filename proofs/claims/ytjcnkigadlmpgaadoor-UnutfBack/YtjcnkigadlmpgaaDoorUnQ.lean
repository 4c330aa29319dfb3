/- Bytes that are UTF-8, as points and as bytes again, as plain mathematics. Nothing of the program is named here. -/
import Derived.Test.YtjcnkigadlmpgaaDoorUnF
import Derived.Test.YtjcnkigadlmpgaaDoorUfK
namespace Go.Proofs.YtjcnkigadlmpgaaDoor
open Go.RowKit
set_option linter.unusedVariables false

/-- a point's bytes are those that it was read of -/
theorem dp_bys (l : List Nat) (hb : ∀ b ∈ l, b < 256) (h : (dpB l).2 ≠ 0) : bysB (dpB l).1 = l.take (dpB l).2 ∧ (dpB l).1 < 2097152 := by
  cases l with
  | nil => simp [dpB] at h
  | cons c t =>
    have hc := hb c (List.mem_cons_self ..)
    by_cases h7 : c ≤ 127
    · have hd : dpB (c :: t) = (c, 1) := by simp [dpB, h7]
      rw [hd]
      refine ⟨?_, by show c < _; omega⟩
      unfold bysB; rw [if_pos (by show c < 128; omega)]; rfl
    · by_cases hm : mrB c = 0 ∨ t.length < mrB c
      · have hd : dpB (c :: t) = (0, 0) := by simp [dpB, h7, hm]
        rw [hd] at h; simp at h
      · cases hct : ctB (mrB c) t (lwB c) (hgB c) (vrB c) with
        | none =>
          have hd : dpB (c :: t) = (0, 0) := by simp [dpB, h7, hm, hct]
          rw [hd] at h; simp at h
        | some u =>
          have hd : dpB (c :: t) = (u, mrB c + 1) := by simp [dpB, h7, hm, hct]
          rw [hd]
          have hm0 : mrB c ≠ 0 ∧ mrB c ≤ t.length := by omega
          have ht : ∀ b ∈ t, b < 256 := fun x hx => hb x (List.mem_cons_of_mem _ hx)
          clear hd hm h
          show bysB u = (c :: t).take (mrB c + 1) ∧ u < 2097152
          unfold mrB at hm0 hct ⊢
          unfold vrB at hct
          split at hm0
          · rename_i hx
            simp only [if_pos hx] at hct ⊢
            match t, hm0.2 with
            | b1 :: t, _ =>
              simp only [ctB] at hct
              split at hct
              case isFalse => cases hct
              rename_i hw
              have hw := btw_iff.1 hw
              simp only [Option.some.injEq] at hct
              have e1 : lwB c = 128 := by unfold lwB; rw [if_neg (by omega), if_neg (by omega)]
              have e2 : hgB c = 191 := by unfold hgB; rw [if_neg (by omega), if_neg (by omega)]
              rw [e1, e2] at hw
              refine ⟨?_, by omega⟩
              unfold bysB
              rw [if_neg (by omega), if_pos (by omega), show 192 + u / 64 = c by omega, show 128 + u % 64 = b1 by omega]
              rfl
          · rename_i hx
            split at hm0
            · rename_i hy
              simp only [if_neg hx, if_pos hy] at hct ⊢
              match t, hm0.2 with
              | b1 :: b2 :: t, _ =>
                simp only [ctB] at hct
                split at hct
                case isFalse => cases hct
                rename_i hw
                have hw := btw_iff.1 hw
                split at hct
                case isFalse => cases hct
                rename_i hw2
                have hw2 := btw_iff.1 hw2
                simp only [Option.some.injEq] at hct
                have e1 : (c = 224 → lwB c = 160) ∧ 128 ≤ lwB c ∧ hgB c ≤ 191 := by
                  obtain ⟨k1, k2, _⟩ := first_facts c hc (by omega)
                  exact ⟨fun e => by subst e; rfl, k1, k2⟩
                have hv : 2048 ≤ u := by
                  by_cases e : c = 224
                  · have := e1.1 e; omega
                  · omega
                refine ⟨?_, by omega⟩
                unfold bysB
                rw [if_neg (by omega), if_neg (by omega), if_pos (by omega), show 224 + u / 4096 = c by omega, show 128 + u / 64 % 64 = b1 by omega, show 128 + u % 64 = b2 by omega]
                rfl
            · rename_i hy
              split at hm0
              · rename_i hz
                simp only [if_neg hx, if_neg hy, if_pos hz] at hct ⊢
                match t, hm0.2 with
                | b1 :: b2 :: b3 :: t, _ =>
                  simp only [ctB] at hct
                  split at hct
                  case isFalse => cases hct
                  rename_i hw
                  have hw := btw_iff.1 hw
                  split at hct
                  case isFalse => cases hct
                  rename_i hw2
                  have hw2 := btw_iff.1 hw2
                  split at hct
                  case isFalse => cases hct
                  rename_i hw3
                  have hw3 := btw_iff.1 hw3
                  simp only [Option.some.injEq] at hct
                  have e1 : (c = 240 → lwB c = 144) ∧ 128 ≤ lwB c ∧ hgB c ≤ 191 := by
                    obtain ⟨k1, k2, _⟩ := first_facts c hc (by omega)
                    exact ⟨fun e => by subst e; rfl, k1, k2⟩
                  have hv : 65536 ≤ u := by
                    by_cases e : c = 240
                    · have := e1.1 e; omega
                    · omega
                  refine ⟨?_, by omega⟩
                  unfold bysB
                  rw [if_neg (by omega), if_neg (by omega), if_neg (by omega), show 240 + u / 262144 % 8 = c by omega, show 128 + u / 4096 % 64 = b1 by omega, show 128 + u / 64 % 64 = b2 by omega, show 128 + u % 64 = b3 by omega]
                  rfl
              · omega
theorem dpsA_bytes (n : Nat) : ∀ (l : List Nat), l.length ≤ n → (∀ b ∈ l, b < 256) → ∀ ps, dpsA l = some ps → (ps.map (·.1)).flatMap (fun p => bysB (p % 2097152)) = l := by
  induction n with
  | zero =>
    intro l hl _ ps hp
    obtain rfl : l = [] := List.length_eq_zero_iff.1 (by omega)
    rw [dpsA_nil] at hp
    cases hp; rfl
  | succ n ih =>
    intro l hl hb ps hp
    by_cases h0 : l = []
    · subst h0; rw [dpsA_nil] at hp; cases hp; rfl
    · by_cases hz : (dpB l).2 = 0
      · rw [dpsA_stop h0 hz] at hp; cases hp
      · rw [dpsA_next h0 hz] at hp
        obtain ⟨qs, hqs, rfl⟩ := Option.map_eq_some_iff.1 hp
        obtain ⟨h1, h2⟩ := dp_bys l hb hz
        have hpos := List.length_pos_iff.2 h0
        have hr := ih (l.drop (dpB l).2) (by rw [List.length_drop]; omega) (fun b h => hb b (List.mem_of_mem_drop h)) qs hqs
        rw [List.map_cons, List.flatMap_cons, hr, Nat.mod_eq_of_lt h2, h1, List.take_append_drop]
theorem flatL_pts (ps : List (Nat × Nat)) : (flatL ps).filterMap id = ps.map (·.1) := by
  induction ps with
  | nil => rfl
  | cons q r ih =>
    obtain ⟨p, k⟩ := q
    simp only [flatL, List.filterMap_append, List.map_cons]
    have e : (List.replicate (k - 1) (none : Option Nat)).filterMap id = [] := by
      generalize k - 1 = m
      induction m with
      | zero => rfl
      | succ m ihm => rw [List.replicate_succ]; simp
    rw [e]
    simp [ih]
theorem enc_lanes (o : List (Option Nat)) : ∀ k, k ≤ o.length → encL (fun i => lnv (o[i]?)) (fun i => mk (lnk (o[i]?))) k = ((o.take k).filterMap id).flatMap (fun p => bysB (p % 2097152)) := by
  intro k
  induction k with
  | zero => intro _; simp [encL]
  | succ k ih =>
    intro hk
    simp only [encL]
    rw [ih (by omega), List.take_succ_eq_append_getElem (show k < o.length by omega), List.filterMap_append, List.flatMap_append, List.getElem?_eq_getElem (show k < o.length by omega)]
    congr 1
    cases h : o[k] with
    | none => simp [lnk, mk]
    | some p => simp [lnk, lnv, mk]
/-- good bytes, read as lanes and written again, are the same -/
theorem enc_back (l : List Nat) (hb : ∀ b ∈ l, b < 256) (hg : good (runL us0 l) = true) : encL (fun i => lnv ((lanes us0 l)[i]?)) (fun i => mk (lnk ((lanes us0 l)[i]?))) l.length = l := by
  obtain ⟨h1, h2⟩ := dpsA_read l hb
  cases hd : dpsA l with
  | none => rw [h2 hd] at hg; cases hg
  | some ps =>
    obtain ⟨_, g2⟩ := h1 ps hd
    have e := enc_lanes (lanes us0 l) l.length (by rw [lanes_len]; exact Nat.le_refl _)
    rw [e, List.take_of_length_le (by rw [lanes_len]; exact Nat.le_refl _), g2, flatL_pts]
    exact dpsA_bytes l.length l (Nat.le_refl _) hb ps hd
end Go.Proofs.YtjcnkigadlmpgaaDoor
