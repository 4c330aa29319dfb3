/- Numbers of decimal digits, as the library reads them and as charts do; the letters of joins. Plain facts. -/
import Derived.Test.YtiekffkeagcaiaaDoorChE
import Derived.Lib.ParseIntB
namespace Go.Proofs.YtiekffkeagcaiaaDoor
open Go.RowKit
set_option linter.unusedVariables false

def dv (acc : Nat) (l : List UInt8) : Nat := l.foldl (fun a c => a * 10 + (c.toNat - 48)) acc
theorem dv_nil (acc : Nat) : dv acc [] = acc := rfl
theorem dv_cons (acc : Nat) (c : UInt8) (r : List UInt8) : dv acc (c :: r) = dv (acc * 10 + (c.toNat - 48)) r := by unfold dv; rw [List.foldl_cons]
theorem dv_ge (l : List UInt8) : ∀ acc, acc * 10 ^ l.length ≤ dv acc l := by
  induction l with
  | nil => intro acc; rw [dv_nil]; simp
  | cons c r ih =>
    intro acc
    have := ih (acc * 10 + (c.toNat - 48))
    rw [dv_cons, List.length_cons, Nat.pow_succ]
    refine Nat.le_trans ?_ this
    have e : acc * (10 ^ r.length * 10) = acc * 10 * 10 ^ r.length := by rw [Nat.mul_comm (10 ^ r.length) 10, Nat.mul_assoc]
    rw [e, Nat.add_mul]
    exact Nat.le_add_right _ _
theorem dv_le_acc (l : List UInt8) (acc : Nat) : acc ≤ dv acc l := by
  have h := dv_ge l acc
  have : acc * 1 ≤ acc * 10 ^ l.length := Nat.mul_le_mul_left _ (Nat.pow_pos (by decide))
  omega
theorem dv_foldl (l : List UInt8) : ∀ acc, dv acc l = (l.map (·.toNat)).foldl (fun a b => a * 10 + (b - 48)) acc := by
  induction l with
  | nil => intro acc; rfl
  | cons c r ih => intro acc; rw [dv_cons, ih]; rfl
theorem dcV_foldl (l : List Nat) (k : Nat) (hk : k ≤ l.length) : dcV l k = (l.take k).foldl (fun a b => a * 10 + (b - 48)) 0 := by
  induction k with
  | zero => rfl
  | succ k ih =>
    rw [dcV, ih (by omega), List.take_add_one, List.foldl_append, List.getElem?_eq_getElem (by omega), List.getD_eq_getElem?_getD, List.getElem?_eq_getElem (by omega)]
    rfl
theorem dcV_dv (s : ByteArray) : dcV (bs s) s.size = dv 0 s.data.toList := by
  rw [dv_foldl, dcV_foldl _ _ (by rw [bs_len]; exact Nat.le_refl _), ← bs_len, List.take_length]
  rfl
open Go.Lib in
theorem uint_ok {M : Nat} : ∀ {l : List UInt8} {acc u : Nat}, parseUintM M acc l = .ok u → (∀ c ∈ l, 48 ≤ c.toNat ∧ c.toNat ≤ 57) ∧ u = dv acc l := by
  intro l
  induction l with
  | nil => intro acc u h; unfold parseUintM at h; cases h; exact ⟨fun c hc => by simp at hc, rfl⟩
  | cons c r ih =>
    intro acc u h
    unfold parseUintM at h
    split at h
    · rename_i hc
      split at h
      · cases h
      · split at h
        · cases h
        · obtain ⟨h1, h2⟩ := ih h
          refine ⟨fun x hx => ?_, h2⟩
          rcases List.mem_cons.1 hx with rfl | hx
          · exact hc
          · exact h1 x hx
    · cases h
open Go.Lib in
theorem uint_yes {M : Nat} (hM : M ≤ 1000000000000) : ∀ {l : List UInt8} {acc : Nat}, (∀ c ∈ l, 48 ≤ c.toNat ∧ c.toNat ≤ 57) → dv acc l ≤ M → parseUintM M acc l = .ok (dv acc l) := by
  intro l
  induction l with
  | nil => intro acc _ _; unfold parseUintM; rfl
  | cons c r ih =>
    intro acc hc hd
    have h1 := hc c List.mem_cons_self
    have h2 := dv_le_acc r (acc * 10 + (c.toNat - 48))
    rw [dv_cons] at hd
    unfold parseUintM
    rw [if_pos h1, if_neg (by omega), if_neg (by omega), ih (fun x hx => hc x (List.mem_cons_of_mem _ hx)) hd]
    rfl
theorem alV_mem {s : ByteArray} : alV 48 57 (bs s) = true ↔ ∀ c ∈ s.data.toList, 48 ≤ c.toNat ∧ c.toNat ≤ 57 := by
  unfold alV bs
  rw [List.all_eq_true]
  simp
theorem head_bs {s : ByteArray} {c : UInt8} {r : List UInt8} (h : s.data.toList = c :: r) : (bs s).getD 0 0 = c.toNat := by
  unfold bs; rw [h]; rfl
open Go.Lib in
/-- what the library reads, and a class -/
theorem clV_ok {s : ByteArray} {u : Nat} (h : parseUintB 32 s.data.toList = .ok u) : 0 < s.size ∧ clV (bs s) = if (bs s).getD 0 0 ≠ 48 ∧ u ≤ 254 then some u else none := by
  unfold parseUintB at h
  split at h
  · cases h
  · rename_i hne
    obtain ⟨h1, h2⟩ := uint_ok h
    have hl := Lib.size_eq s
    have hpos : 0 < s.size := by rw [hl]; exact List.length_pos_iff.2 hne
    refine ⟨hpos, ?_⟩
    have ha := alV_mem.2 h1
    by_cases h0 : (bs s).getD 0 0 = 48
    · rw [clV_no (fun x => x.2.2 h0), if_neg (fun x => x.1 h0)]
    · have hlen : u ≤ 254 → s.size ≤ 3 := fun hu => by
        rcases Nat.lt_or_ge 3 s.size with h4 | h4
        · exfalso
          obtain ⟨c, r, hcr⟩ : ∃ c r, s.data.toList = c :: r := by
            cases hs : s.data.toList with
            | nil => exact absurd hs hne
            | cons c r => exact ⟨c, r, rfl⟩
          have hc := h1 c (by rw [hcr]; exact List.mem_cons_self)
          have hc0 : c.toNat ≠ 48 := fun e => h0 ((head_bs hcr).trans e)
          have hg := dv_ge r (0 * 10 + (c.toNat - 48))
          rw [hcr, dv_cons] at h2
          have hr : 3 ≤ r.length := by rw [hl, hcr, List.length_cons] at h4; omega
          have hp : 10 ^ 3 ≤ 10 ^ r.length := Nat.pow_le_pow_right (by decide) hr
          have hm : 1 * 10 ^ r.length ≤ (0 * 10 + (c.toNat - 48)) * 10 ^ r.length := Nat.mul_le_mul_right _ (by omega)
          omega
        · exact h4
      by_cases hu : u ≤ 254
      · rw [if_pos ⟨h0, hu⟩, clV_in ⟨hpos, hlen hu⟩ ha h0, dcV_dv, ← h2, if_pos hu]
      · rw [if_neg (fun x => hu x.2)]
        by_cases h3 : s.size ≤ 3
        · rw [clV_in ⟨hpos, h3⟩ ha h0, dcV_dv, ← h2, if_neg hu]
        · rw [clV_no (fun x => h3 x.1.2)]
open Go.Lib in
theorem clV_bad {s : ByteArray} (h : ∀ u, parseUintB 32 s.data.toList ≠ .ok u) : clV (bs s) = none := by
  by_cases hc : (1 ≤ s.size ∧ s.size ≤ 3) ∧ alV 48 57 (bs s) = true ∧ (bs s).getD 0 0 ≠ 48
  · obtain ⟨h1, h2, h3⟩ := hc
    rw [clV_in h1 h2 h3]
    by_cases h4 : dcV (bs s) s.size ≤ 254
    · exfalso
      refine h (dv 0 s.data.toList) ?_
      unfold parseUintB
      have hl := Lib.size_eq s
      rw [if_neg (fun e => by rw [e] at hl; have h0 : s.size = 0 := hl; omega)]
      exact uint_yes (M := 2 ^ 32 - 1) (by decide) (alV_mem.1 h2) (by rw [← dcV_dv]; exact Nat.le_trans h4 (by decide))
    · rw [if_neg h4]
  · exact clV_no hc
open Go.Lib in
theorem joins : ∀ n : Fin 256, contains [85, 68, 82, 76, 67, 84] [UInt8.ofNat n.val] = ([UInt8.ofNat n.val] == [85] || [UInt8.ofNat n.val] == [68] || [UInt8.ofNat n.val] == [82] || [UInt8.ofNat n.val] == [76] || [UInt8.ofNat n.val] == [67] || [UInt8.ofNat n.val] == [84]) := by decide +kernel
open Go.Lib in
theorem jnV_one {s : ByteArray} (h : s.size = 1) : jnV s = contains [85, 68, 82, 76, 67, 84] s.data.toList := by
  have hl := Lib.size_eq s
  obtain ⟨c, hc⟩ : ∃ c, s.data.toList = [c] := List.length_eq_one_iff.1 (by omega)
  have e : UInt8.ofNat c.toNat = c := by simp
  have := joins ⟨c.toNat, c.toNat_lt⟩
  simp only [e] at this
  unfold jnV
  rw [Lib.toList_data, hc]
  exact this.symm
theorem jnV_no {s : ByteArray} (h : s.size ≠ 1) : jnV s = false := by
  have hl := Lib.size_eq s
  have : ∀ x : UInt8, (s.toList == [x]) = false := fun x => by
    rw [Lib.toList_data]
    simp
    intro e
    rw [e] at hl
    simp at hl
    omega
  unfold jnV
  simp only [this, Bool.or_self]
end Go.Proofs.YtiekffkeagcaiaaDoor
