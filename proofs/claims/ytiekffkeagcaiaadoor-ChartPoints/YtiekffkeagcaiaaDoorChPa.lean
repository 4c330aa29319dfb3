/- Points as words, as plain mathematics: their digits, and what is read of them again. Nothing of the program is walked here. -/
import Derived.Test.YtiekffkeagcaiaaDoorChAd
import Derived.Test.YtiekffkeagcaiaaDoorChS
import Derived.Test.YtiekffkeagcaiaaDoorChMe
namespace Go.Proofs.YtiekffkeagcaiaaDoor
open Go.RowKit
set_option linter.unusedVariables false

/-- a digit of base 16 -/
def HU (d : Nat) : UInt8 := if d < 10 then (48 + d).toUInt8 else (55 + d).toUInt8
/-- the j last digits, the first one ahead -/
def dgB : Nat → Nat → List UInt8
  | 0, _ => []
  | j + 1, n => HU (n / 16 ^ j % 16) :: dgB j n
theorem dgB_len (j n : Nat) : (dgB j n).length = j := by
  induction j with
  | zero => rfl
  | succ j ih => rw [dgB, List.length_cons, ih]
theorem dgB_at : ∀ (j n k : Nat), k < j → (dgB j n)[k]? = some (HU (n / 16 ^ (j - 1 - k) % 16))
  | j + 1, n, 0, _ => rfl
  | j + 1, n, k + 1, h => by
    rw [dgB, List.getElem?_cons_succ, dgB_at j n k (by omega)]
    rw [show j + 1 - 1 - (k + 1) = j - 1 - k by omega]
theorem up_hxd : ∀ d, d < 16 → Lib.upperB (hxd d) = HU d := by decide
theorem HU_dg : ∀ d, d < 16 → dgV (HU d).toNat = some d := by decide
theorem HU_zero : ∀ d, d < 16 → (HU d).toNat = 48 → d = 0 := by decide
theorem HU_no : ∀ d, d < 16 → HU d ≠ 32 ∧ HU d ≠ 10 := by decide
theorem HU_0 : HU 0 = 48 := by decide
/-- the bytes of a point's word -/
def wl (n : Nat) : List UInt8 := Lib.repeatL [48] (4 - (hxl 8 n).length) ++ Lib.toUpperA (hxl 8 n)
theorem wrd_wl (n : Nat) : wrd n = mkS (wl n) := by
  refine ext_toList ?_
  unfold wrd
  rw [append_toList, mkS_toList]
  simp [wl]
theorem wl_1 {n : Nat} (h : n < 16) : wl n = [48, 48, 48, HU n] := by
  unfold wl
  rw [hxl_last h]
  simp [Lib.toUpperA, Lib.repeatL, up_hxd n h]
theorem wl_2 {n : Nat} (h0 : 16 ≤ n) (h : n < 256) : wl n = [48, 48, HU (n / 16), HU (n % 16)] := by
  unfold wl
  rw [hxl_step h0, hxl_last (by omega)]
  simp [Lib.toUpperA, Lib.repeatL, up_hxd (n / 16) (by omega), up_hxd (n % 16) (by omega)]
theorem wl_3 {n : Nat} (h0 : 256 ≤ n) (h : n < 4096) : wl n = [48, HU (n / 16 / 16), HU (n / 16 % 16), HU (n % 16)] := by
  unfold wl
  rw [hxl_step (by omega), hxl_step (by omega), hxl_last (by omega)]
  simp [Lib.toUpperA, Lib.repeatL, up_hxd (n / 16 / 16) (by omega), up_hxd (n / 16 % 16) (by omega), up_hxd (n % 16) (by omega)]
theorem wl_4 {n : Nat} (h0 : 4096 ≤ n) (h : n < 65536) : wl n = [HU (n / 16 / 16 / 16), HU (n / 16 / 16 % 16), HU (n / 16 % 16), HU (n % 16)] := by
  unfold wl
  rw [hxl_step (by omega), hxl_step (by omega), hxl_step (by omega), hxl_last (by omega)]
  simp [Lib.toUpperA, Lib.repeatL, up_hxd (n / 16 / 16 / 16) (by omega), up_hxd (n / 16 / 16 % 16) (by omega), up_hxd (n / 16 % 16) (by omega), up_hxd (n % 16) (by omega)]
theorem wl_5 {n : Nat} (h0 : 65536 ≤ n) (h : n < 1048576) : wl n = [HU (n / 16 / 16 / 16 / 16), HU (n / 16 / 16 / 16 % 16), HU (n / 16 / 16 % 16), HU (n / 16 % 16), HU (n % 16)] := by
  unfold wl
  rw [hxl_step (by omega), hxl_step (by omega), hxl_step (by omega), hxl_step (by omega), hxl_last (by omega)]
  simp [Lib.toUpperA, Lib.repeatL, up_hxd (n / 16 / 16 / 16 / 16) (by omega), up_hxd (n / 16 / 16 / 16 % 16) (by omega), up_hxd (n / 16 / 16 % 16) (by omega), up_hxd (n / 16 % 16) (by omega), up_hxd (n % 16) (by omega)]
theorem wl_6 {n : Nat} (h0 : 1048576 ≤ n) (h : n < 16777216) : wl n = [HU (n / 16 / 16 / 16 / 16 / 16), HU (n / 16 / 16 / 16 / 16 % 16), HU (n / 16 / 16 / 16 % 16), HU (n / 16 / 16 % 16), HU (n / 16 % 16), HU (n % 16)] := by
  unfold wl
  rw [hxl_step (by omega), hxl_step (by omega), hxl_step (by omega), hxl_step (by omega), hxl_step (by omega), hxl_last (by omega)]
  simp [Lib.toUpperA, Lib.repeatL, up_hxd (n / 16 / 16 / 16 / 16 / 16) (by omega), up_hxd (n / 16 / 16 / 16 / 16 % 16) (by omega), up_hxd (n / 16 / 16 / 16 % 16) (by omega), up_hxd (n / 16 / 16 % 16) (by omega), up_hxd (n / 16 % 16) (by omega), up_hxd (n % 16) (by omega)]
theorem p16 : 16 ^ 0 = 1 ∧ 16 ^ 1 = 16 ∧ 16 ^ 2 = 256 ∧ 16 ^ 3 = 4096 ∧ 16 ^ 4 = 65536 ∧ 16 ^ 5 = 1048576 ∧ 16 ^ 6 = 16777216 := by decide
/-- a word is its digits: four, or as many as there are -/
theorem wl_dgB {n j : Nat} (h4 : 4 ≤ j) (hj : j ≤ 6) (hn : n < 16 ^ j) (hm : j = 4 ∨ 16 ^ (j - 1) ≤ n) : wl n = dgB j n := by
  obtain ⟨e0, e1, e2, e3, e4, e5, e6⟩ := p16
  have hc : j = 4 ∨ j = 5 ∨ j = 6 := by omega
  rcases hc with rfl | rfl | rfl
  · simp only [dgB, e0, e1, e2, e3]
    rw [e4] at hn
    by_cases h1 : n < 16
    · rw [wl_1 h1, show n / 4096 % 16 = 0 by omega, show n / 256 % 16 = 0 by omega, show n / 16 % 16 = 0 by omega, show n / 1 % 16 = n by omega, HU_0]
    · by_cases h2 : n < 256
      · rw [wl_2 (by omega) h2, show n / 4096 % 16 = 0 by omega, show n / 256 % 16 = 0 by omega, show n / 16 % 16 = n / 16 by omega, show n / 1 % 16 = n % 16 by omega, HU_0]
      · by_cases h3 : n < 4096
        · rw [wl_3 (by omega) h3, show n / 4096 % 16 = 0 by omega, show n / 256 % 16 = n / 16 / 16 by omega, show n / 1 % 16 = n % 16 by omega, HU_0]
        · rw [wl_4 (by omega) hn, show n / 4096 % 16 = n / 16 / 16 / 16 by omega, show n / 256 % 16 = n / 16 / 16 % 16 by omega, show n / 1 % 16 = n % 16 by omega]
  · simp only [dgB, e0, e1, e2, e3, e4]
    rw [e5] at hn
    rw [wl_5 (by have := hm; simp only [show 5 - 1 = 4 from rfl, e4] at this; omega) hn, show n / 65536 % 16 = n / 16 / 16 / 16 / 16 by omega, show n / 4096 % 16 = n / 16 / 16 / 16 % 16 by omega, show n / 256 % 16 = n / 16 / 16 % 16 by omega, show n / 1 % 16 = n % 16 by omega]
  · simp only [dgB, e0, e1, e2, e3, e4, e5]
    rw [e6] at hn
    rw [wl_6 (by have := hm; simp only [show 6 - 1 = 5 from rfl, e5] at this; omega) hn, show n / 1048576 % 16 = n / 16 / 16 / 16 / 16 / 16 by omega, show n / 65536 % 16 = n / 16 / 16 / 16 / 16 % 16 by omega, show n / 4096 % 16 = n / 16 / 16 / 16 % 16 by omega, show n / 256 % 16 = n / 16 / 16 % 16 by omega, show n / 1 % 16 = n % 16 by omega]
theorem wl_form {n : Nat} (h : n ≤ 1114111) : ∃ j, 4 ≤ j ∧ j ≤ 6 ∧ n < 16 ^ j ∧ (j = 4 ∨ 16 ^ (j - 1) ≤ n) ∧ wl n = dgB j n := by
  obtain ⟨e0, e1, e2, e3, e4, e5, e6⟩ := p16
  by_cases h4 : n < 65536
  · exact ⟨4, by decide, by decide, by rw [e4]; exact h4, Or.inl rfl, wl_dgB (by decide) (by decide) (by rw [e4]; exact h4) (Or.inl rfl)⟩
  · by_cases h5 : n < 1048576
    · have hm : 16 ^ (5 - 1) ≤ n := by rw [show 5 - 1 = 4 from rfl, e4]; omega
      exact ⟨5, by decide, by decide, by rw [e5]; exact h5, Or.inr hm, wl_dgB (by decide) (by decide) (by rw [e5]; exact h5) (Or.inr hm)⟩
    · have hm : 16 ^ (6 - 1) ≤ n := by rw [show 6 - 1 = 5 from rfl, e5]; omega
      exact ⟨6, by decide, by decide, by rw [e6]; omega, Or.inr hm, wl_dgB (by decide) (by decide) (by rw [e6]; omega) (Or.inr hm)⟩
theorem dgB_hx (j n : Nat) : ∀ k, k ≤ j → hxV ((dgB j n).map (·.toNat)) k = some (n / 16 ^ (j - k) % 16 ^ k) := by
  intro k
  induction k with
  | zero => intro _; rw [hxV, Nat.pow_zero, Nat.mod_one]
  | succ k ih =>
    intro hk
    have hg : ((dgB j n).map (·.toNat)).getD k 0 = (HU (n / 16 ^ (j - 1 - k) % 16)).toNat := by
      rw [List.getD_eq_getElem?_getD, List.getElem?_map, dgB_at j n k (by omega)]; rfl
    rw [hxV, ih (by omega), hg, HU_dg _ (Nat.mod_lt _ (by decide))]
    have e : j - k = (j - (k + 1)) + 1 := by omega
    have e2 : j - 1 - k = j - (k + 1) := by omega
    rw [e2, e, Nat.pow_succ, ← Nat.div_div_eq_div_mul, Nat.pow_succ', Nat.mod_mul]
    simp only [Option.some.injEq]
    omega
theorem pt_wl {n : Nat} (h : n ≤ 1114111) : ptV (bs (mkS (wl n))) = some n := by
  obtain ⟨j, h4, h6, hn, hm, e⟩ := wl_form h
  have hb : bs (mkS (wl n)) = (dgB j n).map (·.toNat) := by unfold bs; rw [mkS_toList, e]
  have hl : ((dgB j n).map (·.toNat)).length = j := by rw [List.length_map, dgB_len]
  have h0 : ((dgB j n).map (·.toNat)).getD 0 0 = (HU (n / 16 ^ (j - 1 - 0) % 16)).toNat := by
    rw [List.getD_eq_getElem?_getD, List.getElem?_map, dgB_at j n 0 (by omega)]; rfl
  rw [hb]
  unfold ptV
  rw [hl, if_neg, dgB_hx j n j (Nat.le_refl _), Nat.sub_self, Nat.pow_zero, Nat.div_one, Nat.mod_eq_of_lt hn]
  · simp only
    rw [if_pos h]
  · rintro (hx | hx | ⟨hx, hy⟩)
    · omega
    · omega
    · rw [h0] at hy
      have hz := HU_zero _ (Nat.mod_lt _ (by decide)) hy
      rcases hm with hm | hm
      · omega
      · have h1 : 1 ≤ n / 16 ^ (j - 1) := (Nat.le_div_iff_mul_le (Nat.pow_pos (by decide))).2 (by rw [Nat.one_mul]; exact hm)
        have h2 : n / 16 ^ (j - 1) < 16 := by
          rw [Nat.div_lt_iff_lt_mul (Nat.pow_pos (by decide)), ← Nat.pow_succ', show (j - 1).succ = j by omega]
          exact hn
        rw [Nat.sub_zero, Nat.mod_eq_of_lt h2] at hz
        omega
theorem dgB_no (n : Nat) : ∀ j, (32 : UInt8) ∉ dgB j n ∧ (10 : UInt8) ∉ dgB j n
  | 0 => ⟨by simp [dgB], by simp [dgB]⟩
  | j + 1 => by
    have ih := dgB_no n j
    have h1 := HU_no (n / 16 ^ j % 16) (Nat.mod_lt _ (by decide))
    simp only [dgB, List.mem_cons, not_or]
    exact ⟨⟨fun e => h1.1 e.symm, ih.1⟩, ⟨fun e => h1.2 e.symm, ih.2⟩⟩
theorem wl_no {n : Nat} (h : n ≤ 1114111) : (32 : UInt8) ∉ wl n ∧ (10 : UInt8) ∉ wl n := by
  obtain ⟨j, _, _, _, _, e⟩ := wl_form h
  rw [e]
  exact dgB_no n j
theorem wl_len {n : Nat} (h : n ≤ 1114111) : (wl n).length ≤ 6 := by
  obtain ⟨j, _, h6, _, _, e⟩ := wl_form h
  rw [e, dgB_len]; exact h6
/-- a number's word: a point's, or a question mark -/
def wq (n : Nat) : List UInt8 := if n ≤ 1114111 then wl n else [63]
theorem wq_no (n : Nat) : (32 : UInt8) ∉ wq n ∧ (10 : UInt8) ∉ wq n := by
  unfold wq
  split
  · rename_i h; exact wl_no h
  · exact ⟨by decide, by decide⟩
theorem wq_len (n : Nat) : (wq n).length ≤ 6 := by
  unfold wq
  split
  · rename_i h; exact wl_len h
  · decide
theorem pt_wq (n : Nat) : ptV (bs (mkS (wq n))) = if n ≤ 1114111 then some n else none := by
  unfold wq
  split
  · rename_i h; exact pt_wl h
  · rfl
/-- numbers as one text -/
def jn (l : List Nat) : List UInt8 := Lib.join (l.map wq) [32]
theorem jn_nil : jn [] = [] := rfl
theorem jn_one (x : Nat) : jn [x] = wq x := Lib.join_one _ _
theorem jn_snoc (l : List Nat) (x : Nat) (h : l ≠ []) : jn (l ++ [x]) = jn l ++ 32 :: wq x := by
  cases l with
  | nil => exact absurd rfl h
  | cons y r =>
    unfold jn
    rw [List.cons_append, List.map_cons, List.map_cons, Lib.join_cons, Lib.join_cons, List.map_append]
    simp [Lib.joinTail, List.append_assoc]
theorem jn_cons2 (x y : Nat) (t : List Nat) : jn (x :: y :: t) = wq x ++ 32 :: jn (y :: t) := by
  unfold jn
  rw [List.map_cons, Lib.join_cons, List.map_cons, Lib.join_cons]
  simp [Lib.joinTail]
theorem jn_len : ∀ (l : List Nat), (jn l).length ≤ 7 * l.length
  | [] => by simp [jn_nil]
  | [x] => by have := wq_len x; rw [jn_one]; simp; omega
  | x :: y :: t => by
    have := wq_len x
    have ih := jn_len (y :: t)
    rw [jn_cons2, List.length_append, List.length_cons, List.length_cons]
    omega
theorem spl_jn (l : List Nat) (h : l ≠ []) : spl 32 (jn l) = l.map wq := by
  induction l with
  | nil => exact absurd rfl h
  | cons x r ih =>
    cases r with
    | nil => rw [jn_one, spl_none (wq_no x).1]; rfl
    | cons y t =>
      rw [jn_cons2, spl_cut (wq_no x).1, ih (by simp)]
      rfl
theorem jn_no : ∀ (l : List Nat), (10 : UInt8) ∉ jn l
  | [] => by simp [jn_nil]
  | [x] => by rw [jn_one]; exact (wq_no x).2
  | x :: y :: t => by
    rw [jn_cons2]
    simp only [List.mem_append, List.mem_cons, not_or]
    exact ⟨(wq_no x).2, by decide, jn_no (y :: t)⟩
/-- the line of a point with these words -/
def lnS (l : List Nat) : List UInt8 := [48, 48, 52, 49, 32, 61, 32] ++ jn l
theorem psV_wq (l : List Nat) : psV (l.map fun n => mkS (wq n)) = if l.all (fun n => decide (n ≤ 1114111)) = true then some l else none := by
  induction l with
  | nil => rfl
  | cons x r ih =>
    rw [List.map_cons, psV, pt_wq, ih, List.all_cons]
    by_cases hx : x ≤ 1114111
    · rw [if_pos hx, decide_eq_true hx, Bool.true_and]
      split <;> rfl
    · rw [if_neg hx, decide_eq_false hx]
      rfl
theorem line_said (l : List Nat) (h0 : l ≠ []) (h3 : l.length ≤ 3) : rsV dcOf upD (lwV (mkS (lnS l))) (lwV (mkS (lnS l))).length = if l.all (fun n => decide (n ≤ 1114111)) = true then ([⟨65, l, false, false⟩], 0) else ([], 1) := by
  have hsz : (mkS (lnS l)).size ≠ 0 := by rw [Lib.size_eq, mkS_toList]; unfold lnS; simp
  have hn : (10 : UInt8) ∉ lnS l := by
    unfold lnS
    rw [List.mem_append, not_or]
    exact ⟨by decide, jn_no l⟩
  have hw : lwV (mkS (lnS l)) = [mkS [48, 48, 52, 49] :: mkS [61] :: l.map fun n => mkS (wq n)] := by
    have e : lnS l = [48, 48, 52, 49] ++ 32 :: ([61] ++ 32 :: jn l) := rfl
    unfold lwV lnV
    rw [if_neg hsz]
    unfold splS
    rw [mkS_toList, spl_none hn]
    show [(spl 32 (mkS (lnS l)).data.toList).map mkS] = _
    rw [mkS_toList, e, spl_cut (by decide), spl_cut (by decide), spl_jn l h0]
    simp
  rw [hw]
  have hl : (l.map fun n => mkS (wq n)).length = l.length := List.length_map _
  have h1 : 1 ≤ l.length := List.length_pos_iff.2 h0
  have hd : dcOf (mkS [48, 48, 52, 49] :: mkS [61] :: l.map fun n => mkS (wq n)) = if l.all (fun n => decide (n ≤ 1114111)) = true then some ⟨65, l, false, false⟩ else none := by
    rw [dcOf_in (by rw [List.length_cons, List.length_cons, hl]; omega)]
    have a1 : ptV (bs (mkS [48, 48, 52, 49])) = some 65 := by kernel_rfl
    have a2 : sgV (mkS [61]) = true := by unfold sgV; rw [Lib.toList_data, mkS_toList]; rfl
    have a3 : ((mkS [61]).toList == [126]) = false := by rw [Lib.toList_data, mkS_toList]; rfl
    have a4 : ((mkS [61]).toList == [33]) = false := by rw [Lib.toList_data, mkS_toList]; rfl
    show ((ptV (bs (mkS [48, 48, 52, 49]))).bind fun p => (pvV (l.map fun n => mkS (wq n))).bind fun l' => if sgV (mkS [61]) = true then some (⟨p, l', (mkS [61]).toList == [126], (mkS [61]).toList == [33]⟩ : Dt) else none) = _
    rw [a1, pvV_few (by omega), psV_wq, a2, a3, a4]
    split <;> rfl
  show rsV dcOf upD [mkS [48, 48, 52, 49] :: mkS [61] :: l.map fun n => mkS (wq n)] 1 = _
  have hr0 : rsV dcOf upD [mkS [48, 48, 52, 49] :: mkS [61] :: l.map fun n => mkS (wq n)] 0 = ([], 0) := rfl
  by_cases ha : l.all (fun n => decide (n ≤ 1114111)) = true
  · rw [if_pos ha] at hd ⊢
    exact rsV_next hr0 hd rfl
  · rw [if_neg ha] at hd ⊢
    exact rsV_none hr0 hd
end Go.Proofs.YtiekffkeagcaiaaDoor
