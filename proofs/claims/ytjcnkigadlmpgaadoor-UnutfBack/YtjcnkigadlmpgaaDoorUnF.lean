/- Code points as bytes, as plain mathematics: what stands at a point's four places, the document's bytes, what packing makes of them; what Encode's loops make of an arena, and what is noted. Nothing of the program is named here. -/
import Derived.Test.YtjcnkigadlmpgaaDoorPkP
import Derived.Test.YtjcnkigadlmpgaaDoorArQ
namespace Go.Proofs.YtjcnkigadlmpgaaDoor
open Go.RowKit
set_option linter.unusedVariables false

/-- a place: points from f on have a byte there, those below n begin with it -/
structure Pl where
  f : Nat
  n : Nat
  s : Nat
  l : Nat
def pl (f n s l : Nat) : Pl := Pl.mk f n s l
def pls : List Pl := [pl 65536 2097152 18 240, pl 2048 65536 12 224, pl 128 2048 6 192, pl 0 128 0 0]
def plA (j : Nat) : Pl := pls.getD j (pl 0 0 0 0)
/-- the byte there, and is there one? -/
def Pl.bt (p : Pl) (q : Nat) : Nat := if q < p.n then orW p.l (shr q p.s) else orW 128 (andW (shr q p.s) 63)
def Pl.is (p : Pl) (q : Nat) : Bool := !decide (q < p.f)
/-- the document's bytes of a point -/
def bysB (p : Nat) : List Nat :=
  if p < 128 then [p] else if p < 2048 then [192 + p / 64, 128 + p % 64] else if p < 65536 then [224 + p / 4096, 128 + p / 64 % 64, 128 + p % 64]
  else [240 + p / 262144 % 8, 128 + p / 4096 % 64, 128 + p / 64 % 64, 128 + p % 64]
theorem bysB_lt (p : Nat) (h : p < 2097152) : ∀ b ∈ bysB p, b < 256 := by
  intro b hb
  unfold bysB at hb
  split at hb
  · simp at hb; omega
  · split at hb
    · simp at hb; omega
    · split at hb
      · simp at hb; omega
      · simp at hb; omega
theorem bysB_len (p : Nat) : (bysB p).length ≤ 4 := by
  unfold bysB
  repeat' split
  all_goals simp
theorem orW_top (k a x : Nat) (h : x < 2 ^ k) : orW (2 ^ k * a) x = 2 ^ k * a + x := (Nat.two_pow_add_eq_or_of_lt h a).symm
theorem or240 (x : Nat) (h : x < 16) : orW 240 x = 240 + x := orW_top 4 15 x h
theorem or224 (x : Nat) (h : x < 32) : orW 224 x = 224 + x := orW_top 5 7 x h
theorem or192 (x : Nat) (h : x < 64) : orW 192 x = 192 + x := orW_top 6 3 x h
theorem or128 (x : Nat) : orW 128 (andW x 63) = 128 + x % 64 := by
  have e : andW x 63 = x % 64 := by unfold andW; rw [show (63 : Nat) = 2 ^ 6 - 1 from rfl, Nat.and_two_pow_sub_one_eq_mod]
  rw [e]
  have := orW_top 7 1 (x % 64) (by omega)
  simpa using this
theorem or000 (x : Nat) : orW 0 x = x := by unfold orW; simp
theorem pl_bytes (q : Nat) (h : q < 2097152) : ((List.range 4).filter fun j => (plA j).is q).map (fun j => (plA j).bt q) = bysB q := by
  have e : List.range 4 = [0, 1, 2, 3] := rfl
  have s0 : shr q 18 = q / 262144 := rfl
  have s1 : shr q 12 = q / 4096 := rfl
  have s2 : shr q 6 = q / 64 := rfl
  have s3 : shr q 0 = q := by unfold shr; simp
  rw [e]
  have b0 : (plA 0).bt q = 240 + q / 262144 := by
    show (if q < 2097152 then orW 240 (shr q 18) else orW 128 (andW (shr q 18) 63)) = _
    rw [if_pos h, s0, or240 _ (by omega)]
  have b1 : (plA 1).bt q = if q < 65536 then 224 + q / 4096 else 128 + q / 4096 % 64 := by
    show (if q < 65536 then orW 224 (shr q 12) else orW 128 (andW (shr q 12) 63)) = _
    rw [s1, or128]
    split
    · rw [or224 _ (by omega)]
    · rfl
  have b2 : (plA 2).bt q = if q < 2048 then 192 + q / 64 else 128 + q / 64 % 64 := by
    show (if q < 2048 then orW 192 (shr q 6) else orW 128 (andW (shr q 6) 63)) = _
    rw [s2, or128]
    split
    · rw [or192 _ (by omega)]
    · rfl
  have b3 : (plA 3).bt q = if q < 128 then q else 128 + q % 64 := by
    show (if q < 128 then orW 0 (shr q 0) else orW 128 (andW (shr q 0) 63)) = _
    rw [s3, or128, or000]
  have i0 : (plA 0).is q = !decide (q < 65536) := rfl
  have i1 : (plA 1).is q = !decide (q < 2048) := rfl
  have i2 : (plA 2).is q = !decide (q < 128) := rfl
  have i3 : (plA 3).is q = true := by show (!decide (q < 0)) = true; simp
  unfold bysB
  have hq : q / 262144 % 8 = q / 262144 := by omega
  rcases (show q < 128 ∨ (128 ≤ q ∧ q < 2048) ∨ (2048 ≤ q ∧ q < 65536) ∨ 65536 ≤ q by omega) with c | c | c | c
  · rw [if_pos c, List.filter_cons_of_neg (by rw [i0]; simp; omega), List.filter_cons_of_neg (by rw [i1]; simp; omega), List.filter_cons_of_neg (by rw [i2]; simp; omega), List.filter_cons_of_pos (by exact i3)]
    show [(plA 3).bt q] = _
    rw [b3, if_pos c]
  · rw [if_neg (by omega), if_pos c.2, List.filter_cons_of_neg (by rw [i0]; simp; omega), List.filter_cons_of_neg (by rw [i1]; simp; omega), List.filter_cons_of_pos (by rw [i2]; simp; omega), List.filter_cons_of_pos (by exact i3)]
    show [(plA 2).bt q, (plA 3).bt q] = _
    rw [b2, b3, if_pos c.2, if_neg (by omega)]
  · rw [if_neg (by omega), if_neg (by omega), if_pos c.2, List.filter_cons_of_neg (by rw [i0]; simp; omega), List.filter_cons_of_pos (by rw [i1]; simp; omega), List.filter_cons_of_pos (by rw [i2]; simp; omega), List.filter_cons_of_pos (by exact i3)]
    show [(plA 1).bt q, (plA 2).bt q, (plA 3).bt q] = _
    rw [b1, b2, b3, if_pos c.2, if_neg (by omega), if_neg (by omega)]
  · rw [if_neg (by omega), if_neg (by omega), if_neg (by omega), List.filter_cons_of_pos (by rw [i0]; simp; omega), List.filter_cons_of_pos (by rw [i1]; simp; omega), List.filter_cons_of_pos (by rw [i2]; simp; omega), List.filter_cons_of_pos (by exact i3)]
    show [(plA 0).bt q, (plA 1).bt q, (plA 2).bt q, (plA 3).bt q] = _
    rw [b0, b1, b2, b3, if_neg (by omega), if_neg (by omega), if_neg (by omega), hq]

/-- the document's bytes of those that are kept -/
def encL (x k : Nat → Nat) : Nat → List Nat
  | 0 => []
  | n + 1 => encL x k n ++ (if k n % 2 == 1 then bysB (x n % 2097152) else [])
theorem encL_len (x k : Nat → Nat) (n : Nat) : (encL x k n).length ≤ 4 * n := by
  induction n with
  | zero => exact Nat.le_refl _
  | succ n ih =>
    have := bysB_len (x n % 2097152)
    simp only [encL, List.length_append]
    split <;> simp <;> omega
theorem encL_lt (x k : Nat → Nat) (n : Nat) : ∀ b ∈ encL x k n, b < 256 := by
  induction n with
  | zero => intro b hb; cases hb
  | succ n ih =>
    intro b hb
    simp only [encL, List.mem_append] at hb
    rcases hb with hb | hb
    · exact ih b hb
    · split at hb
      · exact bysB_lt _ (Nat.mod_lt _ (by decide)) b hb
      · cases hb
theorem encL_congr {x k y j : Nat → Nat} {n : Nat} (h : ∀ i, i < n → x i = y i ∧ k i = j i) : encL x k n = encL y j n := by
  induction n with
  | zero => rfl
  | succ n ih =>
    simp only [encL]
    rw [ih fun i hi => h i (by omega), (h n (by omega)).1, (h n (by omega)).2]
/-- what is laid at the places of all, and which of these are kept -/
def bK (x k : Nat → Nat) (i : Nat) : Bool := (k (i / 4) % 2 == 1) && (plA (i % 4)).is (x (i / 4) % 2097152)
def vK (x : Nat → Nat) (i : Nat) : Nat := (plA (i % 4)).bt (x (i / 4) % 2097152)
theorem kp_four (b : Nat → Bool) (m : Nat) : kp b (m + 4) = kp b m ++ ((List.range 4).filter fun j => b (m + j)).map (m + ·) := by
  rw [show m + 4 = m + 1 + 1 + 1 + 1 from rfl, kp_succ, kp_succ, kp_succ, kp_succ]
  rw [show List.range 4 = [0, 1, 2, 3] from rfl]
  simp only [List.filter, Nat.add_zero, List.append_assoc]
  cases b m <;> cases b (m + 1) <;> cases b (m + 2) <;> cases b (m + 3) <;> simp
theorem kp_enc (x k : Nat → Nat) (n : Nat) : (kp (bK x k) (4 * n)).map (vK x) = encL x k n := by
  induction n with
  | zero => rfl
  | succ n ih =>
    rw [show 4 * (n + 1) = 4 * n + 4 by omega, kp_four, List.map_append, ih]
    simp only [encL]
    congr 1
    have hd : ∀ j ∈ List.range 4, (4 * n + j) / 4 = n ∧ (4 * n + j) % 4 = j := fun j hj => by
      have := List.mem_range.1 hj
      exact ⟨by omega, by omega⟩
    have e1 : ((List.range 4).filter fun j => bK x k (4 * n + j)) = (List.range 4).filter fun j => (k n % 2 == 1) && (plA j).is (x n % 2097152) :=
      List.filter_congr fun j hj => by
        obtain ⟨h1, h2⟩ := hd j hj
        unfold bK; rw [h1, h2]
    rw [e1, List.map_map]
    have e2 : ∀ l : List Nat, (∀ j ∈ l, j ∈ List.range 4) → l.map (vK x ∘ (4 * n + ·)) = l.map (fun j => (plA j).bt (x n % 2097152)) := fun l hl =>
      List.map_congr_left fun j hj => by
        obtain ⟨h1, h2⟩ := hd j (hl j hj)
        show (plA ((4 * n + j) % 4)).bt (x ((4 * n + j) / 4) % 2097152) = _
        rw [h1, h2]
    rw [e2 _ fun j hj => (List.mem_filter.1 hj).1]
    cases hk : k n % 2 == 1
    · simp
    · simp only [Bool.true_and, if_true]
      exact pl_bytes _ (Nat.mod_lt _ (by decide))
theorem rk_enc (x k : Nat → Nat) (n : Nat) : rk (bK x k) (4 * n) = (encL x k n).length := by
  rw [← kp_enc]; simp [rk]
theorem and_keep (k : Nat) (c : Bool) (hk : k < 4294967296) : (andW k (mk c) % 2 == 1) = ((k % 2 == 1) && c) := by
  unfold andW mk
  cases c
  · simp
  · have h : k &&& 4294967295 = k := by rw [show (4294967295 : Nat) = 2 ^ 32 - 1 from rfl, Nat.and_two_pow_sub_one_eq_mod]; exact Nat.mod_eq_of_lt hk
    simp [h]
theorem and21 (x : Nat) : andW x 2097151 = x % 2097152 := by
  unfold andW
  rw [show (2097151 : Nat) = 2 ^ 21 - 1 from rfl, Nat.and_two_pow_sub_one_eq_mod]
theorem pl_lt : ∀ j, j < 4 → (plA j).f < 4294967296 ∧ (plA j).n < 4294967296 ∧ (plA j).s < 32 ∧ (plA j).l < 256 := by decide
theorem bt_lt (p : Pl) (q : Nat) (hl : p.l < 256) (hq : q < 4294967296) : p.bt q < 4294967296 := by
  unfold Pl.bt
  split
  · exact orW_lt (by omega) (shr_lt _ _ hq)
  · exact orW_lt (by decide) (andW_lt (shr_lt _ _ hq))

theorem unword_st (A : Ars) (p v : Nat) (h : p < A.ws.length) (q : Nat) : (A.storeN p v).word q = if q = p then v else A.word q := by
  show (A.ws.set p v).getD q 0 = if q = p then v else A.ws.getD q 0
  rw [List.getD_eq_getElem?_getD, List.getElem?_set]
  by_cases e : q = p
  · subst e; simp [h]
  · have e' : ¬ p = q := fun x => e x.symm
    simp [e, e']
theorem unld_at {A : Ars} {L i : Nat} (h : L + i < A.top) : A.loadV ((L : Int) + (i : Int)) = A.word (L + i) ∧ A.load ((L : Int) + (i : Int)) = A.loadN (L + i) := by
  have hf : A.fits ((L : Int) + (i : Int)) 1 = true := by rw [Ars.fits_iff]; omega
  have e : ((L : Int) + (i : Int)).toNat = L + i := by omega
  unfold Ars.loadV Ars.load
  rw [if_pos hf, if_pos hf, e]; exact ⟨rfl, rfl⟩
theorem unst_at {A : Ars} {L i v : Nat} (h : L + i < A.top) : A.store ((L : Int) + (i : Int)) v = A.storeN (L + i) v := by
  have hf : A.fits ((L : Int) + (i : Int)) 1 = true := by rw [Ars.fits_iff]; omega
  have e : ((L : Int) + (i : Int)).toNat = L + i := by omega
  unfold Ars.store
  rw [if_pos hf, e]
/-- some of a point's places laid, from m on -/
def spJ (A : Ars) (B H m q k : Nat) : Nat → Ars
  | 0 => A
  | j + 1 => ((spJ A B H m q k j).storeN (B + (m + j)) ((plA j).bt q)).storeN (H + (m + j)) (andW k (mk ((plA j).is q)))
/-- some points' places -/
def spI (A : Ars) (P K B H : Nat) (x k : Nat → Nat) : Nat → Ars
  | 0 => A
  | i + 1 => spJ (((spI A P K B H x k i).loadN (P + i)).loadN (K + i)) B H (4 * i) (x i % 2097152) (k i) 4
/-- words told out -/
def otI (A : Ars) (B O : Nat) (v : Nat → Nat) : Nat → Ars
  | 0 => A
  | i + 1 => ((otI A B O v i).loadN (B + i)).storeN (O + i) (v i)
def evJ (B H m : Nat) : Nat → List Ev
  | 0 => []
  | j + 1 => evJ B H m j ++ [evSt (B + (m + j)), evSt (H + (m + j))]
def evI (P K B H : Nat) : Nat → List Ev
  | 0 => []
  | i + 1 => evI P K B H i ++ [evLd (P + i), evLd (K + i)] ++ evJ B H (4 * i) 4
def evO (B O : Nat) : Nat → List Ev
  | 0 => []
  | i + 1 => evO B O i ++ [evLd (B + i), evSt (O + i)]
theorem evJ_len (B H m j : Nat) : (evJ B H m j).length = 2 * j := by
  induction j with
  | zero => rfl
  | succ j ih => simp only [evJ, List.length_append, ih, List.length_cons, List.length_nil]; omega
theorem evI_len (P K B H i : Nat) : (evI P K B H i).length = 10 * i := by
  induction i with
  | zero => rfl
  | succ i ih => simp only [evI, List.length_append, ih, evJ_len, List.length_cons, List.length_nil]; omega
theorem evO_len (B O i : Nat) : (evO B O i).length = 2 * i := by
  induction i with
  | zero => rfl
  | succ i ih => simp only [evO, List.length_append, ih, List.length_cons, List.length_nil]; omega
section
variable (A : Ars) (P K B H O m q k : Nat) (x kk v : Nat → Nat)
theorem spJ_top (j : Nat) : (spJ A B H m q k j).top = A.top := by
  induction j with
  | zero => rfl
  | succ j ih => exact ih
theorem spJ_wl (j : Nat) : (spJ A B H m q k j).ws.length = A.ws.length := by
  induction j with
  | zero => rfl
  | succ j ih => simp only [spJ, Ars.storeN_wslen]; exact ih
theorem spJ_es (j : Nat) : (spJ A B H m q k j).es = A.es ++ evJ B H m j := by
  induction j with
  | zero => simp [spJ, evJ]
  | succ j ih => simp only [spJ, Ars.storeN, ih, evJ, List.append_assoc]; rfl
theorem spI_top (i : Nat) : (spI A P K B H x kk i).top = A.top := by
  induction i with
  | zero => rfl
  | succ i ih => simp only [spI]; rw [spJ_top]; exact ih
theorem spI_wl (i : Nat) : (spI A P K B H x kk i).ws.length = A.ws.length := by
  induction i with
  | zero => rfl
  | succ i ih => simp only [spI]; rw [spJ_wl]; exact ih
theorem spI_es (i : Nat) : (spI A P K B H x kk i).es = A.es ++ evI P K B H i := by
  induction i with
  | zero => simp [spI, evI]
  | succ i ih => simp only [spI]; rw [spJ_es]; simp only [Ars.loadN, Ars.note, ih, evI, List.append_assoc]; rfl
theorem otI_top (i : Nat) : (otI A B O v i).top = A.top := by
  induction i with
  | zero => rfl
  | succ i ih => exact ih
theorem otI_wl (i : Nat) : (otI A B O v i).ws.length = A.ws.length := by
  induction i with
  | zero => rfl
  | succ i ih => simp only [otI, Ars.storeN_wslen]; exact ih
theorem otI_es (i : Nat) : (otI A B O v i).es = A.es ++ evO B O i := by
  induction i with
  | zero => simp [otI, evO]
  | succ i ih => simp only [otI, Ars.storeN, Ars.loadN, Ars.note, ih, evO, List.append_assoc]; rfl
theorem spJ_succ_word (j : Nat) (hB : B + (m + j) < A.ws.length) (hH : H + (m + j) < A.ws.length) (y : Nat) :
    (spJ A B H m q k (j + 1)).word y = if y = H + (m + j) then andW k (mk ((plA j).is q)) else if y = B + (m + j) then (plA j).bt q else (spJ A B H m q k j).word y := by
  show (((spJ A B H m q k j).storeN (B + (m + j)) ((plA j).bt q)).storeN (H + (m + j)) (andW k (mk ((plA j).is q)))).word y = _
  rw [unword_st _ _ _ (by rw [Ars.storeN_wslen, spJ_wl]; exact hH), unword_st _ _ _ (by rw [spJ_wl]; exact hB)]
theorem spJ_word (j : Nat) (hB : B + (m + j) ≤ A.ws.length) (hH : H + (m + j) ≤ A.ws.length) (y : Nat) (h1 : y < B + m ∨ B + (m + j) ≤ y) (h2 : y < H + m ∨ H + (m + j) ≤ y) : (spJ A B H m q k j).word y = A.word y := by
  induction j with
  | zero => rfl
  | succ j ih => rw [spJ_succ_word _ _ _ _ _ _ _ (by omega) (by omega), if_neg (by omega), if_neg (by omega)]; exact ih (by omega) (by omega) (by omega) (by omega)
theorem spJ_lanes (n j : Nat) (hn : m + j ≤ n) (hB : B + n ≤ A.ws.length) (hH : H + n ≤ A.ws.length) (hd : B + n ≤ H) : ∀ i, i < j → (spJ A B H m q k j).word (B + (m + i)) = (plA i).bt q ∧ (spJ A B H m q k j).word (H + (m + i)) = andW k (mk ((plA i).is q)) := by
  induction j with
  | zero => intro i h; omega
  | succ j ih =>
    intro i hi
    rw [spJ_succ_word _ _ _ _ _ _ _ (by omega) (by omega), spJ_succ_word _ _ _ _ _ _ _ (by omega) (by omega)]
    rcases (show i = j ∨ i < j by omega) with rfl | h
    · exact ⟨by rw [if_neg (by omega), if_pos rfl], by rw [if_pos rfl]⟩
    · obtain ⟨e1, e2⟩ := ih (by omega) i h
      exact ⟨by rw [if_neg (by omega), if_neg (by omega), e1], by rw [if_neg (by omega), if_neg (by omega), e2]⟩
theorem spI_word (i : Nat) (hB : B + 4 * i ≤ A.ws.length) (hH : H + 4 * i ≤ A.ws.length) (y : Nat) (h1 : y < B ∨ B + 4 * i ≤ y) (h2 : y < H ∨ H + 4 * i ≤ y) : (spI A P K B H x kk i).word y = A.word y := by
  induction i with
  | zero => rfl
  | succ i ih =>
    simp only [spI]
    rw [spJ_word _ _ _ _ _ _ _ (by show _ ≤ (spI A P K B H x kk i).ws.length; rw [spI_wl]; omega) (by show _ ≤ (spI A P K B H x kk i).ws.length; rw [spI_wl]; omega) _ (by omega) (by omega)]
    exact ih (by omega) (by omega) (by omega) (by omega)
theorem spI_lanes (n i : Nat) (hn : i ≤ n) (hB : B + 4 * n ≤ A.ws.length) (hH : H + 4 * n ≤ A.ws.length) (hd : B + 4 * n ≤ H) : ∀ t, t < 4 * i →
    (spI A P K B H x kk i).word (B + t) = vK x t ∧ (spI A P K B H x kk i).word (H + t) = andW (kk (t / 4)) (mk ((plA (t % 4)).is (x (t / 4) % 2097152))) := by
  induction i with
  | zero => intro t h; omega
  | succ i ih =>
    intro t ht
    simp only [spI]
    have hw : ((((spI A P K B H x kk i).loadN (P + i)).loadN (K + i))).ws.length = A.ws.length := spI_wl A P K B H x kk i
    by_cases h : t < 4 * i
    · rw [spJ_word _ _ _ _ _ _ _ (by rw [hw]; omega) (by rw [hw]; omega) _ (by omega) (by omega), spJ_word _ _ _ _ _ _ _ (by rw [hw]; omega) (by rw [hw]; omega) _ (by omega) (by omega)]
      exact ih (by omega) t h
    · obtain ⟨e1, e2⟩ := spJ_lanes (((spI A P K B H x kk i).loadN (P + i)).loadN (K + i)) B H (4 * i) (x i % 2097152) (kk i) (4 * n) 4 (by omega) (by rw [hw]; omega) (by rw [hw]; omega) hd (t % 4) (Nat.mod_lt _ (by decide))
      have et : 4 * i + t % 4 = t := by omega
      have ei : t / 4 = i := by omega
      rw [et] at e1 e2
      unfold vK
      rw [ei]
      exact ⟨e1, e2⟩
theorem otI_word (i : Nat) (hO : O + i ≤ A.ws.length) (y : Nat) (h1 : y < O ∨ O + i ≤ y) : (otI A B O v i).word y = A.word y := by
  induction i with
  | zero => rfl
  | succ i ih =>
    show (((otI A B O v i).loadN (B + i)).storeN (O + i) (v i)).word y = _
    rw [unword_st _ _ _ (by show _ < (otI A B O v i).ws.length; rw [otI_wl]; omega), if_neg (by omega)]
    exact ih (by omega) (by omega)
theorem otI_lane (i : Nat) (hO : O + i ≤ A.ws.length) : ∀ t, t < i → (otI A B O v i).word (O + t) = v t := by
  induction i with
  | zero => intro t h; omega
  | succ i ih =>
    intro t ht
    show (((otI A B O v i).loadN (B + i)).storeN (O + i) (v i)).word (O + t) = _
    rw [unword_st _ _ _ (by show _ < (otI A B O v i).ws.length; rw [otI_wl]; omega)]
    by_cases e : t = i
    · rw [if_pos (by omega), e]
    · rw [if_neg (by omega)]
      exact ih (by omega) t (by omega)
end
end Go.Proofs.YtjcnkigadlmpgaaDoor
