/- What Decode makes of an arena, as plain data: the reader's states, the lanes behind the first loop and behind the second one, and what is noted. Nothing of the program is named here. -/
import Derived.Test.YtjcnkigadlmpgaaDoorUfE
namespace Go.Proofs.YtjcnkigadlmpgaaDoor
open Go.RowKit
set_option linter.unusedVariables false

theorem uword_st (A : Ars) (p v : Nat) (h : p < A.ws.length) (q : Nat) : (A.storeN p v).word q = if q = p then v else A.word q := by
  show (A.ws.set p v).getD q 0 = if q = p then v else A.ws.getD q 0
  rw [List.getD_eq_getElem?_getD, List.getElem?_set]
  by_cases e : q = p
  · subst e; simp [h]
  · have e' : ¬ p = q := fun x => e x.symm
    simp [e, e']
theorem uld_at {A : Ars} {L i : Nat} (h : L + i < A.top) : A.loadV ((L : Int) + (i : Int)) = A.word (L + i) ∧ A.load ((L : Int) + (i : Int)) = A.loadN (L + i) := by
  have hf : A.fits ((L : Int) + (i : Int)) 1 = true := by rw [Ars.fits_iff]; omega
  have e : ((L : Int) + (i : Int)).toNat = L + i := by omega
  unfold Ars.loadV Ars.load
  rw [if_pos hf, if_pos hf, e]; exact ⟨rfl, rfl⟩
theorem ust_at {A : Ars} {L i v : Nat} (h : L + i < A.top) : A.store ((L : Int) + (i : Int)) v = A.storeN (L + i) v := by
  have hf : A.fits ((L : Int) + (i : Int)) 1 = true := by rw [Ars.fits_iff]; omega
  have e : ((L : Int) + (i : Int)).toNat = L + i := by omega
  unfold Ars.store
  rw [if_pos hf, e]
/-- the reader's state behind k bytes, of which as many count as len says -/
def rS (x : Nat → Nat) (len : Nat) : Nat → Us × Bool
  | 0 => us0
  | k + 1 => rdc (decide (k < len)) (rS x len k) (x k % 256)
def enS (x : Nat → Nat) (len k : Nat) : Bool := decide (k < len) && ((rS x len (k + 1)).1.mo == 0)
def ovS (x : Nat → Nat) (len k : Nat) : Nat := andW (mk (enS x len k)) (rS x len (k + 1)).1.pt
theorem stp1_ok {r : Us × Bool} {b : Nat} (hb : b < 256) (h : r.1.ok) : (stp1 r b).1.ok := cho_ok (bgK_ok b hb 9) (flw_ok (by omega))
theorem rS_ok (x : Nat → Nat) (len k : Nat) : (rS x len k).1.ok := by
  induction k with
  | zero => exact us_okay (by decide) (by decide) (by decide) (by decide)
  | succ k ih =>
    show (rdc (decide (k < len)) (rS x len k) (x k % 256)).1.ok
    unfold rdc
    split
    · exact stp1_ok (Nat.mod_lt _ (by decide)) ih
    · exact ih
theorem ovS_lt (x : Nat → Nat) (len k : Nat) : ovS x len k < 4294967296 := andW_lt (mk_lt _)
/-- the first loop: a word of L loaded, one of O and one of K stored -/
def d1 (A : Ars) (L O K : Nat) (f g : Nat → Nat) : Nat → Ars
  | 0 => A
  | k + 1 => (((d1 A L O K f g k).loadN (L + k)).storeN (O + k) (f k)).storeN (K + k) (g k)
/-- the second one: each of O and of K loaded and stored -/
def d2 (A : Ars) (O K : Nat) (f g : Nat → Nat) : Nat → Ars
  | 0 => A
  | k + 1 => ((((d2 A O K f g k).loadN (O + k)).storeN (O + k) (f k)).loadN (K + k)).storeN (K + k) (g k)
section
variable (A : Ars) (L O K : Nat) (f g : Nat → Nat)
theorem d1_top (k : Nat) : (d1 A L O K f g k).top = A.top := by
  induction k with
  | zero => rfl
  | succ k ih => exact ih
theorem d1_wl (k : Nat) : (d1 A L O K f g k).ws.length = A.ws.length := by
  induction k with
  | zero => rfl
  | succ k ih => simp only [d1, Ars.storeN_wslen]; exact ih
theorem d1_es (k : Nat) : (d1 A L O K f g k).es.length = A.es.length + 3 * k := by
  induction k with
  | zero => rfl
  | succ k ih => simp only [d1, Ars.storeN_eslen, Ars.loadN, Ars.note, List.length_append, List.length_cons, List.length_nil]; omega
theorem d2_top (k : Nat) : (d2 A O K f g k).top = A.top := by
  induction k with
  | zero => rfl
  | succ k ih => exact ih
theorem d2_wl (k : Nat) : (d2 A O K f g k).ws.length = A.ws.length := by
  induction k with
  | zero => rfl
  | succ k ih =>
    simp only [d2, Ars.storeN_wslen]
    show (((d2 A O K f g k).loadN (O + k)).storeN (O + k) (f k)).ws.length = _
    simp only [Ars.storeN_wslen]; exact ih
theorem d2_es (k : Nat) : (d2 A O K f g k).es.length = A.es.length + 4 * k := by
  induction k with
  | zero => rfl
  | succ k ih => simp only [d2, Ars.storeN_eslen, Ars.loadN, Ars.note, List.length_append, List.length_cons, List.length_nil]; omega
theorem d1_succ_word (k : Nat) (hO : O + k < A.ws.length) (hK : K + k < A.ws.length) (q : Nat) : (d1 A L O K f g (k + 1)).word q = if q = K + k then g k else if q = O + k then f k else (d1 A L O K f g k).word q := by
  show ((((d1 A L O K f g k).loadN (L + k)).storeN (O + k) (f k)).storeN (K + k) (g k)).word q = _
  rw [uword_st _ _ _ (by rw [Ars.storeN_wslen]; show K + k < (d1 A L O K f g k).ws.length; rw [d1_wl]; exact hK), uword_st _ _ _ (by show O + k < (d1 A L O K f g k).ws.length; rw [d1_wl]; exact hO)]
  rfl
theorem d2_succ_word (k : Nat) (hO : O + k < A.ws.length) (hK : K + k < A.ws.length) (q : Nat) : (d2 A O K f g (k + 1)).word q = if q = K + k then g k else if q = O + k then f k else (d2 A O K f g k).word q := by
  show (((((d2 A O K f g k).loadN (O + k)).storeN (O + k) (f k)).loadN (K + k)).storeN (K + k) (g k)).word q = _
  rw [uword_st _ _ _ (by show K + k < (((d2 A O K f g k).loadN (O + k)).storeN (O + k) (f k)).ws.length; rw [Ars.storeN_wslen]; show K + k < (d2 A O K f g k).ws.length; rw [d2_wl]; exact hK)]
  show (if q = K + k then g k else (((d2 A O K f g k).loadN (O + k)).storeN (O + k) (f k)).word q) = _
  rw [uword_st _ _ _ (by show O + k < (d2 A O K f g k).ws.length; rw [d2_wl]; exact hO)]
  rfl
/-- a word that neither lane has so far -/
theorem d1_word (k : Nat) (hO : O + k ≤ A.ws.length) (hK : K + k ≤ A.ws.length) (q : Nat) (h1 : q < O ∨ O + k ≤ q) (h2 : q < K ∨ K + k ≤ q) : (d1 A L O K f g k).word q = A.word q := by
  induction k with
  | zero => rfl
  | succ k ih => rw [d1_succ_word _ _ _ _ _ _ _ (by omega) (by omega), if_neg (by omega), if_neg (by omega)]; exact ih (by omega) (by omega) (by omega) (by omega)
theorem d2_word (k : Nat) (hO : O + k ≤ A.ws.length) (hK : K + k ≤ A.ws.length) (q : Nat) (h1 : q < O ∨ O + k ≤ q) (h2 : q < K ∨ K + k ≤ q) : (d2 A O K f g k).word q = A.word q := by
  induction k with
  | zero => rfl
  | succ k ih => rw [d2_succ_word _ _ _ _ _ _ (by omega) (by omega), if_neg (by omega), if_neg (by omega)]; exact ih (by omega) (by omega) (by omega) (by omega)
theorem d1_lanes (k : Nat) (hO : O + k ≤ A.ws.length) (hK : K + k ≤ A.ws.length) (hd : O + k ≤ K ∨ K + k ≤ O) : ∀ i, i < k → (d1 A L O K f g k).word (O + i) = f i ∧ (d1 A L O K f g k).word (K + i) = g i := by
  induction k with
  | zero => intro i h; omega
  | succ k ih =>
    intro i hi
    have h1 : k = i ∨ i < k := by omega
    rw [d1_succ_word _ _ _ _ _ _ _ (by omega) (by omega), d1_succ_word _ _ _ _ _ _ _ (by omega) (by omega)]
    rcases h1 with rfl | h
    · exact ⟨by rw [if_neg (by omega), if_pos rfl], by rw [if_pos rfl]⟩
    · obtain ⟨e1, e2⟩ := ih (by omega) (by omega) (by omega) i h
      exact ⟨by rw [if_neg (by omega), if_neg (by omega), e1], by rw [if_neg (by omega), if_neg (by omega), e2]⟩
theorem d2_lanes (k : Nat) (hO : O + k ≤ A.ws.length) (hK : K + k ≤ A.ws.length) (hd : O + k ≤ K ∨ K + k ≤ O) : ∀ i, i < k → (d2 A O K f g k).word (O + i) = f i ∧ (d2 A O K f g k).word (K + i) = g i := by
  induction k with
  | zero => intro i h; omega
  | succ k ih =>
    intro i hi
    have h1 : k = i ∨ i < k := by omega
    rw [d2_succ_word _ _ _ _ _ _ (by omega) (by omega), d2_succ_word _ _ _ _ _ _ (by omega) (by omega)]
    rcases h1 with rfl | h
    · exact ⟨by rw [if_neg (by omega), if_pos rfl], by rw [if_pos rfl]⟩
    · obtain ⟨e1, e2⟩ := ih (by omega) (by omega) (by omega) i h
      exact ⟨by rw [if_neg (by omega), if_neg (by omega), e1], by rw [if_neg (by omega), if_neg (by omega), e2]⟩
/-- what is noted -/
def e1s (L O K : Nat) : Nat → List Ev
  | 0 => []
  | k + 1 => e1s L O K k ++ [⟨1, L + k, 0⟩, ⟨2, O + k, 0⟩, ⟨2, K + k, 0⟩]
def e2s (O K : Nat) : Nat → List Ev
  | 0 => []
  | k + 1 => e2s O K k ++ [⟨1, O + k, 0⟩, ⟨2, O + k, 0⟩, ⟨1, K + k, 0⟩, ⟨2, K + k, 0⟩]
theorem d1_evs (k : Nat) : (d1 A L O K f g k).es = A.es ++ e1s L O K k := by
  induction k with
  | zero => simp [d1, e1s]
  | succ k ih => simp only [d1, Ars.storeN, Ars.loadN, Ars.note, ih, e1s, List.append_assoc]; rfl
theorem d2_evs (k : Nat) : (d2 A O K f g k).es = A.es ++ e2s O K k := by
  induction k with
  | zero => simp [d2, e2s]
  | succ k ih => simp only [d2, Ars.storeN, Ars.loadN, Ars.note, ih, e2s, List.append_assoc]; rfl
end
/-- what Decode leaves -/
def dec1 (A : Ars) (L O K len : Nat) (k : Nat) : Ars := d1 A L O K (ovS (fun i => A.word (L + i)) len) (fun i => mk (enS (fun i => A.word (L + i)) len i)) k
def goodS (A : Ars) (L len N : Nat) : Bool := good (rS (fun i => A.word (L + i)) len N)
def dec2 (A : Ars) (L O K len N : Nat) (k : Nat) : Ars :=
  d2 (dec1 A L O K len N) O K (fun i => andW (mk (goodS A L len N)) ((dec1 A L O K len N).word (O + i))) (fun i => andW (mk (goodS A L len N)) ((dec1 A L O K len N).word (K + i))) k
end Go.Proofs.YtjcnkigadlmpgaaDoor
