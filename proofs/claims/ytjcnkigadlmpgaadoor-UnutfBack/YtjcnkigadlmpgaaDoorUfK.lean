/- The laws' awake (layer 9), over this seat's translation; the reader's states against lanes, as plain data. Conditions: the variable leads holds what the program's text lays there. -/
import Derived.Test.YtjcnkigadlmpgaaDoorUfJ
namespace Go.Proofs.YtjcnkigadlmpgaaDoor
open Go.RowKit
set_option linter.unusedVariables false

/-- lanes one behind the other lie apart -/
theorem lay_rfine (A : Ars) (N : Nat) (h : N * 3 ≤ A.top) : Rfine A [(((0 : Nat) : Int), (N : Int)), ((N : Int), (N : Int)), (((2 * N : Nat) : Int), (N : Int))] := by
  refine (rfine_of A (N : Int) [((0 : Nat) : Int), (N : Int), ((2 * N : Nat) : Int)] (by omega)).2 ⟨fun z hz => ?_, ?_⟩
  · simp only [List.mem_cons, List.not_mem_nil, or_false] at hz
    rw [Ars.fits_iff]
    rcases hz with rfl | rfl | rfl <;> omega
  · simp only [List.pairwise_cons, List.mem_cons, ApartZ, List.not_mem_nil, or_false, forall_eq_or_imp, forall_eq]
    exact ⟨⟨by omega, by omega⟩, by omega, by simp⟩
theorem rS_run (l : List Nat) (X : Nat → Nat) (len : Nat) (hX : ∀ i (h : i < l.length), X i % 256 = l[i]) : ∀ k, k ≤ l.length → rS X len k = runL us0 (l.take (min k len)) := by
  intro k
  induction k with
  | zero => intro _; simp [rS, runL]
  | succ k ih =>
    intro hk
    show rdc (decide (k < len)) (rS X len k) (X k % 256) = _
    rw [ih (by omega), hX k (by omega)]
    by_cases h : k < len
    · have e1 : min k len = k := by omega
      have e2 : min (k + 1) len = k + 1 := by omega
      rw [e1, e2, List.take_succ_eq_append_getElem (show k < l.length by omega), runL_append]
      simp [rdc, h, runL]
    · have e1 : min k len = len := by omega
      have e2 : min (k + 1) len = len := by omega
      rw [e1, e2]
      simp [rdc, h]
theorem lanes_at (l : List Nat) : ∀ (r : Us × Bool) (i : Nat) (h : i < l.length), (lanes r l)[i]? = some (laneOf (runL r (l.take (i + 1)))) := by
  induction l with
  | nil => intro r i h; simp at h
  | cons b t ih =>
    intro r i h
    cases i with
    | zero => rfl
    | succ i =>
      show (lanes (stp1 r b) t)[i]? = _
      rw [ih _ i (by simpa using h)]
      rfl
/-- what a lane has: the point, and the mask -/
def lnv : Option (Option Nat) → Nat
  | some (some p) => p
  | _ => 0
def lnk : Option (Option Nat) → Bool
  | some (some _) => true
  | _ => false
theorem runL_ok {l : List Nat} (hb : ∀ b ∈ l, b < 256) : ∀ {r : Us × Bool}, r.1.ok → (runL r l).1.ok := by
  induction l with
  | nil => intro r h; exact h
  | cons b t ih => intro r h; exact ih (fun x hx => hb x (List.mem_cons_of_mem _ hx)) (stp1_ok (hb b (List.mem_cons_self ..)) h)
theorem us0_ok : us0.1.ok := us_okay (by decide) (by decide) (by decide) (by decide)
theorem mk_and (b : Bool) (v : Nat) (hv : v < 4294967296) : andW (mk b) v = if b then v else 0 := by
  unfold andW mk
  cases b
  · simp
  · have h : 4294967295 &&& v = v := by rw [Nat.and_comm, show (4294967295 : Nat) = 2 ^ 32 - 1 from rfl, Nat.and_two_pow_sub_one_eq_mod]; exact Nat.mod_eq_of_lt hv
    simpa using h
theorem lane_words (l : List Nat) (hb : ∀ b ∈ l, b < 256) (X : Nat → Nat) (len : Nat) (hX : ∀ i (h : i < l.length), X i % 256 = l[i]) (i : Nat) (hi : i < l.length) :
    enS X len i = lnk ((lanes us0 (l.take (min l.length len)))[i]?) ∧ ovS X len i = lnv ((lanes us0 (l.take (min l.length len)))[i]?) := by
  by_cases h : i < len
  · have hm : i < (l.take (min l.length len)).length := by rw [List.length_take]; omega
    have e1 : min (i + 1) len = i + 1 := by omega
    have e2 : (l.take (min l.length len)).take (i + 1) = l.take (i + 1) := by rw [List.take_take]; congr 1; omega
    have hr := rS_run l X len hX (i + 1) (by omega)
    rw [e1] at hr
    have hok : (runL us0 (l.take (i + 1))).1.pt < 4294967296 := (runL_ok (fun b h => hb b (List.mem_of_mem_take h)) us0_ok).p
    rw [lanes_at _ _ _ hm, e2]
    unfold enS ovS enS
    rw [hr, mk_and _ _ hok]
    unfold laneOf
    simp only [h, decide_true, Bool.true_and]
    cases (runL us0 (l.take (i + 1))).1.mo == 0 <;> exact ⟨rfl, rfl⟩
  · have hm : (lanes us0 (l.take (min l.length len)))[i]? = none := by
      rw [List.getElem?_eq_none]; rw [lanes_len, List.length_take]; omega
    rw [hm]
    have he : enS X len i = false := by unfold enS; simp [h]
    refine ⟨he, ?_⟩
    unfold ovS
    rw [he]
    simp [mk, andW, lnv]
theorem good_run (l : List Nat) (X : Nat → Nat) (len : Nat) (hX : ∀ i (h : i < l.length), X i % 256 = l[i]) : good (rS X len l.length) = good (runL us0 (l.take (min l.length len))) := by
  rw [rS_run l X len hX l.length (Nat.le_refl _)]
/-- what the lanes hold behind Decode -/
theorem dec_lanes (A : Ars) (l : List Nat) (hb : ∀ b ∈ l, b < 256) (len : Nat) (hw : A.ws.length = l.length * 3) (hX : ∀ i (h : i < l.length), A.word i % 256 = l[i]) :
    goodS A 0 len l.length = good (runL us0 (l.take (min l.length len))) ∧
    ∀ i, i < l.length → (dec2 A 0 l.length (2 * l.length) len l.length l.length).word (l.length + i) = (if good (runL us0 (l.take (min l.length len))) then lnv ((lanes us0 (l.take (min l.length len)))[i]?) else 0) ∧
      (dec2 A 0 l.length (2 * l.length) len l.length l.length).word (2 * l.length + i) = (if good (runL us0 (l.take (min l.length len))) then mk (lnk ((lanes us0 (l.take (min l.length len)))[i]?)) else 0) := by
  have hX' : ∀ i (h : i < l.length), A.word (0 + i) % 256 = l[i] := fun i h => by rw [Nat.zero_add]; exact hX i h
  have hg : goodS A 0 len l.length = good (runL us0 (l.take (min l.length len))) := good_run l _ len hX'
  refine ⟨hg, fun i hi => ?_⟩
  obtain ⟨e1, e2⟩ := d2_lanes (dec1 A 0 l.length (2 * l.length) len l.length) l.length (2 * l.length) (fun i => andW (mk (goodS A 0 len l.length)) ((dec1 A 0 l.length (2 * l.length) len l.length).word (l.length + i))) (fun i => andW (mk (goodS A 0 len l.length)) ((dec1 A 0 l.length (2 * l.length) len l.length).word (2 * l.length + i))) l.length
    (by have := d1_wl A 0 l.length (2 * l.length) (ovS (fun i => A.word (0 + i)) len) (fun i => mk (enS (fun i => A.word (0 + i)) len i)) l.length; show _ ≤ (dec1 A 0 l.length (2 * l.length) len l.length).ws.length; unfold dec1; omega)
    (by have := d1_wl A 0 l.length (2 * l.length) (ovS (fun i => A.word (0 + i)) len) (fun i => mk (enS (fun i => A.word (0 + i)) len i)) l.length; show _ ≤ (dec1 A 0 l.length (2 * l.length) len l.length).ws.length; unfold dec1; omega) (by omega) i hi
  obtain ⟨f1, f2⟩ := d1_lanes A 0 l.length (2 * l.length) (ovS (fun i => A.word (0 + i)) len) (fun i => mk (enS (fun i => A.word (0 + i)) len i)) l.length (by omega) (by omega) (by omega) i hi
  obtain ⟨g1, g2⟩ := lane_words l hb (fun i => A.word (0 + i)) len hX' i hi
  have hpl : lnv ((lanes us0 (l.take (min l.length len)))[i]?) < 4294967296 := by rw [← g2]; exact ovS_lt ..
  unfold dec2
  rw [e1, e2, hg]
  unfold dec1
  rw [f1, f2, g1, g2, mk_and _ _ hpl, mk_and _ _ (mk_lt _)]
  exact ⟨rfl, rfl⟩
theorem dec_sizes (A : Ars) (L O K len N k : Nat) : (dec2 A L O K len N k).top = A.top ∧ (dec2 A L O K len N k).ws.length = A.ws.length ∧ (dec2 A L O K len N k).es.length = A.es.length + 3 * N + 4 * k := by
  refine ⟨(d2_top ..).trans (d1_top ..), (d2_wl ..).trans (d1_wl ..), ?_⟩
  have h1 : (dec2 A L O K len N k).es.length = (dec1 A L O K len N).es.length + 4 * k := d2_es ..
  have h2 : (dec1 A L O K len N).es.length = A.es.length + 3 * N := d1_es ..
  omega
theorem dec_evs (A : Ars) (L O K len N k : Nat) : (dec2 A L O K len N k).es = A.es ++ e1s L O K N ++ e2s O K k := by
  have h1 : (dec2 A L O K len N k).es = (dec1 A L O K len N).es ++ e2s O K k := d2_evs ..
  have h2 : (dec1 A L O K len N).es = A.es ++ e1s L O K N := d1_evs ..
  rw [h1, h2]

end Go.Proofs.YtjcnkigadlmpgaaDoor
