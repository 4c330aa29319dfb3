/- Rows of an arena's words (package rows): plain facts, and slices.SortFunc of them, over this seat's translation. Conditions: fewer than 2 to the power 62 rows. -/
import Derived.Test.YtjcnkigadlmpgaaDoorBc
import Derived.Test.YtjcnkigadlmpgaaDoorFs
import Derived.Test.YtjcnkigadlmpgaaDoorArD
namespace Go.Proofs.YtjcnkigadlmpgaaDoor
open Go.RowKit

abbrev encR (x : Int × Int) : List Value := [.int .i64 x.1, .int .i64 x.2]
def rcells : List (Int × Int) → List Value
  | [] => []
  | x :: l => .int .i64 x.1 :: .int .i64 x.2 :: rcells l
theorem rcells_snoc (l : List (Int × Int)) (x : Int × Int) : rcells (l ++ [x]) = rcells l ++ [.int .i64 x.1, .int .i64 x.2] := by
  induction l with
  | nil => rfl
  | cons y l ih => simp [rcells, ih]
theorem rcells_len (l : List (Int × Int)) : (rcells l).length = l.length * 2 := by
  induction l with
  | nil => rfl
  | cons y l ih => simp [rcells, ih]; omega
theorem rcells_at (l : List (Int × Int)) (j : Nat) (h : j < l.length) : (rcells l)[j * 2]? = some (.int .i64 l[j].1) ∧ (rcells l)[j * 2 + 1]? = some (.int .i64 l[j].2) := by
  induction l generalizing j with
  | nil => simp at h
  | cons e l ih =>
    cases j with
    | zero => exact ⟨rfl, rfl⟩
    | succ j =>
      have := ih j (by simpa using h)
      have e1 : (j + 1) * 2 = j * 2 + 2 := by omega
      simp only [e1, rcells, List.getElem_cons_succ]
      exact this
/-- two rows have no word in common -/
def Rap (x y : Int × Int) : Prop := x.1 + x.2 ≤ y.1 ∨ y.1 + y.2 ≤ x.1
def Rfine (A : Ars) (rs : List (Int × Int)) : Prop := (∀ x ∈ rs, A.fits x.1 x.2 = true) ∧ (rs.filter fun x => decide (0 < x.2)).Pairwise Rap
theorem rap_adj (s : List (Int × Int)) (hp : ∀ x ∈ s, 0 < x.2) (hs : s.Pairwise (fun x y => x.1 ≤ y.1)) : s.Pairwise Rap ↔ ∀ i (h : i + 1 < s.length), s[i].1 + s[i].2 ≤ s[i + 1].1 := by
  have hle := List.pairwise_iff_getElem.1 hs
  constructor
  · intro hq i h
    have h1 := List.pairwise_iff_getElem.1 hq i (i + 1) (by omega) h (by omega)
    have h2 := hle i (i + 1) (by omega) h (by omega)
    have h3 := hp s[i + 1] (List.getElem_mem h)
    unfold Rap at h1; omega
  · intro ha
    refine List.pairwise_iff_getElem.2 fun i j hi hj hij => ?_
    have h1 := ha i (by omega)
    by_cases e : i + 1 = j
    · subst e; exact Or.inl h1
    · have h2 := hle (i + 1) j (by omega) hj (by omega)
      exact Or.inl (by omega)
theorem rap_perm {s t : List (Int × Int)} (h : s.Perm t) : s.Pairwise Rap ↔ t.Pairwise Rap := h.pairwise_iff fun h => h.symm

open Go.Shelf Go.Lib Go.Sort in
theorem ltAt (x y : Int × Int) : ltOf (fun x y : Int × Int => Lib.compareInt x.1 y.1) x y = decide (x.1 < y.1) := by
  unfold ltOf Lib.compareInt
  by_cases h1 : x.1 < y.1
  · simp [h1]
  · by_cases h2 : y.1 < x.1 <;> simp [h1, h2]
open Go.Shelf Go.Lib Go.Sort in
theorem swoAt : SWO (ltOf fun x y : Int × Int => Lib.compareInt x.1 y.1) where
  irrefl x := by rw [ltAt]; simp
  trans x y z h1 h2 := by rw [ltAt] at *; simp at *; omega
  ntrans x y z h1 h2 := by rw [ltAt] at *; simp at *; omega
open Go.Shelf Go.Lib Go.Sort in
set_option maxHeartbeats 1000000 in
theorem apart1_any (x y : Int × Int) (W : World) : Calls Tryd.prog 48 #[.agg #[.int .i64 x.1, .int .i64 x.2], .agg #[.int .i64 y.1, .int .i64 y.2]] W fun e w' => e = .returned (.int .i64 (Lib.compareInt x.1 y.1)) ∧ ∃ q os', w' = grow (W.drewN q) os' := by
  have hcon := fun W' => AnyG.cmp_Compare_int layCmp x.1 y.1 W'
  change ∀ W', Calls Tryd.prog 49 _ _ _ at hcon
  generalize Lib.compareInt x.1 y.1 = r at hcon ⊢
  go_enter Tryd.func48, Tryd.ntmps48
  go_wp2_with (go_at_call 49; refine (hcon _).mono ?_; rintro e w' ⟨rfl, rfl⟩)
  go_ret
  exact ⟨rfl, 0, _, by rw [alloc_eq_grow, alloc_eq_grow, grow_grow]; rfl⟩
open Go.Shelf Go.Lib Go.Sort in
theorem grownBy_sortK {w : World} {g n : Nat} {os : Array Obj} (d : Array (Int × Int)) : w.grownBy (sortWorldK encR 2 w g 0 n d os) (some g) := by
  unfold sortWorldK putRowK
  refine ⟨rfl, rfl, rfl, by simp, fun k hk hne => ?_⟩
  rw [heap_grow_old _ _ (by simpa using hk)]
  have : g ≠ k := fun e => hne (by rw [e])
  simp [putRow, mapBlock, Sort.ahead, Array.getElem?_modify, this]
open Go.Shelf Go.Lib Go.Sort in
theorem holdsR {w : World} {g : Nat} (rs : List (Int × Int)) (hc : ∀ j (h : j < rs.length), w.cell? ⟨g, j * 2, none⟩ = some (.int .i64 rs[j].1) ∧ w.cell? ⟨g, j * 2 + 1, none⟩ = some (.int .i64 rs[j].2)) (hf : ∀ t, w.frozen? ⟨g, t, none⟩ = false) : HoldsK encR 2 w g 0 rs.toArray := by
  intro t ht
  rw [size_flatK] at ht
  rw [get_flatK _ _ _ _ ht, Nat.zero_add]
  have ht2 : t / 2 < rs.length := by simp at ht; omega
  obtain ⟨c0, c1⟩ := hc (t / 2) ht2
  have e : (rs.toArray)[t / 2]! = rs[t / 2] := by simp [ht2]
  rw [e]
  refine ⟨?_, hf t⟩
  rcases Nat.mod_two_eq_zero_or_one t with h | h
  · have : t / 2 * 2 = t := by omega
    rw [this] at c0; rw [h, c0]; rfl
  · have : t / 2 * 2 + 1 = t := by omega
    rw [this] at c1; rw [h, c1]; rfl

open Go.Shelf Go.Lib Go.Sort in
theorem sortRows_any (g cap : Nat) (rs : List (Int × Int)) (w : World) (hg : g < w.heap.size) (hlen : rs.length < 4611686018427387904)
    (hc : ∀ j (h : j < rs.length), w.cell? ⟨g, j * 2, none⟩ = some (.int .i64 rs[j].1) ∧ w.cell? ⟨g, j * 2 + 1, none⟩ = some (.int .i64 rs[j].2)) (hf : ∀ t, w.frozen? ⟨g, t, none⟩ = false) :
    Calls Tryd.prog 47 #[.slice (some ⟨g, 0, none⟩) rs.length cap, .func (.func 48) #[] #[]] w fun e w' => e = .returned (.tuple #[]) ∧
      ∃ ts : List (Int × Int), ts.Perm rs ∧ ts.Pairwise (fun x y => x.1 ≤ y.1) ∧ (∀ j (h : j < ts.length), w'.cell? ⟨g, j * 2, none⟩ = some (.int .i64 ts[j].1) ∧ w'.cell? ⟨g, j * 2 + 1, none⟩ = some (.int .i64 ts[j].2)) ∧ w.grownBy w' (some g) := by
  have eg : ∀ args w, (callFunc 48 args).run Tryd.prog w = .ok (.enter 48 args) w := enters_of Tryd.func48 (by kernel_rfl) rfl
  have hH := holdsR rs hc hf
  have hcon := AnyQ.slices_SortFunc laySort 2 Tryd.isAgg65 Tryd.sizeOf65 encR (fun _ => rfl) (fun x v hv => by simp [encR] at hv; rcases hv with rfl | rfl <;> rfl) (fun x y => Lib.compareInt x.1 y.1) swoAt 48 #[] g 0 cap rs.toArray w eg (fun _ _ _ _ x y => apart1_any x y _) hH hg (by simpa using hlen)
  refine hcon.mono ?_
  rintro e w' ⟨rfl, d', n, os, hp, hs, rfl⟩
  have hsz : d'.size = rs.length := by simpa using hp.1
  have hH' := holdsK_sortWorldK_c encR 2 w g 0 rs.toArray d' n os hH hg hp.1
  have hperm : d'.toList.Perm rs := by
    have := hp.2.2
    rw [Array.extract_eq_self_of_le (by simp [hsz]), Array.extract_eq_self_of_le (by simp)] at this
    simpa using this
  have hget : ∀ j (h : j < d'.toList.length), d'[j]! = d'.toList[j] := fun j h => by
    have hj : j < d'.size := by simpa using h
    rw [getElem!_pos d' j hj]; simp
  refine ⟨rfl, d'.toList, hperm, ?_, fun j h => ?_, grownBy_sortK d'⟩
  · refine List.pairwise_iff_getElem.2 fun i j hi hj hij => ?_
    have := hs i j (Nat.zero_le _) hij (by simp at hj ⊢; omega)
    rw [ltAt, hget i hi, hget j hj] at this
    exact Int.not_lt.1 (of_decide_eq_false this)
  · have hj : j < d'.size := by simpa using h
    have c0 := (hH'.cell hj (c := 0) (by omega)).1
    have c1 := (hH'.cell hj (c := 1) (by omega)).1
    rw [hget j h] at c0 c1
    simp only [Nat.zero_add, Nat.add_zero] at c0 c1
    exact ⟨c0, c1⟩
end Go.Proofs.YtjcnkigadlmpgaaDoor
