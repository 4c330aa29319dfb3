/- The laws' told and Lay (layer 9), the document's Bytes, and rows of bytes, over this seat's translation. Conditions: at most a thousand bytes; the words' bounds. -/
import Derived.Test.YtjcnkigadlmpgaaDoorUfF
import Derived.Test.YtjcnkigadlmpgaaDoorArQ
namespace Go.Proofs.YtjcnkigadlmpgaaDoor
open Go.RowKit
set_option linter.unusedVariables false

/-- a slice's bytes -/
def U8s (w : World) (ad : Option Addr) (l : List Nat) : Prop := ∀ k (hk : k < l.length), ∃ x, ad = some x ∧ w.cell? (x.add k) = some (.int .u8 (l[k] : Int))
theorem U8s.below {w w' : World} {ad : Option Addr} {l : List Nat} (h : U8s w ad l) (hb : Below w.heap.size w w') : U8s w' ad l := by
  intro k hk
  obtain ⟨x, rfl, hc⟩ := h k hk
  exact ⟨x, rfl, cell_later hb hc⟩
theorem U8s.drop {w : World} {x : Addr} {l : List Nat} (h : U8s w (some x) l) (n : Nat) : U8s w (some (x.add n)) (l.drop n) := by
  intro k hk
  have hk' : n + k < l.length := by rw [List.length_drop] at hk; omega
  obtain ⟨y, e, hc⟩ := h (n + k) hk'
  cases e
  refine ⟨_, rfl, ?_⟩
  rw [Addr.add_add, List.getElem_drop]; exact hc
theorem U8s.take {w : World} {ad : Option Addr} {l : List Nat} (h : U8s w ad l) (n : Nat) : U8s w ad (l.take n) := by
  intro k hk
  have hk' : k < l.length := by rw [List.length_take] at hk; omega
  obtain ⟨y, e, hc⟩ := h k hk'
  exact ⟨y, e, by rw [List.getElem_take]; exact hc⟩
theorem bytes_u8s {w : World} {g : Nat} {l : List Nat} (h : w.heap[g]? = some (.cells (l.map fun (b : Nat) => Value.int .u8 (b : Int)).toArray 5 (0, 0))) : U8s w (some ⟨g, 0, none⟩) l := fun k hk => by
  refine ⟨_, rfl, ?_⟩
  rw [add_plain]
  exact cell_of_heap h (by simp [hk])

theorem unoted_blw {g : Nat} {ob : Option Nat} {n B : Nat} {xs e : List Value} {w w' : World} (h : Noted g ob n xs e w w') (hB : B ≤ w.heap.size) (hg : B ≤ g) (hob : ∀ k, ob = some k → B ≤ k) : Below B w w' := by
  obtain ⟨k, _, _, h3⟩ := h
  exact h3.below hB (fun i hi x => x.elim (fun x => by omega) (fun x => by have := hob _ x; omega))
set_option maxHeartbeats 1600000 in
set_option maxRecDepth 20000 in
theorem rbytes_any (p : Nat) (w : World) (hp : p < 4294967296) : Calls Tryd.prog 37 #[.int .u32 (p : Int)] w fun e w' => (∃ g, e = .returned (.slice (some ⟨g, 0, none⟩) (blB p) (blB p))) ∧ Below w.heap.size w w' := by
  have hcl : p < 128 ∨ (128 ≤ p ∧ p < 2048) ∨ (2048 ≤ p ∧ p < 65536) ∨ 65536 ≤ p := by omega
  unfold blB
  rcases hcl with hcl | hcl | hcl | hcl
  · rw [if_pos hcl]
    have g0 : ((p : Int) < 128) = True := eq_true (by omega)
    clear hcl
    go_enter Tryd.func37, Tryd.ntmps37
    go_wp2
    go_ret
    exact ⟨⟨_, rfl⟩, (by repeat (first | exact Below.refl _ _ | refine blw_alloc ?_ | refine blw_drew ?_ | assumption))⟩
  · rw [if_neg (by omega), if_pos hcl.2]
    have g0 : ((p : Int) < 128) = False := eq_false (by omega)
    have g1 : ((p : Int) < 2048) = True := eq_true (by omega)
    clear hcl
    go_enter Tryd.func37, Tryd.ntmps37
    go_wp2
    go_ret
    exact ⟨⟨_, rfl⟩, (by repeat (first | exact Below.refl _ _ | refine blw_alloc ?_ | refine blw_drew ?_ | assumption))⟩
  · rw [if_neg (by omega), if_neg (by omega), if_pos hcl.2]
    have g0 : ((p : Int) < 128) = False := eq_false (by omega)
    have g1 : ((p : Int) < 2048) = False := eq_false (by omega)
    have g2 : ((p : Int) < 65536) = True := eq_true (by omega)
    clear hcl
    go_enter Tryd.func37, Tryd.ntmps37
    go_wp2
    go_ret
    exact ⟨⟨_, rfl⟩, (by repeat (first | exact Below.refl _ _ | refine blw_alloc ?_ | refine blw_drew ?_ | assumption))⟩
  · rw [if_neg (by omega), if_neg (by omega), if_neg (by omega)]
    have g0 : ((p : Int) < 128) = False := eq_false (by omega)
    have g1 : ((p : Int) < 2048) = False := eq_false (by omega)
    have g2 : ((p : Int) < 65536) = False := eq_false (by omega)
    clear hcl
    go_enter Tryd.func37, Tryd.ntmps37
    go_wp2
    go_ret
    exact ⟨⟨_, rfl⟩, (by repeat (first | exact Below.refl _ _ | refine blw_alloc ?_ | refine blw_drew ?_ | assumption))⟩

/-- bytes as they are laid -/
def layK (l : List Nat) : Nat → Ars
  | 0 => (Ars.new ((l.length * 3 : Nat) : Int)).take ((l.length * 3 : Nat) : Int)
  | k + 1 => (layK l k).storeN k (l.getD k 0)
theorem utake_all (N : Nat) : (Ars.new (N : Int)).canTake (N : Int) = true := by simp [Ars.canTake, Ars.new]
theorem utaken (N : Nat) : ((Ars.new (N : Int)).take (N : Int)).top = N ∧ ((Ars.new (N : Int)).take (N : Int)).ws.length = N ∧ ((Ars.new (N : Int)).take (N : Int)).es.length = 1 := by
  unfold Ars.take
  rw [if_pos (utake_all N)]
  simp [Ars.new]
theorem layK_sizes (l : List Nat) (k : Nat) : (layK l k).top = l.length * 3 ∧ (layK l k).ws.length = l.length * 3 ∧ (layK l k).es.length = 1 + k := by
  induction k with
  | zero => exact utaken _
  | succ k ih => exact ⟨ih.1, by simp only [layK, Ars.storeN_wslen]; exact ih.2.1, by simp only [layK, Ars.storeN_eslen]; omega⟩
theorem layK_word (l : List Nat) (k : Nat) (hk : k ≤ l.length) : ∀ j, j < k → (layK l k).word j = l.getD j 0 := by
  induction k with
  | zero => intro j h; omega
  | succ k ih =>
    intro j hj
    show ((layK l k).storeN k (l.getD k 0)).word j = _
    rw [uword_st _ _ _ (by rw [(layK_sizes l k).2.1]; omega)]
    by_cases e : j = k
    · subst e; simp
    · rw [if_neg e]; exact ih (by omega) j (by omega)
theorem off_new {w : World} {g : Nat} {F : Nat → Prop} {l : List Nat} (h : ¬ F g) : Off F (some ⟨g, 0, none⟩) l.length := fun x hx _ hf => by cases hx; exact h hf
theorem one_u32s {w : World} {g c : Nat} (h : w.heap[g]? = some (.cells #[.int .u32 (c : Int)] 30 (0, 0))) : U32s w (some ⟨g, 0, none⟩) [c] := fun k hk => by
  have : k = 0 := by simp at hk; omega
  subst this
  exact ⟨_, rfl, by rw [add_plain]; exact cell_of_heap h rfl⟩

end Go.Proofs.YtjcnkigadlmpgaaDoor
