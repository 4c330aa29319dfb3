/- How an argument of rows of words is read (a slice of slices of words). No conditions. -/
import Derived.Test.YtjdbofgjieljlaaPkL
import Derived.ProofKit
import Derived.Deep.Slices
import Derived.OpenShut
namespace Go.Proofs.Ytjdbofgjieljlaa
open Go.RowKit

theorem listOf2 {α : Type} {Q : Nat → α → Prop} : ∀ n, (∀ i, i < n → ∃ t, Q i t) → ∃ l : List α, l.length = n ∧ ∀ i (h : i < l.length), Q i l[i]
  | 0, _ => ⟨[], rfl, fun i h => by simp at h⟩
  | n + 1, h => by
    obtain ⟨l, hl, hq⟩ := listOf2 n (fun i hi => h i (by omega))
    obtain ⟨t, ht⟩ := h n (by omega)
    refine ⟨l ++ [t], by simp [hl], fun i hi => ?_⟩
    rw [List.length_append] at hi
    by_cases hlt : i < l.length
    · rw [List.getElem_append_left hlt]; exact hq i hlt
    · have : i = n := by simp at hi; omega
      subst this
      rw [List.getElem_append_right (by omega)]
      simp [hl]; exact ht
section
variable {H : Type} {enc : TypeId × Value → H}
theorem read_row {W : World} {base : Nat} {held : Bool} {fuel : Nat} {cs : List Value} {x : DataW H × List MemPlace} (h : DataW.trod enc Try.prog W base (fun _ => true) held fuel 29 cs = some x) : ∃ ad cap l, cs = [.slice ad l.length cap] ∧ (∀ y ∈ l, y < 4294967296) ∧ U32s W ad l := by
  have c22 : Try.prog.cellsOf 31 = 1 := by kernel_rfl
  obtain ⟨ad, len, cap, zs, e4, hrow⟩ : ∃ ad len cap zs, cs = [.slice ad len cap] ∧ IsRow .u32 W ad len cap zs := by
    rcases Go.ChangeShapes.open_ints Try.underlying29 Try.underlying31 c22 h with ⟨hcs, _⟩ | ⟨x, l, c, zs, hcs, _, hl, hm, hz, _, hcell, hwz⟩
    · exact ⟨none, 0, 0, [], hcs, .inl ⟨rfl, rfl, rfl, rfl⟩⟩
    · exact ⟨some x, l, c, zs, hcs, .inr ⟨_, rfl, hl, hm, by simpa using hz, hcell, hwz⟩⟩
  obtain ⟨l, rfl, hlw, hlu⟩ := isRow_u32s hrow
  exact ⟨ad, cap, l, e4, hlw, hlu⟩
/-- rows of words, that came in -/
def GridIn (w : World) (ad : Option Addr) (len : Nat) : Prop := ∃ L : List (List Nat), L.length = len ∧ Grid w ad L ∧ ∀ l ∈ L, ∀ x ∈ l, x < 4294967296
theorem read_grid {W : World} {ad : Option Addr} {len cap : Nat} {d : DataW H} {p : List MemPlace} (h : DataW.Trod enc Try.prog W 0 (fun _ => true) true 22 (.slice ad len cap) d p) : GridIn W ad len := by
  obtain ⟨fuel, hf⟩ := h
  rcases Deep.open_slice Try.underlying22 hf with ⟨hcs, _⟩ | ⟨a, len', cap', m, n, D, Pl, hcs, _, hlc, hmx, hm, _, hel⟩
  · simp [Value.cells] at hcs
    obtain ⟨rfl, rfl, rfl⟩ := hcs
    exact ⟨[], rfl, fun i hi => by simp at hi, fun l hl => by cases hl⟩
  · simp [Value.cells] at hcs
    obtain ⟨rfl, rfl, rfl⟩ := hcs
    simp only [if_true] at hm
    subst hm
    have hc : Try.prog.cellsOf 29 = 1 := by kernel_rfl
    rw [hc] at hel
    obtain ⟨L, hl, hq⟩ := listOf2 (α := List Nat) (Q := fun i l => (∃ ra rc, W.cell? (a.add i) = some (.slice ra l.length rc) ∧ U32s W ra l) ∧ ∀ x ∈ l, x < 4294967296) len (fun i hi => by
      obtain ⟨cs', h1, h2⟩ := hel i (by omega)
      obtain ⟨ra, rc, l, rfl, hb, hu⟩ := read_row h2
      have hE := cells_each h1 0 (by decide)
      refine ⟨l, ⟨ra, rc, ?_, hu⟩, hb⟩
      have e : (a.add (i * 1)).add 0 = a.add i := by simp [Addr.add]
      rw [← e]; exact hE)
    refine ⟨L, hl, fun k hk => ⟨a, rfl, (hq k hk).1⟩, fun l hl' => ?_⟩
    obtain ⟨k, hk, rfl⟩ := List.getElem_of_mem hl'
    exact (hq k hk).2
end
theorem wd_lt {L : List (List Nat)} (h : ∀ l ∈ L, ∀ x ∈ l, x < 4294967296) (i k : Nat) : wd L i k < 4294967296 := by
  unfold wd
  by_cases h1 : i < L.length
  · by_cases h2 : k < (L[i]).length
    · simp [h1, h2]; exact h _ (List.getElem_mem h1) _ (List.getElem_mem h2)
    · simp [h1, h2]
  · simp [h1]
end Go.Proofs.Ytjdbofgjieljlaa
