/- Lists of spans as they are read, and TablesMerges at them, where awake answers true. No conditions. -/
import Derived.Test.YtkhdcpejpffnkaaGreatDoorTbR
import Derived.ProofKit
import Derived.Deep.Slices
import Derived.OpenShut
namespace Go.Proofs.YtkhdcpejpffnkaaGreatDoor
open Go.RowKit
set_option linter.unusedVariables false

theorem add_add (a : Addr) (i r : Nat) : (a.add i).add r = a.add (i + r) := by
  by_cases hr : r = 0
  · subst hr; simp [Addr.add]
  · by_cases hi : i = 0
    · subst hi; simp [Addr.add]
    · have h : ¬ i + r = 0 := by omega
      simp [Addr.add, hr, hi, Nat.add_assoc]
/-- spans, element by element, are spans that came in -/
theorem SpIn.of_each {w : World} {a : Addr} {l : List Zp} (c : Nat) (h : ∀ k (hk : k < l.length), w.cell? (a.add (k * 2)) = some (.int .u32 ((l[k].1 : Nat) : Int)) ∧ w.cell? (a.add (k * 2 + 1)) = some (.int .u32 ((l[k].2 : Nat) : Int))) : SpIn w (some a) l c := by
  refine Or.inr ⟨a, rfl, fun j u hj => ?_⟩
  have hjl : j < l.length * 2 := by
    rw [← zpC_len l]
    rcases Nat.lt_or_ge j (zpC l).length with h | h
    · exact h
    · rw [List.getElem?_eq_none h] at hj; cases hj
  obtain ⟨k, hk⟩ : ∃ k, j / 2 = k := ⟨_, rfl⟩
  have hkl : k < l.length := by omega
  obtain ⟨g1, g2⟩ := zpC_at hkl
  obtain ⟨h1, h2⟩ := h k hkl
  rcases Nat.mod_two_eq_zero_or_one j with hm | hm
  · have hj2 : j = k * 2 := by omega
    rw [hj2] at hj ⊢
    rw [← hj, g1]; exact h1
  · have hj2 : j = k * 2 + 1 := by omega
    rw [hj2] at hj ⊢
    rw [← hj, g2]; exact h2
section
variable {H : Type} {enc : TypeId × Value → H}
set_option maxRecDepth 20000 in
theorem read_span {W : World} {base : Nat} {spare : Nat → Bool} {held : Bool} {fuel : Nat} {cs : List Value} {x : DataW H × List MemPlace}
    (h : DataW.trod enc Tryz.prog W base spare held fuel 56 cs = some x) : ∃ p : Zp, cs = [.int .u32 (p.1 : Int), .int .u32 (p.2 : Int)] ∧ p.1 < 4294967296 ∧ p.2 < 4294967296 := by
  obtain ⟨xs, n, _, _, hl, hx, hf⟩ := DataW.trod_struct Tryz.underlying56 h
  have hc : Tryz.prog.cellsOf 56 = 2 := by kernel_rfl
  have c22 : Tryz.prog.cellsOf 22 = 1 := by kernel_rfl
  rw [hc] at hl
  obtain ⟨y0, y1, rfl⟩ : ∃ a b, cs = [a, b] := by
    match cs, hl with
    | [a, b], _ => exact ⟨a, b, rfl⟩
  have g0 : DataW.trod enc Tryz.prog W base spare held n 22 (([y0, y1].drop 0).take (Tryz.prog.cellsOf 22)) = xs[0]? := hf 0 _ rfl
  have g1 : DataW.trod enc Tryz.prog W base spare held n 22 (([y0, y1].drop 1).take (Tryz.prog.cellsOf 22)) = xs[1]? := hf 1 _ rfl
  rw [c22] at g0 g1
  have hx2 : xs.length = 2 := hx
  obtain ⟨z0, z1, rfl⟩ : ∃ a b, xs = [a, b] := by
    match xs, hx2 with
    | [a, b], _ => exact ⟨a, b, rfl⟩
  obtain ⟨a, e0, _, wa⟩ := DataW.trod_int Tryz.underlying22 (g0.trans rfl)
  obtain ⟨b, e1, _, wb⟩ := DataW.trod_int Tryz.underlying22 (g1.trans rfl)
  simp at e0 e1
  subst e0 e1
  have ba := wf_u32 wa
  have bb := wf_u32 wb
  refine ⟨⟨a.toNat, b.toNat⟩, ?_, by show a.toNat < 4294967296; omega, by show b.toNat < 4294967296; omega⟩
  simp only [Int.toNat_of_nonneg ba.1, Int.toNat_of_nonneg bb.1]
theorem read_spans {W : World} {ad : Option Addr} {len cap : Nat} {d : DataW H} {p : List MemPlace} (h : DataW.Trod enc Tryz.prog W 0 (fun _ => true) true 61 (.slice ad len cap) d p) :
    ∃ l : List Zp, l.length = len ∧ SpIn W ad l cap ∧ ∀ s ∈ l, s.1 < 4294967296 ∧ s.2 < 4294967296 := by
  obtain ⟨fuel, hf⟩ := h
  rcases Deep.open_slice Tryz.underlying61 hf with ⟨hcs, _⟩ | ⟨a, len', cap', m, n, D, Pl, hcs, _, hlc, _, hm, _, hel⟩
  · simp [Value.cells] at hcs
    obtain ⟨rfl, rfl, rfl⟩ := hcs
    exact ⟨[], rfl, Or.inl ⟨rfl, rfl, rfl⟩, fun t ht => (by cases ht)⟩
  · simp [Value.cells] at hcs
    obtain ⟨rfl, rfl, rfl⟩ := hcs
    simp only [if_true] at hm
    subst hm
    have hc : Tryz.prog.cellsOf 56 = 2 := by kernel_rfl
    rw [hc] at hel
    have hex : ∀ i, i < len → ∃ t : Zp, (W.cell? (a.add (i * 2)) = some (.int .u32 (t.1 : Int)) ∧ W.cell? (a.add (i * 2 + 1)) = some (.int .u32 (t.2 : Int))) ∧ t.1 < 4294967296 ∧ t.2 < 4294967296 := by
      intro i hi
      obtain ⟨cs', h1, h2⟩ := hel i (by omega)
      obtain ⟨t, rfl, hb⟩ := read_span h2
      have hE := cells_each h1
      exact ⟨t, ⟨hE 0 (by decide), by rw [← add_add]; exact hE 1 (by decide)⟩, hb⟩
    obtain ⟨f, hf⟩ := @Deep.choose_lt Zp ⟨⟨0, 0⟩⟩ len _ hex
    refine ⟨(List.range len).map f, by simp, SpIn.of_each _ fun k hk => ?_, fun t ht => ?_⟩
    · simp only [List.getElem_map, List.getElem_range]
      exact (hf k (by simpa using hk)).1
    · obtain ⟨i, hi, rfl⟩ := List.mem_map.1 ht
      exact (hf i (List.mem_range.1 hi)).2
end
/-- TablesMerges at lists that were read, where awake answers true -/
theorem merges_read (a1 a2 : Option Addr) (n1 n2 c1 c2 x : Nat) (w : World) (haw : Calls Tryz.prog 7 #[] w fun e w' => e = .returned (.bool true) ∧ Below w.heap.size w w')
    (h1 : ∃ l : List Zp, l.length = n1 ∧ SpIn w a1 l c1 ∧ ∀ s ∈ l, s.1 < 4294967296 ∧ s.2 < 4294967296) (h2 : ∃ l : List Zp, l.length = n2 ∧ SpIn w a2 l c2 ∧ ∀ s ∈ l, s.1 < 4294967296 ∧ s.2 < 4294967296) (hx : x < 4294967296) :
    Calls Tryz.prog 6 #[.slice a1 n1 c1, .slice a2 n2 c2, .int .u32 (x : Int)] w fun e w' => e = .returned (.bool true) ∧ Below w.heap.size w w' := by
  obtain ⟨L, rfl, hL, h32⟩ := h1
  obtain ⟨K, rfl, hK, k32⟩ := h2
  exact merges_core a1 a2 L K c1 c2 x w haw hL hK h32 k32 hx
end Go.Proofs.YtkhdcpejpffnkaaGreatDoor
