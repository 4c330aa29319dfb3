/- How the arguments of the law SeekFinds are read: words, and rows of words. No conditions. -/
import Derived.Test.YtajkjlnhongjfaaSkH
namespace Go.Proofs.Ytajkjlnhongjfaa
open Go.RowKit

theorem isRow_uw {w : World} {ad : Option Addr} {len cap : Nat} {zs : List Int} (h : IsRow .u32 w ad len cap zs) : ∃ l : List Nat, l.length = len ∧ (∀ x ∈ l, x < 4294967296) ∧ Uw w ad l ∧ len ≤ cap ∧ cap ≤ 9223372036854775807 := by
  have hlz : len ≤ zs.length := by
    rcases h with ⟨_, h0, _, _⟩ | ⟨x, _, h1, _, h2, _⟩ <;> omega
  have hcap : len ≤ cap ∧ cap ≤ 9223372036854775807 := by
    rcases h with ⟨_, h0, h1, _⟩ | ⟨x, _, h1, h2, _, _⟩
    · omega
    · have : maxLen = 9223372036854775807 := rfl
      omega
  have hlen : ((zs.take len).map Int.toNat).length = len := by simp; omega
  have hget : ∀ k (hk : k < ((zs.take len).map Int.toNat).length), zs[k]? = some (zs.getD k 0) ∧ ((zs.take len).map Int.toNat)[k] = (zs.getD k 0).toNat := by
    intro k hk
    have hk2 : k < zs.length := by omega
    simp [hk2, List.getD]
  have hmem : ∀ n ∈ zs, (Lit.int .u32 n).wf = true := by
    rcases h with ⟨_, _, _, rfl⟩ | ⟨x, _, _, _, _, _, h3⟩
    · intro n hn; cases hn
    · exact h3
  refine ⟨(zs.take len).map Int.toNat, hlen, ?_, ?_, hcap⟩
  · intro x hx
    obtain ⟨n, hn, rfl⟩ := List.mem_map.1 hx
    have := wf_u32 (hmem n (List.mem_of_mem_take hn)); omega
  · intro k hk
    rcases h with ⟨_, h0, _, _⟩ | ⟨x, rfl, h1, _, h2, h3, h4⟩
    · omega
    · refine ⟨x, rfl, ?_⟩
      obtain ⟨g1, g2⟩ := hget k hk
      have hb := wf_u32 (h4 _ (List.mem_of_getElem? g1))
      rw [g2, h3 k (by omega), Int.toNat_of_nonneg hb.1]
section
variable {H : Type} {enc : TypeId × Value → H}
theorem read_rw {W : World} {base : Nat} {held : Bool} {fuel : Nat} {cs : List Value} {x : DataW H × List MemPlace} (h : DataW.trod enc Try.prog W base (fun _ => true) held fuel 22 cs = some x) : ∃ r : Rw, cs = [.slice r.ad r.ws.length r.cap] ∧ r.Ok W := by
  have c22 : Try.prog.cellsOf 24 = 1 := by kernel_rfl
  obtain ⟨ad, len, cap, zs, e4, hrow⟩ : ∃ ad len cap zs, cs = [.slice ad len cap] ∧ IsRow .u32 W ad len cap zs := by
    rcases Go.ChangeShapes.open_ints Try.underlying22 Try.underlying24 c22 h with ⟨hcs, _⟩ | ⟨x, l, c, zs, hcs, _, hl, hm, hz, _, hcell, hwz⟩
    · exact ⟨none, 0, 0, [], hcs, .inl ⟨rfl, rfl, rfl, rfl⟩⟩
    · exact ⟨some x, l, c, zs, hcs, .inr ⟨_, rfl, hl, hm, by simpa using hz, hcell, hwz⟩⟩
  obtain ⟨l, rfl, hlw, hlu, hle, hcp⟩ := isRow_uw hrow
  exact ⟨⟨ad, cap, l⟩, e4, hlu, hlw, hle, hcp⟩
theorem read_seekFinds {W : World} {ad : Option Addr} {len cap : Nat} {d : DataW H} {p : List MemPlace} (h : DataW.Trod enc Try.prog W 0 (fun _ => true) true 23 (.slice ad len cap) d p) : ∃ L : List Rw, L.length = len ∧ RwsAt W ad L := by
  obtain ⟨fuel, hf⟩ := h
  rcases Deep.open_slice Try.underlying23 hf with ⟨hcs, _⟩ | ⟨a, len', cap', m, n, D, Pl, hcs, _, hlc, hmx, hm, _, hel⟩
  · simp [Value.cells] at hcs
    obtain ⟨rfl, rfl, rfl⟩ := hcs
    exact ⟨[], rfl, fun i hi => by simp at hi⟩
  · simp [Value.cells] at hcs
    obtain ⟨rfl, rfl, rfl⟩ := hcs
    simp only [if_true] at hm
    subst hm
    have hc : Try.prog.cellsOf 22 = 1 := by kernel_rfl
    rw [hc] at hel
    have hex : ∀ i, i < len → ∃ r : Rw, W.cell? (a.add i) = some (.slice r.ad r.ws.length r.cap) ∧ r.Ok W := by
      intro i hi
      obtain ⟨cs', h1, h2⟩ := hel i (by omega)
      obtain ⟨r, rfl, hr⟩ := read_rw h2
      have hE := cells_each h1 0 (by decide)
      refine ⟨r, ?_, hr⟩
      have e : (a.add (i * 1)).add 0 = a.add i := by simp [Addr.add]
      rw [← e]; exact hE
    obtain ⟨f, hf⟩ := @Deep.choose_lt Rw ⟨⟨none, 0, []⟩⟩ len _ hex
    refine ⟨(List.range len).map f, by simp, fun k hk => ⟨a, rfl, ?_⟩⟩
    simp only [List.getElem_map, List.getElem_range]
    exact hf k (by simpa using hk)
end
end Go.Proofs.Ytajkjlnhongjfaa
