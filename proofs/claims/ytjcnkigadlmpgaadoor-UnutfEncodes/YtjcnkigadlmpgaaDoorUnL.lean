/- The law UnutfEncodes' walk, as its row takes it. Conditions: what the variable places holds. -/
import Derived.Test.YtjcnkigadlmpgaaDoorUnJ
import Derived.Test.YtjcnkigadlmpgaaDoorUnV
namespace Go.Proofs.YtjcnkigadlmpgaaDoor
open Go.RowKit
set_option linter.unusedVariables false

theorem nu32s_row {w : World} {ad : Option Addr} {len cap : Nat} {zs : List Int} (h : IsRow .u32 w ad len cap zs) : ∃ l : List Nat, l.length = len ∧ (∀ x ∈ l, x < 4294967296) ∧ U32s w ad l := by
  have hlz : len ≤ zs.length := by
    rcases h with ⟨_, h0, _, _⟩ | ⟨x, _, h1, _, h2, _⟩ <;> omega
  have hlen : ((zs.take len).map Int.toNat).length = len := by simp; omega
  have hget : ∀ k (hk : k < ((zs.take len).map Int.toNat).length), zs[k]? = some (zs.getD k 0) ∧ ((zs.take len).map Int.toNat)[k] = (zs.getD k 0).toNat := by
    intro k hk
    have hk2 : k < zs.length := by omega
    simp [hk2, List.getD]
  have hmem : ∀ n ∈ zs, (Lit.int .u32 n).wf = true := by
    rcases h with ⟨_, _, _, rfl⟩ | ⟨x, _, _, _, _, _, h3⟩
    · intro n hn; cases hn
    · exact h3
  refine ⟨(zs.take len).map Int.toNat, hlen, ?_, ?_⟩
  · intro x hx
    obtain ⟨n, hn, rfl⟩ := List.mem_map.1 hx
    have := wf_u32 (hmem n (List.mem_of_mem_take hn)); omega
  · intro k hk
    rcases h with ⟨_, h0, _, _⟩ | ⟨x, rfl, h1, _, h2, h3, h4⟩
    · omega
    · refine ⟨x, rfl, ?_⟩
      obtain ⟨g1, g2⟩ := hget k hk
      have hb := wf_u32 (h4 _ (List.mem_of_getElem? g1))
      rw [g2, h3 k (by omega), Int.toNat_of_nonneg hb.1]
set_option maxHeartbeats 1600000 in
set_option maxRecDepth 20000 in
theorem encodes_law (a1 : Option Addr) (n1 c1 : Nat) (z1 : List Int) (a2 : Option Addr) (n2 c2 : Nat) (z2 : List Int) (b : Nat) (w : World) (h1 : IsRow .u32 w a1 n1 c1 z1) (h2 : IsRow .u32 w a2 n2 c2 z2) (hb : b < 256) (t : Pv w) :
    Calls Tryd.prog 3 #[.slice a1 n1 c1, .slice a2 n2 c2, .int .u8 (b : Int)] w fun e w' => e = .returned (.bool true) ∧ Below w.heap.size w w' := by
  by_cases h24 : n1 ≤ 24
  · by_cases he : n2 = n1
    · subst he
      obtain ⟨xs, hx, hxl, hu⟩ := nu32s_row h1
      obtain ⟨ks, hk, hkl, hv⟩ := nu32s_row h2
      exact encodes_in a1 a2 c1 c2 n2 b xs ks w hx hk hu hv hxl hkl h24 hb t
    · have g1 : ¬ (24 : Int) < (n1 : Int) := by omega
      have g2 : ((n2 : Int) == (n1 : Int)) = false := by simp; omega
      have g3 : ((n2 : Int) = (n1 : Int)) = False := eq_false (by omega)
      have g4 : (n2 = n1) = False := eq_false he
      have g5 : (n2 == n1) = false := by simp [he]
      have g6 : ((n2 : Int) != (n1 : Int)) = true := by simp; omega
      have HT := hid t
      clear h1 h2 t h24 he hb
      go_enter Tryd.func3, Tryd.ntmps3
      go_wp2_with fail
      refine (awake10_any _ HT.out).mono ?_
      rintro e w1 ⟨rfl, hB1⟩
      go_wp2
      go_ret
      exact ⟨rfl, hB1⟩
  · have g1 : (24 : Int) < (n1 : Int) := by omega
    have HT := hid t
    clear h1 h2 t h24 hb
    go_enter Tryd.func3, Tryd.ntmps3
    go_wp2_with fail
    refine (awake10_any _ HT.out).mono ?_
    rintro e w1 ⟨rfl, hB1⟩
    go_wp2
    go_ret
    exact ⟨rfl, hB1⟩
end Go.Proofs.YtjcnkigadlmpgaaDoor
