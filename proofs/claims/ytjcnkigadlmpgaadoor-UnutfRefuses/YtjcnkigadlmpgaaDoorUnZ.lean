/- An array of three numbers, as a row's argument is read. Nothing of the program is named here. -/
import Derived.Test.YtjcnkigadlmpgaaDoorUnY
namespace Go.Proofs.YtjcnkigadlmpgaaDoor
open Go.RowKit
set_option linter.unusedVariables false

theorem wf_i64b {n : Int} (h : (Lit.int .i64 n).wf = true) : -9223372036854775808 ≤ n ∧ n < 9223372036854775808 := by
  simp only [Lit.wf, Bool.and_eq_true, decide_eq_true_eq] at h
  have hmin : IntKind.i64.min = -9223372036854775808 := rfl
  have hmax : IntKind.i64.max = 9223372036854775807 := rfl
  omega
theorem open_a3 {H : Type} {enc : TypeId × Value → H} {P : Program} {W : World} {base b0 : Nat} {spare : Nat → Bool} {held : Bool} {r : Reach} {T E : TypeId} {v : Value} {d : DataW H} {ps : List MemPlace} (hT : P.underlying T = some (.array 3 E)) (hE : P.underlying E = some (.int .i64)) (hcT : P.cellsOf T = 3) (hcE : P.cellsOf E = 1) (hval : Value.okWide P W r b0 T v) (hd : DataW.Trod enc P W base spare held T v d ps) :
    ∃ a b c, v = .agg #[.int .i64 a, .int .i64 b, .int .i64 c] ∧ (-9223372036854775808 ≤ a ∧ a < 9223372036854775808) ∧ (-9223372036854775808 ≤ b ∧ b < 9223372036854775808) ∧ (-9223372036854775808 ≤ c ∧ c < 9223372036854775808) := by
  simp only [Value.okWide, hT] at hval
  obtain ⟨cs, rfl, h2, _⟩ := hval
  rw [hcT] at h2
  obtain ⟨fuel, hf⟩ := hd
  obtain ⟨xs, m, _, _, _, hxl, hel⟩ := DataW.trod_array hT hf
  rw [hcE] at hel
  obtain ⟨l⟩ := cs
  have e0 := hel 0 (by decide)
  have e1 := hel 1 (by decide)
  have e2 := hel 2 (by decide)
  rw [List.getElem?_eq_getElem (by omega)] at e0 e1 e2
  obtain ⟨a, ea, _, wa⟩ := DataW.trod_int hE e0
  obtain ⟨b, eb, _, wb⟩ := DataW.trod_int hE e1
  obtain ⟨c, ec, _, wc⟩ := DataW.trod_int hE e2
  rcases l with _ | ⟨x, _ | ⟨y, _ | ⟨z, _ | ⟨u, t⟩⟩⟩⟩
  · simp at h2
  · simp at h2
  · simp at h2
  · simp [Value.cells] at ea eb ec
    subst ea eb ec
    exact ⟨a, b, c, rfl, wf_i64b wa, wf_i64b wb, wf_i64b wc⟩
  · simp at h2
end Go.Proofs.YtjcnkigadlmpgaaDoor
