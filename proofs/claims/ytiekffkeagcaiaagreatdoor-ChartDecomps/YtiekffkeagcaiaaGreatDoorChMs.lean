/- The laws' same, over this seat's translation: rows of the same words are the same. No conditions. -/
import Derived.Test.YtiekffkeagcaiaaGreatDoorChMe
import Derived.BigQuiet
namespace Go.Proofs.YtiekffkeagcaiaaGreatDoor
open Go.RowKit
set_option linter.unusedVariables false

theorem U32B.drew {w : World} {g n : Nat} {l : List Nat} (u : U32B w g l) : U32B (w.drewN n) g l := u
set_option maxHeartbeats 800000 in
theorem same_any (w : World) (g1 g2 c1 c2 : Nat) (l : List Nat) (hl : l.length ≤ 4000000000) (h1 : U32B w g1 l) (h2 : U32B w g2 l) :
    Calls Tryz.prog 19 #[.slice (some ⟨g1, 0, none⟩) l.length c1, .slice (some ⟨g2, 0, none⟩) l.length c2] w fun e w' => e = .returned (.bool true) ∧ ∃ n, w' = w.drewN n := by
  have H1 := hid h1
  have H2 := hid h2
  have HLM := hid (show l.length = l.length from rfl)
  obtain ⟨N, hN⟩ : ∃ N, l.length = N := ⟨_, rfl⟩
  have HN := hid hN
  rw [hN]
  clear h1 h2 hN HLM
  have hN6 : N ≤ 4000000000 := by rw [← HN.out]; exact hl
  clear hl
  · go_enter Tryz.func19, Tryz.ntmps19
    go_wp2_with fail
    go_loopw [13] (fun i wr => ∃ k n : Nat, k ≤ N ∧ i = .int .i64 (k : Int) ∧ wr = w.drewN n) (fun i _ => N - (intOf i).toNat)
    case atStart => exact ⟨0, 0, Nat.zero_le _, rfl, rfl⟩
    case round =>
      obtain ⟨k, n, hk, rfl, rfl⟩ := hrel
      by_cases hlt : k < N
      · have x0 := H1.out.cell (show k < l.length by rw [HN.out]; exact hlt)
        have y0 := H2.out.cell (show k < l.length by rw [HN.out]; exact hlt)
        obtain ⟨v, hv⟩ : ∃ v, l.getD k 0 = v := ⟨_, rfl⟩
        rw [hv] at x0 y0
        have hwk : IntKind.i64.wrap (k : Int) = (k : Int) := by rw [IntKind.wrap_i64]; omega
        have HLT := hid hlt
        clear hk hv
        go_wp2_with fail
        go_quiet (fail)
        clear x0 y0 hwk
        rw [World.drewN_drewN]
        go_wp2
        go_roundw
        case rel => exact ⟨k + 1, _, HLT.out, by go_num, rfl⟩
        case measure => have := HLT.out; simp [intOf]; omega
      · have hke : k = N := by omega
        subst hke
        clear hk hlt
        go_wp2
        go_ret
        exact ⟨rfl, n, rfl⟩
end Go.Proofs.YtiekffkeagcaiaaGreatDoor
