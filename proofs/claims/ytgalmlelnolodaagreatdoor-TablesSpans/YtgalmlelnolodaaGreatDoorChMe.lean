/- Chart's Decomps, over this seat's translation. Conditions: a text's size; what the library's variables hold is some number, some errors. -/
import Derived.Test.YtgalmlelnolodaaGreatDoorChMd
namespace Go.Proofs.YtgalmlelnolodaaGreatDoor
open Go.RowKit
set_option linter.unusedVariables false

theorem decomps_any (s : ByteArray) (w : World) (v : Vr w) (hs : s.size ≤ 1000000) :
    Calls Tryz.prog 38 #[.string s] w fun e w' => ∃ (ad : Option Addr) (cap at_ : Nat) (its : List Dt) (vs : List Value),
      e = .returned (.tuple #[.slice ad its.length cap, .int .i64 (if at_ = 0 then 0 else 3), .int .i64 (at_ : Int)]) ∧ rsV dcOf upD (lwV s) (lwV s).length = (its, at_) ∧ OutD w' w.heap.size w.heap.size (.slice ad its.length cap) its vs ∧ Below w.heap.size w w' := by
  have HC := hid (readDecomp_any s w v hs)
  go_enter Tryz.func38, Tryz.ntmps38
  go_wp2_with fail
  refine HC.out.mono ?_
  rintro e w' ⟨ad, cap, at_, its, vs, rfl, h1, h2, h3⟩
  have H1 := hid h1
  have H2 := hid h2
  have H3 := hid h3
  clear h1 h2 h3 v hs HC
  obtain ⟨E, hE⟩ : ∃ E : Int, (if at_ = 0 then 0 else 3) = E := ⟨_, rfl⟩
  rw [hE]
  have HE := hid hE
  clear hE
  go_wp2
  exact bodyPost_ret (v := .tuple #[.slice ad its.length cap, .int .i64 E, .int .i64 (at_ : Int)]) (by simp [results, Tryz.results38, go_sem]) rfl
    ⟨ad, cap, at_, its, vs, by rw [HE.out], H1.out, H2.out, H3.out⟩
end Go.Proofs.YtgalmlelnolodaaGreatDoor
