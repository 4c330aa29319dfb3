/- What the laws of charts ask beside the readings, over this seat's translation: fits, and chart's Classes and Runs. Conditions: a text's size; what the library's variables hold is some number, some errors. -/
import Derived.Test.YtgalmlelnolodaaGreatDoorChLw
import Derived.Test.YtgalmlelnolodaaGreatDoorChLr
import Derived.Test.YtgalmlelnolodaaGreatDoorChLn
namespace Go.Proofs.YtgalmlelnolodaaGreatDoor
open Go.RowKit
set_option linter.unusedVariables false

theorem rsV_off {α : Type} {of : List ByteArray → Option α} {bh : α → α → Bool} {ls : List (List ByteArray)} {k a : Nat} {l : List α} (h : rsV of bh ls k = (l, a)) (ha : a ≠ 0) : l = [] := by
  induction k generalizing l a with
  | zero => cases h; rfl
  | succ k ih =>
    obtain ⟨l0, e0, h0⟩ : ∃ l0 e0, rsV of bh ls k = (l0, e0) := ⟨_, _, rfl⟩
    rw [rsV, h0] at h
    by_cases he : e0 = 0
    · subst he
      simp only [ne_eq, not_true_eq_false, if_false] at h
      split at h
      · split at h
        · cases h; exact absurd rfl ha
        · cases h; rfl
      · cases h; rfl
    · simp only [ne_eq, he, not_false_eq_true, if_true] at h
      cases h; exact ih h0 he
theorem row3 {w : World} {base n cap : Nat} {T : TypeId} {ad : Option Addr} {C : It → Array Value} {its : List It} (h : w.ownsRow base T 3 (.slice ad n cap) n (rowC C its)) (hsz : ∀ i ∈ its, (C i).size = 3) {k : Nat} (hk : k < its.length) (hn : its.length = n) {x y z : Value} (hx : C its[k] = #[x, y, z]) :
    ∃ g, ad = some ⟨g, 0, none⟩ ∧ w.cell? ⟨g, k * 3, none⟩ = some x ∧ w.cell? ⟨g, k * 3 + 1, none⟩ = some y ∧ w.cell? ⟨g, k * 3 + 2, none⟩ = some z := by
  obtain ⟨g, h1, _, _, h2⟩ := owns_cell h (by omega)
  refine ⟨g, h1, h2 _ _ ?_, h2 _ _ ?_, h2 _ _ ?_⟩
  · have := rowC_at hsz (j := 0) hk (by decide)
    rw [hx] at this; exact this
  · have := rowC_at hsz (j := 1) hk (by decide)
    rw [hx] at this; exact this
  · have := rowC_at hsz (j := 2) hk (by decide)
    rw [hx] at this; exact this

theorem classes_any (s : ByteArray) (w : World) (v : Vr w) (hs : s.size ≤ 1000000) :
    Calls Tryz.prog 37 #[.string s] w fun e w' => ∃ (ad : Option Addr) (cap at_ : Nat) (its : List It),
      e = .returned (.tuple #[.slice ad its.length cap, .int .i64 (if at_ = 0 then 0 else 3), .int .i64 (at_ : Int)]) ∧ rsV wtOf upW (lwV s) (lwV s).length = (its, at_) ∧ w'.ownsRow w.heap.size 104 3 (.slice ad its.length cap) its.length (rowC rgC its) ∧ Below w.heap.size w w' := by
  have HC := hid (readWeight_any s w v hs)
  go_enter Tryz.func37, Tryz.ntmps37
  go_wp2_with fail
  refine HC.out.mono ?_
  rintro e w' ⟨ad, cap, at_, its, rfl, h1, h2, h3⟩
  have H1 := hid h1
  have H2 := hid h2
  have H3 := hid h3
  clear h1 h2 h3 v hs HC
  obtain ⟨E, hE⟩ : ∃ E : Int, (if at_ = 0 then 0 else 3) = E := ⟨_, rfl⟩
  rw [hE]
  have HE := hid hE
  clear hE
  go_wp2
  exact bodyPost_ret (v := .tuple #[.slice ad its.length cap, .int .i64 E, .int .i64 (at_ : Int)]) (by simp [results, Tryz.results37, go_sem]) rfl
    ⟨ad, cap, at_, its, by rw [HE.out], H1.out, H2.out, H3.out⟩
theorem runs_any (s : ByteArray) (w : World) (v : Vr w) (hs : s.size ≤ 1000000) :
    Calls Tryz.prog 39 #[.string s] w fun e w' => ∃ (ad : Option Addr) (cap at_ : Nat) (its : List It),
      e = .returned (.tuple #[.slice ad its.length cap, .int .i64 (if at_ = 0 then 0 else 3), .int .i64 (at_ : Int)]) ∧ rsV ruOf upW (lwV s) (lwV s).length = (its, at_) ∧ w'.ownsRow w.heap.size 101 3 (.slice ad its.length cap) its.length (rowC rgC its) ∧ Below w.heap.size w w' := by
  have HC := hid (readRun_any s w v hs)
  go_enter Tryz.func39, Tryz.ntmps39
  go_wp2_with fail
  refine HC.out.mono ?_
  rintro e w' ⟨ad, cap, at_, its, rfl, h1, h2, h3⟩
  have H1 := hid h1
  have H2 := hid h2
  have H3 := hid h3
  clear h1 h2 h3 v hs HC
  obtain ⟨E, hE⟩ : ∃ E : Int, (if at_ = 0 then 0 else 3) = E := ⟨_, rfl⟩
  rw [hE]
  have HE := hid hE
  clear hE
  go_wp2
  exact bodyPost_ret (v := .tuple #[.slice ad its.length cap, .int .i64 E, .int .i64 (at_ : Int)]) (by simp [results, Tryz.results39, go_sem]) rfl
    ⟨ad, cap, at_, its, by rw [HE.out], H1.out, H2.out, H3.out⟩
end Go.Proofs.YtgalmlelnolodaaGreatDoor
