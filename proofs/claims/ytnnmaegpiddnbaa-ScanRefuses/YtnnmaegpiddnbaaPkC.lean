/- The contract of package pack's sift, over this seat's translation. Conditions: rows within the arena that lie apart; n of at most 49152; the log has at most some hundred million events. -/
import Derived.Test.YtnnmaegpiddnbaaPkB
import Derived.Deep.CutRange
namespace Go.Proofs.Ytnnmaegpiddnbaa
open Go.RowKit

/-- a slice of lanes, apart from the arena -/
def Lns (w : World) (F : Nat → Prop) (ad : Option Addr) (ls : List Nat) : Prop := ∀ j (h : j < ls.length), ∃ bl, ad = some ⟨bl, 0, none⟩ ∧ ¬ F bl ∧ w.cell? ⟨bl, j, none⟩ = some (.int .i64 (ls[j] : Int))
theorem Lns.step {w w' : World} {F F' : Nat → Prop} {ad : Option Addr} {ls : List Nat} (l : Lns w F ad ls) (s : Step w F w' F') : Lns w' F' ad ls := fun j hj => by
  obtain ⟨bl, h1, h2, h3⟩ := l j hj
  exact ⟨bl, h1, s.out h2 (cell_blk h3), s.cell h3 h2⟩
/-- an arena behind some events, its words by a relation -/
structure Went (A B : Ars) (es : List Ev) : Prop where
  top : B.top = A.top
  wl : B.ws.length = A.ws.length
  es : B.es = A.es ++ es
theorem Went.refl (A : Ars) : Went A A [] := ⟨rfl, rfl, by simp⟩
theorem Went.trans {A B C : Ars} {d e : List Ev} (h : Went A B d) (k : Went B C e) : Went A C (d ++ e) := ⟨k.top.trans h.top, k.wl.trans h.wl, by rw [k.es, h.es, List.append_assoc]⟩
theorem went_ld (A : Ars) (p : Nat) : Went A (A.loadN p) [evLd p] := ⟨rfl, rfl, rfl⟩
theorem went_st (A : Ars) (p v : Nat) : Went A (A.storeN p v) [evSt p] := ⟨rfl, by simp, rfl⟩
theorem word_st (A : Ars) (p v : Nat) (h : p < A.ws.length) : (A.storeN p v).word = fun x => if x = p then v else A.word x := by
  funext x
  rw [Ars.storeN_word]
  by_cases e : x = p
  · simp [e, h]
  · simp [e]
theorem up_le (f : Nat → List Ev) (c k n : Nat) (h : ∀ i, (f i).length ≤ c) (hk : k ≤ n) : (upTo f k).length ≤ n * c := by
  have : (upTo f k).length ≤ k * c := by
    induction k with
    | zero => simp [upTo]
    | succ k ih => rw [upTo_succ, List.length_append, Nat.succ_mul]; have := ih (by omega); have := h k; omega
  exact Nat.le_trans this (Nat.mul_le_mul_right _ hk)

end Go.Proofs.Ytnnmaegpiddnbaa
