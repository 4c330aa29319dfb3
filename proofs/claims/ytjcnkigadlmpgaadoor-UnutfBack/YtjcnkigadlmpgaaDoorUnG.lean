/- What Encode makes of an arena, as plain data: the places laid, packed, and told out; what is noted. Nothing of the program is named here. -/
import Derived.Test.YtjcnkigadlmpgaaDoorUnF
import Derived.Test.YtjcnkigadlmpgaaDoorPkH
namespace Go.Proofs.YtjcnkigadlmpgaaDoor
open Go.RowKit
set_option linter.unusedVariables false

/-- what Encode notes -/
def evEnc (t P K n O M : Nat) : List Ev := ⟨4, (t : Int), cnt ((8 * n : Nat) : Int)⟩ :: (evI P K t (t + 4 * n) n ++ (evFull (t + 8 * n) (t + 4 * n) (4 * n) [t] ++ (evO t O M ++ evGv (t + 8 * n) t)))
/-- Encode, done -/
structure Encd (A B : Ars) (P K n O M : Nat) : Prop where
  top : B.top = A.top
  wl : B.ws.length = A.ws.length
  es : B.es = A.es ++ evEnc A.top P K n O M
  out : ∀ i, i < M → B.word (O + i) = if M < (encL (fun i => A.word (P + i)) (fun i => A.word (K + i)) n).length then 0 else (encL (fun i => A.word (P + i)) (fun i => A.word (K + i)) n).getD i 0
  rest : ∀ y, y < A.top → (y < O ∨ O + M ≤ y) → B.word y = A.word y
/-- what is told out of a word -/
def tellW (c : Bool) (x : Nat) : Nat := andW (notW (mk c)) x
theorem tellW_eq (c : Bool) (x : Nat) (hx : x < 4294967296) : tellW c x = if c then 0 else x := by
  unfold tellW
  cases c
  · have e : notW (mk false) = mk true := by decide
    rw [e, andW_mk _ _ hx]; rfl
  · have e : notW (mk true) = mk false := by decide
    rw [e, andW_mk _ _ hx]; rfl
/-- what spread leaves, of Encode's arena -/
def spA (A : Ars) (P K n : Nat) : Ars := spI (A.take ((8 * n : Nat) : Int)) P K A.top (A.top + 4 * n) (fun i => A.word (P + i)) (fun i => A.word (K + i)) n
theorem spA_facts (A : Ars) (P K n : Nat) (hroom : A.top + 12 * n ≤ A.ws.length) (hok : A.ok) :
    (spA A P K n).top = A.top + 8 * n ∧ (spA A P K n).ws.length = A.ws.length ∧ (spA A P K n).es = A.es ++ ⟨4, (A.top : Int), cnt ((8 * n : Nat) : Int)⟩ :: evI P K A.top (A.top + 4 * n) n ∧
    (fun i => (spA A P K n).word (A.top + 4 * n + i) % 2 == 1) = (fun i => (spA A P K n).word (A.top + 4 * n + i) % 2 == 1) ∧
    (∀ t, t < 4 * n → (spA A P K n).word (A.top + t) = vK (fun i => A.word (P + i)) t ∧ ((spA A P K n).word (A.top + 4 * n + t) % 2 == 1) = bK (fun i => A.word (P + i)) (fun i => A.word (K + i)) t) ∧
    ∀ y, y < A.top → (spA A P K n).word y = A.word y := by
  have hc : A.canTake ((8 * n : Nat) : Int) = true := decide_eq_true (by omega)
  have e0 : A.take ((8 * n : Nat) : Int) = ⟨A.ws, A.top + 8 * n, A.es ++ [⟨4, A.top, cnt ((8 * n : Nat) : Int)⟩]⟩ := by rw [Ars.take_yes hc, Int.toNat_natCast]
  unfold spA
  refine ⟨?_, ?_, ?_, rfl, fun t ht => ?_, fun y hy => ?_⟩
  · rw [spI_top, e0]
  · rw [spI_wl, e0]
  · rw [spI_es, e0]; simp
  · obtain ⟨e1, e2⟩ := spI_lanes (A.take ((8 * n : Nat) : Int)) P K A.top (A.top + 4 * n) (fun i => A.word (P + i)) (fun i => A.word (K + i)) n n (Nat.le_refl _) (by rw [e0]; show _ ≤ A.ws.length; omega) (by rw [e0]; show _ ≤ A.ws.length; omega) (Nat.le_refl _) t ht
    refine ⟨e1, ?_⟩
    rw [e2, and_keep _ _ (Ars.word_lt hok _)]
    rfl
  · rw [spI_word _ _ _ _ _ _ _ _ (by rw [e0]; show _ ≤ A.ws.length; omega) (by rw [e0]; show _ ≤ A.ws.length; omega) _ (by omega) (by omega), e0]
    rfl
theorem kp_congr {b c : Nat → Bool} {n : Nat} (h : ∀ i, i < n → b i = c i) : kp b n = kp c n := List.filter_congr fun i hi => h i (List.mem_range.1 hi)
/-- spread, Pack, the telling and Give make it -/
theorem Encd.of {A B1 B2 : Ars} {P K n O M : Nat} (hok : A.ok) (hroom : A.top + 12 * n ≤ A.ws.length) (hO : O + M ≤ A.top) (hM : M ≤ 4 * n) (h1 : B1 = spA A P K n) (pk : Packed B1 B2 (A.top + 4 * n) (4 * n) [A.top])
    (hlt : ∀ i, B2.word i < 4294967296) :
    Encd A ((otI B2 A.top O (fun i => tellW (decide (M < (encL (fun i => A.word (P + i)) (fun i => A.word (K + i)) n).length)) (B2.word (A.top + i))) M).giveN A.top) P K n O M := by
  obtain ⟨f1, f2, f3, _, f4, f5⟩ := spA_facts A P K n hroom hok
  rw [← h1] at f1 f2 f3 f4 f5
  have hkp : kp (fun i => B1.word (A.top + 4 * n + i) % 2 == 1) (4 * n) = kp (bK (fun i => A.word (P + i)) (fun i => A.word (K + i))) (4 * n) := kp_congr fun i hi => (f4 i hi).2
  have ht2 : B2.top = A.top + 8 * n := by rw [pk.top, f1]
  have hw2 : B2.ws.length = A.ws.length := by rw [pk.wl, f2]
  have hlane : ∀ i, i < 4 * n → B2.word (A.top + i) = (encL (fun i => A.word (P + i)) (fun i => A.word (K + i)) n).getD i 0 := fun i hi => by
    rw [pk.lane A.top (List.mem_singleton.2 rfl) i hi, hkp, ← kp_enc]
    congr 1
    exact List.map_congr_left fun t ht => (f4 t (List.mem_range.1 (List.mem_filter.1 ht).1)).1
  refine ⟨rfl, ?_, ?_, fun i hi => ?_, fun y hy hyO => ?_⟩
  · rw [Ars.giveN_wslen, otI_wl, hw2]
  · rw [giveN_es, otI_top, otI_es, pk.es, f3, f1, ht2]
    unfold evEnc
    simp [List.append_assoc]
  · rw [Ars.giveN_word _ _ (by rw [otI_top, ht2]; omega), if_neg (by omega), otI_lane _ _ _ _ _ (by rw [hw2]; omega) i hi, tellW_eq _ _ (hlt _), hlane i (by omega)]
    by_cases h : M < (encL (fun i => A.word (P + i)) (fun i => A.word (K + i)) n).length
    · rw [if_pos h, if_pos (decide_eq_true h)]
    · rw [if_neg h, if_neg (by simpa using h)]
  · rw [Ars.giveN_word _ _ (by rw [otI_top, ht2]; omega), if_neg (by omega), otI_word _ _ _ _ _ (by rw [hw2]; omega) y hyO, pk.rest y (by rw [f1]; omega) (fun L hL => by
      rcases List.mem_cons.1 hL with rfl | hL
      · omega
      · have := List.mem_singleton.1 hL; omega)]
    exact f5 y hy
theorem evEnc_len (t P K n O M : Nat) (hn : n ≤ 12288) : (evEnc t P K n O M).length = 1 + 10 * n + (evFull (t + 8 * n) (t + 4 * n) (4 * n) [t]).length + 2 * M + (8 * n + 1) := by
  unfold evEnc
  rw [List.length_cons, List.length_append, List.length_append, List.length_append, evI_len, evO_len, evGv_len]
  omega
end Go.Proofs.YtjcnkigadlmpgaaDoor
