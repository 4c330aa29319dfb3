/- The laws' lay (layer 5), over this seat's translation. Conditions: at most a thousand words. -/
import Derived.Test.YtnnmaegpiddnbaaScD
namespace Go.Proofs.Ytnnmaegpiddnbaa
open Go.RowKit

/-- two lanes as they are laid -/
structure Lain (B : Ars) (l m : List Nat) : Prop where
  top : B.top = l.length + m.length
  wl : B.ws.length = l.length + m.length
  es : B.es.length = 1 + l.length + m.length
  a : ∀ j (h : j < l.length), B.word j = l[j]
  b : ∀ j (h : j < m.length), B.word (l.length + j) = m[j]
def lain (l m : List Nat) : Ars := (((Ars.new ((l.length + m.length : Nat) : Int)).take ((l.length + m.length : Nat) : Int)).putK 0 l l.length).putK l.length m m.length
theorem take_all (N : Nat) : (Ars.new (N : Int)).canTake (N : Int) = true := by simp [Ars.canTake, Ars.new]
theorem taken (N : Nat) : ((Ars.new (N : Int)).take (N : Int)).top = N ∧ ((Ars.new (N : Int)).take (N : Int)).ws.length = N ∧ ((Ars.new (N : Int)).take (N : Int)).es.length = 1 := by
  unfold Ars.take
  rw [if_pos (take_all N)]
  simp [Ars.new]
theorem lain_is (l m : List Nat) : Lain (lain l m) l m := by
  obtain ⟨h1, h2, h3⟩ := taken (l.length + m.length)
  unfold lain
  generalize (Ars.new ((l.length + m.length : Nat) : Int)).take ((l.length + m.length : Nat) : Int) = T at *
  refine ⟨by rw [Ars.putK_top, Ars.putK_top, h1], by rw [Ars.putK_wslen, Ars.putK_wslen, h2], by rw [Ars.putK_eslen, Ars.putK_eslen, h3], fun j hj => ?_, fun j hj => ?_⟩
  · rw [Ars.putK_word _ _ _ _ (Nat.le_refl _) (by rw [Ars.putK_wslen, h2]; omega), if_neg (by omega), Ars.putK_word _ _ _ _ (Nat.le_refl _) (by rw [h2]; omega), if_pos (by omega)]
    simp [List.getD, hj]
  · rw [Ars.putK_word _ _ _ _ (Nat.le_refl _) (by rw [Ars.putK_wslen, h2]; omega), if_pos (by omega)]
    simp [List.getD, hj]
theorem off_in {w : World} {B : Nat} {F : Nat → Prop} {ad : Option Addr} {l : List Nat} (h : U32s w ad l) (hB : w.heap.size ≤ B) (hF : ∀ i, F i → B ≤ i) : Off F ad l.length := fun x hx hn hf => by
  have := h.lt x hx hn; have := hF _ hf; omega

set_option maxHeartbeats 1600000 in
theorem lay5_any (ad ae : Option Addr) (c d : Nat) (l m : List Nat) (w : World) (h1 : U32s w ad l) (h2 : U32s w ae m) (hl : ∀ x ∈ l, x < 4294967296) (hm : ∀ x ∈ m, x < 4294967296) (hn : l.length + m.length ≤ 1000) :
    Calls Try.prog 7 #[.slice ad l.length c, .slice ae m.length d] w fun e w' => ∃ h F, e = .returned (arPtr h) ∧ Ar w' h F (lain l m) ∧ (∀ i, F i → w.heap.size ≤ i) ∧ Below w.heap.size w w' := by
  have H1 := hid h1
  have H2 := hid h2
  have HL := hid hl
  have HM := hid hm
  clear h1 h2 hl hm
  have HNN := hid (show ((l.length : Int) + (m.length : Int)) = ((l.length + m.length : Nat) : Int) by omega)
  obtain ⟨t1, t2, t3⟩ := taken (l.length + m.length)
  have HT := hid (And.intro t1 (And.intro t2 t3))
  clear t1 t2 t3
  go_enter Try.func7, Try.ntmps7
  go_wp2_with fail
  rw [HNN.out]
  refine (ar_new_at ((l.length + m.length : Nat) : Int) (l.length + m.length) _ (Or.inr rfl) (by omega)).mono ?_
  rintro e w1 ⟨h, F1, rfl, a1, hF1, hB1⟩
  have A1 := hid a1
  have F1h := hid hF1
  have B1 := hid hB1
  clear a1 hF1 hB1
  go_wp2_with fail
  rw [HNN.out]
  refine (ar_take_yes h F1 _ ((l.length + m.length : Nat) : Int) _ A1.out (take_all _) (by simp [Ars.new])).mono ?_
  rintro e w2 ⟨rfl, F2, a2, s2⟩
  have A2 := hid a2
  have F2h := hid (show ∀ i, F2 i → w.heap.size ≤ i from s2.high B1.out.size F1h.out)
  have B2 := hid (show Below w.heap.size w w2 from B1.out.trans (s2.below B1.out.size F1h.out))
  clear a2 s2
  go_wp2_with fail
  refine (ar_put_yes h F2 _ 0 ad c l _ A2.out (by rw [HT.out.1]; omega) HL.out (H1.out.below B2.out) (off_in H1.out (Nat.le_refl _) F2h.out) (by rw [HT.out.2.2]; omega)).mono ?_
  rintro e w3 ⟨rfl, F3, a3, s3⟩
  have A3 := hid a3
  have F3h := hid (show ∀ i, F3 i → w.heap.size ≤ i from s3.high B2.out.size F2h.out)
  have B3 := hid (show Below w.heap.size w w3 from B2.out.trans (s3.below B2.out.size F2h.out))
  clear a3 s3
  go_wp2_with fail
  refine (ar_put_yes h F3 _ l.length ae d m _ A3.out (by rw [Ars.putK_top, HT.out.1]; omega) HM.out (H2.out.below B3.out) (off_in H2.out (Nat.le_refl _) F3h.out) (by rw [Ars.putK_eslen, HT.out.2.2]; omega)).mono ?_
  rintro e w4 ⟨rfl, F4, a4, s4⟩
  have A4 := hid a4
  have F4h := hid (show ∀ i, F4 i → w.heap.size ≤ i from s4.high B3.out.size F3h.out)
  have B4 := hid (show Below w.heap.size w w4 from B3.out.trans (s4.below B3.out.size F3h.out))
  clear a4 s4
  go_wp2
  go_ret
  exact ⟨h, F4, rfl, A4.out, F4h.out, B4.out⟩
end Go.Proofs.Ytnnmaegpiddnbaa
