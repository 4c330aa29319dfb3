/- The laws' told and Lay (layer 9), the document's Bytes, and rows of bytes, over this seat's translation. Conditions: at most a thousand bytes; the words' bounds. -/
import Derived.Test.YtgkpmcmgkdmeeaaDoorUfF
import Derived.Test.YtgkpmcmgkdmeeaaDoorArQ
namespace Go.Proofs.YtgkpmcmgkdmeeaaDoor
open Go.RowKit
set_option linter.unusedVariables false

/-- a slice's bytes -/
def U8s (w : World) (ad : Option Addr) (l : List Nat) : Prop := ∀ k (hk : k < l.length), ∃ x, ad = some x ∧ w.cell? (x.add k) = some (.int .u8 (l[k] : Int))
theorem U8s.below {w w' : World} {ad : Option Addr} {l : List Nat} (h : U8s w ad l) (hb : Below w.heap.size w w') : U8s w' ad l := by
  intro k hk
  obtain ⟨x, rfl, hc⟩ := h k hk
  exact ⟨x, rfl, cell_later hb hc⟩
theorem U8s.drop {w : World} {x : Addr} {l : List Nat} (h : U8s w (some x) l) (n : Nat) : U8s w (some (x.add n)) (l.drop n) := by
  intro k hk
  have hk' : n + k < l.length := by rw [List.length_drop] at hk; omega
  obtain ⟨y, e, hc⟩ := h (n + k) hk'
  cases e
  refine ⟨_, rfl, ?_⟩
  rw [Addr.add_add, List.getElem_drop]; exact hc
theorem U8s.take {w : World} {ad : Option Addr} {l : List Nat} (h : U8s w ad l) (n : Nat) : U8s w ad (l.take n) := by
  intro k hk
  have hk' : k < l.length := by rw [List.length_take] at hk; omega
  obtain ⟨y, e, hc⟩ := h k hk'
  exact ⟨y, e, by rw [List.getElem_take]; exact hc⟩
theorem bytes_u8s {w : World} {g : Nat} {l : List Nat} (h : w.heap[g]? = some (.cells (l.map fun (b : Nat) => Value.int .u8 (b : Int)).toArray 5 (0, 0))) : U8s w (some ⟨g, 0, none⟩) l := fun k hk => by
  refine ⟨_, rfl, ?_⟩
  rw [add_plain]
  exact cell_of_heap h (by simp [hk])

theorem unoted_blw {g : Nat} {ob : Option Nat} {n B : Nat} {xs e : List Value} {w w' : World} (h : Noted g ob n xs e w w') (hB : B ≤ w.heap.size) (hg : B ≤ g) (hob : ∀ k, ob = some k → B ≤ k) : Below B w w' := by
  obtain ⟨k, _, _, h3⟩ := h
  exact h3.below hB (fun i hi x => x.elim (fun x => by omega) (fun x => by have := hob _ x; omega))
set_option maxHeartbeats 800000 in
theorem told9_any (v : Int) (w : World) : Calls Tryd.prog 13 #[sec v] w fun e w' => e = .returned (u32 v) ∧ Below w.heap.size w w' := by
  have HL := hid (show LogAt ((w.alloc (sb v)).alloc (.cells #[.slice none 0 0] 80)).drew (w.heap.size + 1) none 0 [] by
    have := newlog_at (w.alloc (sb v))
    rw [World.size_alloc] at this
    exact this.kept (S := fun _ => False) (Fr.refl _ _).drew (fun x => x) (fun _ _ x => x))
  go_enter Tryd.func13, Tryd.ntmps13
  go_wp2
  go_region_with (first | (go_at_call 37; refine (newlog_any _).mono ?_; rintro e w1 ⟨rfl, rfl⟩) | (go_at_call 38; refine (release_any (w.heap.size + 1) none 0 [] v _ HL.out (by decide)).mono ?_; rintro e w1 ⟨rfl, hN⟩))
  all_goals
    go_wp2
    go_ret
    refine ⟨rfl, ?_⟩
    exact Below.trans (by repeat (first | exact Below.refl _ _ | refine blw_alloc ?_ | refine blw_drew ?_ | assumption)) (unoted_blw hN (by simp; omega) (by omega) (by intro k hk; cases hk))

set_option maxHeartbeats 1600000 in
set_option maxRecDepth 20000 in
theorem rbytes_any (p : Nat) (w : World) (hp : p < 4294967296) : Calls Tryd.prog 14 #[.int .u32 (p : Int)] w fun e w' => (∃ g, e = .returned (.slice (some ⟨g, 0, none⟩) (blB p) (blB p))) ∧ Below w.heap.size w w' := by
  have hcl : p < 128 ∨ (128 ≤ p ∧ p < 2048) ∨ (2048 ≤ p ∧ p < 65536) ∨ 65536 ≤ p := by omega
  unfold blB
  rcases hcl with hcl | hcl | hcl | hcl
  · rw [if_pos hcl]
    have g0 : ((p : Int) < 128) = True := eq_true (by omega)
    clear hcl
    go_enter Tryd.func14, Tryd.ntmps14
    go_wp2
    go_ret
    exact ⟨⟨_, rfl⟩, (by repeat (first | exact Below.refl _ _ | refine blw_alloc ?_ | refine blw_drew ?_ | assumption))⟩
  · rw [if_neg (by omega), if_pos hcl.2]
    have g0 : ((p : Int) < 128) = False := eq_false (by omega)
    have g1 : ((p : Int) < 2048) = True := eq_true (by omega)
    clear hcl
    go_enter Tryd.func14, Tryd.ntmps14
    go_wp2
    go_ret
    exact ⟨⟨_, rfl⟩, (by repeat (first | exact Below.refl _ _ | refine blw_alloc ?_ | refine blw_drew ?_ | assumption))⟩
  · rw [if_neg (by omega), if_neg (by omega), if_pos hcl.2]
    have g0 : ((p : Int) < 128) = False := eq_false (by omega)
    have g1 : ((p : Int) < 2048) = False := eq_false (by omega)
    have g2 : ((p : Int) < 65536) = True := eq_true (by omega)
    clear hcl
    go_enter Tryd.func14, Tryd.ntmps14
    go_wp2
    go_ret
    exact ⟨⟨_, rfl⟩, (by repeat (first | exact Below.refl _ _ | refine blw_alloc ?_ | refine blw_drew ?_ | assumption))⟩
  · rw [if_neg (by omega), if_neg (by omega), if_neg (by omega)]
    have g0 : ((p : Int) < 128) = False := eq_false (by omega)
    have g1 : ((p : Int) < 2048) = False := eq_false (by omega)
    have g2 : ((p : Int) < 65536) = False := eq_false (by omega)
    clear hcl
    go_enter Tryd.func14, Tryd.ntmps14
    go_wp2
    go_ret
    exact ⟨⟨_, rfl⟩, (by repeat (first | exact Below.refl _ _ | refine blw_alloc ?_ | refine blw_drew ?_ | assumption))⟩

/-- bytes as they are laid -/
def layK (l : List Nat) : Nat → Ars
  | 0 => (Ars.new ((l.length * 3 : Nat) : Int)).take ((l.length * 3 : Nat) : Int)
  | k + 1 => (layK l k).storeN k (l.getD k 0)
theorem utake_all (N : Nat) : (Ars.new (N : Int)).canTake (N : Int) = true := by simp [Ars.canTake, Ars.new]
theorem utaken (N : Nat) : ((Ars.new (N : Int)).take (N : Int)).top = N ∧ ((Ars.new (N : Int)).take (N : Int)).ws.length = N ∧ ((Ars.new (N : Int)).take (N : Int)).es.length = 1 := by
  unfold Ars.take
  rw [if_pos (utake_all N)]
  simp [Ars.new]
theorem layK_sizes (l : List Nat) (k : Nat) : (layK l k).top = l.length * 3 ∧ (layK l k).ws.length = l.length * 3 ∧ (layK l k).es.length = 1 + k := by
  induction k with
  | zero => exact utaken _
  | succ k ih => exact ⟨ih.1, by simp only [layK, Ars.storeN_wslen]; exact ih.2.1, by simp only [layK, Ars.storeN_eslen]; omega⟩
theorem layK_word (l : List Nat) (k : Nat) (hk : k ≤ l.length) : ∀ j, j < k → (layK l k).word j = l.getD j 0 := by
  induction k with
  | zero => intro j h; omega
  | succ k ih =>
    intro j hj
    show ((layK l k).storeN k (l.getD k 0)).word j = _
    rw [uword_st _ _ _ (by rw [(layK_sizes l k).2.1]; omega)]
    by_cases e : j = k
    · subst e; simp
    · rw [if_neg e]; exact ih (by omega) j (by omega)
theorem off_new {w : World} {g : Nat} {F : Nat → Prop} {l : List Nat} (h : ¬ F g) : Off F (some ⟨g, 0, none⟩) l.length := fun x hx _ hf => by cases hx; exact h hf
theorem one_u32s {w : World} {g c : Nat} (h : w.heap[g]? = some (.cells #[.int .u32 (c : Int)] 23 (0, 0))) : U32s w (some ⟨g, 0, none⟩) [c] := fun k hk => by
  have : k = 0 := by simp at hk; omega
  subst this
  exact ⟨_, rfl, by rw [add_plain]; exact cell_of_heap h rfl⟩

set_option maxHeartbeats 1600000 in
theorem lay9_any (ad : Option Addr) (c : Nat) (l : List Nat) (w : World) (h1 : U8s w ad l) (hl : ∀ x ∈ l, x < 256) (hn : l.length ≤ 1000) :
    Calls Tryd.prog 8 #[.slice ad l.length c, .int .i64 3] w fun e w' => ∃ h F, e = .returned (arPtr h) ∧ Ar w' h F (layK l l.length) ∧ (∀ i, F i → w.heap.size ≤ i) ∧ Below w.heap.size w w' := by
  have H1 := hid h1
  have HL := hid hl
  clear h1 hl
  have HNN := hid (show ((l.length : Int) * 3) = ((l.length * 3 : Nat) : Int) by omega)
  have HSZ := hid (layK_sizes l)
  have HSUC := hid (show ∀ k, layK l (k + 1) = (layK l k).storeN k (l.getD k 0) from fun k => rfl)
  have HZE := hid (show layK l 0 = (Ars.new ((l.length * 3 : Nat) : Int)).take ((l.length * 3 : Nat) : Int) from rfl)
  go_enter Tryd.func8, Tryd.ntmps8
  go_wp2_with fail
  rw [HNN.out]
  refine (ar_new_at ((l.length * 3 : Nat) : Int) (l.length * 3) _ (Or.inr rfl) (by omega)).mono ?_
  rintro e w1 ⟨h, F1, rfl, a1, hF1, hB1⟩
  have A1 := hid a1
  have F1h := hid hF1
  have B1 := hid hB1
  clear a1 hF1 hB1
  go_wp2_with fail
  rw [HNN.out]
  refine (ar_take_yes h F1 _ ((l.length * 3 : Nat) : Int) _ A1.out (utake_all _) (by simp [Ars.new])).mono ?_
  rintro e w2 ⟨rfl, F2, a2, s2⟩
  rw [← HZE.out] at a2
  have A2 := hid a2
  have F2h := hid (show ∀ i, F2 i → w.heap.size ≤ i from s2.high B1.out.size F1h.out)
  have B2 := hid (show Below w.heap.size w w2 from B1.out.trans (s2.below B1.out.size F1h.out))
  clear a2 s2 A1 F1h B1
  go_wp2_with fail
  go_loopw [22] (fun cc wr => ∃ (k : Nat) (Fk : Nat → Prop), k ≤ l.length ∧ cc = .int .i64 (k : Int) ∧ Ar wr h Fk (layK l k) ∧ (∀ i, Fk i → w.heap.size ≤ i) ∧ Below w.heap.size w wr) (fun cc _ => l.length - (intOf cc).toNat)
  case atStart => exact ⟨0, F2, Nat.zero_le _, rfl, A2.out, F2h.out, B2.out⟩
  case round =>
    obtain ⟨k, Fk, hk, rfl, ak, fk, bk'⟩ := hrel
    by_cases hlt : k < l.length
    · have AK := hid ak
      have FK := hid fk
      have BK := hid bk'
      obtain ⟨x, rfl, hcell⟩ := H1.out k hlt
      replace hcell := cell_later BK.out hcell
      have hcb := HL.out l[k] (List.getElem_mem hlt)
      have HSU := hid (show layK l (k + 1) = (layK l k).storeN k l[k] by rw [HSUC.out k]; simp [List.getD_eq_getElem?_getD, hlt])
      obtain ⟨t1, t2, t3⟩ := HSZ.out k
      have HT := hid (show k + 1 ≤ (layK l k).top ∧ (layK l k).es.length ≤ 1001 from ⟨by omega, by omega⟩)
      obtain ⟨B, hB⟩ : ∃ B, layK l k = B := ⟨_, rfl⟩
      rw [hB] at AK HSU HT
      obtain ⟨b, hb⟩ : ∃ b, l[k] = b := ⟨_, rfl⟩
      rw [hb] at hcell hcb HSU
      have hcw : IntKind.u32.wrap (b : Int) = (b : Int) := by rw [IntKind.wrap_u32]; omega
      clear ak fk bk' hB hb t1 t2 t3 A2 F2h B2
      go_wp2_with fail
      have AW := hid (AK.out.alloc (.cells #[.int .u32 (b : Int)] 23))
      have BW := hid (show Below w.heap.size w (wr.alloc (.cells #[.int .u32 (b : Int)] 23)) from belowCat BK.out ((Below.refl wr.heap.size wr).alloc (Nat.le_refl _) _))
      have UW := hid (one_u32s (heap_alloc_at wr (.cells #[.int .u32 (b : Int)] 23)))
      refine (ar_put_yes h Fk B k (some ⟨wr.heap.size, 0, none⟩) 1 [b] _ AW.out HT.out.1 (by intro x hx; simp at hx; omega) UW.out (off_new (w := wr) (fun x => absurd (AK.out.lt _ x) (Nat.lt_irrefl _))) (by have := HT.out.2; simp; omega)).mono ?_
      rintro e w3 ⟨rfl, F3, a3, s3⟩
      have A3 := hid (show Ar w3 h F3 (layK l (k + 1)) by rw [HSU.out]; exact a3)
      have F3h := hid (show ∀ i, F3 i → w.heap.size ≤ i from s3.high BW.out.size FK.out)
      have B3 := hid (show Below w.heap.size w w3 from BW.out.trans (s3.below BW.out.size FK.out))
      clear a3 s3 hcell
      go_wp2
      go_roundw
      case rel => exact ⟨k + 1, F3, by omega, by go_num, A3.out, F3h.out, B3.out⟩
      case measure => simp [intOf]; omega
    · have hkn : k = l.length := by omega
      subst hkn
      have AK := hid ak
      have FK := hid fk
      have BK := hid bk'
      clear ak fk bk' A2 F2h B2
      go_wp2
      go_ret
      exact ⟨h, Fk, rfl, AK.out, FK.out, BK.out⟩
end Go.Proofs.YtgkpmcmgkdmeeaaDoor
