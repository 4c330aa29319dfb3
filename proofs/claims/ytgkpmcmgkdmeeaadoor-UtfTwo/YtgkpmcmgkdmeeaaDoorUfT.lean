/- The laws' points (layer 9): a text's points, by the program. Conditions: at most 100 bytes; the variable leads holds what the program's text lays there. -/
import Derived.Test.YtgkpmcmgkdmeeaaDoorUfM
import Derived.Test.YtgkpmcmgkdmeeaaDoorUfV
namespace Go.Proofs.YtgkpmcmgkdmeeaaDoor
open Go.RowKit
set_option linter.unusedVariables false

/-- lanes as they are left -/
def effL (l : List Nat) : List (Option Nat) := if good (runL us0 l) then lanes us0 l else List.replicate l.length none
def lptsOf (o : List (Option Nat)) : List Nat := o.filterMap id
theorem effL_len (l : List Nat) : (effL l).length = l.length := by unfold effL; split; exact lanes_len _ _; simp
theorem lpts_none (o : List (Option Nat)) (i : Nat) (h : i < o.length) (e : o[i] = none) : lptsOf (o.take (i + 1)) = lptsOf (o.take i) := by
  unfold lptsOf; rw [List.take_succ_eq_append_getElem h, List.filterMap_append]; simp [e]
theorem lpts_some (o : List (Option Nat)) (i p : Nat) (h : i < o.length) (e : o[i] = some p) : lptsOf (o.take (i + 1)) = lptsOf (o.take i) ++ [p] := by
  unfold lptsOf; rw [List.take_succ_eq_append_getElem h, List.filterMap_append]; simp [e]
theorem lpts_len (o : List (Option Nat)) (i : Nat) : (lptsOf (o.take i)).length ≤ i := by
  unfold lptsOf
  exact Nat.le_trans (List.length_filterMap_le _ _) (by rw [List.length_take]; omega)
theorem eff_words (A : Ars) (l : List Nat) (hb : ∀ b ∈ l, b < 256) (hw : A.ws.length = l.length * 3) (hX : ∀ i (h : i < l.length), A.word i % 256 = l[i]) :
    goodS A 0 l.length l.length = good (runL us0 l) ∧ ∀ i (hi : i < (effL l).length), (dec2 A 0 l.length (2 * l.length) l.length l.length l.length).word (l.length + i) = lnv (some (effL l)[i]) ∧ (dec2 A 0 l.length (2 * l.length) l.length l.length l.length).word (2 * l.length + i) = mk (lnk (some (effL l)[i])) := by
  obtain ⟨h1, h2⟩ := dec_lanes A l hb l.length hw hX
  have e : l.take (min l.length l.length) = l := by rw [Nat.min_self, List.take_length]
  rw [e] at h1 h2
  refine ⟨h1, fun i hi => ?_⟩
  have hi' : i < l.length := by rw [effL_len] at hi; exact hi
  obtain ⟨g1, g2⟩ := h2 i hi'
  rw [g1, g2, ← List.getElem?_eq_getElem hi]
  unfold effL
  cases hg : good (runL us0 l)
  · simp [hi', lnv, lnk, mk]
  · simp
theorem uar_grown {w w' : World} {h : Hn} {F : Nat → Prop} {A : Ars} {row : Option Nat} (a : Ar w h F A) (hg : w.grownBy w' row) (hn : ∀ j, row = some j → ¬ F j) : Ar w' h F A :=
  a.kept (G := fun i => some i = row) ⟨hg.os, hg.tape, hg.output, hg.size, fun k hk hn => hg.block k hk hn⟩ (fun i hF e => hn i e.symm hF)

set_option maxHeartbeats 3200000 in
set_option maxRecDepth 20000 in
theorem lpoints_any (ad : Option Addr) (c : Nat) (l : List Nat) (w : World) (h1 : U8s w ad l) (hl : ∀ x ∈ l, x < 256) (hn : l.length ≤ 100) (t : Lv w) :
    Calls Tryd.prog 20 #[.slice ad l.length c] w fun e w' => ∃ sd sc, e = .returned (.tuple #[.slice sd (lptsOf (effL l)).length sc, .bool (good (runL us0 l))]) ∧ w'.ownsRow w.heap.size 23 1 (.slice sd (lptsOf (effL l)).length sc) (lptsOf (effL l)).length (secs (lptsOf (effL l))) ∧ Below w.heap.size w w' := by
  obtain ⟨i0, hi, hz0, hz1, hz2⟩ := info_parts Tryd.infoU32
  have H1 := hid h1
  have HL := hid hl
  have HT := hid t
  have HTP := hid t.pos
  have HSZ := hid (layK_sizes l l.length)
  have HX := hid (show ∀ i (h : i < l.length), (layK l l.length).word i % 256 = l[i] from fun i h => by
    rw [layK_word l l.length (Nat.le_refl _) i h]
    have e : l.getD i 0 = l[i] := by simp [List.getD_eq_getElem?_getD, h]
    rw [e]; exact Nat.mod_eq_of_lt (hl _ (List.getElem_mem h)))
  obtain ⟨hg, hw⟩ := eff_words (layK l l.length) l hl HSZ.out.2.1 HX.out
  have HRF := hid (lay_rfine (layK l l.length) l.length (by rw [HSZ.out.1]; exact Nat.le_refl _))
  have HDZ := hid (dec_sizes (layK l l.length) 0 l.length (2 * l.length) l.length l.length l.length)
  have HEL := hid (effL_len l)
  obtain ⟨g, hge⟩ : ∃ g, good (runL us0 l) = g := ⟨_, rfl⟩
  obtain ⟨o, hoe⟩ : ∃ o, effL l = o := ⟨_, rfl⟩
  rw [hge] at hg ⊢
  rw [hoe] at HEL ⊢
  have HW := hid (show ∀ i (hi : i < o.length), (dec2 (layK l l.length) 0 l.length (2 * l.length) l.length l.length l.length).word (l.length + i) = lnv (some o[i]) ∧ (dec2 (layK l l.length) 0 l.length (2 * l.length) l.length l.length l.length).word (2 * l.length + i) = mk (lnk (some o[i])) from by subst hoe; exact hw)
  have HG := hid hg
  obtain ⟨B, hB⟩ : ∃ B, dec2 (layK l l.length) 0 l.length (2 * l.length) l.length l.length l.length = B := ⟨_, rfl⟩
  rw [hB] at HW HDZ
  have HBE := hid hB
  have HBZ := hid (show B.top = l.length * 3 ∧ B.es.length ≤ 1000 from ⟨by rw [HDZ.out.1, HSZ.out.1], by rw [HDZ.out.2.2, HSZ.out.2.2]; omega⟩)
  have HNN := hid (show (2 * (l.length : Int)) = ((2 * l.length : Nat) : Int) by omega)
  have hcw : IntKind.u32.wrap (l.length : Int) = (l.length : Int) := by rw [IntKind.wrap_u32]; omega
  clear h1 hl t hg hw hge hoe hB HX HDZ
  go_enter Tryd.func20, Tryd.ntmps20
  go_wp2_with fail
  refine (lay9_any ad c l _ H1.out HL.out (by omega)).mono ?_
  rintro e w1 ⟨h, F1, rfl, a1, hF1, hB1⟩
  have A1 := hid a1
  have F1h := hid hF1
  have B1 := hid hB1
  clear a1 hF1 hB1
  go_wp2_with fail
  refine (of_b _ _).mono ?_
  rintro e w2 ⟨rfl, hB2⟩
  have A2 := hid (A1.out.below hB2)
  have B2 := hid (belowCat B1.out hB2)
  clear hB2 A1 B1
  go_wp2_with fail
  rw [HNN.out]
  refine (decode_yes h F1 (layK l l.length) 0 l.length (2 * l.length) l.length l.length _ A2.out (by omega) (by omega) HRF.out (by rw [HSZ.out.2.2]; omega) (HT.out.below B2.out) (fun x => by have := F1h.out _ x; have := HTP.out; omega)).mono ?_
  rintro e w3 ⟨rfl, F3, a3, s3⟩
  rw [HBE.out] at a3
  rw [HG.out]
  have A3 := hid (a3.alloc (sb (mk (!g) : Nat)))
  have F3h := hid (show ∀ i, F3 i → w.heap.size ≤ i from s3.high B2.out.size F1h.out)
  have B3 := hid (show Below w.heap.size w (w3.alloc (sb (mk (!g) : Nat))) from blw_alloc (B2.out.trans (s3.below B2.out.size F1h.out)))
  have Y3 := hid (show (w3.alloc (sb (mk (!g) : Nat))).heap[w3.heap.size]? = some (sb (mk (!g) : Nat)) ∧ ¬ F3 w3.heap.size from ⟨heap_alloc_at _ _, fun x => absurd (a3.lt _ x) (Nat.lt_irrefl _)⟩)
  clear a3 s3 A2 B2 F1h HRF HSZ
  go_wp2_with fail
  generalize (w3.alloc (.cells #[.int .u32 (mk (!g) : Nat)] 32)) = w4 at *
  have HYE := hid (rfl : w3.heap.size = w3.heap.size)
  obtain ⟨y, hy⟩ : ∃ y, w3.heap.size = y := ⟨_, rfl⟩
  rw [hy] at Y3
  rw [hy]
  clear hy HYE
  go_loopw [8, 27] (fun c8 c27 wr => ∃ (i : Nat) (Fi : Nat → Prop) (Bi : Ars) (q : List Nat) (sd : Option Addr) (sc : Nat), i ≤ l.length ∧ q = lptsOf (o.take i) ∧ c8 = .slice sd q.length sc ∧ c27 = .int .i64 (i : Int) ∧ Ar wr h Fi Bi ∧ (Bi.ws = B.ws ∧ Bi.top = B.top ∧ Bi.es.length ≤ B.es.length + 4 * i) ∧ wr.ownsRow w.heap.size 23 1 (.slice sd q.length sc) q.length (secs q) ∧ (∀ j, (Value.slice sd q.length sc).ownBlock = some j → ¬ Fi j ∧ j ≠ y) ∧ (∀ p, Fi p → w.heap.size ≤ p) ∧ Below w.heap.size w wr ∧ wr.heap[y]? = some (sb (mk (!g) : Nat)) ∧ ¬ Fi y) (fun _ c27 _ => l.length - (intOf c27).toNat)
  case atStart => exact ⟨0, F3, B, [], none, 0, Nat.zero_le _, by simp [lptsOf], rfl, rfl, A3.out, ⟨rfl, rfl, by omega⟩, ⟨rfl, Or.inl ⟨rfl, rfl⟩⟩, (fun j hj => by cases hj), F3h.out, B3.out, Y3.out.1, Y3.out.2⟩
  case round =>
    obtain ⟨i, Fi, Bi, q, sd, sc, hin, hq, rfl, rfl, ai, hbi, hown, hro, hfi, hbl, hyi, hny⟩ := hrel
    have AI := hid ai
    have HBI := hid hbi
    have HO := hid hown
    have HRO := hid hro
    have FI := hid hfi
    have BI := hid hbl
    have YI := hid (And.intro hyi hny)
    have hql : q.length ≤ 100 := by rw [hq]; exact Nat.le_trans (lpts_len o i) (by omega)
    have HQ := hid hq
    clear ai hbi hown hro hfi hbl hyi hny hq A3 F3h B3 Y3
    by_cases hlt : i < l.length
    · have hio : i < o.length := by rw [HEL.out]; exact hlt
      obtain ⟨e1, e2⟩ := HW.out i hio
      have HR2 := hid (urel_at (A := Bi) (N := 2 * l.length) (i := i) (by rw [HBI.out.2.1, HBZ.out.1]; omega))
      rw [word_ws HBI.out.1, e2] at HR2
      have HR1 := hid (urel_at (A := Bi.relN (2 * l.length + i)) (N := l.length) (i := i) (by show _ < Bi.top; rw [HBI.out.2.1, HBZ.out.1]; omega))
      have hrw : (Bi.relN (2 * l.length + i)).ws = B.ws := HBI.out.1
      rw [word_ws hrw, e1] at HR1
      have HE8 := hid (show (Bi.relN (2 * l.length + i)).es.length = Bi.es.length + 2 from Ars.relN_eslen)
      have HE9 := hid (show ((Bi.relN (2 * l.length + i)).relN (l.length + i)).es.length = Bi.es.length + 4 by rw [Ars.relN_eslen, Ars.relN_eslen])
      clear e1 e2 hrw
      have hl2 : IntKind.i64.wrap (2 * (l.length : Int)) = 2 * (l.length : Int) := by rw [IntKind.wrap_i64]; omega
      go_wp2_with fail
      rw [HNN.out]
      refine (ar_rel h Fi Bi (((2 * l.length : Nat) : Int) + (i : Int)) _ AI.out (by omega) (by have := HBI.out.2.2; have := HBZ.out.2; omega)).mono ?_
      rintro e w5 ⟨rfl, F5, a5, s5⟩
      rw [HR2.out.1]
      rw [HR2.out.2] at a5
      have A5 := hid a5
      have O5 := hid (owns_of_blocks (w' := w5) HO.out fun k hk => s5.fr.block k (HO.out.lt k hk).2 (HRO.out k hk).1)
      have RO5 := hid (show ∀ j, (Value.slice sd q.length sc).ownBlock = some j → ¬ F5 j ∧ j ≠ y from fun j hj => ⟨s5.out (HRO.out j hj).1 (HO.out.lt j hj).2, (HRO.out j hj).2⟩)
      have F5h := hid (show ∀ p, F5 p → w.heap.size ≤ p from s5.high BI.out.size FI.out)
      have B5 := hid (show Below w.heap.size w w5 from BI.out.trans (s5.below BI.out.size FI.out))
      have Y5 := hid (And.intro (s5.heap YI.out.1 YI.out.2) (s5.out YI.out.2 (lt_of_heap YI.out.1)))
      clear a5 s5 AI HO HRO FI BI YI
      cases ho : o[i] with
      | none =>
        rw [show mk (lnk (some none)) = 0 from rfl]
        have HN := hid (lpts_none o i hio ho)
        go_wp2
        go_roundw
        case rel => exact ⟨i + 1, F5, Bi.relN (2 * l.length + i), q, sd, sc, by omega, by rw [HN.out]; exact HQ.out, rfl, by go_num, A5.out, ⟨HBI.out.1, HBI.out.2.1, by rw [HE8.out]; have := HBI.out.2.2; omega⟩, O5.out, RO5.out, F5h.out, B5.out, Y5.out.1, Y5.out.2⟩
        case measure => simp [intOf]; omega
      | some p =>
        rw [ho] at HR1
        rw [show mk (lnk (some (some p))) = 4294967295 from rfl]
        have HN := hid (lpts_some o i p hio ho)
        go_wp2_with fail
        refine (ar_rel h F5 (Bi.relN (2 * l.length + i)) ((l.length : Int) + (i : Int)) _ A5.out (by omega) (by rw [HE8.out]; have := HBI.out.2.2; have := HBZ.out.2; omega)).mono ?_
        rintro e w6 ⟨rfl, F6, a6, s6⟩
        rw [HR1.out.1]
        rw [HR1.out.2] at a6
        have A6 := hid a6
        have O6 := hid (owns_of_blocks (w' := w6) O5.out fun k hk => s6.fr.block k (O5.out.lt k hk).2 (RO5.out k hk).1)
        have RO6 := hid (show ∀ j, (Value.slice sd q.length sc).ownBlock = some j → ¬ F6 j ∧ j ≠ y from fun j hj => ⟨s6.out (RO5.out j hj).1 (O5.out.lt j hj).2, (RO5.out j hj).2⟩)
        have F6h := hid (show ∀ p, F6 p → w.heap.size ≤ p from s6.high B5.out.size F5h.out)
        have B6 := hid (show Below w.heap.size w w6 from B5.out.trans (s6.below B5.out.size F5h.out))
        have Y6 := hid (And.intro (s6.heap Y5.out.1 Y5.out.2) (s6.out Y5.out.2 (lt_of_heap Y5.out.1)))
        clear a6 s6 A5 O5 RO5 F5h B5 Y5
        rw [show lnv (some (some p)) = p from rfl]
        have HOC := hid (show (w6.alloc (.cells #[.int .u32 (p : Int)] 23)).ownsRow w.heap.size 23 1 (.slice sd q.length sc) q.length (secs q) from owns_below O6.out ((Below.refl _ _).alloc (Nat.le_refl _) _))
        have BC := hid (show Below w.heap.size w (w6.alloc (.cells #[.int .u32 (p : Int)] 23)) from blw_alloc B6.out)
        have AC := hid (A6.out.alloc (.cells #[.int .u32 (p : Int)] 23))
        have YC := hid ((heap_alloc_old w6 (.cells #[.int .u32 (p : Int)] 23) _ (lt_of_heap Y6.out.1)).trans Y6.out.1)
        have HOB := hid (show ∀ j, (Value.slice sd q.length sc).ownBlock = some j → w.heap.size ≤ j from fun j hj => (HOC.out.lt j hj).1)
        go_wp2_with (at_builtin; refine wpList_append_lies _ rfl (.tmp 37) (.tmp 43) 29 rfl w.heap.size 23 i0 _ 1 4 Tryd.underlying29 hi hz0 hz1 hz2 rfl (by decide) (.slice sd q.length sc) q.length (secs q) rfl HOC.out ⟨w6.heap.size, 0, none⟩ 1 1 [.int .u32 (p : Int)] rfl rfl ?c1 ?c2 (by decide) ?c3 ?c4 ?c5 _ rfl ?_)
        case c1 => exact World.news_of_block (heap_alloc_at _ _)
        case c2 => intro u hu; simp only [List.mem_cons, List.not_mem_nil, or_false] at hu; rcases hu with rfl; rfl
        case c3 => unfold maxLen; omega
        case c4 => omega
        case c5 => exact BC.out.size
        intro g7 cap7 w7 hown' hgrow hat hlt2
        have hl7 : (q ++ [p]).length = q.length + 1 := by simp
        have HO7 := hid (show w7.ownsRow w.heap.size 23 1 (.slice (some ⟨g7, 0, none⟩) (q ++ [p]).length cap7) (q ++ [p]).length (secs (q ++ [p])) from by rw [secs_snoc9, hl7]; simpa [secs] using hown')
        have B7 := hid (BC.out.grown hgrow BC.out.size HOB.out)
        have A7 := hid (uar_grown AC.out hgrow (fun j hj => (RO6.out j hj).1))
        have Y7 := hid ((hgrow.block y (lt_of_heap YC.out) (fun e => (RO6.out y e.symm).2 rfl)).trans YC.out)
        have RO7 := hid (show ∀ j, (Value.slice (some ⟨g7, 0, none⟩) (q ++ [p]).length cap7).ownBlock = some j → ¬ F6 j ∧ j ≠ y from fun j hj => by
          have ej : g7 = j := by simpa [Value.ownBlock] using hj
          subst ej
          rcases hat with hh | hh
          · exact RO6.out g7 hh
          · have h3 := lt_of_heap Y6.out.1
            have h4 : w6.heap.size ≤ g7 := by rw [hh]; simp
            exact ⟨fun x => by have := A6.out.lt _ x; omega, by omega⟩)
        clear hown' hgrow hat hlt2
        go_wp2
        go_roundw
        case rel => exact ⟨i + 1, F6, (Bi.relN (2 * l.length + i)).relN (l.length + i), q ++ [p], some ⟨g7, 0, none⟩, cap7, by omega, by rw [HN.out, ← HQ.out], by rw [hl7], by go_num, A7.out, ⟨HBI.out.1, HBI.out.2.1, by rw [HE9.out]; have := HBI.out.2.2; omega⟩, HO7.out, RO7.out, F6h.out, B7.out, Y7.out, Y6.out.2⟩
        case measure => simp [intOf]; omega
    · have hil : i = l.length := by omega
      have hto : o.take i = o := List.take_of_length_le (by rw [HEL.out]; omega)
      rw [hto] at HQ
      have HQ' := hid HQ.out
      have ky := cell_s1 YI.out.1
      clear hto HQ hlt
      cases g with
      | false =>
        have ky : wr.cell? ⟨y, 0, none⟩ = some (.int .u32 4294967295) := ky
        go_wp2_with fail
        refine (told9_any _ _).mono ?_
        rintro e w9 ⟨rfl, hB9⟩
        have B9 := hid (belowCat BI.out hB9)
        have O9 := hid (owns_below HO.out hB9)
        clear hB9 ky
        go_wp2
        have hq9 : q = lptsOf o := HQ'.out
        subst hq9
        exact bodyPost_ret (v := .tuple #[.slice sd (lptsOf o).length sc, .bool false]) (by simp [results, Tryd.results20, go_sem, mk]) rfl ⟨sd, sc, rfl, O9.out, B9.out⟩
      | true =>
        have ky : wr.cell? ⟨y, 0, none⟩ = some (.int .u32 0) := ky
        go_wp2_with fail
        refine (told9_any _ _).mono ?_
        rintro e w9 ⟨rfl, hB9⟩
        have B9 := hid (belowCat BI.out hB9)
        have O9 := hid (owns_below HO.out hB9)
        clear hB9 ky
        go_wp2
        have hq9 : q = lptsOf o := HQ'.out
        subst hq9
        exact bodyPost_ret (v := .tuple #[.slice sd (lptsOf o).length sc, .bool true]) (by simp [results, Tryd.results20, go_sem, mk]) rfl ⟨sd, sc, rfl, O9.out, B9.out⟩
end Go.Proofs.YtgkpmcmgkdmeeaaDoor
