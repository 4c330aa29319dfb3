/- The law UnutfBack returns true at all inputs. Conditions: the variables places and leads hold what the program's text lays there. -/
import Derived.Test.YtjcnkigadlmpgaaDoorUnE
import Derived.Test.YtjcnkigadlmpgaaDoorUnQ
import Derived.Test.YtjcnkigadlmpgaaDoorUnV
import Derived.Deep.Cut
namespace Go.Proofs.YtjcnkigadlmpgaaDoor
open Go.RowKit
set_option linter.unusedVariables false

/-- what the lanes hold behind Decode of bytes that are UTF-8, where more words stand behind them -/
theorem back_lanes (A : Ars) (l : List Nat) (hb : ∀ b ∈ l, b < 256) (hw : l.length * 3 ≤ A.ws.length) (hX : ∀ i (h : i < l.length), A.word i % 256 = l[i]) (hg0 : good (runL us0 l) = true) :
    goodS A 0 l.length l.length = true ∧
    ∀ i, i < l.length → (dec2 A 0 l.length (2 * l.length) l.length l.length l.length).word (l.length + i) = lnv ((lanes us0 l)[i]?) ∧
      (dec2 A 0 l.length (2 * l.length) l.length l.length l.length).word (2 * l.length + i) = mk (lnk ((lanes us0 l)[i]?)) := by
  have ht : l.take (min l.length l.length) = l := by rw [Nat.min_self, List.take_length]
  have hX' : ∀ i (h : i < l.length), A.word (0 + i) % 256 = l[i] := fun i h => by rw [Nat.zero_add]; exact hX i h
  have hg : goodS A 0 l.length l.length = true := by
    have h : goodS A 0 l.length l.length = good (runL us0 (l.take (min l.length l.length))) := good_run l _ l.length hX'
    rw [h, ht, hg0]
  refine ⟨hg, fun i hi => ?_⟩
  have hwl : (dec1 A 0 l.length (2 * l.length) l.length l.length).ws.length = A.ws.length := d1_wl A 0 l.length (2 * l.length) (ovS (fun i => A.word (0 + i)) l.length) (fun i => mk (enS (fun i => A.word (0 + i)) l.length i)) l.length
  obtain ⟨e1, e2⟩ := d2_lanes (dec1 A 0 l.length (2 * l.length) l.length l.length) l.length (2 * l.length) (fun i => andW (mk (goodS A 0 l.length l.length)) ((dec1 A 0 l.length (2 * l.length) l.length l.length).word (l.length + i))) (fun i => andW (mk (goodS A 0 l.length l.length)) ((dec1 A 0 l.length (2 * l.length) l.length l.length).word (2 * l.length + i))) l.length (by omega) (by omega) (by omega) i hi
  obtain ⟨f1, f2⟩ := d1_lanes A 0 l.length (2 * l.length) (ovS (fun i => A.word (0 + i)) l.length) (fun i => mk (enS (fun i => A.word (0 + i)) l.length i)) l.length (by omega) (by omega) (by omega) i hi
  obtain ⟨g1, g2⟩ := lane_words l hb (fun i => A.word (0 + i)) l.length hX' i hi
  rw [ht] at g1 g2
  have hpl : lnv ((lanes us0 l)[i]?) < 4294967296 := by rw [← g2]; exact ovS_lt ..
  unfold dec2
  rw [e1, e2, hg]
  unfold dec1
  rw [f1, f2, g1, g2, mk_and _ _ hpl, mk_and _ _ (mk_lt _)]
  exact ⟨rfl, rfl⟩
/-- bytes as they are laid -/
def layB (l : List Nat) : Nat → Ars
  | 0 => (Ars.new ((16 * l.length : Nat) : Int)).take ((4 * l.length : Nat) : Int)
  | k + 1 => (layB l k).storeN k (l.getD k 0)
theorem layB_take (n : Nat) : (Ars.new ((16 * n : Nat) : Int)).canTake ((4 * n : Nat) : Int) = true := by simp only [Ars.canTake, Ars.new, List.length_replicate]; exact decide_eq_true (by omega)
theorem layB_sizes (l : List Nat) (k : Nat) : (layB l k).top = 4 * l.length ∧ (layB l k).ws.length = 16 * l.length ∧ (layB l k).es.length = 1 + k := by
  induction k with
  | zero =>
    show ((Ars.new ((16 * l.length : Nat) : Int)).take ((4 * l.length : Nat) : Int)).top = _ ∧ ((Ars.new ((16 * l.length : Nat) : Int)).take ((4 * l.length : Nat) : Int)).ws.length = _ ∧ ((Ars.new ((16 * l.length : Nat) : Int)).take ((4 * l.length : Nat) : Int)).es.length = _
    rw [Ars.take_yes (layB_take _)]
    refine ⟨?_, ?_, rfl⟩
    · show 0 + ((4 * l.length : Nat) : Int).toNat = _; omega
    · simp only [Ars.new, List.length_replicate]; omega
  | succ k ih => exact ⟨ih.1, by simp only [layB, Ars.storeN_wslen]; exact ih.2.1, by simp only [layB, Ars.storeN_eslen]; omega⟩
theorem layB_word (l : List Nat) (k : Nat) (hk : k ≤ l.length) : ∀ j, j < k → (layB l k).word j = l.getD j 0 := by
  induction k with
  | zero => intro j h; omega
  | succ k ih =>
    intro j hj
    show ((layB l k).storeN k (l.getD k 0)).word j = _
    rw [unword_st _ _ _ (by rw [(layB_sizes l k).2.1]; omega)]
    by_cases e : j = k
    · subst e; simp
    · rw [if_neg e]; exact ih (by omega) j (by omega)
theorem bklay_rfine (A : Ars) (n : Nat) (h : 4 * n ≤ A.top) : Rfine A [((n : Int), (n : Int)), (((2 * n : Nat) : Int), (n : Int)), (((3 * n : Nat) : Int), (n : Int))] := by
  refine (rfine_of A (n : Int) [(n : Int), ((2 * n : Nat) : Int), ((3 * n : Nat) : Int)] (by omega)).2 ⟨fun z hz => ?_, ?_⟩
  · simp only [List.mem_cons, List.not_mem_nil, or_false] at hz
    rw [Ars.fits_iff]
    rcases hz with rfl | rfl | rfl <;> omega
  · simp only [List.pairwise_cons, List.mem_cons, ApartZ, List.not_mem_nil, or_false, forall_eq_or_imp, forall_eq]
    exact ⟨⟨by omega, by omega⟩, by omega, by simp⟩
theorem unrel_bk {A : Ars} {N i : Nat} (h : N + i < A.top) : A.loadV ((N : Int) + (i : Int)) = A.word (N + i) ∧ A.rel ((N : Int) + (i : Int)) = A.relN (N + i) := by
  have hf : A.fits ((N : Int) + (i : Int)) 1 = true := by rw [Ars.fits_iff]; omega
  have e : ((N : Int) + (i : Int)).toNat = N + i := by omega
  unfold Ars.loadV Ars.rel
  rw [if_pos hf, if_pos hf, e]; exact ⟨rfl, rfl⟩

theorem nu8s_row {w : World} {ad : Option Addr} {len cap : Nat} {zs : List Int} (h : IsRow .u8 w ad len cap zs) : ∃ l : List Nat, l.length = len ∧ (∀ x ∈ l, x < 256) ∧ U8s w ad l ∧ len ≤ cap := by
  have hlz : len ≤ zs.length ∧ len ≤ cap := by
    rcases h with ⟨_, h0, _, _⟩ | ⟨x, _, h1, _, h2, _⟩ <;> omega
  have hlen : ((zs.take len).map Int.toNat).length = len := by simp; omega
  have hget : ∀ k (hk : k < ((zs.take len).map Int.toNat).length), zs[k]? = some (zs.getD k 0) ∧ ((zs.take len).map Int.toNat)[k] = (zs.getD k 0).toNat := by
    intro k hk
    have hk2 : k < zs.length := by omega
    simp [hk2, List.getD]
  have hwf : ∀ n, (Lit.int .u8 n).wf = true → 0 ≤ n ∧ n < 256 := fun n h => by
    simp only [Lit.wf, Bool.and_eq_true, decide_eq_true_eq] at h
    have hmin : IntKind.u8.min = 0 := rfl
    have hmax : IntKind.u8.max = 255 := rfl
    omega
  have hmem : ∀ n ∈ zs, (Lit.int .u8 n).wf = true := by
    rcases h with ⟨_, _, _, rfl⟩ | ⟨x, _, _, _, _, _, h3⟩
    · intro n hn; cases hn
    · exact h3
  refine ⟨(zs.take len).map Int.toNat, hlen, ?_, ?_, hlz.2⟩
  · intro x hx
    obtain ⟨n, hn, rfl⟩ := List.mem_map.1 hx
    have := hwf n (hmem n (List.mem_of_mem_take hn)); omega
  · intro k hk
    rcases h with ⟨_, h0, _, _⟩ | ⟨x, rfl, h1, _, h2, h3, h4⟩
    · omega
    · refine ⟨x, rfl, ?_⟩
      obtain ⟨g1, g2⟩ := hget k hk
      have hb := hwf _ (h4 _ (List.mem_of_getElem? g1))
      rw [g2, h3 k (by omega), Int.toNat_of_nonneg hb.1]

set_option maxHeartbeats 6400000 in
set_option maxRecDepth 20000 in
theorem back_in (ad : Option Addr) (c : Nat) (l : List Nat) (w : World) (h1 : U8s w ad l) (hl : ∀ x ∈ l, x < 256) (hcp : l.length ≤ c) (hn : l.length ≤ 60) (t : Pv w) (u : Lv w) :
    Calls Tryd.prog 4 #[.slice ad l.length c] w fun e w' => e = .returned (.bool true) ∧ Below w.heap.size w w' := by
  have H1 := hid h1
  have HL := hid hl
  have HT := hid t
  have HTP := hid t.pos
  have HV := hid u
  have HVP := hid u.pos
  have HPT := hid (fun w' (h : U8s w' ad l) => rpoints_any ad c l w' h hl (by omega) hcp)
  have HRD := hid (dpsA_read l hl)
  have HSZ := hid (layB_sizes l)
  have HSUC := hid (show ∀ k, layB l (k + 1) = (layB l k).storeN k (l.getD k 0) from fun k => rfl)
  have HZE := hid (show layB l 0 = (Ars.new ((16 * l.length : Nat) : Int)).take ((4 * l.length : Nat) : Int) from rfl)
  have HBK := hid (back_lanes (layB l l.length) l hl (by rw [HSZ.out l.length |>.2.1]; omega) (fun i hi => by
    rw [layB_word l l.length (Nat.le_refl _) i hi]
    have e : l.getD i 0 = l[i] := by simp [List.getD_eq_getElem?_getD, hi]
    rw [e]; exact Nat.mod_eq_of_lt (hl _ (List.getElem_mem hi))))
  have HEB := hid (enc_back l hl)
  have HRF := hid (lay_rfine (layB l l.length) l.length (by rw [(HSZ.out l.length).1]; omega))
  have HDZ := hid (dec_sizes (layB l l.length) 0 l.length (2 * l.length) l.length l.length l.length)
  have HZF := hid (HSZ.out l.length)
  have HGD := hid (show ∀ i (hi : i < l.length), l.getD i 0 = l[i] from fun i hi => by simp [List.getD_eq_getElem?_getD, hi])
  have hni : ¬ (60 : Int) < (l.length : Int) := by omega
  clear h1 hl t u
  go_enter Tryd.func4, Tryd.ntmps4
  go_wp2_with fail
  refine (awake10_any _ HT.out).mono ?_
  rintro e w1 ⟨rfl, hB1⟩
  have B1 := hid hB1
  clear hB1
  go_wp2_with fail
  refine (HPT.out _ (H1.out.below B1.out)).mono ?_
  rintro e w2 ⟨hps, hB2⟩
  have B2 := hid (belowCat B1.out hB2)
  clear hB2 HPT B1
  rcases hps with ⟨hT, rfl⟩ | ⟨ps, v, hT, rfl, ho⟩
  · clear HBK HEB HRF HDZ HZF HSZ HSUC HZE HRD hT
    go_wp2
    go_ret
    exact ⟨rfl, B2.out⟩
  · obtain ⟨sd, sc, rfl⟩ := owns_shape ho
    have HGO := hid (HRD.out.1 ps hT).1
    clear ho hT HRD
    have HN16 := hid (show 16 * (l.length : Int) = ((16 * l.length : Nat) : Int) by omega)
    have HN4 := hid (show 4 * (l.length : Int) = ((4 * l.length : Nat) : Int) by omega)
    go_wp2_with fail
    rw [HN16.out]
    refine (ar_new_at ((16 * l.length : Nat) : Int) (16 * l.length) _ (Or.inr rfl) (by omega)).mono ?_
    rintro e w3 ⟨h, F3, rfl, a3, hF3, hB3⟩
    have A3 := hid a3
    have F3h := hid (show ∀ i, F3 i → w.heap.size ≤ i from fun i hi => Nat.le_trans B2.out.size (hF3 i hi))
    have B3 := hid (belowCat B2.out hB3)
    clear a3 hF3 hB3 B2
    go_wp2_with fail
    rw [HN4.out]
    refine (ar_take_yes h F3 _ ((4 * l.length : Nat) : Int) _ A3.out (layB_take _) (by simp [Ars.new])).mono ?_
    rintro e w4 ⟨rfl, F4, a4, s4⟩
    rw [← HZE.out] at a4
    have A4 := hid a4
    have F4h := hid (show ∀ i, F4 i → w.heap.size ≤ i from s4.high B3.out.size F3h.out)
    have B4 := hid (show Below w.heap.size w w4 from B3.out.trans (s4.below B3.out.size F3h.out))
    clear a4 s4 A3 F3h B3
    have HNN := hid (show 2 * (l.length : Int) = ((2 * l.length : Nat) : Int) by omega)
    have HN3 := hid (show 3 * (l.length : Int) = ((3 * l.length : Nat) : Int) by omega)
    go_wp2_with fail
    go_loopw [38] (fun cc wr => ∃ (k : Nat) (Fk : Nat → Prop), k ≤ l.length ∧ cc = .int .i64 (k : Int) ∧ Ar wr h Fk (layB l k) ∧ (∀ i, Fk i → w.heap.size ≤ i) ∧ Below w.heap.size w wr) (fun cc _ => l.length - (intOf cc).toNat)
    case atStart => exact ⟨0, F4, Nat.zero_le _, rfl, A4.out, F4h.out, B4.out⟩
    case round =>
      clear A4 F4h B4
      obtain ⟨k, Fk, hk, rfl, ak, fk, bk'⟩ := hrel
      have AK := hid ak
      have FK := hid fk
      have BK := hid bk'
      clear ak fk bk'
      by_cases hlt : k < l.length
      · clear HBK HEB HRF HDZ HZF HGO
        obtain ⟨x, rfl, hcell⟩ := H1.out k hlt
        replace hcell := cell_later BK.out hcell
        have hcb := HL.out l[k] (List.getElem_mem hlt)
        have HSU := hid (show layB l (k + 1) = (layB l k).storeN k l[k] by rw [HSUC.out k, HGD.out k hlt])
        obtain ⟨t1, t2, t3⟩ := HSZ.out k
        have HKT := hid (show k + 1 ≤ (layB l k).top ∧ (layB l k).es.length ≤ 1001 from ⟨by omega, by omega⟩)
        obtain ⟨B, hB⟩ : ∃ B, layB l k = B := ⟨_, rfl⟩
        rw [hB] at AK HSU HKT
        obtain ⟨b, hb⟩ : ∃ b, l[k] = b := ⟨_, rfl⟩
        rw [hb] at hcell hcb HSU
        have hcw : IntKind.u32.wrap (b : Int) = (b : Int) := by rw [IntKind.wrap_u32]; omega
        clear hB hb t1 t2 t3
        go_wp2_with fail
        have AW := hid (AK.out.alloc (.cells #[.int .u32 (b : Int)] 30))
        have BW := hid (show Below w.heap.size w (wr.alloc (.cells #[.int .u32 (b : Int)] 30)) from belowCat BK.out ((Below.refl wr.heap.size wr).alloc (Nat.le_refl _) _))
        have UW := hid (un_one_u32s (heap_alloc_at wr (.cells #[.int .u32 (b : Int)] 30)))
        have OW := hid (show Off Fk (some ⟨wr.heap.size, 0, none⟩) 1 from fun x hx _ hf => by cases hx; exact absurd (AK.out.lt _ hf) (Nat.lt_irrefl _))
        refine (ar_put_yes h Fk B k (some ⟨wr.heap.size, 0, none⟩) 1 [b] _ AW.out HKT.out.1 (by intro x hx; simp at hx; omega) UW.out OW.out (by have := HKT.out.2; simp; omega)).mono ?_
        rintro e w5 ⟨rfl, F5, a5, s5⟩
        have A5 := hid (show Ar w5 h F5 (layB l (k + 1)) by rw [HSU.out]; exact a5)
        have F5h := hid (show ∀ i, F5 i → w.heap.size ≤ i from s5.high BW.out.size FK.out)
        have B5 := hid (show Below w.heap.size w w5 from BW.out.trans (s5.below BW.out.size FK.out))
        clear a5 s5 hcell
        go_wp2
        go_roundw
        case rel => exact ⟨k + 1, F5, by omega, by go_num, A5.out, F5h.out, B5.out⟩
        case measure => simp [intOf]; omega
      · have hkn : k = l.length := by omega
        subst hkn
        clear hlt HSUC HZE HSZ
        have hcw : IntKind.u32.wrap (l.length : Int) = (l.length : Int) := by rw [IntKind.wrap_u32]; omega
        go_wp2_with fail
        refine (of_b _ _).mono ?_
        rintro e w5 ⟨rfl, hB5⟩
        have A5 := hid (AK.out.below hB5)
        have B5 := hid (belowCat BK.out hB5)
        clear hB5 AK BK
        go_wp2_with fail
        rw [HNN.out]
        refine (decode_yes h Fk (layB l l.length) 0 l.length (2 * l.length) l.length l.length _ A5.out (by omega) (by omega) HRF.out (by rw [HZF.out.2.2]; omega) (HV.out.below B5.out) (fun x => by have h3 := FK.out _ x; have h4 := HVP.out; omega)).mono ?_
        rintro e w6 ⟨rfl, F6, a6, s6⟩
        rw [(HBK.out HGO.out).1]
        have HLN := hid (HBK.out HGO.out).2
        have HEL := hid (HEB.out HGO.out)
        have HEN := hid (show encL (fun i => (dec2 (layB l l.length) 0 l.length (2 * l.length) l.length l.length l.length).word (l.length + i)) (fun i => (dec2 (layB l l.length) 0 l.length (2 * l.length) l.length l.length l.length).word (2 * l.length + i)) l.length = l from
          (encL_congr fun i hi => HLN.out i hi).trans HEL.out)
        have HDS := hid (show (dec2 (layB l l.length) 0 l.length (2 * l.length) l.length l.length l.length).top = 4 * l.length ∧ (dec2 (layB l l.length) 0 l.length (2 * l.length) l.length l.length l.length).ws.length = 16 * l.length ∧ (dec2 (layB l l.length) 0 l.length (2 * l.length) l.length l.length l.length).es.length ≤ 1000 from
          ⟨by rw [HDZ.out.1, HZF.out.1], by rw [HDZ.out.2.1, HZF.out.2.1], by rw [HDZ.out.2.2, HZF.out.2.2]; omega⟩)
        obtain ⟨D, hD⟩ : ∃ D, dec2 (layB l l.length) 0 l.length (2 * l.length) l.length l.length l.length = D := ⟨_, rfl⟩
        rw [hD] at a6 HEN HDS
        have A6 := hid (a6.alloc (sb (mk false : Nat)))
        have F6h := hid (show ∀ i, F6 i → w.heap.size ≤ i from s6.high B5.out.size FK.out)
        have B6 := hid (show Below w.heap.size w (w6.alloc (sb (mk false : Nat))) from belowCat (B5.out.trans (s6.below B5.out.size FK.out)) (by repeat (first | exact Below.refl _ _ | refine blw_alloc ?_ | refine blw_drew ?_ | assumption)))
        have HRB := hid (bklay_rfine D l.length (by rw [HDS.out.1]; exact Nat.le_refl _))
        clear hD a6 s6 A5 B5 HBK HEB HRF HDZ HZF HGO HLN HEL
        go_wp2_with fail
        rw [HNN.out, HN3.out]
        generalize (w6.alloc (.cells #[.int .u32 ((mk false : Nat) : Int)] 32)) = w7 at *
        refine (encode_yes h F6 D l.length (2 * l.length) l.length (3 * l.length) l.length _ A6.out (by omega) (by omega) HRB.out (by rw [HDS.out.1, HDS.out.2.1]; omega) (by have := HDS.out.2.2; omega) (HT.out.below B6.out) (fun x => by have h3 := F6h.out _ x; have h4 := HTP.out; omega)).mono ?_
        rintro e w8 ⟨rfl, F8, D2, a8, s8, en⟩
        have HEO := hid (show ∀ i (hi : i < l.length), D2.word (3 * l.length + i) = l[i] from fun i hi => by
          have h := en.out i hi
          rw [HEN.out, if_neg (by omega), HGD.out i hi] at h
          exact h)
        have HD2 := hid (show D2.top = 4 * l.length ∧ D2.es.length ≤ 6001000 from ⟨by rw [en.top, HDS.out.1], by
          rw [enc_es en (by omega)]
          have h1 := ucN_le l.length l.length (by omega) (by omega)
          have h2 := HDS.out.2.2
          omega⟩)
        rw [HEN.out]
        have hov : mk (decide (l.length < l.length)) = 0 := by simp [mk]
        rw [hov]
        have hBa : Below w8.heap.size w8 ((w8.alloc (sb (l.length : Nat))).alloc (sb ((0 : Nat) : Int))) := (by repeat (first | exact Below.refl _ _ | refine blw_alloc ?_ | refine blw_drew ?_ | assumption))
        have A8 := hid (a8.below hBa)
        have F8h := hid (show ∀ i, F8 i → w.heap.size ≤ i from s8.high B6.out.size F6h.out)
        have B8 := hid (show Below w.heap.size w ((w8.alloc (sb (l.length : Nat))).alloc (sb ((0 : Nat) : Int))) from belowCat (B6.out.trans (s8.below B6.out.size F6h.out)) hBa)
        have X1 := hid (show ((w8.alloc (sb (l.length : Nat))).alloc (sb ((0 : Nat) : Int))).heap[w8.heap.size]? = some (sb (l.length : Nat)) from bk (w := w8.alloc (sb (l.length : Nat))) (by repeat (first | exact Below.refl _ _ | refine blw_alloc ?_ | refine blw_drew ?_ | assumption)) (heap_alloc_at _ _))
        have X2 := hid (show ((w8.alloc (sb (l.length : Nat))).alloc (sb ((0 : Nat) : Int))).heap[w8.heap.size + 1]? = some (sb ((0 : Nat) : Int)) from by have h := heap_alloc_at (w8.alloc (sb (l.length : Nat))) (sb ((0 : Nat) : Int)); simp only [World.size_alloc] at h; exact h)
        clear hov hBa a8 s8 en A6 F6h B6 HEN HDS HRB
        go_wp2_with fail
        refine (told10_any _ _).mono ?_
        rintro e w9 ⟨rfl, hB9⟩
        have A9 := hid (A8.out.below hB9)
        have B9 := hid (belowCat B8.out hB9)
        have k2 := cell_s1 (bk hB9 X2.out)
        clear hB9 A8 B8 X1 X2
        go_wp2_with fail
        refine (told10_any _ _).mono ?_
        rintro e w10 ⟨rfl, hB10⟩
        have A10 := hid (A9.out.below hB10)
        have B10 := hid (belowCat B9.out hB10)
        clear hB10 A9 B9 k2
        go_wp2_with fail
        go_loopw [93] (fun cc wx => ∃ (i : Nat) (Fi : Nat → Prop) (Bi : Ars), i ≤ l.length ∧ cc = .int .i64 (i : Int) ∧ Ar wx h Fi Bi ∧ (Bi.ws = D2.ws ∧ Bi.top = D2.top ∧ Bi.es.length ≤ 6001000 + 2 * i) ∧ (∀ q, Fi q → w.heap.size ≤ q) ∧ Below w.heap.size w wx) (fun cc _ => l.length - (intOf cc).toNat)
        case atStart => exact ⟨0, F8, D2, Nat.zero_le _, rfl, A10.out, ⟨rfl, rfl, by have := HD2.out.2; omega⟩, F8h.out, B10.out⟩
        case round =>
          clear A10 F8h B10
          obtain ⟨i, Fi, Bi, hi, rfl, ai, hbi, fi, bi⟩ := hrel
          have AI := hid ai
          have HBI := hid hbi
          have FI := hid fi
          have BI := hid bi
          clear ai hbi fi bi
          by_cases hil : i < l.length
          · obtain ⟨x, rfl, hcell⟩ := H1.out i hil
            replace hcell := cell_later BI.out hcell
            have hcb := HL.out l[i] (List.getElem_mem hil)
            have HW := hid (show Bi.word (3 * l.length + i) = l[i] from by
              have e : Bi.word (3 * l.length + i) = D2.word (3 * l.length + i) := by unfold Ars.word; rw [HBI.out.1]
              rw [e, HEO.out i hil])
            have HR := hid (unrel_bk (A := Bi) (N := 3 * l.length) (i := i) (by rw [HBI.out.2.1, HD2.out.1]; omega))
            rw [HW.out] at HR
            obtain ⟨b, hb⟩ : ∃ b, l[i] = b := ⟨_, rfl⟩
            rw [hb] at hcell hcb HR
            have hcw2 : IntKind.u32.wrap (b : Int) = (b : Int) := by rw [IntKind.wrap_u32]; omega
            clear hb HW
            go_wp2_with fail
            rw [HN3.out]
            refine (ar_rel h Fi Bi (((3 * l.length : Nat) : Int) + (i : Int)) _ AI.out (by omega) (by have := HBI.out.2.2; omega)).mono ?_
            rintro e w12 ⟨rfl, F12, a12, s12⟩
            rw [HR.out.1]
            rw [HR.out.2] at a12
            have A12 := hid a12
            have F12h := hid (show ∀ q, F12 q → w.heap.size ≤ q from s12.high BI.out.size FI.out)
            have B12 := hid (show Below w.heap.size w w12 from BI.out.trans (s12.below BI.out.size FI.out))
            clear a12 s12 hcell AI FI BI
            go_wp2
            go_roundw
            case rel => exact ⟨i + 1, F12, Bi.relN (3 * l.length + i), by omega, by go_num, A12.out, ⟨HBI.out.1, HBI.out.2.1, by rw [Ars.relN_eslen]; have := HBI.out.2.2; omega⟩, F12h.out, B12.out⟩
            case measure => simp [intOf]; omega
          · have hie : i = l.length := by omega
            subst hie
            clear hil
            go_wp2
            go_ret
            exact ⟨rfl, BI.out⟩
set_option maxHeartbeats 1600000 in
theorem back_law (ad : Option Addr) (len cap : Nat) (zs : List Int) (w : World) (hr : IsRow .u8 w ad len cap zs) (t : Pv w) (u : Lv w) :
    Calls Tryd.prog 4 #[.slice ad len cap] w fun e w' => e = .returned (.bool true) ∧ Below w.heap.size w w' := by
  by_cases h60 : len ≤ 60
  · obtain ⟨l, rfl, hl, hu, hc⟩ := nu8s_row hr
    exact back_in ad cap l w hu hl hc h60 t u
  · have g1 : (60 : Int) < (len : Int) := by omega
    have HT := hid t
    clear hr t u h60
    go_enter Tryd.func4, Tryd.ntmps4
    go_wp2_with fail
    refine (awake10_any _ HT.out).mono ?_
    rintro e w1 ⟨rfl, hB1⟩
    go_wp2
    go_ret
    exact ⟨rfl, hB1⟩
end Go.Proofs.YtjcnkigadlmpgaaDoor
