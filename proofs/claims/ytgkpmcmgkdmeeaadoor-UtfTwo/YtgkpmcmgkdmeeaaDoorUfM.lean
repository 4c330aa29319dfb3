/- The law UtfDecodes returns true at all inputs. Conditions: the variable leads holds what the program's text lays there. -/
import Derived.Test.YtgkpmcmgkdmeeaaDoorUfL
import Derived.Deep.Cut
namespace Go.Proofs.YtgkpmcmgkdmeeaaDoor
open Go.RowKit
set_option linter.unusedVariables false

theorem u8s_row {w : World} {ad : Option Addr} {len cap : Nat} {zs : List Int} (h : IsRow .u8 w ad len cap zs) : ∃ l : List Nat, l.length = len ∧ (∀ x ∈ l, x < 256) ∧ U8s w ad l ∧ len ≤ cap := by
  have hlz : len ≤ zs.length ∧ len ≤ cap := by
    rcases h with ⟨_, h0, _, _⟩ | ⟨x, _, h1, _, h2, _⟩ <;> omega
  have hlen : ((zs.take len).map Int.toNat).length = len := by simp; omega
  have hget : ∀ k (hk : k < ((zs.take len).map Int.toNat).length), zs[k]? = some (zs.getD k 0) ∧ ((zs.take len).map Int.toNat)[k] = (zs.getD k 0).toNat := by
    intro k hk
    have hk2 : k < zs.length := by omega
    simp [hk2, List.getD]
  have hwf : ∀ n, (Lit.int .u8 n).wf = true → 0 ≤ n ∧ n < 256 := fun n h => by
    simp only [Lit.wf, Bool.and_eq_true, decide_eq_true_eq] at h
    have hmin : IntKind.u8.min = 0 := rfl
    have hmax : IntKind.u8.max = 255 := rfl
    omega
  have hmem : ∀ n ∈ zs, (Lit.int .u8 n).wf = true := by
    rcases h with ⟨_, _, _, rfl⟩ | ⟨x, _, _, _, _, _, h3⟩
    · intro n hn; cases hn
    · exact h3
  refine ⟨(zs.take len).map Int.toNat, hlen, ?_, ?_, hlz.2⟩
  · intro x hx
    obtain ⟨n, hn, rfl⟩ := List.mem_map.1 hx
    have := hwf n (hmem n (List.mem_of_mem_take hn)); omega
  · intro k hk
    rcases h with ⟨_, h0, _, _⟩ | ⟨x, rfl, h1, _, h2, h3, h4⟩
    · omega
    · refine ⟨x, rfl, ?_⟩
      obtain ⟨g1, g2⟩ := hget k hk
      have hb := hwf _ (h4 _ (List.mem_of_getElem? g1))
      rw [g2, h3 k (by omega), Int.toNat_of_nonneg hb.1]

theorem uowns_u32s {w : World} {base n cap : Nat} {ad : Option Addr} {l : List Nat} (h : w.ownsRow base 23 1 (.slice ad n cap) n (secs l)) (hn : n = l.length) : U32s w ad l ∧ ∀ x, ad = some x → 0 < l.length → base ≤ x.block ∧ x.block < w.heap.size := by
  subst hn
  refine ⟨fun k hk => ?_, fun x hx hp => ?_⟩
  · obtain ⟨g, cap2, hv, _, hc⟩ := owns_block h (by omega)
    cases hv
    refine ⟨_, rfl, ?_⟩
    have := hc k (.int .u32 (l[k] : Int)) (by simp [secs, hk])
    by_cases h0 : k = 0
    · subst h0; exact this
    · simpa [Addr.add, h0] using this
  · obtain ⟨g, cap2, hv, hb, hc⟩ := owns_block h hp
    cases hv
    cases hx
    exact ⟨hb, (h.lt g rfl).2⟩
theorem flatL_len (ps : List (Nat × Nat)) : ps.length ≤ (flatL ps).length := by
  induction ps with
  | nil => exact Nat.le_refl _
  | cons q r ih => obtain ⟨p, k⟩ := q; simp only [flatL, List.length_append, List.length_cons, List.length_replicate]; omega
theorem urel_at {A : Ars} {N i : Nat} (h : N + i < A.top) : A.loadV ((N : Int) + (i : Int)) = A.word (N + i) ∧ A.rel ((N : Int) + (i : Int)) = A.relN (N + i) := by
  have hf : A.fits ((N : Int) + (i : Int)) 1 = true := by rw [Ars.fits_iff]; omega
  have e : ((N : Int) + (i : Int)).toNat = N + i := by omega
  unfold Ars.loadV Ars.rel
  rw [if_pos hf, if_pos hf, e]; exact ⟨rfl, rfl⟩
theorem word_ws {A B : Ars} (h : A.ws = B.ws) (i : Nat) : A.word i = B.word i := by unfold Ars.word; rw [h]
theorem pts_row {w w' : World} {T : Option (List (Nat × Nat))} {e : Ending} (h : PtsR w w' T e) : ∃ sd sc, e = .returned (.tuple #[.slice sd (T.getD []).length sc, .bool T.isSome]) ∧ w'.ownsRow w.heap.size 23 1 (.slice sd (T.getD []).length sc) (T.getD []).length (secs ((T.getD []).map (·.1))) := by
  rcases h with ⟨rfl, rfl⟩ | ⟨ps, v, rfl, rfl, ho⟩
  · exact ⟨none, 0, rfl, rfl, Or.inl ⟨rfl, rfl⟩⟩
  · obtain ⟨sd, sc, rfl⟩ := owns_shape ho
    exact ⟨sd, sc, rfl, ho⟩

set_option maxHeartbeats 1600000 in
set_option maxRecDepth 20000 in
theorem decodes_core (ad : Option Addr) (c : Nat) (l : List Nat) (len ab : Nat) (w : World) (h1 : U8s w ad l) (hl : ∀ x ∈ l, x < 256) (hcp : l.length ≤ c) (hlen : len < 4294967296) (hab : ab < 4294967296) (t : Lv w) :
    Calls Tryd.prog 3 #[.slice ad l.length c, .int .u32 (len : Int), .int .u32 (ab : Int)] w fun e w' => e = .returned (.bool true) ∧ Below w.heap.size w w' := by
  have H1 := hid h1
  have HL := hid hl
  have HT := hid t
  have HTP := hid t.pos
  clear h1 hl t
  by_cases hn : l.length ≤ 100
  · have hni : ¬ (100 : Int) < (l.length : Int) := by omega
    go_enter Tryd.func3, Tryd.ntmps3
    go_wp2_with fail
    refine (awake9_any _ HT.out).mono ?_
    rintro e w0 ⟨rfl, hB0⟩
    have B0 := hid hB0
    clear hB0
    go_wp2_with fail
    refine (lay9_any ad c l _ (H1.out.below B0.out) HL.out (by omega)).mono ?_
    rintro e w1 ⟨h, F1, rfl, a1, hF1, hB1⟩
    have HSZ := hid (layK_sizes l l.length)
    have A1 := hid (show Ar w1 h F1 (reK (layK l l.length) (fun k => upW (l.getD k 0) ab) 0) from a1)
    have F1h := hid (show ∀ i, F1 i → w.heap.size ≤ i from fun i hi => Nat.le_trans B0.out.size (hF1 i hi))
    have B1 := hid (show Below w.heap.size w w1 from B0.out.trans (hB1.mono B0.out.size))
    clear a1 hF1 hB1 B0
    have HSUC := hid (show ∀ k, reK (layK l l.length) (fun k => upW (l.getD k 0) ab) (k + 1) = (reK (layK l l.length) (fun k => upW (l.getD k 0) ab) k).storeN k (upW (l.getD k 0) ab) from fun k => rfl)
    have HRS := hid (reK_sizes (layK l l.length) (fun k => upW (l.getD k 0) ab))
    have HRW := hid (reK_word (layK l l.length) (fun k => upW (l.getD k 0) ab) l.length (by rw [HSZ.out.2.1]; omega))
    obtain ⟨A0, hA0⟩ : ∃ A, layK l l.length = A := ⟨_, rfl⟩
    rw [hA0] at HSZ A1 HSUC HRS HRW
    clear hA0
    go_wp2_with fail
    go_loopw [32] (fun cc wr => ∃ (k : Nat) (Fk : Nat → Prop), k ≤ l.length ∧ cc = .int .i64 (k : Int) ∧ Ar wr h Fk (reK A0 (fun k => upW (l.getD k 0) ab) k) ∧ (∀ i, Fk i → w.heap.size ≤ i) ∧ Below w.heap.size w wr) (fun cc _ => l.length - (intOf cc).toNat)
    case atStart => exact ⟨0, F1, Nat.zero_le _, rfl, A1.out, F1h.out, B1.out⟩
    case round =>
      obtain ⟨k, Fk, hk, rfl, ak, fk, bk'⟩ := hrel
      by_cases hlt : k < l.length
      · have AK := hid ak
        have FK := hid fk
        have BK := hid bk'
        obtain ⟨x, rfl, hcell⟩ := u8_at H1.out k hlt
        replace hcell := cell_later BK.out hcell
        have hcb : l.getD k 0 < 256 := by simp [List.getD_eq_getElem?_getD, hlt]; exact HL.out _ (List.getElem_mem hlt)
        have HSU := hid (HSUC.out k)
        obtain ⟨t1, t2, t3⟩ := HRS.out k
        have HTT := hid (show k + 1 ≤ (reK A0 (fun k => upW (l.getD k 0) ab) k).top ∧ (reK A0 (fun k => upW (l.getD k 0) ab) k).es.length ≤ 1001 from ⟨by rw [t1, HSZ.out.1]; omega, by rw [t3, HSZ.out.2.2]; omega⟩)
        obtain ⟨B, hB⟩ : ∃ B, reK A0 (fun k => upW (l.getD k 0) ab) k = B := ⟨_, rfl⟩
        rw [hB] at AK HSU HTT
        obtain ⟨b, hb⟩ : ∃ b, l.getD k 0 = b := ⟨_, rfl⟩
        rw [hb] at hcell hcb HSU
        have hcw : IntKind.u32.wrap (b : Int) = (b : Int) := by rw [IntKind.wrap_u32]; omega
        have HUP := hid (upW_lt (a := ab) hcb)
        have hor : bits .or .u32 (b : Int) ((ab : Int) * 256 % 4294967296) = ((upW b ab : Nat) : Int) := by
          have e : ((ab : Int) * 256 % 4294967296) = ((ab * 256 % 4294967296 : Nat) : Int) := by omega
          rw [e]; exact u32_or_nat _ _ (by omega) (Nat.mod_lt _ (by decide))
        obtain ⟨u, hu⟩ : ∃ u, upW b ab = u := ⟨_, rfl⟩
        rw [hu] at hor HSU HUP
        clear ak fk bk' hB hb t1 t2 t3 A1 F1h B1 hu
        go_wp2_with fail
        have AW := hid (AK.out.alloc (.cells #[.int .u32 (u : Int)] 23))
        have BW := hid (show Below w.heap.size w (wr.alloc (.cells #[.int .u32 (u : Int)] 23)) from belowCat BK.out ((Below.refl wr.heap.size wr).alloc (Nat.le_refl _) _))
        have UW := hid (one_u32s (heap_alloc_at wr (.cells #[.int .u32 (u : Int)] 23)))
        refine (ar_put_yes h Fk B k (some ⟨wr.heap.size, 0, none⟩) 1 [u] _ AW.out HTT.out.1 (by intro x hx; simp at hx; have := HUP.out; omega) UW.out (off_new (w := wr) (fun x => absurd (AK.out.lt _ x) (Nat.lt_irrefl _))) (by have := HTT.out.2; simp; omega)).mono ?_
        rintro e w3 ⟨rfl, F3, a3, s3⟩
        have A3 := hid (show Ar w3 h F3 (reK A0 (fun k => upW (l.getD k 0) ab) (k + 1)) by rw [HSU.out]; exact a3)
        have F3h := hid (show ∀ i, F3 i → w.heap.size ≤ i from s3.high BW.out.size FK.out)
        have B3 := hid (show Below w.heap.size w w3 from BW.out.trans (s3.below BW.out.size FK.out))
        clear a3 s3 hcell hcw hor
        go_wp2
        go_roundw
        case rel => exact ⟨k + 1, F3, by omega, by go_num, A3.out, F3h.out, B3.out⟩
        case measure => simp [intOf]; omega
      · have hkn : k = l.length := by omega
        subst hkn
        have AK := hid ak
        have FK := hid fk
        have BK := hid bk'
        obtain ⟨t1, t2, t3⟩ := HRS.out l.length
        have HX := hid (show ∀ i (hi : i < l.length), (reK A0 (fun k => upW (l.getD k 0) ab) l.length).word i % 256 = l[i] from fun i hi => by
          have e : l.getD i 0 = l[i] := by simp [List.getD_eq_getElem?_getD, hi]
          rw [HRW.out i hi, e]; exact upW_mod (HL.out _ (List.getElem_mem hi)))
        have H2S := hid (show (reK A0 (fun k => upW (l.getD k 0) ab) l.length).top = l.length * 3 ∧ (reK A0 (fun k => upW (l.getD k 0) ab) l.length).ws.length = l.length * 3 ∧ (reK A0 (fun k => upW (l.getD k 0) ab) l.length).es.length ≤ 300 from ⟨by rw [t1, HSZ.out.1], by rw [t2, HSZ.out.2.1], by rw [t3, HSZ.out.2.2]; omega⟩)
        clear ak fk bk' A1 F1h B1 t1 t2 t3 HRS HRW HSUC HSZ
        obtain ⟨A2, hA2⟩ : ∃ A, reK A0 (fun k => upW (l.getD k 0) ab) l.length = A := ⟨_, rfl⟩
        rw [hA2] at AK HX H2S
        clear hA2
        obtain ⟨hg, hwv⟩ := dec_lanes A2 l HL.out len H2S.out.2.1 HX.out
        have HDZ := hid (dec_sizes A2 0 l.length (2 * l.length) len l.length l.length)
        have HRF := hid (lay_rfine A2 l.length (by rw [H2S.out.1]; exact Nat.le_refl _))
        have hlm : (l.take (min l.length len)).length = min l.length len := by rw [List.length_take]; omega
        have HLM := hid (show ∀ x ∈ l.take (min l.length len), x < 256 from fun x hx => HL.out x (List.mem_of_mem_take hx))
        have HPT := hid (show ∀ i, i < l.length → (dec2 A2 0 l.length (2 * l.length) len l.length l.length).word (l.length + i) = wvL (ptsOf (l.take (min l.length len))) (ptsOf (l.take (min l.length len))).length i ∧ (dec2 A2 0 l.length (2 * l.length) len l.length l.length).word (2 * l.length + i) = kvL (ptsOf (l.take (min l.length len))) (ptsOf (l.take (min l.length len))).length i from fun i hi => by
          obtain ⟨_, _, q3, q4⟩ := lanes_pts (l.take (min l.length len)) HLM.out i
          obtain ⟨e1, e2⟩ := hwv i hi
          exact ⟨e1.trans q3, e2.trans q4⟩)
        have HGD := hid (show goodS A2 0 len l.length = (dpsA (l.take (min l.length len))).isSome from hg.trans (lanes_pts (l.take (min l.length len)) HLM.out 0).1.symm)
        have HFL := hid (show (flatL (ptsOf (l.take (min l.length len)))).length ≤ l.length from Nat.le_trans (lanes_pts (l.take (min l.length len)) HLM.out 0).2.1 (by rw [hlm]; omega))
        have HMEM := hid (show ∀ q ∈ ptsOf (l.take (min l.length len)), blB q.1 = q.2 ∧ 0 < q.2 ∧ q.1 < 4294967296 from fun q hq => by
          unfold ptsOf at hq
          cases hd : dpsA (l.take (min l.length len)) with
          | none => rw [hd] at hq; cases hq
          | some ps => rw [hd] at hq; exact dpsA_mem _ _ (Nat.le_refl _) HLM.out ps hd q hq)
        have HRP := hid (fun w' hu => rpoints_any ad c (l.take (min l.length len)) w' hu HLM.out (by rw [hlm]; omega) (by rw [hlm]; omega))
        have HPO := hid (show ptsOf (l.take (min l.length len)) = (dpsA (l.take (min l.length len))).getD [] from rfl)
        rw [hlm] at HRP
        have HU1 := hid (fun (w' : World) (h : U8s w' ad l) => h.take (min l.length len))
        have HML := hid hlm
        obtain ⟨lm, hlme⟩ : ∃ x, l.take (min l.length len) = x := ⟨_, rfl⟩
        rw [hlme] at HLM HPT HGD HFL HMEM HRP HPO HU1 HML
        obtain ⟨ps, hps⟩ : ∃ x, ptsOf lm = x := ⟨_, rfl⟩
        rw [hps] at HPT HFL HMEM HPO
        obtain ⟨B, hB⟩ : ∃ x, dec2 A2 0 l.length (2 * l.length) len l.length l.length = x := ⟨_, rfl⟩
        rw [hB] at HPT HDZ
        have HBE := hid hB
        have HNN := hid (show (2 * (l.length : Int)) = ((2 * l.length : Nat) : Int) by omega)
        clear hg hwv hlm hlme hps hB HX
        go_wp2_with fail
        refine (of_b _ _).mono ?_
        rintro e w2 ⟨rfl, hB2⟩
        have A3 := hid (AK.out.below hB2)
        have B2 := hid (belowCat BK.out hB2)
        clear hB2
        go_wp2_with fail
        rw [HNN.out]
        refine (decode_yes h Fk A2 0 l.length (2 * l.length) l.length len _ A3.out hlen (by omega) HRF.out (by have := H2S.out.2.2; omega) (HT.out.below B2.out) (fun x => by have := FK.out _ x; have := HTP.out; omega)).mono ?_
        rintro e w3 ⟨rfl, F3, a3, s3⟩
        rw [HBE.out, HGD.out] at *
        have A4 := hid a3
        have F3h := hid (show ∀ i, F3 i → w.heap.size ≤ i from s3.high B2.out.size FK.out)
        have B3 := hid (show Below w.heap.size w w3 from B2.out.trans (s3.below B2.out.size FK.out))
        clear a3 s3
        have HMN := hid (show (min (len : Int) (l.length : Int)) = ((min l.length len : Nat) : Int) by omega)
        have HMC := hid (show min l.length len ≤ l.length from Nat.min_le_left _ _)
        obtain ⟨T, hTe⟩ : ∃ T, dpsA lm = T := ⟨_, rfl⟩
        rw [hTe] at HRP HPO
        have HTE := hid hTe
        have AY := hid (A4.out.alloc (sb (mk T.isNone : Nat)))
        have YB := hid (show (w3.alloc (sb (mk T.isNone : Nat))).heap[w3.heap.size]? = some (sb (mk T.isNone : Nat)) from heap_alloc_at _ _)
        have NYF := hid (show ¬ F3 w3.heap.size from fun x => absurd (A4.out.lt _ x) (Nat.lt_irrefl _))
        have B3' := hid (blw_alloc (o := sb (mk T.isNone : Nat)) B3.out)
        go_upto_region 16 with fail
        try rw [HMN.out]
        clear hTe HGD HTE A3 A4
        generalize (w3.alloc (.cells #[.int .u32 (mk T.isNone : Nat)] 32)) = w4 at *
        obtain ⟨y, hy⟩ : ∃ y, w3.heap.size = y := ⟨_, rfl⟩
        have HYE := hid hy
        rw [hy] at YB NYF
        rw [HYE.out]
        clear hy B3 HYE
        obtain ⟨m, hm⟩ : ∃ m, min l.length len = m := ⟨_, rfl⟩
        have HME := hid hm
        rw [hm] at HRP HML HMC
        rw [HME.out]
        have hmc : (m : Int) ≤ (c : Int) := by have := HMC.out; omega
        clear hm HMN
        go_wp2_with fail
        refine (HRP.out _ (HU1.out _ (H1.out.below B3'.out))).mono ?_
        rintro e w5 ⟨hpr, hB5⟩
        obtain ⟨sd, sc, rfl, hown⟩ := pts_row hpr
        rw [← HPO.out] at hown
        have A5 := hid (AY.out.below hB5)
        have Y5 := hid (bk hB5 YB.out)
        have B5 := hid (belowCat B3'.out hB5)
        have HU5 := hid (show U32s w5 sd (ps.map (·.1)) from (uowns_u32s hown (by simp)).1)
        rw [← HPO.out]
        clear hpr hB5 hown AY YB B3'
        go_upto_region 17 with fail
        go_cut [86] from 72 (fun c86 wx => c86 = .bool false ∧ Below w5.heap.size w5 wx)
        case first =>
          cases T with
          | none =>
            have ky : w5.cell? ⟨y, 0, none⟩ = some (.int .u32 4294967295) := cell_s1 Y5.out
            go_wp2_with fail
            refine (told9_any _ _).mono ?_
            rintro e w6 ⟨rfl, hB6⟩
            have ky6 := cell_later hB6 ky
            go_wp2_with fail
            refine (told9_any _ _).mono ?_
            rintro e w7 ⟨rfl, hB7⟩
            have ky7 := cell_later hB7 ky6
            go_wp2_with fail
            refine (told9_any _ _).mono ?_
            rintro e w8 ⟨rfl, hB8⟩
            go_wp2_with fail
            go_meet
            case rel => exact ⟨rfl, belowCat (belowCat hB6 hB7) hB8⟩
          | some qs =>
            have ky : w5.cell? ⟨y, 0, none⟩ = some (.int .u32 0) := cell_s1 Y5.out
            go_wp2_with fail
            refine (told9_any _ _).mono ?_
            rintro e w6 ⟨rfl, hB6⟩
            have ky6 := cell_later hB6 ky
            go_wp2_with fail
            refine (told9_any _ _).mono ?_
            rintro e w7 ⟨rfl, hB7⟩
            go_wp2_with fail
            go_meet
            case rel => exact ⟨rfl, belowCat hB6 hB7⟩
        case rest =>
          obtain ⟨rfl, hB6⟩ := hcut
          have A6 := hid (A5.out.below hB6)
          have B6 := hid (belowCat B5.out hB6)
          have HU6 := hid (HU5.out.below hB6)
          clear hB6 A5 Y5 B5 HU5
          generalize hvv : wc = w6 at *
          clear hvv
          have hmk := run_make_uk l.length (by omega)
          go_upto_region 19 with fail
          go_cut [16, 17] from 87 (fun c16 c17 wx => ∃ gw gk, c16 = .slice (some ⟨gw, 0, none⟩) l.length l.length ∧ c17 = .slice (some ⟨gk, 0, none⟩) l.length l.length ∧ gw ≠ gk ∧ w6.heap.size ≤ gw ∧ w6.heap.size ≤ gk ∧ wx.heap[gw]? = some (.cells (rowF l.length (fun _ => 0)) 23 (0, 0)) ∧ wx.heap[gk]? = some (.cells (rowF l.length (fun _ => 0)) 23 (0, 0)) ∧ Below w6.heap.size w6 wx)
          case first =>
            go_region
            all_goals (go_wp2_with fail; go_meet)
            case rel =>
              have hB := (Below.refl w6.heap.size w6).alloc (Nat.le_refl _) (.cells (rowF l.length (fun _ => 0)) 23 (0, 0))
              have hC := belowCat hB ((Below.refl _ _).alloc (Nat.le_refl _) (.cells (rowF l.length (fun _ => 0)) 23 (0, 0)))
              exact ⟨_, _, rfl, rfl, by omega, Nat.le_refl _, by omega, bk (w := w6.alloc (.cells (rowF l.length (fun _ => 0)) 23)) (by exact blw_drew ((Below.refl _ _).alloc (Nat.le_refl _) _)) (heap_alloc_at _ _), (by have := heap_alloc_at (w6.alloc (.cells (rowF l.length (fun _ => 0)) 23)) (.cells (rowF l.length (fun _ => 0)) 23); rw [World.size_alloc] at this; exact this), blw_drew hC⟩
            case rel =>
              have hB := (Below.refl w6.heap.size w6).alloc (Nat.le_refl _) (.cells (rowF l.length (fun _ => 0)) 23 (0, 0))
              have hC := belowCat hB ((Below.refl _ _).alloc (Nat.le_refl _) (.cells (rowF l.length (fun _ => 0)) 23 (0, 0)))
              exact ⟨_, _, rfl, rfl, by omega, by omega, Nat.le_refl _, (by have := heap_alloc_at (w6.alloc (.cells (rowF l.length (fun _ => 0)) 23)) (.cells (rowF l.length (fun _ => 0)) 23); rw [World.size_alloc] at this; exact this), bk (w := w6.alloc (.cells (rowF l.length (fun _ => 0)) 23)) (by exact blw_drew ((Below.refl _ _).alloc (Nat.le_refl _) _)) (heap_alloc_at _ _), blw_drew hC⟩
          case rest =>
            obtain ⟨gw, gk, rfl, rfl, hgk, hgw1, hgk1, hgw2, hgk2, hB7⟩ := hcut
            have S7 := hid (show Below w6.heap.size w6 wc ∧ wc.heap[gw]? = some (.cells (rowF l.length (wvL ps 0)) 23 (0, 0)) ∧ wc.heap[gk]? = some (.cells (rowF l.length (kvL ps 0)) 23 (0, 0)) from
              ⟨hB7, by rw [hgw2, rowF_congr (f := fun _ => 0) (g := wvL ps 0) (fun i _ => rfl)], by rw [hgk2, rowF_congr (f := fun _ => 0) (g := kvL ps 0) (fun i _ => rfl)]⟩)
            have HGN := hid (And.intro hgk (And.intro hgw1 hgk1))
            clear hgk hgw1 hgk1 hgw2 hgk2 hB7 hmk
            generalize hvv : wc = w7 at *
            clear hvv
            have hps : ps.length ≤ 100 := Nat.le_trans (Nat.le_trans (flatL_len ps) HFL.out) hn
            have HAT := hid (show ∀ j, atL ps j ≤ l.length from fun j => Nat.le_trans (atL_le ps j) HFL.out)
            go_wp2_with fail
            go_loopw [18, 93] (fun c18 c93 wr => ∃ j : Nat, j ≤ ps.length ∧ c18 = .int .i64 (atL ps j : Int) ∧ c93 = .int .i64 (j : Int) ∧ Below w6.heap.size w6 wr ∧ wr.heap[gw]? = some (.cells (rowF l.length (wvL ps j)) 23 (0, 0)) ∧ wr.heap[gk]? = some (.cells (rowF l.length (kvL ps j)) 23 (0, 0))) (fun _ c93 _ => ps.length - (intOf c93).toNat)
            case atStart => exact ⟨0, Nat.zero_le _, rfl, rfl, S7.out⟩
            case round =>
              obtain ⟨j, hj, rfl, rfl, hB, hw, hk⟩ := hrel
              by_cases hlt : j < ps.length
              · clear S7
                have HB := hid hB
                have HW := hid hw
                have HK := hid hk
                obtain ⟨x, rfl, hcell⟩ := HU6.out j (by simpa using hlt)
                replace hcell := cell_later HB.out hcell
                have he : (ps.map (·.1))[j]'(by simpa using hlt) = ps[j].1 := by simp
                rw [he] at hcell
                obtain ⟨hbl, hk0, hp32⟩ := HMEM.out ps[j] (List.getElem_mem hlt)
                have HAS := hid (atL_succ ps j hlt hk0)
                have hat1 := HAT.out (j + 1)
                rw [HAS.out] at hat1
                have HST := hid (fun i => lane_step ps j hlt hk0 i)
                have HBY := hid (fun w' => rbytes_any ps[j].1 w' hp32)
                obtain ⟨p, hp⟩ : ∃ p, ps[j].1 = p := ⟨_, rfl⟩
                obtain ⟨k, hke⟩ : ∃ k, ps[j].2 = k := ⟨_, rfl⟩
                obtain ⟨q0, hq0⟩ : ∃ q, atL ps j = q := ⟨_, rfl⟩
                rw [hp] at hcell HST HBY hbl
                rw [hke] at HAS hat1 HST hk0 hbl
                rw [hq0] at HAS hat1 HST
                rw [hbl] at HBY
                clear hp hke he hB hw hk hbl
                rw [hq0]
                have HQ0 := hid hq0
                clear hq0
                go_wp2_with fail
                refine (HBY.out _).mono ?_
                rintro e w8 ⟨⟨g8, rfl⟩, hB8⟩
                have B8 := hid (belowCat HB.out hB8)
                have W8 := hid (bk hB8 HW.out)
                have K8 := hid (bk hB8 HK.out)
                have hq1 : (0 : Int) ≤ (q0 : Int) + (k : Int) - 1 := by omega
                have hq2 : (q0 : Int) + (k : Int) - 1 < (l.length : Int) := by omega
                have hq3 : ((q0 : Int) + (k : Int) - 1).toNat = q0 + k - 1 := by omega
                have cw : w8.cell? ⟨gw, q0 + k - 1, none⟩ = some (.int .u32 (wvL ps j (q0 + k - 1) : Nat)) := cell_of_heap W8.out (rowF_get (by omega))
                have fw := frozen_of_heap (i := q0 + k - 1) W8.out
                have K9 := hid ((Below.heap_setCell w8 ⟨gw, q0 + k - 1, none⟩ (.int .u32 (p : Int)) gk (fun e => HGN.out.1 e.symm)).trans K8.out)
                have ck := cell_of_heap (i := q0 + k - 1) K9.out (rowF_get (by omega))
                have fk := frozen_of_heap (i := q0 + k - 1) K9.out
                have W9 := hid (heap_setCell_at _ _ (q0 + k - 1) _ _ _ (.int .u32 (p : Int)) W8.out)
                have B9 := hid ((B8.out.setCell (p := ⟨gw, q0 + k - 1, none⟩) HGN.out.2.1 (.int .u32 (p : Int))).setCell (p := ⟨gk, q0 + k - 1, none⟩) HGN.out.2.2 (.int .u32 ((4294967295 : Nat) : Int)))
                have W10 := hid ((Below.heap_setCell (w8.setCell ⟨gw, q0 + k - 1, none⟩ (.int .u32 (p : Int))) ⟨gk, q0 + k - 1, none⟩ (.int .u32 ((4294967295 : Nat) : Int)) gw HGN.out.1).trans W9.out)
                have K10 := hid (heap_setCell_at _ _ (q0 + k - 1) _ _ _ (.int .u32 ((4294967295 : Nat) : Int)) K9.out)
                clear hcell hB8
                go_wp2
                go_roundw
                case rel =>
                  refine ⟨j + 1, by omega, by rw [HAS.out]; go_num, by go_num, B9.out, ?_, ?_⟩
                  · refine W10.out.trans ?_
                    rw [rowF_set, rowF_congr (g := wvL ps (j + 1)) (fun i _ => ((HST.out i).1).symm)]
                  · refine K10.out.trans ?_
                    rw [rowF_set, rowF_congr (g := kvL ps (j + 1)) (fun i _ => ((HST.out i).2).symm)]
                case measure => simp [intOf]; omega
              · have hjp : j = ps.length := by omega
                subst hjp
                clear S7
                have HB := hid hB
                have HW := hid hw
                have HK := hid hk
                have A8 := hid (A6.out.below hB)
                have B8 := hid (belowCat B6.out hB)
                have HFW := hid (show ¬ F3 gw ∧ ¬ F3 gk from ⟨fun x => by have := A6.out.lt _ x; have := HGN.out.2.1; omega, fun x => by have := A6.out.lt _ x; have := HGN.out.2.2; omega⟩)
                have HF3 := hid F3h.out
                clear hB hw hk HGN
                have HBZ := hid (show B.top = l.length * 3 ∧ B.es.length ≤ 1000 from ⟨by rw [HDZ.out.1, H2S.out.1], by rw [HDZ.out.2.2]; have := H2S.out.2.2; omega⟩)
                go_wp2_with fail
                go_loopw [113] (fun cc wx => ∃ (i : Nat) (Fi : Nat → Prop) (Bi : Ars), i ≤ l.length ∧ cc = .int .i64 (i : Int) ∧ Ar wx h Fi Bi ∧ (Bi.ws = B.ws ∧ Bi.top = B.top ∧ Bi.es.length = B.es.length + 4 * i) ∧ wx.heap[gw]? = some (.cells (rowF l.length (wvL ps ps.length)) 23 (0, 0)) ∧ wx.heap[gk]? = some (.cells (rowF l.length (kvL ps ps.length)) 23 (0, 0)) ∧ ¬ Fi gw ∧ ¬ Fi gk ∧ (∀ q, Fi q → w.heap.size ≤ q) ∧ Below w.heap.size w wx) (fun cc _ => l.length - (intOf cc).toNat)
                case atStart => exact ⟨0, F3, B, Nat.zero_le _, rfl, A8.out, ⟨rfl, rfl, rfl⟩, HW.out, HK.out, HFW.out.1, HFW.out.2, HF3.out, B8.out⟩
                case round =>
                  obtain ⟨i, Fi, Bi, hi', rfl, ai, hbi, hwi, hki, nwi, nki, fi, bi⟩ := hrel
                  by_cases hil : i < l.length
                  · have AI := hid ai
                    have HBI := hid hbi
                    have HWI := hid (And.intro hwi nwi)
                    have HKI := hid (And.intro hki nki)
                    have FI := hid fi
                    have BI := hid bi
                    clear ai hbi hwi nwi hki nki fi bi A8 B8 HW HK HFW HF3
                    obtain ⟨e1, e2⟩ := HPT.out i hil
                    have CW := hid (cell_of_heap (i := i) HWI.out.1 (rowF_get hil))
                    have CK := hid (cell_of_heap (i := i) HKI.out.1 (rowF_get hil))
                    have HR1 := hid (urel_at (A := Bi) (N := l.length) (i := i) (by rw [HBI.out.2.1, HBZ.out.1]; omega))
                    have HR2 := hid (urel_at (A := Bi.relN (l.length + i)) (N := 2 * l.length) (i := i) (by show _ < Bi.top; rw [HBI.out.2.1, HBZ.out.1]; omega))
                    have hrw : (Bi.relN (l.length + i)).ws = B.ws := HBI.out.1
                    rw [word_ws HBI.out.1, e1] at HR1
                    rw [word_ws hrw, e2] at HR2
                    have HE8 := hid (show (Bi.relN (l.length + i)).es.length = Bi.es.length + 2 from Ars.relN_eslen)
                    have HE9 := hid (show ((Bi.relN (l.length + i)).relN (2 * l.length + i)).es.length = Bi.es.length + 4 by rw [Ars.relN_eslen, Ars.relN_eslen])
                    obtain ⟨wv, hwv⟩ : ∃ v, wvL ps ps.length i = v := ⟨_, rfl⟩
                    obtain ⟨kv, hkv⟩ : ∃ v, kvL ps ps.length i = v := ⟨_, rfl⟩
                    rw [hwv] at CW HR1
                    rw [hkv] at CK HR2
                    have hl1 : IntKind.i64.wrap ((l.length : Int) + (i : Int)) = (l.length : Int) + (i : Int) := by rw [IntKind.wrap_i64]; omega
                    have hl2 : IntKind.i64.wrap (2 * (l.length : Int)) = 2 * (l.length : Int) := by rw [IntKind.wrap_i64]; omega
                    have hl3 : IntKind.i64.wrap (2 * (l.length : Int) + (i : Int)) = 2 * (l.length : Int) + (i : Int) := by rw [IntKind.wrap_i64]; omega
                    clear e1 e2 hwv hkv hrw
                    go_wp2_with fail
                    refine wp_region_held_drew (S := (fun w' => w'.cell? ⟨gw, i, none⟩ = some (.int .u32 (wv : Int)) ∧ w'.cell? ⟨gk, i, none⟩ = some (.int .u32 (kv : Int)))) (by kernel_rfl) (And.intro CW.out CK.out) (fun hHeld => ?_)
                    refine tk_at (i := 0) (d := some 116) (v := ?_) rfl rfl (by kernel_rfl) (by kernel_rfl) (by kernel_rfl) (fun _ _ _ h => h) (Or.inl ⟨by rfl, ?_⟩) (by assumption) ?_
                    rotate_left
                    · (intro w hSw; (try dsimp only at hSw); go_simp; try (with_reducible rfl))
                    simp only [Act.put, List.setIfInBounds_toArray, List.set_cons_zero, List.set_cons_succ]
                    refine tk_at (i := 1) (d := some 117) (v := ?_) rfl rfl (by kernel_rfl) (by kernel_rfl) (by kernel_rfl) (fun _ _ _ h => h) (Or.inl ⟨by rfl, ?_⟩) (by assumption) ?_
                    rotate_left
                    · (intro w hSw; (try dsimp only at hSw); go_simp; try (with_reducible rfl))
                    simp only [Act.put, List.setIfInBounds_toArray, List.set_cons_zero, List.set_cons_succ]
                    refine tk_at (i := 2) (d := some 118) (v := ?_) rfl rfl (by kernel_rfl) (by kernel_rfl) (by kernel_rfl) (fun _ _ _ h => h) (Or.inl ⟨by rfl, ?_⟩) (by assumption) ?_
                    rotate_left
                    · (intro w hSw; (try dsimp only at hSw); go_simp; try (with_reducible rfl))
                    simp only [Act.put, List.setIfInBounds_toArray, List.set_cons_zero, List.set_cons_succ]
                    refine tk_at (i := 3) (d := some 119) (v := ?_) rfl rfl (by kernel_rfl) (by kernel_rfl) (by kernel_rfl) (fun _ _ _ h => h) (Or.inl ⟨by rfl, ?_⟩) (by assumption) ?_
                    rotate_left
                    · (intro w hSw; (try dsimp only at hSw); go_simp; try (with_reducible rfl))
                    simp only [Act.put, List.setIfInBounds_toArray, List.set_cons_zero, List.set_cons_succ]
                    refine tk_at (i := 5) (d := some 121) (v := ?_) rfl rfl (by kernel_rfl) (by kernel_rfl) (by kernel_rfl) (fun _ _ _ h => h) (Or.inl ⟨by rfl, ?_⟩) (by assumption) ?_
                    rotate_left
                    · (intro w hSw; (try dsimp only at hSw); go_simp; try (with_reducible rfl))
                    simp only [Act.put, List.setIfInBounds_toArray, List.set_cons_zero, List.set_cons_succ]
                    refine tk_at (i := 6) (d := some 122) (v := ?_) rfl rfl (by kernel_rfl) (by kernel_rfl) (by kernel_rfl) (fun _ _ _ h => h) (Or.inl ⟨by rfl, ?_⟩) (by assumption) ?_
                    rotate_left
                    · (intro w hSw; (try dsimp only at hSw); go_simp; try (with_reducible rfl))
                    simp only [Act.put, List.setIfInBounds_toArray, List.set_cons_zero, List.set_cons_succ]
                    refine tk_at (i := 7) (d := some 123) (v := ?_) rfl rfl (by kernel_rfl) (by kernel_rfl) (by kernel_rfl) (fun _ _ _ h => h) (Or.inl ⟨by rfl, ?_⟩) (by assumption) ?_
                    rotate_left
                    · (intro w hSw; (try dsimp only at hSw); go_simp; try (with_reducible rfl))
                    simp only [Act.put, List.setIfInBounds_toArray, List.set_cons_zero, List.set_cons_succ]
                    refine tk_at (i := 8) (d := some 124) (v := ?_) rfl rfl (by kernel_rfl) (by kernel_rfl) (by kernel_rfl) (fun _ _ _ h => h) (Or.inl ⟨by rfl, ?_⟩) (by assumption) ?_
                    rotate_left
                    · (intro w hSw; (try dsimp only at hSw); go_simp; try (with_reducible rfl))
                    simp only [Act.put, List.setIfInBounds_toArray, List.set_cons_zero, List.set_cons_succ]
                    refine wpAnyH_ready (rs := [4]) (by kernel_rfl) (by simp) ?_
                    refine AllReadyH.cons rfl (fun K hK => ?_) AllReadyH.nil
                    go_simp
                    refine (ar_rel h Fi Bi ((l.length : Int) + (i : Int)) _ AI.out.drew (by omega) (by have := HBI.out.2.2; have := HBZ.out.2; omega)).mono ?_
                    rintro e w8 ⟨rfl, F8, a8, s8⟩
                    rw [HR1.out.1]
                    rw [HR1.out.2] at a8
                    have D8 := hid a8
                    have W8 := hid (And.intro (s8.heap (show wr.drew.heap[gw]? = _ from HWI.out.1) HWI.out.2) (s8.out HWI.out.2 (lt_of_heap HWI.out.1)))
                    have K8 := hid (And.intro (s8.heap (show wr.drew.heap[gk]? = _ from HKI.out.1) HKI.out.2) (s8.out HKI.out.2 (lt_of_heap HKI.out.1)))
                    have F8h := hid (show ∀ q, F8 q → w.heap.size ≤ q from s8.high BI.out.size FI.out)
                    have B8 := hid (show Below w.heap.size w w8 from (blw_drew BI.out).trans (s8.below BI.out.size FI.out))
                    have CW8 := hid (s8.cell (show wr.drew.cell? ⟨gw, i, none⟩ = some (.int .u32 (wv : Int)) from CW.out) HWI.out.2)
                    have CK8 := hid (s8.cell (show wr.drew.cell? ⟨gk, i, none⟩ = some (.int .u32 (kv : Int)) from CK.out) HKI.out.2)
                    clear a8 s8
                    go_wp2_with fail
                    refine hK.out _ _ (And.intro CW8.out CK8.out) (fun hHeld => ?_)
                    clear hK K
                    try simp only [Act.put, List.setIfInBounds_toArray, List.set_cons_zero, List.set_cons_succ]
                    refine tk_at (i := 9) (d := some 125) (v := ?_) rfl rfl (by kernel_rfl) (by kernel_rfl) (by kernel_rfl) (fun _ _ _ h => h) (Or.inl ⟨by rfl, ?_⟩) (by assumption) ?_
                    rotate_left
                    · (intro w hSw; (try dsimp only at hSw); go_simp; try (with_reducible rfl))
                    simp only [Act.put, List.setIfInBounds_toArray, List.set_cons_zero, List.set_cons_succ]
                    refine tk_at (i := 10) (d := some 126) (v := ?_) rfl rfl (by kernel_rfl) (by kernel_rfl) (by kernel_rfl) (fun _ _ _ h => h) (Or.inl ⟨by rfl, ?_⟩) (by assumption) ?_
                    rotate_left
                    · (intro w hSw; (try dsimp only at hSw); go_simp; try (with_reducible rfl))
                    simp only [Act.put, List.setIfInBounds_toArray, List.set_cons_zero, List.set_cons_succ]
                    refine tk_at (i := 11) (d := some 127) (v := ?_) rfl rfl (by kernel_rfl) (by kernel_rfl) (by kernel_rfl) (fun _ _ _ h => h) (Or.inl ⟨by rfl, ?_⟩) (by assumption) ?_
                    rotate_left
                    · (intro w hSw; (try dsimp only at hSw); go_simp; try (with_reducible rfl))
                    simp only [Act.put, List.setIfInBounds_toArray, List.set_cons_zero, List.set_cons_succ]
                    refine tk_at (i := 12) (d := some 128) (v := ?_) rfl rfl (by kernel_rfl) (by kernel_rfl) (by kernel_rfl) (fun _ _ _ h => h) (Or.inl ⟨by rfl, ?_⟩) (by assumption) ?_
                    rotate_left
                    · (intro w hSw; (try dsimp only at hSw); go_simp; try (with_reducible rfl))
                    simp only [Act.put, List.setIfInBounds_toArray, List.set_cons_zero, List.set_cons_succ]
                    refine tk_at (i := 13) (d := some 129) (v := ?_) rfl rfl (by kernel_rfl) (by kernel_rfl) (by kernel_rfl) (fun _ _ _ h => h) (Or.inl ⟨by rfl, ?_⟩) (by assumption) ?_
                    rotate_left
                    · (intro w hSw; (try dsimp only at hSw); go_simp; try (with_reducible rfl))
                    simp only [Act.put, List.setIfInBounds_toArray, List.set_cons_zero, List.set_cons_succ]
                    refine tk_at (i := 14) (d := some 130) (v := ?_) rfl rfl (by kernel_rfl) (by kernel_rfl) (by kernel_rfl) (fun _ _ _ h => h) (Or.inl ⟨by rfl, ?_⟩) (by assumption) ?_
                    rotate_left
                    · (intro w hSw; (try dsimp only at hSw); go_simp; try (with_reducible rfl))
                    simp only [Act.put, List.setIfInBounds_toArray, List.set_cons_zero, List.set_cons_succ]
                    refine tk_at (i := 15) (d := some 131) (v := ?_) rfl rfl (by kernel_rfl) (by kernel_rfl) (by kernel_rfl) (fun _ _ _ h => h) (Or.inl ⟨by rfl, ?_⟩) (by assumption) ?_
                    rotate_left
                    · (intro w hSw; (try dsimp only at hSw); go_simp; try (with_reducible rfl))
                    simp only [Act.put, List.setIfInBounds_toArray, List.set_cons_zero, List.set_cons_succ]
                    refine tk_at (i := 17) (d := some 133) (v := ?_) rfl rfl (by kernel_rfl) (by kernel_rfl) (by kernel_rfl) (fun _ _ _ h => h) (Or.inl ⟨by rfl, ?_⟩) (by assumption) ?_
                    rotate_left
                    · (intro w hSw; (try dsimp only at hSw); go_simp; try (with_reducible rfl))
                    simp only [Act.put, List.setIfInBounds_toArray, List.set_cons_zero, List.set_cons_succ]
                    refine tk_at (i := 18) (d := some 134) (v := ?_) rfl rfl (by kernel_rfl) (by kernel_rfl) (by kernel_rfl) (fun _ _ _ h => h) (Or.inl ⟨by rfl, ?_⟩) (by assumption) ?_
                    rotate_left
                    · (intro w hSw; (try dsimp only at hSw); go_simp; try (with_reducible rfl))
                    simp only [Act.put, List.setIfInBounds_toArray, List.set_cons_zero, List.set_cons_succ]
                    refine tk_at (i := 19) (d := some 135) (v := ?_) rfl rfl (by kernel_rfl) (by kernel_rfl) (by kernel_rfl) (fun _ _ _ h => h) (Or.inl ⟨by rfl, ?_⟩) (by assumption) ?_
                    rotate_left
                    · (intro w hSw; (try dsimp only at hSw); go_simp; try (with_reducible rfl))
                    simp only [Act.put, List.setIfInBounds_toArray, List.set_cons_zero, List.set_cons_succ]
                    refine tk_at (i := 20) (d := some 136) (v := ?_) rfl rfl (by kernel_rfl) (by kernel_rfl) (by kernel_rfl) (fun _ _ _ h => h) (Or.inl ⟨by rfl, ?_⟩) (by assumption) ?_
                    rotate_left
                    · (intro w hSw; (try dsimp only at hSw); go_simp; try (with_reducible rfl))
                    simp only [Act.put, List.setIfInBounds_toArray, List.set_cons_zero, List.set_cons_succ]
                    refine wpAnyH_ready (rs := [16]) (by kernel_rfl) (by simp) ?_
                    refine AllReadyH.cons rfl (fun K hK => ?_) AllReadyH.nil
                    go_simp
                    rw [HNN.out]
                    refine (ar_rel h F8 (Bi.relN (l.length + i)) (((2 * l.length : Nat) : Int) + (i : Int)) _ D8.out (by omega) (by rw [HE8.out]; have := HBI.out.2.2; have := HBZ.out.2; omega)).mono ?_
                    rintro e w9 ⟨rfl, F9, a9, s9⟩
                    rw [HR2.out.1]
                    rw [HR2.out.2] at a9
                    have D9 := hid a9
                    have W9 := hid (And.intro (s9.heap W8.out.1 W8.out.2) (s9.out W8.out.2 (lt_of_heap W8.out.1)))
                    have K9 := hid (And.intro (s9.heap K8.out.1 K8.out.2) (s9.out K8.out.2 (lt_of_heap K8.out.1)))
                    have F9h := hid (show ∀ q, F9 q → w.heap.size ≤ q from s9.high B8.out.size F8h.out)
                    have B9 := hid (show Below w.heap.size w w9 from B8.out.trans (s9.below B8.out.size F8h.out))
                    have CW9 := hid (s9.cell CW8.out W8.out.2)
                    have CK9 := hid (s9.cell CK8.out K8.out.2)
                    clear a9 s9
                    go_wp2_with fail
                    refine hK.out _ _ (And.intro CW9.out CK9.out) (fun hHeld => ?_)
                    clear hK K
                    try simp only [Act.put, List.setIfInBounds_toArray, List.set_cons_zero, List.set_cons_succ]
                    refine tk_at (i := 21) (d := some 137) (v := ?_) rfl rfl (by kernel_rfl) (by kernel_rfl) (by kernel_rfl) (fun _ _ _ h => h) (Or.inl ⟨by rfl, ?_⟩) (by assumption) ?_
                    rotate_left
                    · (intro w hSw; (try dsimp only at hSw); go_simp; try (with_reducible rfl))
                    simp only [Act.put, List.setIfInBounds_toArray, List.set_cons_zero, List.set_cons_succ]
                    refine tk_at (i := 22) (d := some 138) (v := ?_) rfl rfl (by kernel_rfl) (by kernel_rfl) (by kernel_rfl) (fun _ _ _ h => h) (Or.inl ⟨by rfl, ?_⟩) (by assumption) ?_
                    rotate_left
                    · (intro w hSw; (try dsimp only at hSw); go_simp; try (with_reducible rfl))
                    simp only [Act.put, List.setIfInBounds_toArray, List.set_cons_zero, List.set_cons_succ]
                    refine wpAnyH_done (by kernel_rfl) ?_ _
                    clear hHeld
                    go_wp2
                    go_roundw
                    case rel => exact ⟨i + 1, F9, (Bi.relN (l.length + i)).relN (2 * l.length + i), by omega, by go_num, D9.out, ⟨HBI.out.1, HBI.out.2.1, by rw [HE9.out, HBI.out.2.2]; omega⟩, W9.out.1, K9.out.1, W9.out.2, K9.out.2, F9h.out, B9.out⟩
                    case measure => simp [intOf]; omega
                  · clear A8 B8 HW HK HFW HF3 ai hbi hwi nwi hki nki fi
                    have BI := hid bi
                    clear bi
                    go_wp2
                    go_ret
                    exact ⟨rfl, BI.out⟩
  · have hni : (100 : Int) < (l.length : Int) := by omega
    go_enter Tryd.func3, Tryd.ntmps3
    go_wp2_with fail
    refine (awake9_any _ HT.out).mono ?_
    rintro e w0 ⟨rfl, hB0⟩
    have B0 := hid hB0
    clear hB0
    go_wp2
    go_ret
    exact ⟨rfl, B0.out⟩
end Go.Proofs.YtgkpmcmgkdmeeaaDoor
