/- The law ScanCarries returns true at all words, as they are read. -/
import Derived.Test.YtjdbofgjieljlaaScQ
import Derived.Test.YtjdbofgjieljlaaScJ
namespace Go.Proofs.Ytjdbofgjieljlaa
open Go.RowKit

set_option maxHeartbeats 400000 in
theorem all5_any (b : Bool) (w : World) : Calls Try.prog 43 #[.bool b] w fun e w' => e = .returned (u32 (mk b : Nat)) ∧ w' = w := by
  cases b
  all_goals
    go_enter Try.func43, Try.ntmps43
    go_wp2
    go_ret
    exact ⟨rfl, rfl⟩
theorem hb5 {w w' : World} {g : Nat} {o : Obj} (hb : Below w.heap.size w w') (h : w.heap[g]? = some o) : w'.heap[g]? = some o := (hb.block g (lt_of_heap h)).trans h
set_option maxHeartbeats 3200000 in
theorem carries_false (ad ae : Option Addr) (c d : Nat) (l m : List Nat) (w : World) (hu : U32s w ad l) (hv : U32s w ae m) (hl : ∀ x ∈ l, x < 4294967296) (hml : ∀ x ∈ m, x < 4294967296) (hm : m.length = l.length) (hn : l.length ≤ 60) :
    Calls Try.prog 7 #[.slice ad l.length c, .slice ae l.length d, .bool false] w fun e w' => e = .returned (.bool true) ∧ Below w.heap.size w w' := by
  have HU := hid hu
  have HV := hid hv
  have HM := hid hm
  have hn' : ¬ (60 : Int) < (l.length : Int) := by omega
  have HLW := hid (fun w' hu hv => lay5_any ad ae c d l m w' hu hv hl hml (by omega))
  have HLI := hid (lain_is l m)
  have HDU := hid (lain_duo (l := l) hm)
  obtain ⟨B, hBe⟩ : ∃ B, lain l m = B := ⟨_, rfl⟩
  rw [hBe] at HLI HLW HDU
  rw [hm] at HLW
  have HTP := hid (show B.top = l.length + l.length by rw [HLI.out.top, hm])
  have HWS := hid (show B.ws.length = l.length + l.length by rw [HLI.out.wl, hm])
  obtain ⟨e0, he0⟩ : ∃ e0, B.es.length = e0 := ⟨_, rfl⟩
  have HE0 := hid he0
  have he1 : e0 ≤ 1000 := by rw [← he0, HLI.out.es, hm]; omega
  clear hu hv hl hml hm hBe he0
  go_enter Try.func7, Try.ntmps7
  go_wp2_with fail
  refine (awake5_any _).mono ?_
  rintro e w0 ⟨rfl, hB0⟩
  have B0 := hid hB0
  clear hB0
  go_wp2_with fail
  refine (HLW.out _ (HU.out.below B0.out) (HV.out.below B0.out)).mono ?_
  rintro e w1 ⟨h, F1, rfl, a1, hF1, hB1⟩
  have A1 := hid a1
  have F1h := hid (show ∀ i, F1 i → w.heap.size ≤ i from fun i hi => Nat.le_trans B0.out.size (hF1 i hi))
  have B1 := hid (show Below w.heap.size w w1 from B0.out.trans (hB1.mono B0.out.size))
  clear a1 hF1 hB1
  go_wp2_with fail
  refine (ar_log h F1 _ _ A1.out).mono ?_
  rintro e w' ⟨rfl, hw'⟩
  subst w'
  obtain ⟨ob, hLo, _⟩ := A1.out.log
  go_wp2_with fail
  refine (len_any _ _ _ _ _ hLo).mono ?_
  rintro e w' ⟨rfl, hw'⟩
  subst w'
  clear hLo
  rw [HE0.out]
  go_wp2_with fail
  refine (first_yes h F1 B 0 l.length l.length _ A1.out (by rw [HTP.out]; omega) (by rw [HTP.out]; omega) (Or.inl (by omega)) (by rw [HE0.out]; omega)).mono ?_
  rintro e w2 ⟨rfl, F2, a2, s2⟩
  rw [fw_id HDU.out _ (Nat.le_refl _), fm_id HDU.out _ (Nat.le_refl _)]
  have A2 := hid a2
  have F2h := hid (show ∀ i, F2 i → w.heap.size ≤ i from s2.high B1.out.size F1h.out)
  have B2 := hid (show Below w.heap.size w w2 from B1.out.trans (s2.below B1.out.size F1h.out))
  have HD2 := hid (HDU.out.evg 0 l.length (fun i => i) l.length)
  have HT2 := hid (show (evg B 0 l.length (fun i => i) l.length).top = l.length + l.length by rw [evg_top, HTP.out])
  have HW2 := hid (show (evg B 0 l.length (fun i => i) l.length).ws.length = l.length + l.length by rw [evg_ws, HWS.out])
  have HE2 := hid (show (evg B 0 l.length (fun i => i) l.length).es.length = e0 + 2 * l.length by rw [evg_es, HE0.out])
  obtain ⟨Y2, hY2⟩ : ∃ Y2, evg B 0 l.length (fun i => i) l.length = Y2 := ⟨_, rfl⟩
  rw [hY2] at A2 HD2 HT2 HW2 HE2
  obtain ⟨V, hV⟩ : ∃ V, eV l m false l.length = V := ⟨_, rfl⟩
  obtain ⟨T, hT⟩ : ∃ T, eA m l.length = T := ⟨_, rfl⟩
  have HVE := hid hV
  have HTE := hid hT
  rw [hV, hT]
  clear a2 s2 hY2 hV hT
  go_wp2_with fail
  have X0 := hid (show ((w2.alloc (sb (V : Nat))).alloc (sb (mk T : Nat))).heap[w2.heap.size]? = some (sb (V : Nat)) from (by simp only [heap_alloc_get, World.size_alloc]; repeat (first | rw [if_pos trivial] | rw [if_pos rfl] | rw [if_neg (by omega)])))
  have X1 := hid (show ((w2.alloc (sb (V : Nat))).alloc (sb (mk T : Nat))).heap[w2.heap.size + 1]? = some (sb (mk T : Nat)) from (by simp only [heap_alloc_get, World.size_alloc]; repeat (first | rw [if_pos trivial] | rw [if_pos rfl] | rw [if_neg (by omega)])))
  have N2 := hid (show ∀ i, w2.heap.size ≤ i → ¬ F2 i from fun i hi z => by have := A2.out.lt _ z; omega)
  refine (last_yes h F2 Y2 0 l.length l.length _ ((A2.out.alloc _).alloc _) (by rw [HT2.out]; omega) (by rw [HT2.out]; omega) (Or.inl (by omega)) (by rw [HE2.out]; omega)).mono ?_
  rintro e w3 ⟨rfl, F3, a3, s3⟩
  rw [fw_last HD2.out, fm_last HD2.out, HTE.out]
  have A3 := hid a3
  have F3h := hid (show ∀ i, F3 i → w.heap.size ≤ i from s3.high (by simp; have := B2.out.size; omega) F2h.out)
  have B3 := hid (show Below w.heap.size w w3 from (blw_alloc (blw_alloc B2.out)).trans (s3.below (by simp; have := B2.out.size; omega) F2h.out))
  have Z0 := hid (s3.heap X0.out (N2.out _ (Nat.le_refl _)))
  have Z1 := hid (s3.heap X1.out (N2.out _ (by omega)))
  have HD3 := hid (HD2.out.evg 0 l.length (bk l.length) l.length)
  have HT3 := hid (show (evg Y2 0 l.length (bk l.length) l.length).top = l.length + l.length by rw [evg_top, HT2.out])
  have HW3 := hid (show (evg Y2 0 l.length (bk l.length) l.length).ws.length = l.length + l.length by rw [evg_ws, HW2.out])
  obtain ⟨e3, he3⟩ : ∃ e3, (evg Y2 0 l.length (bk l.length) l.length).es.length = e3 := ⟨_, rfl⟩
  have hq3 : e3 = e0 + 4 * l.length := by rw [← he3, evg_es, HE2.out]; omega
  have HE3 := hid he3
  have hs3 : (e3 : Int) - (e0 : Int) = 4 * (l.length : Int) := by omega
  have he4 : e3 ≤ 2000 := by omega
  obtain ⟨Y3, hY3⟩ : ∃ Y3, evg Y2 0 l.length (bk l.length) l.length = Y3 := ⟨_, rfl⟩
  rw [hY3] at A3 HD3 HT3 HW3 HE3
  obtain ⟨U, hU⟩ : ∃ U, eV l m true l.length = U := ⟨_, rfl⟩
  have HUE := hid hU
  rw [hU]
  clear a3 s3 hY3 hU he3 hq3 X0 X1
  go_wp2_with fail
  have A5 := hid ((A3.out.alloc (sb (U : Nat))).alloc (sb (mk T : Nat)))
  have B5 := hid (show Below w.heap.size w ((w3.alloc (sb (U : Nat))).alloc (sb (mk T : Nat))) from blw_alloc (blw_alloc B3.out))
  have L5 := hid (show Below w3.heap.size w3 ((w3.alloc (sb (U : Nat))).alloc (sb (mk T : Nat))) from (by repeat (first | exact Below.refl _ _ | refine blw_alloc ?_ | refine blw_drew ?_ | assumption)))
  have P0 := hid (hb5 L5.out Z0.out)
  have P1 := hid (hb5 L5.out Z1.out)
  have P2 := hid (show ((w3.alloc (sb (U : Nat))).alloc (sb (mk T : Nat))).heap[w3.heap.size]? = some (sb (U : Nat)) from (by simp only [heap_alloc_get, World.size_alloc]; repeat (first | rw [if_pos trivial] | rw [if_pos rfl] | rw [if_neg (by omega)])))
  have P3 := hid (show ((w3.alloc (sb (U : Nat))).alloc (sb (mk T : Nat))).heap[w3.heap.size + 1]? = some (sb (mk T : Nat)) from (by simp only [heap_alloc_get, World.size_alloc]; repeat (first | rw [if_pos trivial] | rw [if_pos rfl] | rw [if_neg (by omega)])))
  generalize (w3.alloc (sb (U : Nat))).alloc (sb (mk T : Nat)) = w5 at *
  refine (ar_log h F3 _ _ A5.out).mono ?_
  rintro e w' ⟨rfl, hw'⟩
  subst w'
  obtain ⟨ob, hLo, _⟩ := A5.out.log
  go_wp2_with fail
  refine (len_any _ _ _ _ _ hLo).mono ?_
  rintro e w' ⟨rfl, hw'⟩
  subst w'
  clear hLo
  rw [HE3.out]
  go_wp2_with fail
  refine (end_any ad ae c d l m false _ (HU.out.below B5.out) (HV.out.below B5.out) HM.out (by omega)).mono ?_
  rintro e w' ⟨rfl, hw'⟩
  subst w'
  rw [HVE.out, HTE.out]
  go_wp2_with fail
  refine (end_any ad ae c d l m true _ (HU.out.below B5.out) (HV.out.below B5.out) HM.out (by omega)).mono ?_
  rintro e w' ⟨rfl, hw'⟩
  subst w'
  rw [HUE.out, HTE.out]
  have k0 := cell_sb8 P0.out
  go_wp2_with fail
  refine (told5_any _ _).mono ?_
  rintro e w6 ⟨rfl, hB6⟩
  have B6 := hid hB6
  have k2 := cell_sb8 (hb5 hB6 P2.out)
  clear hB6 k0
  go_wp2_with fail
  refine (told5_any _ _).mono ?_
  rintro e w7 ⟨rfl, hB7⟩
  have B7 := hid (B6.out.trans (hB7.mono B6.out.size))
  have k1 := cell_sb8 (hb5 B7.out P1.out)
  clear hB7 k2
  go_wp2_with fail
  refine (told5_any _ _).mono ?_
  rintro e w8 ⟨rfl, hB8⟩
  have B8 := hid (B7.out.trans (hB8.mono B7.out.size))
  have k3 := cell_sb8 (hb5 B8.out P3.out)
  clear hB8 k1
  go_wp2_with fail
  refine (all5_any T _).mono ?_
  rintro e w' ⟨rfl, hw'⟩
  subst w'
  go_wp2_with fail
  refine (told5_any _ _).mono ?_
  rintro e w9 ⟨rfl, hB9⟩
  have B9 := hid (B8.out.trans (hB9.mono B8.out.size))
  clear hB9 k3
  go_wp2_with fail
  refine (all5_any T _).mono ?_
  rintro e w' ⟨rfl, hw'⟩
  subst w'
  have A9 := hid (A5.out.below B9.out)
  have C9 := hid (show Below w.heap.size w w9 from B5.out.trans (B9.out.mono B5.out.size))
  go_wp2_with fail
  refine (ar_log h F3 _ _ A9.out).mono ?_
  rintro e w' ⟨rfl, hw'⟩
  subst w'
  obtain ⟨ob, hLo, _⟩ := A9.out.log
  go_wp2_with fail
  refine (len_any _ _ _ _ _ hLo).mono ?_
  rintro e w' ⟨rfl, hw'⟩
  subst w'
  clear hLo
  rw [HE3.out]
  go_wp2_with fail
  refine (carry_yes h F3 Y3 0 l.length l.length _ A9.out (by rw [HT3.out]; omega) (by rw [HT3.out]; omega) (Or.inl (by omega)) (by rw [HE3.out]; omega)).mono ?_
  rintro e wa ⟨rfl, Fa, aa, sa⟩
  have Aa := hid aa
  have Fah := hid (show ∀ i, Fa i → w.heap.size ≤ i from sa.high C9.out.size F3h.out)
  have Ba := hid (show Below w.heap.size w wa from C9.out.trans (sa.below C9.out.size F3h.out))
  have HTD := hid (told_carry HD3.out HW3.out)
  have HTH := hid (told_has HD3.out HM.out (p := (fun i => i)) (v := fun i => cv Y3 0 l.length (fun i => i) (i + 1)) HW3.out (fun _ h => h))
  have HTa := hid (show (evf Y3 0 l.length (fun i => i) (fun i => cv Y3 0 l.length (fun i => i) (i + 1)) l.length).top = l.length + l.length by rw [evf_top, HT3.out])
  obtain ⟨ea, hea⟩ : ∃ ea, (evf Y3 0 l.length (fun i => i) (fun i => cv Y3 0 l.length (fun i => i) (i + 1)) l.length).es.length = ea := ⟨_, rfl⟩
  have hqa : ea = e3 + 3 * l.length := by rw [← hea, evf_es, HE3.out]
  have HEA := hid hea
  have hsa : (ea : Int) - (e3 : Int) = 3 * (l.length : Int) := by omega
  have hea4 : ea ≤ 3000 := by omega
  obtain ⟨Ya, hYa⟩ : ∃ Ya, evf Y3 0 l.length (fun i => i) (fun i => cv Y3 0 l.length (fun i => i) (i + 1)) l.length = Ya := ⟨_, rfl⟩
  rw [hYa] at Aa HTD HTH HTa HEA
  clear aa sa hea hqa hYa
  go_wp2_with fail
  refine (ar_log h Fa _ _ Aa.out).mono ?_
  rintro e w' ⟨rfl, hw'⟩
  subst w'
  obtain ⟨ob, hLo, _⟩ := Aa.out.log
  go_wp2_with fail
  refine (len_any _ _ _ _ _ hLo).mono ?_
  rintro e w' ⟨rfl, hw'⟩
  subst w'
  clear hLo
  rw [HEA.out]
  go_wp2_with fail
  refine (ar_show_yes h Fa Ya 0 l.length _ Aa.out (by rw [HTa.out]; omega) (by rw [HEA.out]; omega)).mono ?_
  rintro e wb ⟨g, Fb, rfl, hg, hgs, hgF, ab, sb'⟩
  rw [HTD.out] at hg
  have Ab := hid ab
  have Fbh := hid (show ∀ i, Fb i → w.heap.size ≤ i from sb'.high Ba.out.size Fah.out)
  have Bb := hid (show Below w.heap.size w wb from Ba.out.trans (sb'.below Ba.out.size Fah.out))
  have HGb := hid hg
  clear hg hgs hgF ab sb'
  go_wp2_with fail
  refine (rcarry_any ad ae c d l m false _ (HU.out.below Bb.out) (HV.out.below Bb.out) HM.out (by omega)).mono ?_
  rintro e wc ⟨rfl, hrow, hBc⟩
  have Ac := hid (Ab.out.below hBc)
  have Bc := hid (show Below w.heap.size w wc from Bb.out.trans (hBc.mono Bb.out.size))
  have HU1 := hid (secs_row (hb5 hBc HGb.out))
  have HU2 := hid (row_u32s hrow)
  have HSM := hid (same5_yes (some ⟨g, 0, none⟩) (some ⟨wb.heap.size, 0, none⟩) l.length l.length _ wc HU1.out HU2.out (by simp; omega))
  rw [List.length_map, List.length_range] at HSM
  clear hrow hBc
  go_wp2_with fail
  refine HSM.out.mono ?_
  rintro e wd ⟨rfl, hBd⟩
  have Ad := hid (Ac.out.below hBd)
  have Bd := hid (show Below w.heap.size w wd from Bc.out.trans (hBd.mono Bc.out.size))
  clear hBd
  go_wp2_with fail
  refine (ar_show_yes h Fb (Ya.relK 0 l.length) l.length l.length _ Ad.out (by rw [Ars.relK_top, HTa.out]; omega) (by rw [Ars.relK_eslen, HEA.out]; omega)).mono ?_
  rintro e we ⟨g2, Fe, rfl, hg, hgs, hgF, ae', se'⟩
  have hte : (Ya.relK 0 l.length).told l.length l.length = m := by rw [← HTH.out]; unfold Ars.told; apply List.map_congr_left; intro j _; rw [Ars.relK_word]
  rw [hte] at hg
  have Be := hid (show Below w.heap.size w we from Bd.out.trans (se'.below Bd.out.size Fbh.out))
  have HSN := hid (same5_yes (some ⟨g2, 0, none⟩) ae l.length d m we (secs_row hg) (HV.out.below Be.out) (by rw [HM.out]; omega))
  rw [HM.out] at HSN
  clear hg hgs hgF ae' se' hte
  go_wp2_with fail
  refine HSN.out.mono ?_
  rintro e wf ⟨rfl, hBf⟩
  have Bf := hid (Be.out.trans (hBf.mono Be.out.size))
  clear hBf
  go_wp2
  go_ret
  exact ⟨rfl, Bf.out⟩

set_option maxHeartbeats 3200000 in
theorem carries_true (ad ae : Option Addr) (c d : Nat) (l m : List Nat) (w : World) (hu : U32s w ad l) (hv : U32s w ae m) (hl : ∀ x ∈ l, x < 4294967296) (hml : ∀ x ∈ m, x < 4294967296) (hm : m.length = l.length) (hn : l.length ≤ 60) :
    Calls Try.prog 7 #[.slice ad l.length c, .slice ae l.length d, .bool true] w fun e w' => e = .returned (.bool true) ∧ Below w.heap.size w w' := by
  have HU := hid hu
  have HV := hid hv
  have HM := hid hm
  have hn' : ¬ (60 : Int) < (l.length : Int) := by omega
  have HLW := hid (fun w' hu hv => lay5_any ad ae c d l m w' hu hv hl hml (by omega))
  have HLI := hid (lain_is l m)
  have HDU := hid (lain_duo (l := l) hm)
  obtain ⟨B, hBe⟩ : ∃ B, lain l m = B := ⟨_, rfl⟩
  rw [hBe] at HLI HLW HDU
  rw [hm] at HLW
  have HTP := hid (show B.top = l.length + l.length by rw [HLI.out.top, hm])
  have HWS := hid (show B.ws.length = l.length + l.length by rw [HLI.out.wl, hm])
  obtain ⟨e0, he0⟩ : ∃ e0, B.es.length = e0 := ⟨_, rfl⟩
  have HE0 := hid he0
  have he1 : e0 ≤ 1000 := by rw [← he0, HLI.out.es, hm]; omega
  clear hu hv hl hml hm hBe he0
  go_enter Try.func7, Try.ntmps7
  go_wp2_with fail
  refine (awake5_any _).mono ?_
  rintro e w0 ⟨rfl, hB0⟩
  have B0 := hid hB0
  clear hB0
  go_wp2_with fail
  refine (HLW.out _ (HU.out.below B0.out) (HV.out.below B0.out)).mono ?_
  rintro e w1 ⟨h, F1, rfl, a1, hF1, hB1⟩
  have A1 := hid a1
  have F1h := hid (show ∀ i, F1 i → w.heap.size ≤ i from fun i hi => Nat.le_trans B0.out.size (hF1 i hi))
  have B1 := hid (show Below w.heap.size w w1 from B0.out.trans (hB1.mono B0.out.size))
  clear a1 hF1 hB1
  go_wp2_with fail
  refine (ar_log h F1 _ _ A1.out).mono ?_
  rintro e w' ⟨rfl, hw'⟩
  subst w'
  obtain ⟨ob, hLo, _⟩ := A1.out.log
  go_wp2_with fail
  refine (len_any _ _ _ _ _ hLo).mono ?_
  rintro e w' ⟨rfl, hw'⟩
  subst w'
  clear hLo
  rw [HE0.out]
  go_wp2_with fail
  refine (first_yes h F1 B 0 l.length l.length _ A1.out (by rw [HTP.out]; omega) (by rw [HTP.out]; omega) (Or.inl (by omega)) (by rw [HE0.out]; omega)).mono ?_
  rintro e w2 ⟨rfl, F2, a2, s2⟩
  rw [fw_id HDU.out _ (Nat.le_refl _), fm_id HDU.out _ (Nat.le_refl _)]
  have A2 := hid a2
  have F2h := hid (show ∀ i, F2 i → w.heap.size ≤ i from s2.high B1.out.size F1h.out)
  have B2 := hid (show Below w.heap.size w w2 from B1.out.trans (s2.below B1.out.size F1h.out))
  have HD2 := hid (HDU.out.evg 0 l.length (fun i => i) l.length)
  have HT2 := hid (show (evg B 0 l.length (fun i => i) l.length).top = l.length + l.length by rw [evg_top, HTP.out])
  have HW2 := hid (show (evg B 0 l.length (fun i => i) l.length).ws.length = l.length + l.length by rw [evg_ws, HWS.out])
  have HE2 := hid (show (evg B 0 l.length (fun i => i) l.length).es.length = e0 + 2 * l.length by rw [evg_es, HE0.out])
  obtain ⟨Y2, hY2⟩ : ∃ Y2, evg B 0 l.length (fun i => i) l.length = Y2 := ⟨_, rfl⟩
  rw [hY2] at A2 HD2 HT2 HW2 HE2
  obtain ⟨V, hV⟩ : ∃ V, eV l m false l.length = V := ⟨_, rfl⟩
  obtain ⟨T, hT⟩ : ∃ T, eA m l.length = T := ⟨_, rfl⟩
  have HVE := hid hV
  have HTE := hid hT
  rw [hV, hT]
  clear a2 s2 hY2 hV hT
  go_wp2_with fail
  have X0 := hid (show ((w2.alloc (sb (V : Nat))).alloc (sb (mk T : Nat))).heap[w2.heap.size]? = some (sb (V : Nat)) from (by simp only [heap_alloc_get, World.size_alloc]; repeat (first | rw [if_pos trivial] | rw [if_pos rfl] | rw [if_neg (by omega)])))
  have X1 := hid (show ((w2.alloc (sb (V : Nat))).alloc (sb (mk T : Nat))).heap[w2.heap.size + 1]? = some (sb (mk T : Nat)) from (by simp only [heap_alloc_get, World.size_alloc]; repeat (first | rw [if_pos trivial] | rw [if_pos rfl] | rw [if_neg (by omega)])))
  have N2 := hid (show ∀ i, w2.heap.size ≤ i → ¬ F2 i from fun i hi z => by have := A2.out.lt _ z; omega)
  refine (last_yes h F2 Y2 0 l.length l.length _ ((A2.out.alloc _).alloc _) (by rw [HT2.out]; omega) (by rw [HT2.out]; omega) (Or.inl (by omega)) (by rw [HE2.out]; omega)).mono ?_
  rintro e w3 ⟨rfl, F3, a3, s3⟩
  rw [fw_last HD2.out, fm_last HD2.out, HTE.out]
  have A3 := hid a3
  have F3h := hid (show ∀ i, F3 i → w.heap.size ≤ i from s3.high (by simp; have := B2.out.size; omega) F2h.out)
  have B3 := hid (show Below w.heap.size w w3 from (blw_alloc (blw_alloc B2.out)).trans (s3.below (by simp; have := B2.out.size; omega) F2h.out))
  have Z0 := hid (s3.heap X0.out (N2.out _ (Nat.le_refl _)))
  have Z1 := hid (s3.heap X1.out (N2.out _ (by omega)))
  have HD3 := hid (HD2.out.evg 0 l.length (bk l.length) l.length)
  have HT3 := hid (show (evg Y2 0 l.length (bk l.length) l.length).top = l.length + l.length by rw [evg_top, HT2.out])
  have HW3 := hid (show (evg Y2 0 l.length (bk l.length) l.length).ws.length = l.length + l.length by rw [evg_ws, HW2.out])
  obtain ⟨e3, he3⟩ : ∃ e3, (evg Y2 0 l.length (bk l.length) l.length).es.length = e3 := ⟨_, rfl⟩
  have hq3 : e3 = e0 + 4 * l.length := by rw [← he3, evg_es, HE2.out]; omega
  have HE3 := hid he3
  have hs3 : (e3 : Int) - (e0 : Int) = 4 * (l.length : Int) := by omega
  have he4 : e3 ≤ 2000 := by omega
  obtain ⟨Y3, hY3⟩ : ∃ Y3, evg Y2 0 l.length (bk l.length) l.length = Y3 := ⟨_, rfl⟩
  rw [hY3] at A3 HD3 HT3 HW3 HE3
  obtain ⟨U, hU⟩ : ∃ U, eV l m true l.length = U := ⟨_, rfl⟩
  have HUE := hid hU
  rw [hU]
  clear a3 s3 hY3 hU he3 hq3 X0 X1
  go_wp2_with fail
  have A5 := hid ((A3.out.alloc (sb (U : Nat))).alloc (sb (mk T : Nat)))
  have B5 := hid (show Below w.heap.size w ((w3.alloc (sb (U : Nat))).alloc (sb (mk T : Nat))) from blw_alloc (blw_alloc B3.out))
  have L5 := hid (show Below w3.heap.size w3 ((w3.alloc (sb (U : Nat))).alloc (sb (mk T : Nat))) from (by repeat (first | exact Below.refl _ _ | refine blw_alloc ?_ | refine blw_drew ?_ | assumption)))
  have P0 := hid (hb5 L5.out Z0.out)
  have P1 := hid (hb5 L5.out Z1.out)
  have P2 := hid (show ((w3.alloc (sb (U : Nat))).alloc (sb (mk T : Nat))).heap[w3.heap.size]? = some (sb (U : Nat)) from (by simp only [heap_alloc_get, World.size_alloc]; repeat (first | rw [if_pos trivial] | rw [if_pos rfl] | rw [if_neg (by omega)])))
  have P3 := hid (show ((w3.alloc (sb (U : Nat))).alloc (sb (mk T : Nat))).heap[w3.heap.size + 1]? = some (sb (mk T : Nat)) from (by simp only [heap_alloc_get, World.size_alloc]; repeat (first | rw [if_pos trivial] | rw [if_pos rfl] | rw [if_neg (by omega)])))
  generalize (w3.alloc (sb (U : Nat))).alloc (sb (mk T : Nat)) = w5 at *
  refine (ar_log h F3 _ _ A5.out).mono ?_
  rintro e w' ⟨rfl, hw'⟩
  subst w'
  obtain ⟨ob, hLo, _⟩ := A5.out.log
  go_wp2_with fail
  refine (len_any _ _ _ _ _ hLo).mono ?_
  rintro e w' ⟨rfl, hw'⟩
  subst w'
  clear hLo
  rw [HE3.out]
  go_wp2_with fail
  refine (end_any ad ae c d l m false _ (HU.out.below B5.out) (HV.out.below B5.out) HM.out (by omega)).mono ?_
  rintro e w' ⟨rfl, hw'⟩
  subst w'
  rw [HVE.out, HTE.out]
  go_wp2_with fail
  refine (end_any ad ae c d l m true _ (HU.out.below B5.out) (HV.out.below B5.out) HM.out (by omega)).mono ?_
  rintro e w' ⟨rfl, hw'⟩
  subst w'
  rw [HUE.out, HTE.out]
  have k0 := cell_sb8 P0.out
  go_wp2_with fail
  refine (told5_any _ _).mono ?_
  rintro e w6 ⟨rfl, hB6⟩
  have B6 := hid hB6
  have k2 := cell_sb8 (hb5 hB6 P2.out)
  clear hB6 k0
  go_wp2_with fail
  refine (told5_any _ _).mono ?_
  rintro e w7 ⟨rfl, hB7⟩
  have B7 := hid (B6.out.trans (hB7.mono B6.out.size))
  have k1 := cell_sb8 (hb5 B7.out P1.out)
  clear hB7 k2
  go_wp2_with fail
  refine (told5_any _ _).mono ?_
  rintro e w8 ⟨rfl, hB8⟩
  have B8 := hid (B7.out.trans (hB8.mono B7.out.size))
  have k3 := cell_sb8 (hb5 B8.out P3.out)
  clear hB8 k1
  go_wp2_with fail
  refine (all5_any T _).mono ?_
  rintro e w' ⟨rfl, hw'⟩
  subst w'
  go_wp2_with fail
  refine (told5_any _ _).mono ?_
  rintro e w9 ⟨rfl, hB9⟩
  have B9 := hid (B8.out.trans (hB9.mono B8.out.size))
  clear hB9 k3
  go_wp2_with fail
  refine (all5_any T _).mono ?_
  rintro e w' ⟨rfl, hw'⟩
  subst w'
  have A9 := hid (A5.out.below B9.out)
  have C9 := hid (show Below w.heap.size w w9 from B5.out.trans (B9.out.mono B5.out.size))
  go_wp2_with fail
  refine (ar_log h F3 _ _ A9.out).mono ?_
  rintro e w' ⟨rfl, hw'⟩
  subst w'
  obtain ⟨ob, hLo, _⟩ := A9.out.log
  go_wp2_with fail
  refine (len_any _ _ _ _ _ hLo).mono ?_
  rintro e w' ⟨rfl, hw'⟩
  subst w'
  clear hLo
  rw [HE3.out]
  go_wp2_with fail
  refine (sback_yes h F3 Y3 0 l.length l.length _ A9.out (by rw [HT3.out]; omega) (by rw [HT3.out]; omega) (Or.inl (by omega)) (by rw [HE3.out]; omega)).mono ?_
  rintro e wa ⟨rfl, Fa, aa, sa⟩
  have Aa := hid aa
  have Fah := hid (show ∀ i, Fa i → w.heap.size ≤ i from sa.high C9.out.size F3h.out)
  have Ba := hid (show Below w.heap.size w wa from C9.out.trans (sa.below C9.out.size F3h.out))
  have HTD := hid (told_back HD3.out HW3.out)
  have HTH := hid (told_has HD3.out HM.out (p := (bk l.length)) (v := fun i => cv Y3 0 l.length (bk l.length) (i + 1)) HW3.out (fun k hk => by unfold bk; omega))
  have HTa := hid (show (evf Y3 0 l.length (bk l.length) (fun i => cv Y3 0 l.length (bk l.length) (i + 1)) l.length).top = l.length + l.length by rw [evf_top, HT3.out])
  obtain ⟨ea, hea⟩ : ∃ ea, (evf Y3 0 l.length (bk l.length) (fun i => cv Y3 0 l.length (bk l.length) (i + 1)) l.length).es.length = ea := ⟨_, rfl⟩
  have hqa : ea = e3 + 3 * l.length := by rw [← hea, evf_es, HE3.out]
  have HEA := hid hea
  have hsa : (ea : Int) - (e3 : Int) = 3 * (l.length : Int) := by omega
  have hea4 : ea ≤ 3000 := by omega
  obtain ⟨Ya, hYa⟩ : ∃ Ya, evf Y3 0 l.length (bk l.length) (fun i => cv Y3 0 l.length (bk l.length) (i + 1)) l.length = Ya := ⟨_, rfl⟩
  rw [hYa] at Aa HTD HTH HTa HEA
  clear aa sa hea hqa hYa
  go_wp2_with fail
  refine (ar_log h Fa _ _ Aa.out).mono ?_
  rintro e w' ⟨rfl, hw'⟩
  subst w'
  obtain ⟨ob, hLo, _⟩ := Aa.out.log
  go_wp2_with fail
  refine (len_any _ _ _ _ _ hLo).mono ?_
  rintro e w' ⟨rfl, hw'⟩
  subst w'
  clear hLo
  rw [HEA.out]
  go_wp2_with fail
  refine (ar_show_yes h Fa Ya 0 l.length _ Aa.out (by rw [HTa.out]; omega) (by rw [HEA.out]; omega)).mono ?_
  rintro e wb ⟨g, Fb, rfl, hg, hgs, hgF, ab, sb'⟩
  rw [HTD.out] at hg
  have Ab := hid ab
  have Fbh := hid (show ∀ i, Fb i → w.heap.size ≤ i from sb'.high Ba.out.size Fah.out)
  have Bb := hid (show Below w.heap.size w wb from Ba.out.trans (sb'.below Ba.out.size Fah.out))
  have HGb := hid hg
  clear hg hgs hgF ab sb'
  go_wp2_with fail
  refine (rcarry_any ad ae c d l m true _ (HU.out.below Bb.out) (HV.out.below Bb.out) HM.out (by omega)).mono ?_
  rintro e wc ⟨rfl, hrow, hBc⟩
  have Ac := hid (Ab.out.below hBc)
  have Bc := hid (show Below w.heap.size w wc from Bb.out.trans (hBc.mono Bb.out.size))
  have HU1 := hid (secs_row (hb5 hBc HGb.out))
  have HU2 := hid (row_u32s hrow)
  have HSM := hid (same5_yes (some ⟨g, 0, none⟩) (some ⟨wb.heap.size, 0, none⟩) l.length l.length _ wc HU1.out HU2.out (by simp; omega))
  rw [List.length_map, List.length_range] at HSM
  clear hrow hBc
  go_wp2_with fail
  refine HSM.out.mono ?_
  rintro e wd ⟨rfl, hBd⟩
  have Ad := hid (Ac.out.below hBd)
  have Bd := hid (show Below w.heap.size w wd from Bc.out.trans (hBd.mono Bc.out.size))
  clear hBd
  go_wp2_with fail
  refine (ar_show_yes h Fb (Ya.relK 0 l.length) l.length l.length _ Ad.out (by rw [Ars.relK_top, HTa.out]; omega) (by rw [Ars.relK_eslen, HEA.out]; omega)).mono ?_
  rintro e we ⟨g2, Fe, rfl, hg, hgs, hgF, ae', se'⟩
  have hte : (Ya.relK 0 l.length).told l.length l.length = m := by rw [← HTH.out]; unfold Ars.told; apply List.map_congr_left; intro j _; rw [Ars.relK_word]
  rw [hte] at hg
  have Be := hid (show Below w.heap.size w we from Bd.out.trans (se'.below Bd.out.size Fbh.out))
  have HSN := hid (same5_yes (some ⟨g2, 0, none⟩) ae l.length d m we (secs_row hg) (HV.out.below Be.out) (by rw [HM.out]; omega))
  rw [HM.out] at HSN
  clear hg hgs hgF ae' se' hte
  go_wp2_with fail
  refine HSN.out.mono ?_
  rintro e wf ⟨rfl, hBf⟩
  have Bf := hid (Be.out.trans (hBf.mono Be.out.size))
  clear hBf
  go_wp2
  go_ret
  exact ⟨rfl, Bf.out⟩

set_option maxHeartbeats 800000 in
theorem scanCarries_walk (ad : Option Addr) (len cap : Nat) (zs : List Int) (ae : Option Addr) (len2 cap2 : Nat) (ys : List Int) (b : Bool) (w : World) (h1 : IsRow .u32 w ad len cap zs) (h2 : IsRow .u32 w ae len2 cap2 ys) :
    Calls Try.prog 7 #[.slice ad len cap, .slice ae len2 cap2, .bool b] w fun e w' => e = .returned (.bool true) ∧ Below w.heap.size w w' := by
  obtain ⟨l, rfl, hl, hu⟩ := isRow_u32s h1
  obtain ⟨m, rfl, hml, hv⟩ := isRow_u32s h2
  by_cases hn : l.length ≤ 60
  · by_cases hm : m.length = l.length
    · rw [hm]
      cases b
      · exact carries_false ad ae cap cap2 l m w hu hv hl hml hm hn
      · exact carries_true ad ae cap cap2 l m w hu hv hl hml hm hn
    · clear h1 h2 hl hml hu hv
      obtain ⟨n, hne⟩ : ∃ n, l.length = n := ⟨_, rfl⟩
      obtain ⟨k, hke⟩ : ∃ k, m.length = k := ⟨_, rfl⟩
      rw [hne] at hn hm ⊢
      rw [hke] at hm ⊢
      clear hne hke
      have c1 : ¬ (60 : Int) < (n : Int) := by omega
      have c2 : ((k : Int) != (n : Int)) = true := by simp; omega
      have c3 : ¬ (k : Int) = (n : Int) := by omega
      clear hn
      go_enter Try.func7, Try.ntmps7
      go_wp2_with (go_at_call 29; refine (awake5_any _).mono ?_; rintro e w1 ⟨rfl, hB1⟩; have HB1 := hid hB1; clear hB1)
      go_ret
      exact ⟨rfl, HB1.out⟩
  · clear h1 h2 hl hml hu hv
    obtain ⟨n, hne⟩ : ∃ n, l.length = n := ⟨_, rfl⟩
    rw [hne] at hn ⊢
    clear hne
    have c1 : (60 : Int) < (n : Int) := by omega
    clear hn
    go_enter Try.func7, Try.ntmps7
    go_wp2_with (go_at_call 29; refine (awake5_any _).mono ?_; rintro e w1 ⟨rfl, hB1⟩; have HB1 := hid hB1; clear hB1)
    go_ret
    exact ⟨rfl, HB1.out⟩
end Go.Proofs.Ytjdbofgjieljlaa
