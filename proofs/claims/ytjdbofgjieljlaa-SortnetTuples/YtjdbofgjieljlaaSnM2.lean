/- The law SortnetTuples returns true at all lists of rows, widths and places. The law SortnetTuples returns true at all rows of words, as they are read. -/
import Derived.Test.YtjdbofgjieljlaaSnO2
import Derived.Deep.AppendLies
namespace Go.Proofs.Ytjdbofgjieljlaa
open Go.RowKit
set_option linter.unusedVariables false

set_option maxHeartbeats 6400000 in
set_option maxRecDepth 4000 in
theorem tuples_core (L : List (List Nat)) (ad : Option Addr) (cap width : Nat) (place : Int) (w : World) (hg : Grid w ad L) (hL : ∀ l ∈ L, ∀ x ∈ l, x < 4294967296) (hn : L.length ≤ 60) (hw : width < 256) (hp0 : -9223372036854775808 ≤ place) (hp1 : place < 9223372036854775808) :
    Calls Try.prog 3 #[.slice ad L.length cap, .int .u8 (width : Int), .int .i64 place] w fun e w' => e = .returned (.bool true) ∧ Below w.heap.size w w' := by
  have HG := hid hg
  have HL := hid (wd_lt hL)
  have HLL := hid hL
  obtain ⟨W, hWe⟩ : ∃ W, width % 6 = W := ⟨_, rfl⟩
  have hW : W ≤ 5 := by omega
  have hwi : (width : Int) % 6 = (W : Int) := by omega
  obtain ⟨n, hne⟩ : ∃ n, L.length = n := ⟨_, rfl⟩
  have HNE := hid hne
  rw [hne] at hn ⊢
  obtain ⟨T, hT⟩ : ∃ T, n * W = T := ⟨_, rfl⟩
  have hTb : T ≤ 300 := by rw [← hT]; exact Nat.mul_le_mul hn hW
  have HTE := hid hT
  have HTI := hid (show wrap64 ((n : Int) * (W : Int)) = (T : Int) by
    have : (n : Int) * (W : Int) = (T : Int) := by rw [← hT]; push_cast; rfl
    rw [this]; unfold wrap64; omega)
  obtain ⟨tg, htg⟩ : ∃ tg, tgS L n = tg := ⟨_, rfl⟩
  have HTG := hid htg
  obtain ⟨i0, hi, hz0, hz1, hz2⟩ := info_parts Try.infoInt
  clear hg hL hWe hw hne hT htg
  go_enter Try.func3, Try.ntmps3
  go_wp2_with (go_at_call 9; refine (awake_any _).mono ?_; rintro e w1 ⟨rfl, hB1⟩; have HB1 := hid hB1; clear hB1)
  rw [HTI.out]
  refine (ar_new_at (T : Int) T _ (Or.inr rfl) (by omega)).mono ?_
  rintro e w2 ⟨h1, F1, rfl, a1, hi1, hb1⟩
  have H1 := hid (And.intro a1 (And.intro hi1 hb1))
  clear a1 hi1 hb1
  go_wp2_with fail
  rw [HTI.out]
  refine (ar_new_at (T : Int) T _ (Or.inr rfl) (by omega)).mono ?_
  rintro e w3 ⟨h2, F2, rfl, a2, hi2, hb2⟩
  have H2 := hid (And.intro a2 (And.intro hi2 hb2))
  clear a2 hi2 hb2
  go_wp2_with fail
  rw [HTI.out]
  refine (ar_take h1 F1 _ (T : Int) _ (H1.out.1.below H2.out.2.2) (by simp [Ars.new])).mono ?_
  rintro e w4 ⟨rfl, F3, a3, s3⟩
  have H3 := hid (And.intro a3 s3)
  clear a3 s3
  go_wp2_with fail
  rw [HTI.out]
  have HA42 := hid (show Ar w4 h2 F2 (Ars.new (T : Int)) from H2.out.1.kept (G := F1) H3.out.2.fr (fun i x y => by have := H2.out.2.1 i x; have := H1.out.1.lt i y; omega))
  refine (ar_take h2 F2 _ (T : Int) _ HA42.out (by simp [Ars.new])).mono ?_
  rintro e w5 ⟨rfl, F4, a4, s4⟩
  have HS := hid (show Lay2 w1 w5 h1 h2 n T tg 0 0 0 F3 F4 ((Ars.new (T : Int)).take (T : Int)) ((Ars.new (T : Int)).take (T : Int)) (.slice none 0 0) from by
    have b2 := H1.out.2.2
    have b3 := belowCat b2 H2.out.2.2
    have b4 := b3.trans (H3.out.2.below b3.size H1.out.2.1)
    have f2 : ∀ i, F2 i → w1.heap.size ≤ i := fun i hi => Nat.le_trans b2.size (H2.out.2.1 i hi)
    have b5 := b4.trans (s4.below b4.size f2)
    have d32 : ∀ i, F3 i → F2 i → False := fun i x y => by
      have l2 := H2.out.1.lt i y
      have l1 := H2.out.2.1 i y
      rcases H3.out.2.sub i x with z | z
      · have := H1.out.1.lt i z; omega
      · omega
    refine ⟨H3.out.1.kept (G := F2) s4.fr d32, a4, b5, fun i x => (H3.out.2.sub i x).elim (H1.out.2.1 i) fun z => Nat.le_trans b3.size z, fun i x => (s4.sub i x).elim (f2 i) fun z => Nat.le_trans b4.size z, ⟨rfl, Or.inl ⟨rfl, rfl⟩⟩, fun q hq => (by cases hq), fun q hq => (by cases hq), fun i x y => ?_, laid0_new T tg, laid0_new T _⟩
    rcases s4.sub i y with z | z
    · exact d32 i x z
    · have := H3.out.1.lt i x; omega)
  clear a4 s4 HA42 H1 H2 H3
  generalize (Ars.new (T : Int)).take (T : Int) = A0 at *
  go_wp2_with fail
  go_loopw [11, 53] (fun v c wr => ∃ (k : Nat) (F1 F2 : Nat → Prop) (A1 A2 : Ars) (sd : Option Addr) (sc : Nat), k ≤ W ∧ c = .int .i64 (k : Int) ∧ v = .slice sd k sc ∧ Lay2 w1 wr h1 h2 n T tg k (k * n) (k * n) F1 F2 A1 A2 (.slice sd k sc)) (fun _ c _ => W - (intOf c).toNat)
  case atStart => exact ⟨0, F3, F4, A0, A0, none, 0, Nat.zero_le _, rfl, rfl, by simpa using HS.out⟩
  case round =>
    obtain ⟨k, F5, F6, A5, A6, sd, sc, hk, rfl, rfl, ls⟩ := hrel
    have HLS := hid ls
    clear ls HS
    by_cases hlt : k < W
    · obtain ⟨P, hP⟩ : ∃ P, k * n = P := ⟨_, rfl⟩
      have hPT : P + n ≤ T := by
        rw [← hP, ← HTE.out, ← Nat.succ_mul, Nat.mul_comm n W]; exact Nat.mul_le_mul_right _ (by omega)
      have HPI := hid (show wrap64 ((k : Int) * (n : Int)) = (P : Int) by
        have : (k : Int) * (n : Int) = (P : Int) := by rw [← hP]; push_cast; rfl
        rw [this]; unfold wrap64; omega)
      have HSU := hid (show ints (lanesK n (k + 1)) = ints (lanesK n k) ++ [.int .i64 (P : Int)] by rw [lanesK_succ, hP])
      rw [hP] at HLS
      have HP := hid hP
      clear hP
      go_wp2_with (at_builtin; rw [HPI.out]; refine wpList_append_lies _ rfl (.tmp 56) (.tmp 60) 28 rfl w1.heap.size 3 i0 _ 1 8 Try.underlying28 hi hz0 hz1 hz2 rfl (by decide) _ k (ints (lanesK n k)) rfl (HLS.out.own.alloc _) ⟨wr.heap.size, 0, none⟩ 1 1 [.int .i64 (P : Int)] rfl rfl (World.news_of_block (heap_alloc_at _ _)) (by intro u hu; simp at hu; subst hu; rfl) (by decide) (by unfold maxLen; omega) (by omega) (by have := HLS.out.bel.size; simp; omega) _ rfl ?_; intro g cap7 w7 hown hgrow hat hlt7; have H7 := hid (And.intro hown (And.intro hgrow hat)); clear hown hgrow hat hlt7)
      have HL7 := hid (show Lay2 w1 w7 h1 h2 n T tg (k + 1) P P F5 F6 A5 A6 (.slice (some ⟨g, 0, none⟩) (k + 1) cap7) from by
        have ho := H7.out.1
        rw [← HSU.out] at ho
        exact (HLS.out.alloc _).grown ho H7.out.2.1 H7.out.2.2)
      clear H7
      obtain ⟨wz, rfl⟩ : ∃ y, y = wr := ⟨_, rfl⟩
      go_loopw [64] (fun c wr => ∃ (i : Nat) (F1 F2 : Nat → Prop) (A1 A2 : Ars), i ≤ n ∧ c = .int .i64 (i : Int) ∧ Lay2 w1 wr h1 h2 n T tg (k + 1) (P + i) (P + i) F1 F2 A1 A2 (.slice (some ⟨g, 0, none⟩) (k + 1) cap7)) (fun c _ => n - (intOf c).toNat)
      case atStart => exact ⟨0, F5, F6, A5, A6, Nat.zero_le _, rfl, HL7.out⟩
      case round =>
        clear HL7 HLS
        obtain ⟨i, F7, F8, A7, A8, hin, rfl, l8⟩ := hrel
        have HL8 := hid l8
        clear l8
        by_cases hil : i < n
        · have hiL : i < L.length := by rw [HNE.out]; exact hil
          obtain ⟨x, rfl, ra, rc, cx, ur⟩ := (HG.out.below (belowCat HB1.out HL8.out.bel)) i hiL
          have HUR := hid ur
          have HX := hid (show wrap64 (wrap64 ((k : Int) * (n : Int)) + (i : Int)) = ((P + i : Nat) : Int) by rw [HPI.out]; unfold wrap64; omega)
          have HTGV := hid (show tg (P + i) = wd L i k by rw [← HTG.out, ← HP.out]; exact tgS_at L n k i hil)
          have HV := hid (HL.out i k)
          have HWI := hid (show wd L i k = (L[i]).getD k 0 by unfold wd; simp [hiL])
          obtain ⟨row, hrow⟩ : ∃ row, L[i] = row := ⟨_, rfl⟩
          rw [hrow] at cx HUR HWI
          obtain ⟨v, hv⟩ : ∃ v, wd L i k = v := ⟨_, rfl⟩
          rw [hv] at HTGV HV HWI
          have HLT := hid (show P + i < T by omega)
          have HTP := hid (show P + i < A7.top by rw [HL8.out.l1.top]; omega)
          have HTP2 := hid (show P + i < A8.top by rw [HL8.out.l2.top]; omega)
          have HES1 := hid (show A7.es.length ≤ 400 by rw [HL8.out.l1.es]; simp; omega)
          have HES2 := hid (show A8.es.length ≤ 400 by rw [HL8.out.l2.es]; simp; omega)
          clear hv hrow ur hiL
          by_cases hkr : k < row.length
          · obtain ⟨y, rfl, cy⟩ := HUR.out k hkr
            have HWV := hid (show v = row[k] by rw [HWI.out]; simp [hkr])
            rw [← HWV.out] at cy
            clear HWI HUR HWV
            go_wp2_with (first | (go_at_call 12; (rw [HX.out]; refine (ar_put h2 F8 A8 ((P + i : Nat) : Int) (some ⟨w8.heap.size, 0, none⟩) 1 [0] _ (HL9.out.a2.alloc _) (by omega) (by intro x hx; simp at hx; subst hx; decide) (u32s_new w8 [0]) (fun x hx _ => by cases hx; exact freshF HL9.out.a2) (by have := HES2.out; simp; omega)).mono ?_; rintro e w9 ⟨rfl, F10, a10, s10⟩; rw [put1 _ _ _ HTP2.out] at a10; have HL10 := hid ((HL9.out.alloc _).putB s10 a10 HLT.out); clear a10 s10)) | (go_at_call 12; (rw [HX.out]; refine (ar_put h1 F7 A7 ((P + i : Nat) : Int) (some ⟨wr.heap.size, 0, none⟩) 1 [v] _ (HL8.out.a1.alloc _) (by omega) (by intro x hx; simp at hx; subst hx; exact HV.out) (u32s_new wr [v]) (fun x hx _ => by cases hx; exact freshF HL8.out.a1) (by have := HES1.out; simp; omega)).mono ?_; rintro e w8 ⟨rfl, F9, a9, s9⟩; rw [put1 _ _ _ HTP.out, ← HTGV.out] at a9; have HL9 := hid ((HL8.out.alloc _).putA s9 a9 HLT.out); clear a9 s9)))
            go_roundw
            case rel => exact ⟨i + 1, F9, F10, _, _, by omega, by go_num, HL10.out⟩
            case measure => simp [intOf]; omega
          · have HWV := hid (show v = 0 by rw [HWI.out]; simp [hkr])
            obtain rfl := HWV.out
            clear HWI HUR HWV
            go_wp2_with (first | (go_at_call 12; (rw [HX.out]; refine (ar_put h2 F8 A8 ((P + i : Nat) : Int) (some ⟨w8.heap.size, 0, none⟩) 1 [0] _ (HL9.out.a2.alloc _) (by omega) (by intro x hx; simp at hx; subst hx; decide) (u32s_new w8 [0]) (fun x hx _ => by cases hx; exact freshF HL9.out.a2) (by have := HES2.out; simp; omega)).mono ?_; rintro e w9 ⟨rfl, F10, a10, s10⟩; rw [put1 _ _ _ HTP2.out] at a10; have HL10 := hid ((HL9.out.alloc _).putB s10 a10 HLT.out); clear a10 s10)) | (go_at_call 12; (rw [HX.out]; refine (ar_put h1 F7 A7 ((P + i : Nat) : Int) (some ⟨wr.heap.size, 0, none⟩) 1 [0] _ (HL8.out.a1.alloc _) (by omega) (by intro x hx; simp at hx; subst hx; decide) (u32s_new wr [0]) (fun x hx _ => by cases hx; exact freshF HL8.out.a1) (by have := HES1.out; simp; omega)).mono ?_; rintro e w8 ⟨rfl, F9, a9, s9⟩; rw [put1 _ _ _ HTP.out, ← HTGV.out] at a9; have HL9 := hid ((HL8.out.alloc _).putA s9 a9 HLT.out); clear a9 s9)))
            go_roundw
            case rel => exact ⟨i + 1, F9, F10, _, _, by omega, by go_num, HL10.out⟩
            case measure => simp [intOf]; omega
        · have hie : n = i := by omega
          have HLN := hid (show Lay2 w1 wr h1 h2 n T tg (k + 1) ((k + 1) * n) ((k + 1) * n) F7 F8 A7 A8 (.slice (some ⟨g, 0, none⟩) (k + 1) cap7) by
            have e : (k + 1) * n = P + i := by rw [Nat.succ_mul, HP.out, ← hie]
            rw [e]; exact HL8.out)
          clear HL8
          go_wp2_with fail
          go_roundw
          case rel => exact ⟨k + 1, F7, F8, A7, A8, some ⟨g, 0, none⟩, cap7, by omega, by go_num, by simp, HLN.out⟩
          case measure => simp [intOf]; omega
    · have hke : W = k := by omega
      have HLF := hid (show Lay2 w1 wr h1 h2 n T tg W T T F5 F6 A5 A6 (.slice sd W sc) by
        have := HLS.out
        rw [← hke, Nat.mul_comm W n, HTE.out] at this; exact this)
      clear HLS
      obtain rfl := hke
      have HEA := hid (show A5.es.length ≤ 400 by rw [HLF.out.l1.es]; simp; omega)
      have HEE := hid (show A5.es = A6.es by rw [HLF.out.l1.es, HLF.out.l2.es])
      have HS1 := hid (sort_law h1 F5 A5 n W w1.heap.size sd sc wr wr HLF.out.a1 hn hW (by rw [HLF.out.l1.top]; exact HTE.out.symm) (by have := HEA.out; omega) HLF.out.own (fun q hq => ⟨rfl, HLF.out.off1 q hq⟩))
      have HS2 := hid (show ∀ w7 F7, Step wr F5 w7 F7 → _ from fun w7 F7 s7 => sort_law h2 F6 A6 n W w1.heap.size sd sc wr w7 (HLF.out.a2.kept (G := F5) s7.fr (fun i x y => HLF.out.dis i y x)) hn hW (by rw [HLF.out.l2.top]; exact HTE.out.symm) (by rw [← HEE.out]; have := HEA.out; omega) HLF.out.own (fun q hq => ⟨s7.fr.block q (HLF.out.own.lt q hq).2 (HLF.out.off1 q hq), HLF.out.off2 q hq⟩))
      have HLV := hid (show ((evLaw n W).length : Int) = costOf (W : Int) (cntOf ((n : Int)).toNat) by
        unfold evLaw costOf
        by_cases q : 2 ≤ W
        · have q' : (2 : Int) ≤ W := by omega
          rw [if_pos q, evN_len _ _ (by simp [lanesOf]; exact q), net_len]; simp [lanesOf, q']; rw [Int.mul_assoc]
        · have q' : ¬ (2 : Int) ≤ W := by omega
          rw [if_neg q]; simp [q'])
      have HCO := hid (fun w => cost_any (n : Int) (W : Int) w (by omega) (by omega) (by omega) (by omega))
      rw [← HLV.out] at HCO
      have HEVB := hid (show (evLaw n W).length ≤ 60000000 by
        unfold evLaw
        by_cases q : 2 ≤ W
        · rw [if_pos q, evN_len _ _ (by simp [lanesOf]; exact q), net_len]
          have h1 : cntOf n ≤ 2408448 := cnt_small _
          have : cntOf n * (4 * (lanesOf n W).length) ≤ 2408448 * 20 := Nat.mul_le_mul h1 (by simp [lanesOf]; omega)
          omega
        · rw [if_neg q]; simp)
      obtain ⟨E, hE⟩ : ∃ E, (evLaw n W).length = E := ⟨_, rfl⟩
      obtain ⟨E1, hE1⟩ : ∃ E, A5.es.length = E := ⟨_, rfl⟩
      have HE := hid hE
      have HE1 := hid hE1
      rw [hE] at HCO HEVB
      have hEb : E ≤ 60000000 := HEVB.out
      have hE1b : E1 ≤ 400 := by rw [← hE1]; exact HEA.out
      have hdw : decide ((2 : Int) ≤ (W : Int)) = decide (2 ≤ W) := by rw [decide_eq_decide]; omega
      clear hE hE1 HEVB HLV
      obtain ⟨b2, hb2⟩ : ∃ b, decide (2 ≤ W) = b := ⟨_, rfl⟩
      rw [hb2] at HS1 HS2 hdw
      have HB2 := hid hb2
      clear hb2
      go_wp2_with (first
        | (go_at_call 16; refine (HCO.out _).mono ?_; rintro e w9 ⟨rfl, hB9⟩; have HB9 := hid hB9; clear hB9)
        | (go_at_call 13; refine (ar_log h1 F7 B1 _ HA81.out).mono ?_; rintro e w' ⟨rfl, hw⟩; subst w')
        | (go_at_call 14; obtain ⟨ob, hLg, hnext⟩ := HA81.out.log; clear hnext; refine (len_any _ _ _ _ _ hLg).mono ?_; rintro e w' ⟨rfl, hw⟩; subst w'; rw [HEB.out]; clear hLg)
        | (go_at_call 15; refine (HS2.out w7 F7 HT7.out.2).mono ?_; rintro e w8 ⟨rfl, F8, B2, a8, s8, t8, l8, e8, d8⟩; have HT8 := hid (And.intro a8 (And.intro s8 (And.intro t8 (And.intro l8 e8)))); have HA81 := hid (show Ar w8 h1 F7 B1 from HT7.out.1.kept (G := F6) s8.fr (fun i x y => (HT7.out.2.sub i x).elim (fun z => HLF.out.dis i z y) (fun z => by have := HLF.out.a2.lt i y; omega))); clear a8 s8 t8 l8 e8 d8)
        | (go_at_call 15; refine HS1.out.mono ?_; rintro e w7 ⟨rfl, F7, B1, a7, s7, t7, l7, e7, d7⟩; have HT7 := hid (And.intro a7 s7); have HD7 := hid (And.intro t7 (And.intro l7 (And.intro e7 d7))); have HEB := hid (show B1.es.length = E1 + E by rw [e7, List.length_append, HE1.out, HE.out]); clear a7 s7 t7 l7 e7 d7)
        | (go_at_call 13; refine (ar_log h1 F5 A5 _ HLF.out.a1).mono ?_; rintro e w' ⟨rfl, hw⟩; subst w')
        | (go_at_call 14; obtain ⟨ob, hLg, hnext⟩ := HLF.out.a1.log; clear hnext; refine (len_any _ _ _ _ _ hLg).mono ?_; rintro e w' ⟨rfl, hw⟩; subst w'; rw [HE1.out]; clear hLg))
      have HA91 := hid (HA81.out.below HB9.out)
      have HA92 := hid (HT8.out.1.below HB9.out)
      have HEQ := hid (show B1.es = B2.es by rw [HD7.out.2.2.1, HT8.out.2.2.2.2, HEE.out])
      obtain ⟨es, hes⟩ : ∃ es, es = B1.es.map blindE := ⟨_, rfl⟩
      have hesl : es.length = B1.es.length := by rw [hes]; simp
      have hesb : es.length = B2.es.length := by rw [hesl, HEQ.out]
      have HBE1 := hid hes
      have HBE2 := hid (show es = B2.es.map blindE by rw [hes, HEQ.out])
      have HBE3 := hid hesl
      have HBE4 := hid hesb
      have hen : es.length ≤ 60000400 := by rw [hesl, HEB.out]; omega
      clear hes hesl hesb
      go_wp2_with (go_at_call 13; refine (ar_log h1 F7 B1 _ HA91.out).mono ?_; rintro e w' ⟨rfl, hw⟩; subst w')
      obtain ⟨oa, hLa, _⟩ := HA91.out.log
      refine (blind_any _ _ B1.es _ hLa (by rw [← HBE3.out]; omega)).mono ?_
      rintro e w10 ⟨ad1, cap1, rfl, ho1, hb10⟩
      rw [← HBE1.out] at ho1
      rw [← HBE3.out] at ho1 ⊢
      have O1 := hid ho1
      have HB10 := hid hb10
      clear ho1 hLa hb10
      go_wp2_with (go_at_call 13; refine (ar_log h2 F8 B2 _ (HA92.out.below HB10.out)).mono ?_; rintro e w' ⟨rfl, hw⟩; subst w')
      obtain ⟨ob, hLb, _⟩ := (HA92.out.below HB10.out).log
      refine (blind_any _ _ B2.es _ hLb (by rw [← HBE4.out]; omega)).mono ?_
      rintro e w11 ⟨ad2, cap2, rfl, ho2, hb11⟩
      rw [← HBE2.out] at ho2
      rw [← HBE4.out] at ho2 ⊢
      have RP := hid (rowAt O1.out hb11)
      have RQ := hid (rowAt ho2 (Below.refl _ _))
      have HB11 := hid (belowCat HB10.out hb11)
      clear ho2 hLb hb11 O1 HBE1 HBE2 HBE3 HBE4
      obtain ⟨wy, rfl⟩ : ∃ y, y = wr := ⟨_, rfl⟩
      go_wp2_with fail
      go_loopw [146] (fun c wq => ∃ q : Nat, q ≤ es.length ∧ c = .int .i64 q ∧ Below w11.heap.size w11 wq) (fun c _ => es.length - (intOf c).toNat)
      case atStart => exact ⟨0, Nat.zero_le _, rfl, Below.refl _ _⟩
      case round =>
        obtain ⟨q, hq, rfl, hBq⟩ := hrel
        have HBq := hid hBq
        by_cases hql : q < es.length
        · obtain ⟨g1, rfl, f1⟩ := RP.out q hql
          obtain ⟨g2, rfl, f2⟩ := RQ.out q hql
          have e1 := ecells_at es q hql
          obtain ⟨ee, hee⟩ : ∃ ee, ee = es[q] := ⟨_, rfl⟩
          rw [← hee] at e1
          have later : ∀ {g j : Nat} {u : Value}, w11.cell? ⟨g, j, none⟩ = some u → wr.cell? ⟨g, j, none⟩ = some u := fun hc => cell_below hBq hc (cell_blk hc)
          have a0 := later (f1 _ _ e1.1)
          have a1 := later (f1 _ _ e1.2.1)
          have a2 := later (f1 _ _ e1.2.2)
          have b0 := later (f2 _ _ e1.1)
          have b1 := later (f2 _ _ e1.2.1)
          have b2' := later (f2 _ _ e1.2.2)
          clear f1 f2 e1 hee RP RQ later hBq
          go_wp2_with fail
          go_quiet (fail)
          go_wp2_with fail
          go_roundw
          case rel => exact ⟨q + 1, by omega, by go_num, belowDN HBq.out _⟩
          case measure => simp [intOf]; omega
        · have hqe : q = es.length := by omega
          clear RP RQ hBq
          have HBW := hid (show Below w.heap.size w wr from by
            have b1 := belowCat HB1.out HLF.out.bel
            have b7 := b1.trans (HT7.out.2.below b1.size (fun i hi => Nat.le_trans HB1.out.size (HLF.out.far1 i hi)))
            have b8 := b7.trans (HT8.out.2.1.below b7.size (fun i hi => Nat.le_trans HB1.out.size (HLF.out.far2 i hi)))
            exact belowCat (belowCat (belowCat b8 HB9.out) HB11.out) HBq.out)
          by_cases hw2 : W < 2
          · have hw2i : (W : Int) < 2 := by omega
            clear hw2
            go_wp2_with fail
            go_ret
            exact ⟨rfl, HBW.out⟩
          · have HW2 := hid (show 2 ≤ W by omega)
            have hw2i : ¬ (W : Int) < 2 := by omega
            have hw3i : (2 : Int) ≤ (W : Int) := by omega
            have HF7 := hid (show ∀ i, F7 i → w.heap.size ≤ i from fun i x => (HT7.out.2.sub i x).elim (fun z => Nat.le_trans HB1.out.size (HLF.out.far1 i z)) (fun z => Nat.le_trans (belowCat HB1.out HLF.out.bel).size z))
            have HF8 := hid (show ∀ i, F8 i → w.heap.size ≤ i from fun i x => (HT8.out.2.1.sub i x).elim (fun z => Nat.le_trans HB1.out.size (HLF.out.far2 i z)) (fun z => Nat.le_trans (belowCat HB1.out HLF.out.bel).size (Nat.le_trans HT7.out.2.size z)))
            have HDIS := hid (show ∀ i, F7 i → ¬ F8 i from fun i x y => by
              rcases HT8.out.2.1.sub i y with z | z
              · rcases HT7.out.2.sub i x with u | u
                · exact HLF.out.dis i u z
                · have := HLF.out.a2.lt i z; omega
              · have := HT7.out.1.lt i x; omega)
            have HR1 := hid (HA91.out.below (belowCat HB11.out HBq.out))
            have HR2 := hid (HA92.out.below (belowCat HB11.out HBq.out))
            have HTU := hid (show ∀ w', Ar w' h1 F7 B1 → Below w.heap.size w w' → Calls Try.prog 18 #[arPtr h1, .slice ad n cap, .int .i64 (n : Int), .int .i64 (W : Int)] w' (fun e w'' => e = .returned (.bool true) ∧ Below w.heap.size w' w'') from fun w' a' b' => tuples_law h1 F7 A5 B1 ad cap n W L w w' HG.out b' a' HF7.out HLL.out HNE.out hn HW2.out hW (HD7.out.1.trans (HLF.out.l1.top.trans HTE.out.symm)) (by rw [HEB.out]; omega) (fun k i hk hi => by
              rw [HLF.out.l1.wd (k * n + i) (by rw [← HTE.out]; have := Nat.mul_le_mul_right n (show k + 1 ≤ W from hk); rw [Nat.succ_mul, Nat.mul_comm W n] at this; omega), ← HTG.out]
              exact tgS_at L n k i hi) (HD7.out.2.2.2 HW2.out))
            by_cases hn0 : n = 0
            · have hn1 : ¬ (0 : Int) < (n : Int) := by omega
              have hn2 : decide (0 < n) = false := by rw [decide_eq_false_iff_not]; omega
              clear hw2 HS1 HS2 hn0
              go_wp2_with (go_at_call 18; refine (HTU.out _ HR1.out HBW.out).mono ?_; rintro e w20 ⟨rfl, hb20⟩; have HB20 := hid hb20; clear hb20)
              go_ret
              exact ⟨rfl, HBW.out.trans HB20.out⟩
            · have hn1 : (0 : Int) < (n : Int) := by omega
              have hn2 : 0 < n := by omega
              obtain ⟨sg, hsd, _, hsl, hsc⟩ := owns_cell HLF.out.own (by omega)
              have HSRC := hid (show ∀ j u, (ints (lanesK n W))[j]? = some u → wr.cell? ⟨sg, j, none⟩ = some u from fun j u hj => by
                have o1 : ¬ F5 sg := HLF.out.off1 sg (by rw [hsd]; rfl)
                have o2 : ¬ F6 sg := HLF.out.off2 sg (by rw [hsd]; rfl)
                have c7 := HT7.out.2.cell (hsc j u hj) o1
                have c8 := HT8.out.2.1.cell c7 o2
                have c9 := cell_below HB9.out c8 (cell_blk c8)
                have c11 := cell_below HB11.out c9 (cell_blk c9)
                exact cell_below HBq.out c11 (cell_blk c11))
              clear hsc HS1 HS2
              obtain rfl := hsd
              have HC0 := hid (show (wr.alloc (.cells #[] 3)).ownsRow wr.heap.size 3 1 (.slice (some ⟨wr.heap.size, 0, none⟩) 0 0) 0 [] from World.ownsRow_made wr #[] 0 (Nat.le_refl _) (by decide) rfl)
              have HN := hid (show ∀ j u, (ints (lanesK n W))[j]? = some u → (wr.alloc (.cells #[] 3)).cell? ((⟨sg, 0, none⟩ : Addr).add j) = some u from fun j u hj => by
                have c := cell_below (below1p wr (.cells #[] 3)) (HSRC.out j u hj) (cell_blk (HSRC.out j u hj))
                have e : (⟨sg, 0, none⟩ : Addr).add j = ⟨sg, j, none⟩ := by
                  by_cases h0 : j = 0
                  · subst h0; rfl
                  · simp [Addr.add, h0]
                rw [e]; exact c)
              obtain ⟨V, hV⟩ : ∃ V, W = V + 1 := ⟨W - 1, by omega⟩
              have hVi : (W : Int) - 1 = (V : Int) := by omega
              have hV4 : V ≤ 4 := by omega
              have hVW : V < W := by omega
              have hVWi : (V : Int) < (W : Int) := by omega
              have HVE := hid hV
              have HV1 := hid (show W - 1 = V by omega)
              have HLL5 := hid (show (ints (lanesK n W)).length = W * 1 by simp [lanesK])
              have hTi2 : (T : Int) ≤ 300 := by omega
              have hTP : (n : Int) * (W : Int) = (T : Int) := by rw [← HTE.out]; push_cast; rfl
              clear hV hn0 hw2 hsl
              by_cases c1 : 0 ≤ place
              · by_cases c2 : place ≤ (T : Int) - (n : Int)
                · have HY := hid (And.intro c1 c2)
                  go_wp2_with (at_builtin; refine wpList_append_lies _ rfl (.tmp 167) (.tmp 168) 28 rfl wr.heap.size 3 i0 _ 1 8 Try.underlying28 hi hz0 hz1 hz2 rfl (by decide) _ 0 [] rfl HC0.out ⟨sg, 0, none⟩ W sc (ints (lanesK n W)) rfl HLL5.out HN.out (ints_one _) (by omega) (by unfold maxLen; omega) (by omega) (by simp) _ rfl ?_; intro g cap7 w12 hown hgrow hat hlt12; obtain ⟨f12, c12, hX⟩ := odd_row place HVE.out hown hgrow; have HX := hid hX; have hvc : V ≤ cap7 := (by have := hX.capW; omega); have hvci : (V : Int) ≤ (cap7 : Int) := (by omega); rw [Nat.zero_add]; clear hown hgrow hat hlt12 hX)
                  obtain ⟨wz, rfl⟩ : ∃ y, y = wr := ⟨_, rfl⟩
                  go_loopw [21, 191] (fun v c wq => ∃ k : Nat, k ≤ V ∧ v = .bool (apB n T place k) ∧ c = .int .i64 (k : Int) ∧ wq = w12.setCell ⟨g, V, none⟩ (.int .i64 place)) (fun _ c _ => V - (intOf c).toNat)
                  case atStart => exact ⟨0, Nat.zero_le _, by rw [apB_yes HY.out], rfl, rfl⟩
                  case round =>
                    obtain ⟨k, hkV, rfl, rfl, hwq⟩ := hrel
                    subst hwq
                    by_cases hkl : k < V
                    · have ck := HX.out.cells k hkl
                      obtain ⟨P, hP⟩ : ∃ P, k * n = P := ⟨_, rfl⟩
                      have hPb : P ≤ 240 := by rw [← hP]; exact Nat.mul_le_mul (show k ≤ 4 by omega) hn
                      have HAS := hid (apB_succ n T place k)
                      rw [hP] at ck HAS
                      clear hP
                      have hkli : (k : Int) < (V : Int) := by omega
                      cases hap : apB n T place k with
                      | false =>
                        rw [hap] at HAS
                        clear hap
                        go_wp2_with fail
                        go_roundw
                        case rel => exact ⟨k + 1, by omega, by rw [HAS.out]; rfl, by go_num, trivial⟩
                        case measure => simp [intOf]; omega
                      | true =>
                        obtain ⟨q0, q1⟩ := apB_in hap
                        rw [hap] at HAS
                        clear hap
                        have q2 : place ≤ 300 := by omega
                        clear q1
                        by_cases d1 : (n : Int) ≤ place - (P : Int)
                        · go_wp2_with fail
                          go_roundw
                          case rel => exact ⟨k + 1, by omega, by rw [HAS.out]; simp [d1], by go_num, trivial⟩
                          case measure => simp [intOf]; omega
                        · by_cases d2 : (n : Int) ≤ (P : Int) - place
                          · go_wp2_with fail
                            go_roundw
                            case rel => exact ⟨k + 1, by omega, by rw [HAS.out]; simp [d1, d2], by go_num, trivial⟩
                            case measure => simp [intOf]; omega
                          · go_wp2_with fail
                            go_roundw
                            case rel => exact ⟨k + 1, by omega, by rw [HAS.out]; simp [d1, d2], by go_num, trivial⟩
                            case measure => simp [intOf]; omega
                    · have hke : k = V := by omega
                      subst hke
                      have HBX := hid (belowCat HBW.out HX.out.bel)
                      have HSO := hid (sort_odd h2 F8 B2 n W g cap7 place _ (HR2.out.below HX.out.bel) hn HW2.out hW (HT8.out.2.2.1.trans (HLF.out.l2.top.trans HTE.out.symm)) (by rw [← HEQ.out, HEB.out]; omega) hp1 HX.out.capW HX.out.capM HX.out.lt (fun x => by have := HR2.out.lt g x; have := HX.out.ge; omega) (by rw [HV1.out]; exact HX.out.last) (by rw [HV1.out]; exact HX.out.cells))
                      rw [HTE.out, HV1.out] at HSO
                      obtain ⟨bb, hbb⟩ : ∃ bb, apB n T place k = bb := ⟨_, rfl⟩
                      rw [hbb] at HSO ⊢
                      clear hbb
                      go_wp2_with (first | (go_at_call 15; refine HSO.out.mono ?_; rintro e w13 ⟨rfl, FT, sT⟩; have HST := hid sT; clear sT) | (go_at_call 18; refine (HTU.out _ ((HR1.out.below HX.out.bel).kept (G := F8) HST.out.fr HDIS.out) (HBX.out.trans (HST.out.below HBX.out.size HF8.out))).mono ?_; rintro e w20 ⟨rfl, hb20⟩; have HB20 := hid hb20; clear hb20))
                      go_ret
                      exact ⟨rfl, (HBX.out.trans (HST.out.below HBX.out.size HF8.out)).trans HB20.out⟩
                · have HY := hid (show ¬ (0 ≤ place ∧ place ≤ (T : Int) - (n : Int)) from fun h => c2 h.2)
                  go_wp2_with (at_builtin; refine wpList_append_lies _ rfl (.tmp 167) (.tmp 168) 28 rfl wr.heap.size 3 i0 _ 1 8 Try.underlying28 hi hz0 hz1 hz2 rfl (by decide) _ 0 [] rfl HC0.out ⟨sg, 0, none⟩ W sc (ints (lanesK n W)) rfl HLL5.out HN.out (ints_one _) (by omega) (by unfold maxLen; omega) (by omega) (by simp) _ rfl ?_; intro g cap7 w12 hown hgrow hat hlt12; obtain ⟨f12, c12, hX⟩ := odd_row place HVE.out hown hgrow; have HX := hid hX; have hvc : V ≤ cap7 := (by have := hX.capW; omega); have hvci : (V : Int) ≤ (cap7 : Int) := (by omega); rw [Nat.zero_add]; clear hown hgrow hat hlt12 hX)
                  obtain ⟨wz, rfl⟩ : ∃ y, y = wr := ⟨_, rfl⟩
                  go_loopw [21, 191] (fun v c wq => ∃ k : Nat, k ≤ V ∧ v = .bool (apB n T place k) ∧ c = .int .i64 (k : Int) ∧ wq = w12.setCell ⟨g, V, none⟩ (.int .i64 place)) (fun _ c _ => V - (intOf c).toNat)
                  case atStart => exact ⟨0, Nat.zero_le _, by rw [apB_no 0 HY.out], rfl, rfl⟩
                  case round =>
                    obtain ⟨k, hkV, rfl, rfl, hwq⟩ := hrel
                    subst hwq
                    by_cases hkl : k < V
                    · have ck := HX.out.cells k hkl
                      obtain ⟨P, hP⟩ : ∃ P, k * n = P := ⟨_, rfl⟩
                      have hPb : P ≤ 240 := by rw [← hP]; exact Nat.mul_le_mul (show k ≤ 4 by omega) hn
                      have HAS := hid (apB_succ n T place k)
                      rw [hP] at ck HAS
                      clear hP
                      have hkli : (k : Int) < (V : Int) := by omega
                      cases hap : apB n T place k with
                      | false =>
                        rw [hap] at HAS
                        clear hap
                        go_wp2_with fail
                        go_roundw
                        case rel => exact ⟨k + 1, by omega, by rw [HAS.out]; rfl, by go_num, trivial⟩
                        case measure => simp [intOf]; omega
                      | true =>
                        obtain ⟨q0, q1⟩ := apB_in hap
                        rw [hap] at HAS
                        clear hap
                        have q2 : place ≤ 300 := by omega
                        clear q1
                        by_cases d1 : (n : Int) ≤ place - (P : Int)
                        · go_wp2_with fail
                          go_roundw
                          case rel => exact ⟨k + 1, by omega, by rw [HAS.out]; simp [d1], by go_num, trivial⟩
                          case measure => simp [intOf]; omega
                        · by_cases d2 : (n : Int) ≤ (P : Int) - place
                          · go_wp2_with fail
                            go_roundw
                            case rel => exact ⟨k + 1, by omega, by rw [HAS.out]; simp [d1, d2], by go_num, trivial⟩
                            case measure => simp [intOf]; omega
                          · go_wp2_with fail
                            go_roundw
                            case rel => exact ⟨k + 1, by omega, by rw [HAS.out]; simp [d1, d2], by go_num, trivial⟩
                            case measure => simp [intOf]; omega
                    · have hke : k = V := by omega
                      subst hke
                      have HBX := hid (belowCat HBW.out HX.out.bel)
                      have HSO := hid (sort_odd h2 F8 B2 n W g cap7 place _ (HR2.out.below HX.out.bel) hn HW2.out hW (HT8.out.2.2.1.trans (HLF.out.l2.top.trans HTE.out.symm)) (by rw [← HEQ.out, HEB.out]; omega) hp1 HX.out.capW HX.out.capM HX.out.lt (fun x => by have := HR2.out.lt g x; have := HX.out.ge; omega) (by rw [HV1.out]; exact HX.out.last) (by rw [HV1.out]; exact HX.out.cells))
                      rw [HTE.out, HV1.out] at HSO
                      obtain ⟨bb, hbb⟩ : ∃ bb, apB n T place k = bb := ⟨_, rfl⟩
                      rw [hbb] at HSO ⊢
                      clear hbb
                      go_wp2_with (first | (go_at_call 15; refine HSO.out.mono ?_; rintro e w13 ⟨rfl, FT, sT⟩; have HST := hid sT; clear sT) | (go_at_call 18; refine (HTU.out _ ((HR1.out.below HX.out.bel).kept (G := F8) HST.out.fr HDIS.out) (HBX.out.trans (HST.out.below HBX.out.size HF8.out))).mono ?_; rintro e w20 ⟨rfl, hb20⟩; have HB20 := hid hb20; clear hb20))
                      go_ret
                      exact ⟨rfl, (HBX.out.trans (HST.out.below HBX.out.size HF8.out)).trans HB20.out⟩
              · have HY := hid (show ¬ (0 ≤ place ∧ place ≤ (T : Int) - (n : Int)) from fun h => c1 h.1)
                go_wp2_with (at_builtin; refine wpList_append_lies _ rfl (.tmp 167) (.tmp 168) 28 rfl wr.heap.size 3 i0 _ 1 8 Try.underlying28 hi hz0 hz1 hz2 rfl (by decide) _ 0 [] rfl HC0.out ⟨sg, 0, none⟩ W sc (ints (lanesK n W)) rfl HLL5.out HN.out (ints_one _) (by omega) (by unfold maxLen; omega) (by omega) (by simp) _ rfl ?_; intro g cap7 w12 hown hgrow hat hlt12; obtain ⟨f12, c12, hX⟩ := odd_row place HVE.out hown hgrow; have HX := hid hX; have hvc : V ≤ cap7 := (by have := hX.capW; omega); have hvci : (V : Int) ≤ (cap7 : Int) := (by omega); rw [Nat.zero_add]; clear hown hgrow hat hlt12 hX)
                obtain ⟨wz, rfl⟩ : ∃ y, y = wr := ⟨_, rfl⟩
                go_loopw [21, 191] (fun v c wq => ∃ k : Nat, k ≤ V ∧ v = .bool (apB n T place k) ∧ c = .int .i64 (k : Int) ∧ wq = w12.setCell ⟨g, V, none⟩ (.int .i64 place)) (fun _ c _ => V - (intOf c).toNat)
                case atStart => exact ⟨0, Nat.zero_le _, by rw [apB_no 0 HY.out], rfl, rfl⟩
                case round =>
                  obtain ⟨k, hkV, rfl, rfl, hwq⟩ := hrel
                  subst hwq
                  by_cases hkl : k < V
                  · have ck := HX.out.cells k hkl
                    obtain ⟨P, hP⟩ : ∃ P, k * n = P := ⟨_, rfl⟩
                    have hPb : P ≤ 240 := by rw [← hP]; exact Nat.mul_le_mul (show k ≤ 4 by omega) hn
                    have HAS := hid (apB_succ n T place k)
                    rw [hP] at ck HAS
                    clear hP
                    have hkli : (k : Int) < (V : Int) := by omega
                    cases hap : apB n T place k with
                    | false =>
                      rw [hap] at HAS
                      clear hap
                      go_wp2_with fail
                      go_roundw
                      case rel => exact ⟨k + 1, by omega, by rw [HAS.out]; rfl, by go_num, trivial⟩
                      case measure => simp [intOf]; omega
                    | true =>
                      obtain ⟨q0, q1⟩ := apB_in hap
                      rw [hap] at HAS
                      clear hap
                      have q2 : place ≤ 300 := by omega
                      clear q1
                      by_cases d1 : (n : Int) ≤ place - (P : Int)
                      · go_wp2_with fail
                        go_roundw
                        case rel => exact ⟨k + 1, by omega, by rw [HAS.out]; simp [d1], by go_num, trivial⟩
                        case measure => simp [intOf]; omega
                      · by_cases d2 : (n : Int) ≤ (P : Int) - place
                        · go_wp2_with fail
                          go_roundw
                          case rel => exact ⟨k + 1, by omega, by rw [HAS.out]; simp [d1, d2], by go_num, trivial⟩
                          case measure => simp [intOf]; omega
                        · go_wp2_with fail
                          go_roundw
                          case rel => exact ⟨k + 1, by omega, by rw [HAS.out]; simp [d1, d2], by go_num, trivial⟩
                          case measure => simp [intOf]; omega
                  · have hke : k = V := by omega
                    subst hke
                    have HBX := hid (belowCat HBW.out HX.out.bel)
                    have HSO := hid (sort_odd h2 F8 B2 n W g cap7 place _ (HR2.out.below HX.out.bel) hn HW2.out hW (HT8.out.2.2.1.trans (HLF.out.l2.top.trans HTE.out.symm)) (by rw [← HEQ.out, HEB.out]; omega) hp1 HX.out.capW HX.out.capM HX.out.lt (fun x => by have := HR2.out.lt g x; have := HX.out.ge; omega) (by rw [HV1.out]; exact HX.out.last) (by rw [HV1.out]; exact HX.out.cells))
                    rw [HTE.out, HV1.out] at HSO
                    obtain ⟨bb, hbb⟩ : ∃ bb, apB n T place k = bb := ⟨_, rfl⟩
                    rw [hbb] at HSO ⊢
                    clear hbb
                    go_wp2_with (first | (go_at_call 15; refine HSO.out.mono ?_; rintro e w13 ⟨rfl, FT, sT⟩; have HST := hid sT; clear sT) | (go_at_call 18; refine (HTU.out _ ((HR1.out.below HX.out.bel).kept (G := F8) HST.out.fr HDIS.out) (HBX.out.trans (HST.out.below HBX.out.size HF8.out))).mono ?_; rintro e w20 ⟨rfl, hb20⟩; have HB20 := hid hb20; clear hb20))
                    go_ret
                    exact ⟨rfl, (HBX.out.trans (HST.out.below HBX.out.size HF8.out)).trans HB20.out⟩

set_option maxHeartbeats 1600000 in
set_option maxRecDepth 4000 in
theorem sortnetTuples_walk (ad : Option Addr) (len cap : Nat) (width : Nat) (place : Int) (w : World) (hg : GridIn w ad len) (hw : width < 256) (hp0 : -9223372036854775808 ≤ place) (hp1 : place < 9223372036854775808) :
    Calls Try.prog 3 #[.slice ad len cap, .int .u8 (width : Int), .int .i64 place] w fun e w' => e = .returned (.bool true) ∧ Below w.heap.size w w' := by
  obtain ⟨L, rfl, hgr, hL⟩ := hg
  by_cases h1 : L.length ≤ 60
  · exact tuples_core L ad cap width place w hgr hL h1 hw hp0 hp1
  · clear hgr hL hw hp0 hp1
    obtain ⟨n, hn⟩ : ∃ n, L.length = n := ⟨_, rfl⟩
    rw [hn] at h1 ⊢
    clear hn
    have c1 : (60 : Int) < (n : Int) := by omega
    clear h1
    go_enter Try.func3, Try.ntmps3
    go_wp2_with (go_at_call 9; refine (awake_any _).mono ?_; rintro e w1 ⟨rfl, hB1⟩; have HB1 := hid hB1; clear hB1)
    go_ret
    exact ⟨rfl, HB1.out⟩
theorem read_sortnetTuples {H : Type} {enc : TypeId × Value → H} {W : World} {ad : Option Addr} {len cap : Nat} {d : DataW H} {p : List MemPlace} (h : DataW.Trod enc Try.prog W 0 (fun _ => true) true 22 (.slice ad len cap) d p) : GridIn W ad len := read_grid h
end Go.Proofs.Ytjdbofgjieljlaa
