/- The law PackKeeps returns true at all lists of words and rows. -/
import Derived.Test.YtlnankianpchbaaPkT
import Derived.Deep.CutRange
namespace Go.Proofs.Ytlnankianpchbaa
open Go.RowKit
set_option linter.unusedVariables false

theorem iw (z : Int) (h0 : 0 ≤ z) (h1 : z ≤ 100000) : IntKind.i64.wrap z = z := by rw [IntKind.wrap_i64]; omega
set_option maxHeartbeats 6400000 in
set_option maxRecDepth 4000 in
theorem keeps_core (kl : List Nat) (L : List (List Nat)) (adk adl : Option Addr) (capk capl width : Nat) (w : World) (hk : U32s w adk kl) (hg : Grid w adl L) (hkl : ∀ x ∈ kl, x < 4294967296) (hL : ∀ i k, wd L i k < 4294967296) (hn : kl.length ≤ 60) (hLl : L.length ≤ 60) (hw : width < 256) :
    Calls Try.prog 4 #[.slice adk kl.length capk, .slice adl L.length capl, .int .u8 (width : Int)] w fun e w' => e = .returned (.bool true) ∧ Below w.heap.size w w' := by
  have HK := hid hk
  have HG := hid hg
  have HKL := hid hkl
  have HL := hid hL
  obtain ⟨W, hWe⟩ : ∃ W, width % 5 = W := ⟨_, rfl⟩
  have hW : W ≤ 4 := by omega
  have hwi : (width : Int) % 5 = (W : Int) := by omega
  have HLY := hid (fun w1 a b => lay_any kl L W adk adl capk capl w1 a b hkl hL hn hW)
  obtain ⟨n, hne⟩ : ∃ n, kl.length = n := ⟨_, rfl⟩
  have HNE := hid hne
  rw [hne] at hn HLY ⊢
  have HLZ := hid (show ∀ w2 : World, Calls Try.prog 17 #[.slice (some ⟨w2.heap.size, 0, none⟩) n n, .slice none 0 0, .int .i64 (W : Int)] (w2.alloc (.cells (rowZ n) 31 (0, 0))) fun e w' => ∃ h v F A, e = .returned (.tuple #[arPtr h, v]) ∧ LayS (w2.alloc (.cells (rowZ n) 31 (0, 0))) w' h n W (tgF (List.replicate n 0) [] n) W (n * (W + 1)) F A v from fun w2 => by
    have := lay_any (List.replicate n 0) [] W (some ⟨w2.heap.size, 0, none⟩) none n 0 (w2.alloc (.cells (rowZ n) 31 (0, 0))) (u32s_new w2 (List.replicate n 0)) (fun i hi => by simp at hi) (fun x hx => by rw [List.eq_of_mem_replicate hx]; decide) (fun i k => by simp [wd]) (by simpa using hn) hW
    rw [List.length_replicate] at this; exact this)
  have hmk := run_make_u32s (n : Int) n rfl (by omega)
  clear hk hg hkl hL hne hWe hw
  go_enter Try.func4, Try.ntmps4
  go_wp2_with (go_at_call 16; refine (awake4_any _).mono ?_; rintro e w1 ⟨rfl, hB1⟩; have HB1 := hid hB1; clear hB1)
  refine (HLY.out w1 (HK.out.belowG HB1.out) (HG.out.below HB1.out)).mono ?_
  rintro e w2 ⟨h1, v1, F1, A1, rfl, l1⟩
  obtain ⟨sd1, sc1, rfl⟩ := owns_shape l1.own
  have HL1 := hid l1
  clear l1
  go_wp2_with fail
  refine (HLZ.out w2).mono ?_
  rintro e w3 ⟨h2, v2, F2, A2, rfl, l2⟩
  obtain ⟨sd2, sc2, rfl⟩ := owns_shape l2.own
  have HL2 := hid l2
  clear l2 hmk
  have HA1 := hid (show Ar w3 h1 F1 A1 from (HL1.out.ar.alloc _).below HL2.out.bel)
  go_wp2_with (first
    | (go_at_call 10; refine (ar_log h1 F1 A1 _ HA1.out).mono ?_; rintro e w' ⟨rfl, hw⟩; subst w')
    | (go_at_call 11; obtain ⟨ob, hLg, hnext⟩ := HA1.out.log; clear hnext; refine (len_any _ _ _ _ _ hLg).mono ?_; rintro e w' ⟨rfl, hw⟩; subst w'; clear hLg))
  have hlenI : (lanesI n W).length = W := by simp
  have htop1 := HL1.out.laid.top
  have htop2 := HL2.out.laid.top
  have hroomE : n * (W + 1) + n = n * (W + 2) := by rw [← Nat.mul_succ]
  have HE1 := hid (show A1.es.length ≤ 400 by
    rw [HL1.out.laid.es]; simp
    have : n * (W + 1) ≤ 60 * 5 := Nat.mul_le_mul hn (by omega)
    omega)
  have HE12 := hid (show A1.es = A2.es by rw [HL1.out.laid.es, HL2.out.laid.es])
  have HF12 := hid (show ∀ i, F2 i → w2.heap.size < i ∧ i < w3.heap.size from fun i hi => by
    have := HL2.out.far i hi; simp at this; have := HL2.out.ar.lt i hi; omega)
  have HF1 := hid (show ∀ i, F1 i → i < w2.heap.size from fun i hi => HL1.out.ar.lt i hi)
  have HS23 := hid (show w2.heap.size < w3.heap.size by have := HL2.out.bel.size; simp at this; omega)
  have HB23 := hid (show Below w2.heap.size w2 w3 from belowCat (below1p w2 _) HL2.out.bel)
  have HP1 := hid (pack_yes h1 F1 A1 n 0 (n : Int) 0 sc1 sd1 (lanesI n W) (lsN n W) w3 HA1.out rfl rfl (lanesI_eq n W) (by omega) (by rw [hlenI]; omega)
    (own_lz HL1.out.own fun q hq => ⟨HB23.out.block q (HL1.out.own.lt q hq).2, HL1.out.off q hq⟩)
    (fun L hL' => by rw [htop1]; exact lanes_in n W L hL') (lanes_pw n W) (by rw [htop1, HL1.out.laid.wl, hroomE]; omega) (by have := HE1.out; omega))
  rw [hlenI] at HP1
  refine HP1.out.mono ?_
  rintro e w4 ⟨rfl, F4, B1, a4, s4, pk1⟩
  clear HP1
  obtain ⟨V1, hV1⟩ : ∃ V, rk (fun i => A1.word (0 + i) % 2 == 1) n = V := ⟨_, rfl⟩
  rw [hV1]
  have HV1 := hid hV1
  have HPK1 := hid pk1
  have HA4 := hid (a4.alloc (sb (V1 : Int)))
  have HS4 := hid s4
  have HA42 := hid (show Ar (w4.alloc (sb (V1 : Int))) h2 F2 A2 from (HL2.out.ar.kept (G := F1) s4.fr (fun i hi2 hi1 => by have := HF12.out i hi2; have := HF1.out i hi1; omega)).alloc _)
  have HLQ := hid (show ∀ q, (Value.slice sd1 W sc1).ownBlock = some q → (w4.alloc (sb (V1 : Int))).heap[q]? = w2.heap[q]? ∧ ¬ F2 q from fun q hq => by
    have hq2 := (HL1.out.own.lt q hq).2
    have hs := HS23.out
    have h34 := s4.size
    refine ⟨?_, fun x => by have := HF12.out q x; omega⟩
    rw [heap_alloc_old _ _ _ (by omega), s4.fr.block q (by omega) (HL1.out.off q hq)]
    exact HB23.out.block q hq2)
  have HP2 := hid (pack_yes h2 F2 A2 n 0 (n : Int) 0 sc1 sd1 (lanesI n W) (lsN n W) (w4.alloc (sb (V1 : Int))) HA42.out rfl rfl (lanesI_eq n W) (by omega) (by rw [hlenI]; omega)
    (own_lz HL1.out.own HLQ.out)
    (fun L hL' => by rw [htop2]; exact lanes_in n W L hL') (lanes_pw n W) (by rw [htop2, HL2.out.laid.wl, hroomE]; omega) (by rw [← HE12.out]; have := HE1.out; omega))
  rw [hlenI] at HP2
  have HFN4 := hid (freshF a4)
  have HZ4 := hid (show (w4.alloc (sb (V1 : Int))).heap[w4.heap.size]? = some (sb (V1 : Int)) ∧ ¬ F2 w4.heap.size from ⟨heap_alloc_at _ _, fun x => by have := HF12.out _ x; have := s4.size; omega⟩)
  have HT1 := hid htop1
  have HT2 := hid htop2
  have HLI := hid hlenI
  clear a4 s4 pk1 hV1 HLQ htop1 htop2 hroomE hlenI HA1
  go_wp2_with fail
  refine HP2.out.mono ?_
  rintro e w5 ⟨rfl, F5, B2, a5, s5, pk2⟩
  obtain ⟨V2, hV2⟩ : ∃ V, rk (fun i => A2.word (0 + i) % 2 == 1) n = V := ⟨_, rfl⟩
  rw [hV2]
  have HA51 := hid (show Ar (w5.alloc (sb (V2 : Int))) h1 F4 B1 from (HA4.out.kept (G := F2) s5.fr (fun i hi1 hi2 => by
    have h2 := HF12.out i hi2
    rcases HS4.out.sub i hi1 with x | x
    · have := HF1.out i x; omega
    · omega)).alloc _)
  have HA52 := hid (a5.alloc (sb (V2 : Int)))
  have HZ5 := hid (show (w5.alloc (sb (V2 : Int))).heap[w4.heap.size]? = some (sb (V1 : Int)) from (heap_alloc_old _ _ _ (lt_of_heap (s5.heap HZ4.out.1 HZ4.out.2))).trans (s5.heap HZ4.out.1 HZ4.out.2))
  have HEQ := hid (show B1.es = B2.es by rw [HPK1.out.es, pk2.es, HE12.out, HT1.out, HT2.out])
  have HLEN := hid (show B1.es.length = A1.es.length + pc n W by rw [HPK1.out.es, List.length_append, evFull_len _ _ _ _ (by omega)]; simp)
  have HPC := hid (show pc n W ≤ 100000 by
    have : ∀ (n : Fin 61) (l : Fin 5), pc n.val l.val ≤ 100000 := by decide +kernel
    exact this ⟨n, by omega⟩ ⟨W, by omega⟩)
  have HBW := hid (show Below w.heap.size w (w5.alloc (sb (V2 : Int))) from by
    have b1 := HB1.out
    have b2 := belowCat b1 HL1.out.bel
    have b3 := b2.trans (HB23.out.mono b2.size)
    have f1 : ∀ i, F1 i → w.heap.size ≤ i := fun i hi => Nat.le_trans b1.size (HL1.out.far i hi)
    have b4 := b3.trans (HS4.out.below b3.size f1)
    have b4' := b4.alloc b4.size (sb (V1 : Int))
    have b5 := b4'.trans (s5.below b4'.size fun i hi => by have := HF12.out i hi; have := b2.size; omega)
    exact b5.alloc b5.size _)
  obtain ⟨E1, hE1⟩ : ∃ E, A1.es.length = E := ⟨_, rfl⟩
  obtain ⟨C, hC⟩ : ∃ C, pc n W = C := ⟨_, rfl⟩
  obtain ⟨T, hT⟩ : ∃ T, n * (W + 1) = T := ⟨_, rfl⟩
  have hTb : T ≤ 300 := by rw [← hT]; exact Nat.mul_le_mul hn (show W + 1 ≤ 5 by omega)
  have hTI : wrap64 ((n : Int) * ((W : Int) + 1)) = (T : Int) := by
    have : (n : Int) * ((W : Int) + 1) = (T : Int) := by rw [← hT]; push_cast; rfl
    rw [this]; unfold wrap64; omega
  have HTT := hid (show B1.top = T by rw [HPK1.out.top, HT1.out, hT])
  have HTE := hid hT
  have HPCC := hid (fun w => pcost_any n W (by omega) hW w)
  have HE1' := HE1.out
  have HPC' := HPC.out
  rw [hE1] at HLEN HE1' ⊢
  rw [hC] at HLEN HPC' HPCC
  clear a5 s5 pk2 hV2 hE1 hC hT HP2 HA42 HE12 HE1 HPC
  go_wp2_with (first
    | (go_at_call 19; refine (same4_any h1 h2 F4 F5 B1 B2 _ HA51.out HA52.out HEQ.out (by rw [HLEN.out]; omega)).mono ?_; rintro e w6 ⟨rfl, hB6⟩; have HB6 := hid hB6; have HA6 := hid (HA51.out.below hB6); clear hB6)
    | (go_at_call 10; refine (ar_log h1 F4 B1 _ HA6.out).mono ?_; rintro e w' ⟨rfl, hw⟩; subst w')
    | (go_at_call 11; obtain ⟨ob, hLg, hnext⟩ := HA6.out.log; clear hnext; refine (len_any _ _ _ _ _ hLg).mono ?_; rintro e w' ⟨rfl, hw⟩; subst w'; rw [HLEN.out]; clear hLg)
    | (go_at_call 20; refine (HPCC.out _).mono ?_; rintro e w' ⟨rfl, hw⟩; subst w')
    | (go_at_call 21; refine (ar_top h1 F4 B1 _ HA6.out).mono ?_; rintro e w' ⟨rfl, hw⟩; subst w'; rw [HTT.out]))
  have HEB := hid (show B1.es.length ≤ 100400 by rw [HLEN.out]; omega)
  have HF4 := hid (show ∀ q, F4 q → w.heap.size ≤ q from fun q hq => by
    have b1 := HB1.out.size
    have b2 := HL1.out.bel.size
    have b3 := HS23.out
    rcases HS4.out.sub q hq with x | x
    · exact Nat.le_trans b1 (HL1.out.far q x)
    · omega)
  clear hTI HPCC HEQ HLEN HA52 HA51 HE1' HPC' HA4 HS4 HFN4 HZ4 HLI HB23
  have HG6 := hid (show Grid w6 adl L from HG.out.below (belowCat HBW.out HB6.out))
  have HK6 := hid (show U32s w6 adk kl from HK.out.belowG (belowCat HBW.out HB6.out))
  have HZ6 := hid (show w6.heap[w4.heap.size]? = some (sb (V1 : Int)) from (HB6.out.block _ (lt_of_heap HZ5.out)).trans HZ5.out)
  have HBW6 := hid (belowCat HBW.out HB6.out)
  clear HG HK HZ5 HBW HB6 HB1
  obtain ⟨z1, hz1⟩ : ∃ z, w4.heap.size = z := ⟨_, rfl⟩
  rw [hz1] at HZ6 ⊢
  clear hz1
  obtain ⟨i0, hi, hz0, hz1, hz2⟩ := info_parts Try.infoRowU
  obtain ⟨i1, hj, hy0, hy1, hy2⟩ := info_parts Try.infoU32
  go_loopw [18, 105] (fun v c wr => ∃ (i : Nat) (sd : Option Addr) (sc : Nat) (us : List Value), i ≤ n ∧ c = .int .i64 (i : Int) ∧ v = .slice sd i sc ∧ OutR wr w6.heap.size w6.heap.size (.slice sd i sc) (allL L W i) us ∧ Below w6.heap.size w6 wr) (fun _ c _ => n - (intOf c).toNat)
  case atStart => exact ⟨0, none, 0, [], Nat.zero_le _, rfl, rfl, OutR.nil _ _ _, Below.refl _ _⟩
  case round =>
    obtain ⟨i, sd, sc, us, hin, rfl, rfl, ou, hB⟩ := hrel
    have HU := hid ou
    have HB := hid hB
    clear ou hB
    by_cases hlt : i < n
    · obtain ⟨wz, rfl⟩ : ∃ y, y = wr := ⟨_, rfl⟩
      go_wp2_with fail
      go_loopw [20, 109] (fun v c wr => ∃ (k : Nat) (td : Option Addr) (tc : Nat), k ≤ W ∧ c = .int .i64 (k : Int) ∧ v = .slice td k tc ∧ wr.ownsRow wz.heap.size 31 1 (.slice td k tc) k (secs (rowL L k i)) ∧ Below wz.heap.size wz wr) (fun _ c _ => W - (intOf c).toNat)
      case atStart => exact ⟨0, none, 0, Nat.zero_le _, rfl, rfl, ⟨rfl, Or.inl ⟨rfl, rfl⟩⟩, Below.refl _ _⟩
      case round =>
        obtain ⟨k, td, tc, hk, rfl, rfl, ot, hBt⟩ := hrel
        have HT := hid ot
        have HBt := hid hBt
        clear ot hBt
        by_cases hkl : k < W
        · have HWD := hid (word4_any adl capl L i k wr (HG6.out.below (HB.out.trans (HBt.out.mono HB.out.size))))
          have HRS := hid (show secs (rowL L (k + 1) i) = secs (rowL L k i) ++ [.int .u32 (wd L i k : Int)] by rw [rowL_succ]; simp [secs])
          obtain ⟨v, hv⟩ : ∃ v, wd L i k = v := ⟨_, rfl⟩
          rw [hv] at HWD HRS
          clear hv
          go_wp2_with (first
            | (go_at_call 22; refine HWD.out.mono ?_; rintro e w' ⟨rfl, hw⟩; subst w')
            | (at_builtin; refine wpList_append_own _ rfl (.tmp 112) (.tmp 117) 29 rfl wz.heap.size 31 i1 _ 1 4 Try.underlying29 hj hy0 hy1 hy2 rfl (by decide) _ k (secs (rowL L k i)) rfl (HT.out.alloc _) ⟨wr.heap.size, 0, none⟩ 1 1 [.int .u32 (v : Int)] rfl rfl (World.news_of_block (heap_alloc_at _ _)) (by intro y hy; simp at hy; subst hy; rfl) (by unfold maxLen; omega) (by omega) (by have := HBt.out.size; simp; omega) ?_; intro v' w8 hown hgrow _; obtain ⟨td', tc', rfl⟩ := owns_shape hown; have H8 := hid (And.intro hown hgrow); clear hown hgrow))
          go_roundw
          case rel => exact ⟨k + 1, td', tc', by omega, by go_num, rfl, by rw [HRS.out]; exact H8.out.1, (HBt.out.alloc HBt.out.size _).grown H8.out.2 (by have := HBt.out.size; simp; omega) (fun q hq => (HT.out.lt q hq).1)⟩
          case measure => simp [intOf]; omega
        · have hke : k = W := by omega
          subst hke
          have HRB := hid (show RowB wr w6.heap.size (.slice td k tc) (rowL L k i) by
            have := rowB_of_own (l := rowL L k i) (sd := td) (sc := tc) (base := wz.heap.size) (w := wr) (by simpa using HT.out)
            have h2 := this.lo HB.out.size
            simpa using h2)
          have HU2 := hid (show OutR (wr.alloc (.cells #[.slice td k tc] 29 (0, 0))) w6.heap.size w6.heap.size (.slice sd i sc) (allL L k i) us from (HU.out.below HBt.out).below (below1p _ _))
          have HOW := hid (show (wr.alloc (.cells #[.slice td k tc] 29 (0, 0))).ownsRow w6.heap.size 29 1 (.slice sd i sc) i us by have := HU2.out.own; simpa using this)
          have HBB := hid (HB.out.trans (HBt.out.mono HB.out.size))
          clear HT HBt HU
          go_wp2_with (at_builtin; refine wpList_append_own _ rfl (.tmp 120) (.tmp 122) 22 rfl w6.heap.size 29 i0 _ 1 24 Try.underlying22 hi hz0 hz1 hz2 rfl (by decide) _ i us rfl HOW.out ⟨wr.heap.size, 0, none⟩ 1 1 [.slice td k tc] rfl rfl (World.news_of_block (heap_alloc_at _ _)) (by intro y hy; simp at hy; subst hy; rfl) (by unfold maxLen; omega) (by omega) (by have := HBB.out.size; simp; omega) ?_; intro v' w8 hown hgrow _; obtain ⟨sd', sc', rfl⟩ := owns_shape hown; have H8 := hid (And.intro hown hgrow); clear hown hgrow)
          go_roundw
          case rel =>
            have hB8 := (HBB.out.alloc HBB.out.size (.cells #[.slice td k tc] 29 (0, 0))).grown H8.out.2 (by have := HBB.out.size; simp; omega) (fun q hq => (HOW.out.lt q hq).1)
            have hO := HU2.out.append (HRB.out.below (below1p _ _)) (by simpa using H8.out.1) H8.out.2
            rw [← allL_succ] at hO
            exact ⟨i + 1, sd', sc', _, by omega, by go_num, rfl, hO, hB8⟩
          case measure => simp [intOf]; omega
    · have hie : n = i := by omega
      subst hie
      obtain ⟨hrk, hwk, hwl⟩ := keeps_words HL1.out.laid HPK1.out
      have HWK := hid hwk
      have HWL := hid hwl
      have HRV := hid (show rk (fun i => kl.getD i 0 % 2 == 1) n = V1 by rw [← hrk]; exact HV1.out)
      have hV60 : V1 ≤ 60 := by have := rk_le (fun i => kl.getD i 0 % 2 == 1) n; have := HRV.out; omega
      have HRP := hid (show Calls Try.prog 23 #[.slice adk n capk, .slice sd n sc] wr fun e w' => ∃ ad' cap' vs', e = .returned (.tuple #[.slice ad' n cap', .int .i64 (V1 : Nat)]) ∧ OutR w' w6.heap.size wr.heap.size (.slice ad' n cap') (wantR kl (allL L W n) n) vs' ∧ Below wr.heap.size wr w' by
        have hal : (allL L W n).length = n := by simp
        have := refpack_any kl (allL L W n) adk sd capk sc w6.heap.size w6.heap.size us wr (HK6.out.belowG HB.out) (by rw [hal]; exact HU.out) HB.out.size (by rw [hal]; exact HNE.out) (by rw [hal]; omega) (fun l hl => by obtain ⟨q, _, rfl⟩ := List.mem_map.1 hl; simp; omega) HKL.out
        rw [HNE.out, hal, HRV.out] at this; exact this)
      rw [HRV.out] at HWK
      clear hrk hwk hwl HU
      go_wp2_with fail
      refine HRP.out.mono ?_
      rintro e w9 ⟨ad9, cap9, vs9, rfl, ow, hB9⟩
      have HO9 := hid ow
      have HB9 := hid hB9
      have hz9 : w9.heap[z1]? = some (sb (V1 : Int)) := (hB9.block _ (Nat.lt_of_lt_of_le (lt_of_heap HZ6.out) HB.out.size)).trans ((HB.out.block _ (lt_of_heap HZ6.out)).trans HZ6.out)
      have kz : w9.cell? ⟨z1, 0, none⟩ = some (.int .u32 (V1 : Int)) := cell_of_heap hz9 rfl
      clear ow hB9 hz9 HRP
      go_wp2_with (go_at_call 24; refine (told_any (V1 : Int) _).mono ?_; rintro e w10 ⟨rfl, hB10⟩; have HB10 := hid hB10; clear hB10 kz)
      have HO10 := hid (HO9.out.below HB10.out)
      have HA10 := hid (((HA6.out.below HB.out).below HB9.out).below HB10.out)
      have HLO := hid (show w6.heap.size ≤ wr.heap.size from HB.out.size)
      have HK0 := hid (show KpS w w10 w10 h1 w6.heap.size B1 T 200000 F4 B1 from
        ⟨HA10.out, rfl, HTT.out, by have := HEB.out; omega, fun q hq _ => ⟨rfl, fun x => by have := HA6.out.lt q x; omega⟩, belowCat (belowCat (HBW6.out.trans (HB.out.mono HBW6.out.size)) HB9.out) HB10.out, HF4.out, Nat.le_refl _⟩)
      have HWR := hid (fun i hi => want_row kl L W n i hi)
      have HWN := hid (show n = (wantR kl (allL L W n) n).length by
        have := wantR_len kl (allL L W n) n (by have := rk_le (fun i => kl.getD i 0 % 2 == 1) (allL L W n).length; simpa using this)
        exact this.symm)
      generalize wantR kl (allL L W n) n = wants at *
      generalize wr.heap.size = bs at *
      clear HO9 HB9 HB10 HA10 HEB HB HA6 HBW6 HF4 HZ6 HG6 HK6 HL1 HL2 HPK1 HV1 HRV HF12 HF1 HS23 HT1 HT2 hi hz0 hz1 hz2 hj hy0 hy1 hy2
      go_loopw [137] (fun c wr => ∃ (i : Nat) (Fi : Nat → Prop) (Ai : Ars), i ≤ n ∧ c = .int .i64 (i : Int) ∧ KpS w w10 wr h1 w6.heap.size B1 T (200000 + 20 * i) Fi Ai) (fun c _ => n - (intOf c).toNat)
      case atStart => exact ⟨0, F4, B1, Nat.zero_le _, rfl, HK0.out⟩
      case round =>
        clear HK0
        obtain ⟨i, Fi, Ai, hin, rfl, ks⟩ := hrel
        have HKS := hid ks
        clear ks
        by_cases hil : i < n
        · have hnT : n ≤ T := by rw [← HTE.out]; exact Nat.le_mul_of_pos_right _ (by omega)
          obtain ⟨r1, _, _, _⟩ := rel_facts Ai i (by rw [HKS.out.top]; omega)
          have HR1 := hid (show Ai.loadV (i : Int) = mk (decide (i < V1)) by rw [r1, HKS.out.wd]; exact HWK.out i hil)
          have HRL := hid (ar_rel h1 Fi Ai (i : Int) wr HKS.out.ar (by omega) (by have := HKS.out.es; omega))
          rw [HR1.out] at HRL
          clear r1 HR1
          have HIN := hid (show ∀ x w' F', x < T → Step wr Fi w' F' → Ar w' h1 F' (Ai.rel (x : Int)) → KpS w w10 w' h1 w6.heap.size B1 T (200000 + 20 * i + 2) F' (Ai.rel (x : Int)) from fun x w' F' h1 h2 h3 => HKS.out.rel h1 h2 h3)
          have HMK := hid (show mk (decide (i < V1)) = if i < V1 then 4294967295 else 0 by by_cases q : i < V1 <;> simp [mk, q])
          rw [HMK.out] at HRL
          obtain ⟨wz, rfl⟩ : ∃ y, y = wr := ⟨_, rfl⟩
          by_cases hiv : i < V1
          · rw [if_pos hiv] at HRL
            go_wp2_with (go_at_call 25; refine HRL.out.mono ?_; rintro e w7 ⟨rfl, F7, a7, s7⟩; have HK7 := hid (HIN.out i w7 F7 (by omega) s7 a7); clear a7 s7)
            obtain ⟨w7z, hw7z⟩ : ∃ y, y = w7 := ⟨_, rfl⟩
            go_loopw [149] (fun c wr => ∃ (k : Nat) (Fk : Nat → Prop) (Ak : Ars), k ≤ W ∧ c = .int .i64 (k : Int) ∧ KpS w w10 wr h1 w6.heap.size B1 T (200000 + 20 * i + 2 + 2 * k) Fk Ak) (fun c _ => W - (intOf c).toNat)
            case atStart => exact ⟨0, F7, _, Nat.zero_le _, rfl, HK7.out⟩
            case round =>
              clear HK7 hw7z HRL HIN HMK HKS
              obtain ⟨k, Fk, Ak, hk, rfl, kk⟩ := hrel
              have HKK := hid kk
              clear kk
              by_cases hkl : k < W
              · obtain ⟨P, hP⟩ : ∃ P, n * (k + 1) = P := ⟨_, rfl⟩
                have hPT : P + n ≤ T := by
                  rw [← hP, ← HTE.out, ← Nat.mul_succ]; exact Nat.mul_le_mul_left _ (by omega)
                have HX := hid (show IntKind.i64.wrap (IntKind.i64.wrap ((n : Int) * IntKind.i64.wrap ((k : Int) + 1)) + (i : Int)) = ((P + i : Nat) : Int) by
                  have hnk : (n : Int) * ((k : Int) + 1) = (P : Int) := by rw [← hP]; push_cast; rfl
                  rw [iw ((k : Int) + 1) (by omega) (by omega), hnk, iw (P : Int) (by omega) (by omega), iw ((P : Int) + (i : Int)) (by omega) (by omega)]; omega)
                obtain ⟨row, hrow, hrl, hrk⟩ := HWR.out i hil
                have hval := hrk k hkl
                have HV0 := hid (HWL.out k hkl i hil)
                rw [hP] at HV0
                obtain ⟨v, hv⟩ : ∃ v, ((kp (fun i => kl.getD i 0 % 2 == 1) n).map fun p => wd L p k).getD i 0 = v := ⟨_, rfl⟩
                rw [hv] at hval HV0
                obtain ⟨g, q, rc, rfl, hg1, hg2, hq1, hq2, cg, cq⟩ := HO10.out.cells HWN.out HLO.out i row hrow k v hval
                rw [hrl] at cg
                have HPI := hid (show P + i < T by omega)
                have HV := hid (show Ak.loadV ((P + i : Nat) : Int) = v by rw [(rel_facts Ak (P + i) (by rw [HKK.out.top]; exact HPI.out)).1, HKK.out.wd]; exact HV0.out)
                have HRK := hid (fun w a => ar_rel h1 Fk Ak ((P + i : Nat) : Int) w a (by omega) (by have := HKK.out.es; omega))
                rw [HV.out] at HRK
                have KS := hid (show ∀ w' : World, (∀ q, w6.heap.size ≤ q → q < w10.heap.size → w'.heap[q]? = w10.heap[q]?) → (fun w' => w'.cell? ⟨g, i, none⟩ = some (.slice (some ⟨q, 0, none⟩) W rc) ∧ w'.cell? ⟨q, k, none⟩ = some (.int .u32 (v : Int))) w' from fun w' hk' => ⟨(World.cell?_of_block (hk' g hg1 hg2)).trans cg, (World.cell?_of_block (hk' q hq1 hq2)).trans cq⟩)
                have KB := hid (KS.out wr.drew (fun q a b => (HKK.out.kp q a b).1))
                have hii : (i : Int) < (n : Int) := by omega
                have hkk : (k : Int) < (W : Int) := by omega
                clear hP hrow hrl hrk hval hv cg cq hg1 hg2 hq1 hq2 HV0 HV
                go_wp2_with fail
                go_region_held3 (fun w' => w'.cell? ⟨g, i, none⟩ = some (.slice (some ⟨q, 0, none⟩) W rc) ∧ w'.cell? ⟨q, k, none⟩ = some (.int .u32 (v : Int)))
                  (first | (exact KX.out) | (exact KB.out) | (go_keep))
                  (first | (go_at_call 25; (rw [HX.out]; refine (HRK.out _ HKK.out.drew.ar).mono ?_; rintro e w8 ⟨rfl, F8, a8, s8⟩; have hs8 := (Step.refl wr Fk).drew.trans s8; have HK8 := hid (HKK.out.rel HPI.out hs8 a8); have KX := hid (KS.out w8 (fun q a b => (HK8.out.kp q a b).1)); clear a8 s8 hs8)))
                rename_i hHeld
                clear hHeld KX KB KS HRK
                go_wp2_with fail
                go_roundw
                case rel => exact ⟨k + 1, F8, _, by omega, by go_num, HK8.out.more (by omega)⟩
                case measure => simp [intOf]; omega
              · have hke : k = W := by omega
                go_wp2_with fail
                go_roundw
                case rel => exact ⟨i + 1, Fk, Ak, by omega, by go_num, HKK.out.more (by omega)⟩
                case measure => simp [intOf]; omega
          · rw [if_neg hiv] at HRL
            go_wp2_with (go_at_call 25; refine HRL.out.mono ?_; rintro e w7 ⟨rfl, F7, a7, s7⟩; have HK7 := hid (HIN.out i w7 F7 (by omega) s7 a7); clear a7 s7)
            obtain ⟨w7z, hw7z⟩ : ∃ y, y = w7 := ⟨_, rfl⟩
            go_loopw [149] (fun c wr => ∃ (k : Nat) (Fk : Nat → Prop) (Ak : Ars), k ≤ W ∧ c = .int .i64 (k : Int) ∧ KpS w w10 wr h1 w6.heap.size B1 T (200000 + 20 * i + 2 + 2 * k) Fk Ak) (fun c _ => W - (intOf c).toNat)
            case atStart => exact ⟨0, F7, _, Nat.zero_le _, rfl, HK7.out⟩
            case round =>
              clear HK7 hw7z HRL HIN HMK HKS
              obtain ⟨k, Fk, Ak, hk, rfl, kk⟩ := hrel
              have HKK := hid kk
              clear kk
              by_cases hkl : k < W
              · obtain ⟨P, hP⟩ : ∃ P, n * (k + 1) = P := ⟨_, rfl⟩
                have hPT : P + n ≤ T := by
                  rw [← hP, ← HTE.out, ← Nat.mul_succ]; exact Nat.mul_le_mul_left _ (by omega)
                have HX := hid (show IntKind.i64.wrap (IntKind.i64.wrap ((n : Int) * IntKind.i64.wrap ((k : Int) + 1)) + (i : Int)) = ((P + i : Nat) : Int) by
                  have hnk : (n : Int) * ((k : Int) + 1) = (P : Int) := by rw [← hP]; push_cast; rfl
                  rw [iw ((k : Int) + 1) (by omega) (by omega), hnk, iw (P : Int) (by omega) (by omega), iw ((P : Int) + (i : Int)) (by omega) (by omega)]; omega)
                obtain ⟨row, hrow, hrl, hrk⟩ := HWR.out i hil
                have hval := hrk k hkl
                have HV0 := hid (HWL.out k hkl i hil)
                rw [hP] at HV0
                obtain ⟨v, hv⟩ : ∃ v, ((kp (fun i => kl.getD i 0 % 2 == 1) n).map fun p => wd L p k).getD i 0 = v := ⟨_, rfl⟩
                rw [hv] at hval HV0
                obtain ⟨g, q, rc, rfl, hg1, hg2, hq1, hq2, cg, cq⟩ := HO10.out.cells HWN.out HLO.out i row hrow k v hval
                rw [hrl] at cg
                have HPI := hid (show P + i < T by omega)
                have HV := hid (show Ak.loadV ((P + i : Nat) : Int) = v by rw [(rel_facts Ak (P + i) (by rw [HKK.out.top]; exact HPI.out)).1, HKK.out.wd]; exact HV0.out)
                have HRK := hid (fun w a => ar_rel h1 Fk Ak ((P + i : Nat) : Int) w a (by omega) (by have := HKK.out.es; omega))
                rw [HV.out] at HRK
                have KS := hid (show ∀ w' : World, (∀ q, w6.heap.size ≤ q → q < w10.heap.size → w'.heap[q]? = w10.heap[q]?) → (fun w' => w'.cell? ⟨g, i, none⟩ = some (.slice (some ⟨q, 0, none⟩) W rc) ∧ w'.cell? ⟨q, k, none⟩ = some (.int .u32 (v : Int))) w' from fun w' hk' => ⟨(World.cell?_of_block (hk' g hg1 hg2)).trans cg, (World.cell?_of_block (hk' q hq1 hq2)).trans cq⟩)
                have KB := hid (KS.out wr.drew (fun q a b => (HKK.out.kp q a b).1))
                have hii : (i : Int) < (n : Int) := by omega
                have hkk : (k : Int) < (W : Int) := by omega
                clear hP hrow hrl hrk hval hv cg cq hg1 hg2 hq1 hq2 HV0 HV
                go_wp2_with fail
                go_region_held3 (fun w' => w'.cell? ⟨g, i, none⟩ = some (.slice (some ⟨q, 0, none⟩) W rc) ∧ w'.cell? ⟨q, k, none⟩ = some (.int .u32 (v : Int)))
                  (first | (exact KX.out) | (exact KB.out) | (go_keep))
                  (first | (go_at_call 25; (rw [HX.out]; refine (HRK.out _ HKK.out.drew.ar).mono ?_; rintro e w8 ⟨rfl, F8, a8, s8⟩; have hs8 := (Step.refl wr Fk).drew.trans s8; have HK8 := hid (HKK.out.rel HPI.out hs8 a8); have KX := hid (KS.out w8 (fun q a b => (HK8.out.kp q a b).1)); clear a8 s8 hs8)))
                rename_i hHeld
                clear hHeld KX KB KS HRK
                go_wp2_with fail
                go_roundw
                case rel => exact ⟨k + 1, F8, _, by omega, by go_num, HK8.out.more (by omega)⟩
                case measure => simp [intOf]; omega
              · have hke : k = W := by omega
                go_wp2_with fail
                go_roundw
                case rel => exact ⟨i + 1, Fk, Ak, by omega, by go_num, HKK.out.more (by omega)⟩
                case measure => simp [intOf]; omega
        · have hie : n = i := by omega
          subst hie
          go_wp2_with fail
          go_ret
          exact ⟨rfl, HKS.out.bel⟩
end Go.Proofs.Ytlnankianpchbaa
