/- The contract of the laws' lay (layer 4), over this seat's translation. Conditions: at most 60 tuples of at most 4 words. -/
import Derived.Test.YtlnankianpchbaaPkL
import Derived.Deep.AppendLies
namespace Go.Proofs.Ytlnankianpchbaa
open Go.RowKit

set_option maxHeartbeats 1600000 in
set_option maxRecDepth 4000 in
theorem lay_any (kl : List Nat) (L : List (List Nat)) (W : Nat) (adk adl : Option Addr) (capk capl : Nat) (w : World) (hk : U32s w adk kl) (hg : Grid w adl L) (hkl : ∀ x ∈ kl, x < 4294967296) (hL : ∀ i k, wd L i k < 4294967296) (hn : kl.length ≤ 60) (hW : W ≤ 4) :
    Calls Try.prog 17 #[.slice adk kl.length capk, .slice adl L.length capl, .int .i64 (W : Int)] w fun e w' => ∃ h v F A, e = .returned (.tuple #[arPtr h, v]) ∧ LayS w w' h kl.length W (tgF kl L kl.length) W (kl.length * (W + 1)) F A v := by
  have HK := hid hk
  have HG := hid hg
  have HKL := hid hkl
  have HL := hid hL
  obtain ⟨n, hne⟩ : ∃ n, kl.length = n := ⟨_, rfl⟩
  have HNE := hid hne
  have HT0 := hid (laid0 kl L W)
  rw [hne] at hn HT0 ⊢
  obtain ⟨Z, hZ⟩ : ∃ Z, n * (W + 2) = Z := ⟨_, rfl⟩
  obtain ⟨T, hT⟩ : ∃ T, n * (W + 1) = T := ⟨_, rfl⟩
  have hZ2 : Z ≤ 360 := by rw [← hZ]; exact Nat.mul_le_mul hn (show W + 2 ≤ 6 by omega)
  have hT2 : T ≤ 300 := by rw [← hT]; exact Nat.mul_le_mul hn (show W + 1 ≤ 5 by omega)
  have HZ := hid hZ
  have HT := hid hT
  have HZI := hid (show wrap64 ((n : Int) * ((W : Int) + 2)) = (Z : Int) by
    have : (n : Int) * ((W : Int) + 2) = (Z : Int) := by rw [← hZ]; push_cast; rfl
    rw [this]; unfold wrap64; omega)
  have HTI := hid (show wrap64 ((n : Int) * ((W : Int) + 1)) = (T : Int) by
    have : (n : Int) * ((W : Int) + 1) = (T : Int) := by rw [← hT]; push_cast; rfl
    rw [this]; unfold wrap64; omega)
  rw [hZ, hT] at HT0
  obtain ⟨tg, hte⟩ : ∃ tg, tgF kl L n = tg := ⟨_, rfl⟩
  rw [hte] at HT0 ⊢
  have HTE := hid hte
  clear hte
  clear hk hg hkl hL hne hZ hT
  obtain ⟨i0, hi, hz0, hz1, hz2⟩ := info_parts Try.infoInt
  go_enter Try.func17, Try.ntmps17
  go_wp2_with fail
  rw [HZI.out]
  refine (ar_new_at (Z : Int) Z _ (Or.inr rfl) (by omega)).mono ?_
  rintro e w1 ⟨h, F1, rfl, a1, hi1, hb1⟩
  have H1 := hid (And.intro a1 (And.intro hi1 hb1))
  clear a1 hi1 hb1
  go_wp2_with fail
  rw [HTI.out]
  refine (ar_take h F1 _ (T : Int) _ H1.out.1 (by simp [Ars.new])).mono ?_
  rintro e w2 ⟨rfl, F2, a2, s2⟩
  have HB2 := hid (H1.out.2.2.trans (s2.below H1.out.2.2.size H1.out.2.1))
  have HF2 := hid (show ∀ i, F2 i → w.heap.size ≤ i from fun i hi => (s2.sub i hi).elim (H1.out.2.1 i) fun x => Nat.le_trans H1.out.2.2.size x)
  have HPU := hid (show Calls Try.prog 9 #[arPtr h, .int .i64 0, .slice adk n capk] w2 fun e w' => e = .returned (.bool (((Ars.new (Z : Int)).take (T : Int)).fits 0 n)) ∧ ∃ F', Ar w' h F' (((Ars.new (Z : Int)).take (T : Int)).put 0 kl) ∧ Step w2 F2 w' F' by
    have := ar_put h F2 _ 0 adk capk kl w2 a2 (by decide) HKL.out (HK.out.belowG HB2.out) (fun x hx h0 hF => by have := HF2.out _ hF; have := HK.out.lt x hx h0; omega) (by
      have : ((Ars.new (Z : Int)).take (T : Int)).es.length ≤ 1 := by unfold Ars.take; split <;> simp [Ars.new]
      have := HNE.out; omega)
    rw [HNE.out] at this; exact this)
  clear a2 s2
  go_wp2_with fail
  refine HPU.out.mono ?_
  rintro e w3 ⟨rfl, F3, a3, s3⟩
  have HS := hid (show LayS w w3 h n W tg 0 n F3 (((Ars.new (Z : Int)).take (T : Int)).put 0 kl) (.slice none 0 0) from
    ⟨a3, HB2.out.trans (s3.below HB2.out.size HF2.out), fun i hi => (s3.sub i hi).elim (HF2.out i) fun x => Nat.le_trans HB2.out.size x, ⟨rfl, Or.inl ⟨rfl, rfl⟩⟩, fun q hq => (by cases hq), HT0.out⟩)
  clear a3 s3 HPU HB2 HF2 H1 HT0
  generalize ((Ars.new (Z : Int)).take (T : Int)).put 0 kl = A3 at *
  go_wp2_with fail
  go_loopw [10, 30] (fun v c wr => ∃ (k : Nat) (F : Nat → Prop) (A : Ars) (sd : Option Addr) (sc : Nat), k ≤ W ∧ c = .int .i64 (k : Int) ∧ v = .slice sd k sc ∧ LayS w wr h n W tg k (n * (k + 1)) F A (.slice sd k sc)) (fun _ c _ => W - (intOf c).toNat)
  case atStart => exact ⟨0, F3, A3, none, 0, Nat.zero_le _, rfl, rfl, by simpa using HS.out⟩
  case round =>
    obtain ⟨k, F, A, sd, sc, hk, rfl, rfl, ls⟩ := hrel
    have HLS := hid ls
    clear ls
    by_cases hlt : k < W
    · obtain ⟨P, hP⟩ : ∃ P, n * (k + 1) = P := ⟨_, rfl⟩
      have hPT : P + n ≤ T := by
        rw [← hP, ← HT.out, ← Nat.mul_succ]; exact Nat.mul_le_mul_left _ (by omega)
      have HPI := hid (show wrap64 ((n : Int) * ((k : Int) + 1)) = (P : Int) by
        have : (n : Int) * ((k : Int) + 1) = (P : Int) := by rw [← hP]; push_cast; rfl
        rw [this]; unfold wrap64; omega)
      have HSU := hid (show ints (lanesI n (k + 1)) = ints (lanesI n k) ++ [.int .i64 (P : Int)] by rw [lanesI_succ, hP])
      rw [hP] at HLS
      have HP := hid hP
      clear hP
      go_wp2_with (at_builtin; rw [HPI.out]; refine wpList_append_lies _ rfl (.tmp 33) (.tmp 38) 28 rfl w.heap.size 3 i0 _ 1 8 Try.underlying28 hi hz0 hz1 hz2 rfl (by decide) _ k (ints (lanesI n k)) rfl (HLS.out.own.alloc _) ⟨wr.heap.size, 0, none⟩ 1 1 [.int .i64 (P : Int)] rfl rfl (World.news_of_block (heap_alloc_at _ _)) (by intro u hu; simp at hu; subst hu; rfl) (by decide) (by unfold maxLen; omega) (by omega) (by have := HLS.out.bel.size; simp; omega) _ rfl ?_; intro g cap w5 hown hgrow hat hlt5; have H5 := hid (And.intro hown (And.intro hgrow hat)); clear hown hgrow hat hlt5)
      have HL5 := hid (show LayS w w5 h n W tg (k + 1) P F A (.slice (some ⟨g, 0, none⟩) (k + 1) cap) from by
        have ho := H5.out.1
        rw [← HSU.out] at ho
        exact (HLS.out.alloc _).grown ho H5.out.2.1 H5.out.2.2)
      clear H5
      obtain ⟨wz, rfl⟩ : ∃ y, y = wr := ⟨_, rfl⟩
      go_loopw [41] (fun c wr => ∃ (i : Nat) (F : Nat → Prop) (A : Ars), i ≤ n ∧ c = .int .i64 (i : Int) ∧ LayS w wr h n W tg (k + 1) (P + i) F A (.slice (some ⟨g, 0, none⟩) (k + 1) cap)) (fun c _ => n - (intOf c).toNat)
      case atStart => exact ⟨0, F, A, Nat.zero_le _, rfl, HL5.out⟩
      case round =>
        clear HL5 HLS
        obtain ⟨i, F6, A6, hin, rfl, l6⟩ := hrel
        have HL6 := hid l6
        clear l6
        by_cases hil : i < n
        · have HX := hid (show wrap64 (wrap64 ((n : Int) * ((k : Int) + 1)) + (i : Int)) = ((P + i : Nat) : Int) by rw [HPI.out]; unfold wrap64; omega)
          have HWD := hid (word4_any adl capl L i k wr (HG.out.below HL6.out.bel))
          have HTG := hid (show tg (P + i) = wd L i k by rw [← HTE.out, ← HP.out]; exact tgF_at kl L n k i hil)
          have HV := hid (HL.out i k)
          obtain ⟨v, hv⟩ : ∃ v, wd L i k = v := ⟨_, rfl⟩
          rw [hv] at HWD HTG HV
          clear hv
          have hlt6 : P + i < n * (W + 1) := by rw [HT.out]; omega
          have HLT := hid hlt6
          have HTP := hid (show P + i < A6.top by rw [HL6.out.laid.top]; exact hlt6)
          have HES := hid (show A6.es.length ≤ 400 by rw [HL6.out.laid.es]; simp; omega)
          have HN6 := hid (freshF HL6.out.ar)
          clear hlt6
          go_wp2_with (first
            | (go_at_call 22; refine HWD.out.mono ?_; rintro e w' ⟨rfl, hw⟩; subst w')
            | (go_at_call 9; (rw [HX.out]; refine (ar_put h F6 A6 ((P + i : Nat) : Int) (some ⟨wr.heap.size, 0, none⟩) 1 [v] _ (HL6.out.ar.alloc _) (by omega) (by intro x hx; simp at hx; subst hx; exact HV.out) (u32s_new wr [v]) (fun x hx _ => by cases hx; exact HN6.out) (by have := HES.out; simp; omega)).mono ?_; rintro e w7 ⟨rfl, F7, a7, s7⟩; rw [put1 _ _ _ HTP.out, ← HTG.out] at a7; have HL7 := hid ((HL6.out.alloc _).put s7 a7 HLT.out); clear a7 s7)))
          go_roundw
          case rel => exact ⟨i + 1, F7, _, by omega, by go_num, HL7.out⟩
          case measure => simp [intOf]; omega
        · have hie : i = n := by omega
          subst hie
          have HL8 := hid (show LayS w wr h i W tg (k + 1) (i * (k + 1 + 1)) F6 A6 (.slice (some ⟨g, 0, none⟩) (k + 1) cap) by
            have := HL6.out
            rw [show i * (k + 1 + 1) = P + i by rw [Nat.mul_succ, HP.out]]; exact this)
          clear HL6
          go_wp2_with fail
          go_roundw
          case rel => exact ⟨k + 1, F6, A6, some ⟨g, 0, none⟩, cap, by omega, by go_num, by simp, HL8.out⟩
          case measure => simp [intOf]; omega
    · have hke : k = W := by omega
      subst hke
      go_wp2_with fail
      rw [HT.out] at HLS
      exact bodyPost_ret (v := .tuple #[arPtr h, .slice sd k sc]) (by simp only [results, Try.results17]; simp [go_sem]) rfl ⟨h, _, F, A, rfl, by rw [HT.out]; exact HLS.out⟩
end Go.Proofs.Ytlnankianpchbaa
