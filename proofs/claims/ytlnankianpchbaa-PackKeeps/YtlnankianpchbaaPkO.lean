/- The contract of the document's Pack (layer 4), over this seat's translation. Conditions: at most 1000 rows, of at most 1000 words. -/
import Derived.Test.YtlnankianpchbaaPkN
namespace Go.Proofs.Ytlnankianpchbaa
open Go.RowKit

theorem wantR_len (kl : List Nat) (L : List (List Nat)) (m : Nat) (h : rk (fun i => kl.getD i 0 % 2 == 1) L.length ≤ m) : (wantR kl L m).length = m := by
  unfold wantR; rw [List.length_append, kpR_len, List.length_map, List.length_range]; omega
theorem wantR_start (kl : List Nat) (L : List (List Nat)) : wantR kl L (rk (fun i => kl.getD i 0 % 2 == 1) L.length) = kpR kl L L.length := by simp [wantR]
theorem wantR_succ (kl : List Nat) (L : List (List Nat)) (m : Nat) (h : rk (fun i => kl.getD i 0 % 2 == 1) L.length ≤ m) : wantR kl L (m + 1) = wantR kl L m ++ [List.replicate (L.getD m []).length 0] := by
  unfold wantR
  rw [show m + 1 - rk (fun i => kl.getD i 0 % 2 == 1) L.length = (m - rk (fun i => kl.getD i 0 % 2 == 1) L.length) + 1 by omega, List.range_succ, List.map_append, List.append_assoc]
  simp only [List.map_cons, List.map_nil]
  rw [show rk (fun i => kl.getD i 0 % 2 == 1) L.length + (m - rk (fun i => kl.getD i 0 % 2 == 1) L.length) = m by omega]
set_option maxHeartbeats 1600000 in
set_option maxRecDepth 4000 in
theorem refpack_any (kl : List Nat) (L : List (List Nat)) (adk ad : Option Addr) (capk cap lo base : Nat) (vs : List Value) (w : World) (hk : U32s w adk kl) (o : OutR w lo base (.slice ad L.length cap) L vs) (hlo : lo ≤ w.heap.size) (hn : kl.length = L.length) (hL : L.length ≤ 1000) (hr : ∀ l ∈ L, l.length ≤ 1000) (hkl : ∀ x ∈ kl, x < 4294967296) :
    Calls Try.prog 23 #[.slice adk kl.length capk, .slice ad L.length cap] w fun e w' => ∃ ad' cap' vs', e = .returned (.tuple #[.slice ad' L.length cap', .int .i64 (rk (fun i => kl.getD i 0 % 2 == 1) L.length : Nat)]) ∧ OutR w' lo w.heap.size (.slice ad' L.length cap') (wantR kl L L.length) vs' ∧ Below w.heap.size w w' := by
  have HK := hid hk
  have HO := hid o
  have HR := hid hr
  have HKL := hid hkl
  have HRK := hid (rk_le (fun i => kl.getD i 0 % 2 == 1) L.length)
  have HKR := hid (fun k => kpR_len kl L k)
  have HKM := hid (fun k => rk_le (fun i => kl.getD i 0 % 2 == 1) k)
  have HNE := hid hn
  obtain ⟨i0, hi, hz0, hz1, hz2⟩ := info_parts Try.infoRowU
  clear hk o hr hkl hn
  go_enter Try.func23, Try.ntmps23
  go_wp2_with fail
  go_loopw [6, 7] (fun v c wr => ∃ (k : Nat) (sd : Option Addr) (sc : Nat) (us : List Value), k ≤ L.length ∧ c = .int .i64 (k : Int) ∧ v = .slice sd (kpR kl L k).length sc ∧ OutR wr lo w.heap.size (.slice sd (kpR kl L k).length sc) (kpR kl L k) us ∧ Below w.heap.size w wr) (fun _ c _ => L.length - (intOf c).toNat)
  case atStart => exact ⟨0, none, 0, [], Nat.zero_le _, rfl, rfl, OutR.nil _ _ _, Below.refl _ _⟩
  case round =>
    obtain ⟨k, sd, sc, us, hk, rfl, rfl, ou, hB⟩ := hrel
    have HU := hid ou
    have HB := hid hB
    clear ou hB
    by_cases hlt : k < L.length
    · obtain ⟨x, rfl, cx⟩ := (HK.out.belowG HB.out) k (by have := HNE.out; omega)
      obtain ⟨g, ra, rc, rfl, cg, rb⟩ := (HO.out.below HB.out).at rfl k hlt
      have HRB := hid rb
      have HGD := hid (show L.getD k [] = L[k] by simp [hlt])
      have HKD := hid (show kl.getD k 0 = kl[k]'(by have := HNE.out; omega) by simp [show k < kl.length by have := HNE.out; omega])
      have HYE := hid (fun h => kpR_yes kl L k h)
      have HNO := hid (fun h => kpR_no kl L k h)
      have HUL := hid (show (kpR kl L k).length ≤ 1000 by have := HKR.out k; have := HKM.out k; omega)
      obtain ⟨u, hu⟩ : ∃ u, kl[k]'(by have := HNE.out; omega) = u := ⟨_, rfl⟩
      rw [hu] at cx HKD
      obtain ⟨l, hl⟩ : ∃ l, L[k] = l := ⟨_, rfl⟩
      rw [hl] at cg HRB HGD
      rw [HKD.out] at HYE HNO
      rw [HGD.out] at HYE
      clear rb hu hl HGD HKD
      have hkk : k < kl.length := by have := HNE.out; omega
      by_cases hodd : u % 2 = 1
      · have e1 : ((u : Int) % 2 == 1) = true := by simp; omega
        have HY := hid (HYE.out hodd)
        have HLL := hid (show (kpR kl L k).length + 1 = (kpR kl L (k + 1)).length by rw [HY.out]; simp)
        clear HYE HNO hodd
        obtain ⟨q, hq⟩ : ∃ q, (kpR kl L k).length = q := ⟨_, rfl⟩
        have HU2 := hid (show OutR (wr.alloc (.cells #[.slice ra l.length rc] 29 (0, 0))) lo w.heap.size (.slice sd q sc) (kpR kl L k) us by rw [← hq]; exact HU.out.below (below1p _ _))
        have HOW := hid (show (wr.alloc (.cells #[.slice ra l.length rc] 29 (0, 0))).ownsRow w.heap.size 29 1 (.slice sd q sc) q us by have := HU2.out.own; rw [hq] at this; exact this)
        have HQ := hid hq
        rw [hq] at HLL HUL ⊢
        clear hq HU
        have hq1 : q ≤ 1000 := HUL.out
        go_wp2_with (at_builtin; refine wpList_append_own _ rfl (.tmp 22) (.tmp 27) 22 rfl w.heap.size 29 i0 _ 1 24 Try.underlying22 hi hz0 hz1 hz2 rfl (by decide) _ q us rfl HOW.out ⟨wr.heap.size, 0, none⟩ 1 1 [.slice ra l.length rc] rfl rfl (World.news_of_block (heap_alloc_at _ _)) (by intro y hy; simp at hy; subst hy; rfl) (by unfold maxLen; omega) (by omega) (by have := HB.out.size; simp; omega) ?_; intro v' w6 hown hgrow _; obtain ⟨sd', sc', rfl⟩ := owns_shape hown; have H6 := hid (And.intro hown hgrow); clear hown hgrow)
        go_roundw
        case rel =>
          have hB6 := (HB.out.alloc HB.out.size (.cells #[.slice ra l.length rc] 29 (0, 0))).grown H6.out.2 (by have := HB.out.size; simp; omega) (fun q hq => (HOW.out.lt q hq).1)
          have hO := HU2.out.append (HRB.out.below (below1p _ _)) (by rw [HQ.out]; exact H6.out.1) H6.out.2
          rw [← HY.out] at hO
          exact ⟨k + 1, sd', sc', _, by omega, by go_num, by rw [← HLL.out], by rw [← HLL.out]; exact hO, hB6⟩
        case measure => simp [intOf]; omega
      · have e1 : ((u : Int) % 2 == 1) = false := by simp; omega
        have HN := hid (HNO.out hodd)
        clear HYE HNO hodd
        go_wp2_with fail
        go_roundw
        case rel => exact ⟨k + 1, sd, sc, us, by omega, by go_num, by rw [HN.out], by rw [HN.out]; exact HU.out, HB.out⟩
        case measure => simp [intOf]; omega
    · have hke : k = L.length := by omega
      subst hke
      have HW0 := hid (wantR_start kl L)
      have HWS := hid (fun m h => wantR_succ kl L m h)
      have HWL := hid (fun m h => wantR_len kl L m h)
      have HKR2 := hid (HKR.out L.length)
      obtain ⟨R, hR⟩ : ∃ R, rk (fun i => kl.getD i 0 % 2 == 1) L.length = R := ⟨_, rfl⟩
      have HRE := hid hR
      rw [hR] at HRK HW0 HWS HWL HKR2
      rw [HKR2.out] at HU ⊢
      rw [← HW0.out] at HU
      clear hR HKR HKM HKR2 HW0
      have hR1 : R ≤ L.length := HRK.out
      obtain ⟨wz, rfl⟩ : ∃ y, y = wr := ⟨_, rfl⟩
      go_wp2_with fail
      go_loopw [6, 9] (fun v c wr => ∃ (m : Nat) (sd : Option Addr) (sc : Nat) (us : List Value), R ≤ m ∧ m ≤ L.length ∧ c = .int .i64 (m : Int) ∧ v = .slice sd m sc ∧ OutR wr lo w.heap.size (.slice sd m sc) (wantR kl L m) us ∧ Below w.heap.size w wr) (fun _ c _ => L.length - (intOf c).toNat)
      case atStart => exact ⟨R, sd, sc, us, Nat.le_refl _, hR1, rfl, rfl, HU.out, HB.out⟩
      case round =>
        clear HU HB
        obtain ⟨m, sd, sc, us, hm0, hm1, rfl, rfl, ou, hB⟩ := hrel
        have HU := hid ou
        have HB := hid hB
        clear ou hB
        by_cases hlt : m < L.length
        · obtain ⟨g, ra, rc, rfl, cg, rb⟩ := (HO.out.below HB.out).at rfl m hlt
          have HSU := hid (HWS.out m hm0)
          have HGD := hid (show L.getD m [] = L[m] by simp [hlt])
          have hl1 : (L[m]).length ≤ 1000 := HR.out L[m] (List.getElem_mem hlt)
          rw [HGD.out] at HSU
          obtain ⟨z, hz⟩ : ∃ z, (L[m]).length = z := ⟨_, rfl⟩
          rw [hz] at cg HSU hl1
          clear rb hz HGD
          have hmk := run_make_u32s (z : Int) z rfl (by omega)
          have HM1 := hid (rowB_new wr lo (Nat.le_trans hlo HB.out.size) (List.replicate z 0))
          rw [List.length_replicate] at HM1
          have HU2 := hid (show OutR ((wr.alloc (.cells (rowZ z) 31 (0, 0))).alloc (.cells #[.slice (some ⟨wr.heap.size, 0, none⟩) z z] 29 (0, 0))) lo w.heap.size (.slice sd m sc) (wantR kl L m) us from (HU.out.below (below1p _ _)).below (below1p _ _))
          have HOW := hid (show ((wr.alloc (.cells (rowZ z) 31 (0, 0))).alloc (.cells #[.slice (some ⟨wr.heap.size, 0, none⟩) z z] 29 (0, 0))).ownsRow w.heap.size 29 1 (.slice sd m sc) m us by have := HU2.out.own; rw [HWL.out m hm0] at this; exact this)
          have HNB := hid (show ((wr.alloc (.cells (rowZ z) 31 (0, 0))).alloc (.cells #[.slice (some ⟨wr.heap.size, 0, none⟩) z z] 29 (0, 0))).heap[wr.heap.size + 1]? = some (.cells #[.slice (some ⟨wr.heap.size, 0, none⟩) z z] 29 (0, 0)) by
            have := heap_alloc_at (wr.alloc (.cells (rowZ z) 31 (0, 0))) (.cells #[.slice (some ⟨wr.heap.size, 0, none⟩) z z] 29 (0, 0))
            rw [World.size_alloc] at this; exact this)
          go_wp2_with (at_builtin; refine wpList_append_own _ rfl (.tmp 38) (.tmp 45) 22 rfl w.heap.size 29 i0 _ 1 24 Try.underlying22 hi hz0 hz1 hz2 rfl (by decide) _ m us rfl HOW.out ⟨wr.heap.size + 1, 0, none⟩ 1 1 [.slice (some ⟨wr.heap.size, 0, none⟩) z z] rfl rfl (World.news_of_block HNB.out) (by intro y hy; simp at hy; subst hy; rfl) (by unfold maxLen; omega) (by omega) (by have := HB.out.size; simp; omega) ?_; intro v' w6 hown hgrow _; obtain ⟨sd', sc', rfl⟩ := owns_shape hown; have H6 := hid (And.intro hown hgrow); clear hown hgrow)
          clear hmk
          go_roundw
          case rel =>
            have hB6 := (belowCat (belowCat (below1p wr (.cells (rowZ z) 31 (0, 0))) (below1p _ (.cells #[.slice (some ⟨wr.heap.size, 0, none⟩) z z] 29 (0, 0)))) (Below.refl _ _))
            have hB7 := (HB.out.trans (hB6.mono HB.out.size)).grown H6.out.2 (by have := HB.out.size; simp; omega) (fun q hq => (HOW.out.lt q hq).1)
            have hO := HU2.out.append (HM1.out.below (below1p _ _)) (by rw [HWL.out m hm0]; exact H6.out.1) H6.out.2
            rw [← HSU.out] at hO
            exact ⟨m + 1, sd', sc', _, by omega, by omega, by go_num, rfl, hO, hB7⟩
          case measure => simp [intOf]; omega
        · have hme : m = L.length := by omega
          subst hme
          go_wp2_with fail
          exact bodyPost_ret (v := .tuple #[.slice sd L.length sc, .int .i64 (R : Int)]) (by simp only [results, Try.results23]; simp [go_sem]) rfl ⟨sd, sc, us, by rw [HRE.out], HU.out, HB.out⟩
end Go.Proofs.Ytlnankianpchbaa
