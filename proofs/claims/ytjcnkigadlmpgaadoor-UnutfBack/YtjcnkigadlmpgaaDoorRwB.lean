/- Contracts of package rows' Of and Apart, over this seat's translation. Conditions: at most a million rows, in a slice apart from the arena. -/
import Derived.Test.YtjcnkigadlmpgaaDoorBc
import Derived.Shelf.SlSortCmp.NoneTotal
import Derived.Test.YtjcnkigadlmpgaaDoorRwA
import Derived.Deep.LoopGhost
import Derived.BigQuiet
import Derived.Deep.QuietTactic
import Derived.Deep.RegionWith
import Derived.Lib.SliceRun
import Derived.WalkSpells
import Derived.Deep.Slices
namespace Go.Proofs.YtjcnkigadlmpgaaDoor
open Go.RowKit
theorem sortNone_any (ad : Option Addr) (cap : Nat) (fv : Value) (w : World) : Calls Tryd.prog 47 #[.slice ad 0 cap, fv] w fun e w' => e = .returned (.tuple #[]) ∧ w' = w := by
  have := AnyF.slices_SortFunc_none laySort ad cap fv w
  exact this

theorem Tryd.infoRR : (Tryd.prog.info? 65).map (fun i => (i.zero, i.size, i.bytes)) = some (some (.agg #[.int .i64 0, .int .i64 0]), 2, 16) := by kernel_rfl
theorem laterB {w w' : World} {b i : Nat} {v : Value} {B : Nat} (h : Below B w w') (hb : b < B) (hc : w.cell? ⟨b, i, none⟩ = some v) : w'.cell? ⟨b, i, none⟩ = some v :=
  (World.cell?_of_block (h.block b hb)).trans hc

def big (rs : List (Int × Int)) : List (Int × Int) := rs.filter fun x => decide (0 < x.2)
theorem big_yes (rs : List (Int × Int)) (k : Nat) (h : k < rs.length) (hp : 0 < rs[k].2) : big (rs.take (k + 1)) = big (rs.take k) ++ [rs[k]] := by
  unfold big; rw [List.take_succ_eq_append_getElem h, List.filter_append]; simp [hp]
theorem big_no (rs : List (Int × Int)) (k : Nat) (h : k < rs.length) (hp : ¬ 0 < rs[k].2) : big (rs.take (k + 1)) = big (rs.take k) := by
  unfold big; rw [List.take_succ_eq_append_getElem h, List.filter_append]; simp [hp]
theorem big_len (rs : List (Int × Int)) : (big rs).length ≤ rs.length := List.length_filter_le _ _

set_option maxHeartbeats 1600000 in
theorem apart_any (h : Hn) (F : Nat → Prop) (A : Ars) (b cap : Nat) (rs : List (Int × Int)) (w : World) (a : Ar w h F A) (hlen : rs.length ≤ 1000000) (hz : ∀ x ∈ rs, x.1 < 9223372036854775808) (hb : b < w.heap.size)
    (hc : ∀ j (h : j < rs.length), w.cell? ⟨b, j * 2, none⟩ = some (.int .i64 rs[j].1) ∧ w.cell? ⟨b, j * 2 + 1, none⟩ = some (.int .i64 rs[j].2)) :
    Calls Tryd.prog 25 #[arPtr h, .slice (some ⟨b, 0, none⟩) rs.length cap] w fun e w' => ∃ r : Bool, e = .returned (.bool r) ∧ (r = true ↔ Rfine A rs) ∧ Below w.heap.size w w' := by
  have HA := hid a
  have HC := hid hc
  have HZ := hid hz
  have ht := a.ok.1
  have ht2 := a.ok.2.1
  clear a hc hz
  obtain ⟨i0, hi, hz0, hz1, hz2⟩ := info_parts Tryd.infoRR
  go_enter Tryd.func25, Tryd.ntmps25
  go_wp2_with fail
  go_loopw [5, 11] (fun sm c wr => ∃ (k : Nat) (sd : Option Addr) (sc : Nat), k ≤ rs.length ∧ c = .int .i64 (k : Int) ∧ sm = .slice sd (big (rs.take k)).length sc ∧
    wr.ownsRow w.heap.size 65 2 (.slice sd (big (rs.take k)).length sc) (big (rs.take k)).length (rcells (big (rs.take k))) ∧ Below w.heap.size w wr ∧ ∀ j (hj : j < rs.length), j < k → A.fits rs[j].1 rs[j].2 = true) (fun _ c _ => rs.length - (intOf c).toNat)
  case atStart => exact ⟨0, none, 0, Nat.zero_le _, rfl, rfl, ⟨rfl, Or.inl ⟨rfl, rfl⟩⟩, Below.refl _ _, fun j _ h => by omega⟩
  case round =>
    obtain ⟨k, sd, sc, hk, rfl, rfl, hown, hB, hall⟩ := hrel
    have HO := hid hown
    have HB := hid hB
    have HAL := hid hall
    clear hown hall
    by_cases hlt : k < rs.length
    · obtain ⟨c0, c1⟩ := HC.out k hlt
      replace c0 := laterB hB hb c0
      replace c1 := laterB hB hb c1
      have HZk := hid (HZ.out rs[k] (List.getElem_mem hlt))
      have HY := hid (fun hp => big_yes rs k hlt hp)
      have HN := hid (fun hp => big_no rs k hlt hp)
      have HQ := hid (show A.fits rs[k].1 rs[k].2 = true → ∀ j (hj : j < rs.length), j < k + 1 → A.fits rs[j].1 rs[j].2 = true from fun hq j hj h => by
        by_cases e : j = k
        · subst e; exact hq
        · exact HAL.out j hj (by omega))
      have HF := hid (show A.fits rs[k].1 rs[k].2 = false → ¬ Rfine A rs from fun hq hp => by
        have := hp.1 rs[k] (List.getElem_mem hlt); rw [hq] at this; cases this)
      have HBL := hid (show (big (rs.take k)).length ≤ 1000000 by have := big_len (rs.take k); rw [List.length_take] at this; omega)
      clear hB
      generalize rs[k] = x at *
      obtain ⟨x1, x2⟩ := x
      simp only at c0 c1
      have HAw := hid (HA.out.below HB.out)
      cases hfz : A.fits x1 x2
      · have HF2 := hid (HF.out hfz)
        go_wp2_with (go_at_call 40; refine (ar_fits h F A x1 x2 _ (HAw.out.alloc _) HZk.out).mono ?_; rintro e w' ⟨rfl, hw⟩; subst w'; rw [hfz])
        go_ret
        exact ⟨false, rfl, ⟨fun h => (by cases h), fun h => absurd h HF2.out⟩, HB.out.alloc HB.out.size _⟩
      · have HQ2 := hid (HQ.out hfz)
        by_cases hpos : 0 < x2
        · have HY2 := hid (HY.out hpos)
          have HXX := hid (show rcells (big (rs.take k)) ++ [.int .i64 x1, .int .i64 x2] = rcells (big (rs.take (k + 1))) by rw [HY2.out, rcells_snoc])
          have HLL := hid (show (big (rs.take k)).length + 1 = (big (rs.take (k + 1))).length by rw [HY2.out]; simp)
          clear HN HY HF HQ HAL HZ HY2
          generalize hq : (big (rs.take k)).length = q at *
          have hq2 : q ≤ 1000000 := HBL.out
          have HNB := hid (show ((wr.alloc (.cells #[.int .i64 x1, .int .i64 x2] 65)).alloc (.cells #[.int .i64 x1, .int .i64 x2] 65)).heap[wr.heap.size + 1]? = some (.cells #[.int .i64 x1, .int .i64 x2] 65) by
            have := heap_alloc_at (wr.alloc (.cells #[.int .i64 x1, .int .i64 x2] 65)) (.cells #[.int .i64 x1, .int .i64 x2] 65)
            rw [World.size_alloc] at this; exact this)
          go_wp2_with (first
            | (go_at_call 40; refine (ar_fits h F A x1 x2 _ (HAw.out.alloc _) HZk.out).mono ?_; rintro e w' ⟨rfl, hw⟩; subst w'; rw [hfz])
            | (at_builtin; refine wpList_append_own _ rfl (.tmp 25) (.tmp 27) 66 rfl w.heap.size 65 i0 _ 2 16 Tryd.underlying66 hi hz0 hz1 hz2 rfl (by decide) _ q (rcells (big (rs.take k))) rfl ((HO.out.alloc _).alloc _) ⟨wr.heap.size + 1, 0, none⟩ 1 1 [.int .i64 x1, .int .i64 x2] rfl rfl (World.news_of_block HNB.out) (by intro u hu; simp at hu; rcases hu with rfl | rfl <;> rfl) (by unfold maxLen; omega) (by omega) (by have := HB.out.size; simp; omega) ?_; intro v' w6 hown' hgrow _; obtain ⟨sd', sc', rfl⟩ := owns_shape hown'; have HO5 := hid hown'; have HG5 := hid hgrow; clear hown' hgrow))
          go_roundw
          case rel =>
            have h5 := HO5.out
            rw [HXX.out, HLL.out] at h5
            exact ⟨k + 1, sd', sc', by omega, by go_num, by rw [← HLL.out], h5, ((HB.out.alloc HB.out.size _).alloc (by have := HB.out.size; simp; omega) _).grown HG5.out (by have := HB.out.size; simp; omega) (fun k hk => (HO.out.lt k hk).1), HQ2.out⟩
          case measure => simp [intOf]; omega
        · have HN2 := hid (HN.out hpos)
          have hx0 : x2 = 0 := by have := Ars.fits_iff.1 hfz; omega
          subst hx0
          clear HN HY HF HQ HBL HAL HZ hpos
          go_wp2_with (go_at_call 40; refine (ar_fits h F A x1 0 _ (HAw.out.alloc _) HZk.out).mono ?_; rintro e w' ⟨rfl, hw⟩; subst w'; rw [hfz])
          go_roundw
          case rel => exact ⟨k + 1, sd, sc, by omega, by go_num, by rw [HN2.out], by rw [HN2.out]; exact HO.out.alloc _, HB.out.alloc HB.out.size _, HQ2.out⟩
          case measure => simp [intOf]; omega
    · have hke : k = rs.length := by omega
      subst hke
      rw [List.take_length] at HO ⊢
      have HFI := hid (show ∀ x ∈ rs, A.fits x.1 x.2 = true from fun x hx => by
        obtain ⟨j, hj, rfl⟩ := List.getElem_of_mem hx
        exact HAL.out j hj hj)
      have HPOS := hid (show ∀ x ∈ big rs, 0 < x.2 from fun x hx => by simpa using (List.mem_filter.1 hx).2)
      have HIN := hid (show ∀ x ∈ big rs, 0 ≤ x.1 ∧ x.1 ≤ 4194304 ∧ x.2 ≤ 4194304 from fun x hx => by
        have := Ars.fits_iff.1 (HFI.out x (List.mem_filter.1 hx).1); omega)
      have HRF := hid (show Rfine A rs ↔ (big rs).Pairwise Rap from ⟨fun h => h.2, fun h => ⟨HFI.out, h⟩⟩)
      have hbl : (big rs).length ≤ 1000000 := by have := big_len rs; omega
      clear HAL HC hB HZ
      generalize big rs = ss at *
      by_cases h0 : ss.length = 0
      · have hs0 : ss = [] := List.length_eq_zero_iff.1 h0
        subst hs0
        have HT := hid (HRF.out.2 List.Pairwise.nil)
        clear HPOS HIN HRF
        go_wp2_with fail
        refine (sortNone_any sd sc _ _).mono ?_
        rintro e w1 ⟨rfl, hw1⟩
        subst w1
        go_wp2_with fail
        go_loopw [8] (fun c wz => c = .int .i64 1 ∧ wz = wr) (fun _ _ => 0)
        case atStart => exact ⟨rfl, rfl⟩
        case round =>
          obtain ⟨rfl, hwz⟩ := hrel
          subst hwz
          go_wp2
          go_ret
          exact ⟨true, rfl, ⟨fun _ => HT.out, fun _ => rfl⟩, HB.out⟩
      · obtain ⟨g, rfl, hgb, hgl, hcell⟩ := owns_cell HO.out (by omega)
        have hcs : ∀ j (h : j < ss.length), wr.cell? ⟨g, j * 2, none⟩ = some (.int .i64 ss[j].1) ∧ wr.cell? ⟨g, j * 2 + 1, none⟩ = some (.int .i64 ss[j].2) := fun j hj => by
          obtain ⟨k0, k1⟩ := rcells_at ss j hj
          exact ⟨hcell _ _ k0, hcell _ _ k1⟩
        have hfr : ∀ t, wr.frozen? ⟨g, t, none⟩ = false := fun t => owns_froz HO.out
        have HS := hid (sortRows_any g sc ss wr hgl (by omega) hcs hfr)
        clear hcs hfr hcell HO
        go_wp2_with fail
        refine HS.out.mono ?_
        rintro e w1 ⟨rfl, ts, hperm, hsrt, hts, hgr⟩
        have HTS := hid hts
        have HB1 := hid (HB.out.grown hgr HB.out.size (fun q hq => by cases hq; exact hgb))
        have hgl1 : g < w1.heap.size := Nat.lt_of_lt_of_le hgl hgr.size
        have htl : ts.length = ss.length := hperm.length_eq
        have HTL := hid htl
        have HAP := hid ((HRF.out.trans (rap_perm hperm.symm)).trans (rap_adj ts (fun x hx => HPOS.out x (hperm.mem_iff.1 hx)) hsrt))
        have HIN2 := hid (show ∀ x ∈ ts, 0 ≤ x.1 ∧ x.1 ≤ 4194304 ∧ x.2 ≤ 4194304 ∧ 0 < x.2 from fun x hx => by
          have h1 := HIN.out x (hperm.mem_iff.1 hx); have h2 := HPOS.out x (hperm.mem_iff.1 hx); omega)
        clear HS hts hgr hperm hsrt htl HPOS HIN HRF HB HFI
        go_wp2_with fail
        go_loopw [8] (fun c wz => ∃ j : Nat, 1 ≤ j ∧ j ≤ ss.length ∧ c = .int .i64 (j : Int) ∧ Below w1.heap.size w1 wz ∧ ∀ i (h : i + 1 < ts.length), i + 1 < j → ts[i].1 + ts[i].2 ≤ ts[i + 1].1) (fun c _ => ss.length - (intOf c).toNat)
        case atStart => exact ⟨1, Nat.le_refl _, by omega, rfl, Below.refl _ _, fun i _ h => by omega⟩
        case round =>
          obtain ⟨j, hj, hjl, rfl, hBr, hall⟩ := hrel
          have HBr := hid hBr
          have HAL := hid hall
          clear hall
          by_cases hlt2 : j < ss.length
          · obtain ⟨k, hjk⟩ : ∃ k, j = k + 1 := ⟨j - 1, by omega⟩
            have hks : j < ts.length := by rw [HTL.out]; exact hlt2
            have hks0 : k < ts.length := by omega
            obtain ⟨d0, d1⟩ := HTS.out k hks0
            obtain ⟨d2, d3⟩ := HTS.out j hks
            replace d0 := laterB hBr hgl1 d0
            replace d1 := laterB hBr hgl1 d1
            replace d2 := laterB hBr hgl1 d2
            have z0 := HIN2.out ts[k] (List.getElem_mem hks0)
            have z1 := HIN2.out ts[j] (List.getElem_mem hks)
            obtain ⟨x, y, hx, hy, HN, HF⟩ : ∃ x y, ts[k] = x ∧ ts[j] = y ∧ Hid (x.1 + x.2 ≤ y.1 → ∀ i (h : i + 1 < ts.length), i + 1 < j + 1 → ts[i].1 + ts[i].2 ≤ ts[i + 1].1) ∧ Hid (¬ x.1 + x.2 ≤ y.1 → ¬ Rfine A rs) := by
              refine ⟨ts[k], ts[j], rfl, rfl, fun hq i h hi => ?_, fun hq hp => ?_⟩
              · subst hjk
                by_cases e : i = k
                · subst e; exact hq
                · exact HAL.out i h (by omega)
              · subst hjk
                exact hq (HAP.out.1 hp k hks)
            rw [hx] at d0 d1 z0
            rw [hy] at d2 z1
            obtain ⟨x1, x2⟩ := x
            obtain ⟨y1, y2⟩ := y
            simp only at d0 d1 d2 z0 z1 HN HF
            have hkl : k < ss.length := by omega
            have hw1 : IntKind.i64.wrap ((j : Int) - 1) = (k : Int) := by rw [IntKind.wrap_i64]; omega
            have hw2 : IntKind.i64.wrap (y1 - x1) = y1 - x1 := by rw [IntKind.wrap_i64]; omega
            have HJ := hid hjk
            clear hBr hx hy HAL hjk d3
            have HZ0 := hid z0
            have HZ1 := hid z1
            clear z0 z1
            by_cases hd : y1 - x1 < x2
            · have HF2 := hid (HF.out (by omega))
              go_wp2_with fail
              go_quiet (fail)
              go_wp2
              go_ret
              exact ⟨false, rfl, ⟨fun h => (by cases h), fun h => absurd h HF2.out⟩, HB1.out.trans ((belowDN HBr.out _).mono HB1.out.size)⟩
            · have HN2 := hid (HN.out (by omega))
              have hd2 : decide (y1 - x1 < x2) = false := decide_eq_false hd
              clear hd HN HF
              go_wp2_with fail
              go_quiet (fail)
              go_wp2
              go_roundw
              case rel => exact ⟨j + 1, by omega, by omega, by go_num, belowDN HBr.out _, HN2.out⟩
              case measure => simp [intOf]; omega
          · have hje : j = ss.length := by omega
            have HP := hid (HAP.out.2 (fun i h => HAL.out i h (by rw [hje, ← HTL.out]; exact h)))
            clear hBr HAL
            go_wp2
            go_ret
            exact ⟨true, rfl, ⟨fun _ => HP.out, fun _ => rfl⟩, HB1.out.trans (HBr.out.mono HB1.out.size)⟩
end Go.Proofs.YtjcnkigadlmpgaaDoor
