/- The laws' awake of layer 8, over this seat's translation. Conditions: what the library's variables hold is some number, some errors. -/
import Derived.Test.YtgalmlelnolodaaGreatDoorTdH
namespace Go.Proofs.YtgalmlelnolodaaGreatDoor
open Go.RowKit
set_option linter.unusedVariables false

theorem rowK_01D5 {d : Ln} (h : d.1 = 469) : rowK (cnt false chL) d = [85, 776, 772] := by
  unfold rowK
  rw [h, chL_01D5]
  rfl
theorem TabK.below {w w' : World} {lo : Nat} {K : List Ln} {kd rd : Option Addr} {kc rc : Nat} {vs : List Value} (h : TabK w lo K kd rd kc rc vs) (hb : Below w.heap.size w w') : TabK w' lo K kd rd kc rc vs :=
  ⟨owns_below h.keys hb, owns_below h.rows hb, h.each.keep fun b cs h1 h2 => ⟨hb.block b (lt_of_heap h1), h2⟩⟩
set_option maxRecDepth 4000 in
set_option maxHeartbeats 3200000 in
theorem awake8_any (w : World) (v : Vr w) : Calls Tryz.prog 5 #[] w fun e w' => e = .returned (.bool true) ∧ Below w.heap.size w w' := by
  have V0 := hid v
  clear v
  go_enter Tryz.func5, Tryz.ntmps5
  go_wp2_with fail
  refine (new_any _ V0.out).mono ?_
  rintro e w1 ⟨g, s0, s1, s3, s4, s5, ad, cap, its, vs0, rfl, hg, _, hl, ho, hb⟩
  obtain ⟨ds, hdl, hgv⟩ := outD_gvd ho hl
  rw [← hdl] at hg
  have G1 := hid hg
  have D1 := hid hgv
  have B1 := hid hb
  clear hg hl ho hb hgv V0
  go_wp2_with fail
  refine (fullM_any g cap s0 s1 s3 s4 s5 ad ds false _ G1.out D1.out chL_few).mono ?_
  rintro e w2 ⟨kd, rd, kc, rc, vs, rfl, ht, hb⟩
  have T2 := hid ht
  have B2 := hid (belowCat B1.out hb)
  have HW := hid (show (cnt false chL).length = 306 from chL_len.2)
  have HH := hid (show 469 ∈ (cnt false chL).map (·.1) by have := chL_has; rw [List.contains_iff_mem] at this; exact this)
  have HR := hid (fun (i : Nat) (h : i < (cnt false chL).length) (e : ((cnt false chL)[i]).1 = 469) => rowK_01D5 e)
  obtain ⟨K, hK⟩ : ∃ K, cnt false chL = K := ⟨_, rfl⟩
  rw [hK] at HR
  rw [hK] at T2 HW HH ⊢
  rw [HW.out]
  clear hK ht hb B1 G1 D1
  go_upto_region 2 with fail
  have S0 := hid (heap_alloc_at w2 (.cells #[.slice kd 306 kc, .slice rd 306 rc] 71))
  have hBA := (Below.refl w2.heap.size w2).alloc (Nat.le_refl _) (.cells #[.slice kd 306 kc, .slice rd 306 rc] 71)
  have T3 := hid (T2.out.below hBA)
  have B3 := hid (show Below w.heap.size w (w2.alloc (.cells #[.slice kd 306 kc, .slice rd 306 rc] 71)) from belowCat B2.out hBA)
  clear hBA T2 B2
  generalize w2.alloc (.cells #[.slice kd 306 kc, .slice rd 306 rc] 71) = w3 at *
  obtain ⟨T, hT⟩ : ∃ T, w2.heap.size = T := ⟨_, rfl⟩
  rw [hT] at S0 ⊢
  clear hT
  obtain ⟨gk, hgk, _, _, hkc⟩ := owns_cell T3.out.keys (by have := HW.out; omega)
  obtain ⟨gr, hgr, _, _, hrc⟩ := owns_cell T3.out.rows (by have := HW.out; omega)
  have HKc := hid hkc
  have HRc := hid hrc
  subst hgk hgr
  clear hkc hrc
  have s0 := cell_of_heap (i := 0) S0.out rfl
  have s1 := cell_of_heap (i := 1) S0.out rfl
  go_wp2_with fail
  go_loopw [9] (fun c wr => ∃ i : Nat, i ≤ 306 ∧ c = .int .i64 (i : Int) ∧ (∀ j (hj : j < K.length), j < i → (K[j]).1 ≠ 469) ∧ wr = w3) (fun c _ => 306 - (intOf c).toNat)
  case atStart => exact ⟨0, by omega, rfl, fun j _ h => absurd h (Nat.not_lt_zero j), rfl⟩
  case round =>
    obtain ⟨i, hi, rfl, hno, rfl⟩ := hrel
    have HNo := hid hno
    clear hno
    by_cases hlt : i < 306
    · have hik : i < K.length := by rw [HW.out]; exact hlt
      have ck := HKc.out i (.int .u32 (((K[i]).1 : Nat) : Int)) (by unfold iV; rw [List.getElem?_map, List.getElem?_map, List.getElem?_eq_getElem hik]; rfl)
      obtain ⟨b, hb1, hb2, _⟩ := T3.out.each.row i (by rw [List.length_map]; exact hik)
      rw [List.getElem_map] at hb2
      have cr := HRc.out i _ hb1
      have HRW := hid (fun e => HR.out i hik e)
      have HN2 := hid (fun (e : (K[i]).1 ≠ 469) => show ∀ j (hj : j < K.length), j < i + 1 → (K[j]).1 ≠ 469 from fun j hj h => by
        by_cases ej : j = i
        · subst ej; exact e
        · exact HNo.out j hj (by omega))
      obtain ⟨d, hd⟩ : ∃ d, K[i] = d := ⟨_, rfl⟩
      rw [hd] at ck hb2 HRW HN2
      have HB2 := hid hb2
      clear hd hb1 hb2 hik hi
      obtain ⟨p, hp⟩ : ∃ p, d.1 = p := ⟨_, rfl⟩
      rw [hp] at ck HRW HN2
      clear hp
      by_cases he : p = 469
      · have e := HRW.out he
        rw [e] at HB2
        subst he
        have r0 : wr.cell? ⟨b, 0, none⟩ = some (.int .u32 85) := cell_of_heap HB2.out rfl
        have r1 : wr.cell? ⟨b, 1, none⟩ = some (.int .u32 776) := cell_of_heap HB2.out rfl
        have r2 : wr.cell? ⟨b, 2, none⟩ = some (.int .u32 772) := cell_of_heap HB2.out rfl
        clear e HN2 HRW
        go_wp2
        go_ret
        exact ⟨rfl, B3.out⟩
      · have HN3 := hid (HN2.out he)
        have he2 : ((p : Int) == 469) = false := by simp; omega
        clear HN2 HRW cr HB2
        go_wp2
        go_roundw
        case rel => exact ⟨i + 1, by omega, by go_num, HN3.out, (by first | rfl | trivial)⟩
        case measure => simp [intOf]; omega
    · exfalso
      obtain ⟨d, hd, e⟩ := List.mem_map.1 HH.out
      obtain ⟨j, hj, rfl⟩ := List.getElem_of_mem hd
      exact HNo.out j hj (by have := HW.out; omega) e
end Go.Proofs.YtgalmlelnolodaaGreatDoor
