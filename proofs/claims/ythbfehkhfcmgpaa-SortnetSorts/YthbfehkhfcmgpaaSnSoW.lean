/- The walk of SortnetSorts: the network for as many words as there are leaves them in order, and none is lost or new. No conditions. -/
import Derived.Test.YthbfehkhfcmgpaaSnApW
namespace Go.Proofs.Ythbfehkhfcmgpaa
open Go.RowKit

theorem cell_dn {w : World} {a : Addr} {v : Value} (k : Nat) (h : w.cell? a = some v) : (w.drewN k).cell? a = some v := h
abbrev npairs (n : Nat) : List (Int × Int) := (netOf n).map fun p => ((p.1 : Int), (p.2 : Int))
theorem npairs_len (n : Nat) : (npairs n).length = (netOf n).length := by simp
theorem thruI_thru : ∀ (ps : List (Nat × Nat)) (l : List Nat), (∀ p ∈ ps, p.1 < p.2 ∧ p.2 < l.length) → thruI l (ps.map fun p => ((p.1 : Int), (p.2 : Int))) = thru id l ps
  | [], _, _ => rfl
  | p :: ps, l, h => by
    have hp := h p (List.mem_cons_self ..)
    have e : exI l ((p.1 : Int), (p.2 : Int)) = exch id l p := by
      unfold exI
      rw [if_pos (by simp; omega)]
      simp
    unfold thruI thru
    rw [List.map_cons, List.foldl_cons, List.foldl_cons, e]
    exact thruI_thru ps _ (fun q hq => by rw [exch_len]; exact h q (List.mem_cons_of_mem _ hq))
theorem sorted_net (l : List Nat) (hl : l.length ≤ 200) (hb : ∀ x ∈ l, x < 4294967296) (k : Nat) (h : k + 1 < (thruI l (npairs l.length)).length) : (thruI l (npairs l.length))[k] ≤ (thruI l (npairs l.length))[k + 1] := by
  have e : thruI l (npairs l.length) = thru id l (netOf l.length) := thruI_thru _ _ (fun p hp => net_valid _ p hp)
  have := thru_sorted id 4294967296 l (by omega) (fun a ha => Nat.le_of_lt (hb a ha)) k (by rw [← e]; exact h)
  simp only [e]
  exact this

set_option maxHeartbeats 800000 in
theorem rises_any (ad : Option Addr) (cap : Nat) (l : List Nat) (w : World) (h : Us w ad l) (hn : l.length ≤ 1000) (hs : ∀ k (h : k + 1 < l.length), l[k] ≤ l[k + 1]) :
    Calls Try.prog 11 #[.slice ad l.length cap] w fun e w' => e = .returned (.bool true) ∧ Below w.heap.size w w' := by
  have HU := hid h
  have HS := hid hs
  clear h hs
  go_enter Try.func11, Try.ntmps11
  go_wp2_with fail
  go_loopw [3] (fun i wr => ∃ j : Nat, 1 ≤ j ∧ i = .int .i64 (j : Int) ∧ Below w.heap.size w wr ∧ j ≤ l.length + 1) (fun i _ => l.length - (intOf i).toNat)
  case atStart => exact ⟨1, Nat.le_refl _, rfl, Below.refl _ _, by omega⟩
  case round =>
    obtain ⟨j, hj, rfl, hBr, hjl⟩ := hrel
    have HBr := hid hBr
    by_cases hlt : j < l.length
    · obtain ⟨k, rfl⟩ : ∃ k, j = k + 1 := ⟨j - 1, by omega⟩
      obtain ⟨x, rfl, c0⟩ := (HU.out.below hBr) k (by omega)
      obtain ⟨y, hy, c1⟩ := (HU.out.below hBr) (k + 1) hlt
      cases hy
      have hle := HS.out k hlt
      generalize l[k] = A at *
      generalize l[k + 1] = B at *
      have hkl : k < l.length := by omega
      have hwr : IntKind.i64.wrap (((k + 1 : Nat) : Int) - 1) = (k : Int) := by rw [IntKind.wrap_i64]; omega
      have hle' : ¬ ((B : Int) < A) := by omega
      generalize hje : k + 1 = j at *
      have HJ := hid hje
      clear hBr hle hj hjl hje
      go_wp2_with fail
      go_quiet (fail)
      go_wp2
      go_roundw
      case rel => exact ⟨j + 1, by omega, by go_num, belowDN HBr.out _, by omega⟩
      case measure => simp [intOf]; omega
    · clear hBr
      go_wp2
      go_ret
      exact ⟨rfl, HBr.out⟩

/-- how often a word is among the first k, here less there -/
def offK (l m : List Nat) (x k : Nat) : Int := ((l.take k).count x : Int) - ((m.take k).count x : Int)
theorem offK_succ (l m : List Nat) (x k : Nat) (h1 : k < l.length) (h2 : k < m.length) : offK l m x (k + 1) = offK l m x k + (if l[k] = x then 1 else 0) - (if m[k] = x then 1 else 0) := by
  unfold offK
  rw [List.take_succ_eq_append_getElem h1, List.take_succ_eq_append_getElem h2, List.count_append, List.count_append, List.count_singleton, List.count_singleton]
  simp only [beq_iff_eq]
  split <;> split <;> omega
theorem offK_bd (l m : List Nat) (x k : Nat) : -(k : Int) ≤ offK l m x k ∧ offK l m x k ≤ k := by
  unfold offK
  have h1 : (l.take k).count x ≤ k := Nat.le_trans (List.count_le_length) (by simp; omega)
  have h2 : (m.take k).count x ≤ k := Nat.le_trans (List.count_le_length) (by simp; omega)
  omega
theorem offK_all (l m : List Nat) (x : Nat) (h : m.Perm l) : offK l m x l.length = 0 := by
  unfold offK
  have h1 : m.take l.length = m := by rw [← h.length_eq]; exact List.take_length
  rw [h1, List.take_length, h.count_eq]; omega

set_option maxHeartbeats 3200000 in
theorem sorts_at (ad : Option Addr) (cap : Nat) (l : List Nat) (w : World) (h : Us w ad l) (h0 : ad = none → cap = 0 ∧ l.length = 0) (hl : ∀ x ∈ l, x < 4294967296) (hlx : l.length < 9223372036854775808) :
    Calls Try.prog 3 #[.slice ad l.length cap] w fun e w' => e = .returned (.bool true) ∧ Below w.heap.size w w' := by
  by_cases c1 : 200 < l.length
  · go_enter Try.func3, Try.ntmps3
    go_wp2_with (go_at_call 7; refine (awake_any _).mono ?_; rintro e w1 ⟨rfl, hB1⟩)
    go_ret
    exact ⟨rfl, hB1⟩
  · have hln : l.length ≤ 200 := by omega
    have HU := hid h
    have HH := hid h0
    have HL := hid hl
    have HTL := hid (thruI_len (npairs l.length) l)
    have HPE := hid (thruI_perm (npairs l.length) l)
    have HV := hid (net_valid l.length)
    have HNL := hid (show (netOf l.length).length ≤ 2408448 by rw [net_len]; exact cnt_small _)
    have HPN := hid (fun w => pairs_net (l.length : Int) w)
    rw [Int.toNat_natCast] at HPN
    have HPB := hid (show ∀ p ∈ npairs l.length, -9223372036854775808 ≤ p.1 ∧ p.1 < 9223372036854775808 ∧ -9223372036854775808 ≤ p.2 ∧ p.2 < 9223372036854775808 from fun p hp => by
      obtain ⟨q, hq, rfl⟩ := List.mem_map.1 hp
      have := net_valid _ q hq
      simp only; omega)
    clear h h0 hl hlx c1
    obtain ⟨m, hm, hss⟩ : ∃ m, thruI l (npairs l.length) = m ∧ ∀ k (h : k + 1 < m.length), m[k] ≤ m[k + 1] := ⟨_, rfl, fun k h => sorted_net l hln HL.out k h⟩
    have HS := hid hss
    clear hss
    have HAP := hid (fun pd pc ad cap w h1 h2 h3 h4 => apply_any pd pc (npairs l.length) ad cap l w h1 HPB.out h2 h3 h4 (by omega) (by rw [npairs_len]; have := HNL.out; omega))
    have HTH := hid (fun pd pc ad cap w h1 h2 h3 h4 => through_any pd pc (npairs l.length) ad cap l w h1 HPB.out h2 h3 h4 (by omega) (by rw [npairs_len]; have := HNL.out; omega))
    rw [hm] at HTL HPE HAP HTH
    have HPR := hid (fun (w : World) (base cap : Nat) (ad : Option Addr) (h : w.ownsRow base 26 2 (.slice ad (netOf l.length).length cap) (netOf l.length).length (prcells (netOf l.length))) => prs_of h rfl)
    clear hm HPB
    rw [npairs_len] at HAP HTH
    obtain ⟨ns, hns⟩ : ∃ ns, netOf l.length = ns := ⟨_, rfl⟩
    unfold npairs at HAP HTH
    rw [hns] at HV HNL HPN HPR HAP HTH
    clear hns
    have hnl : ns.length ≤ 2408448 := HNL.out
    go_enter Try.func3, Try.ntmps3
    go_wp2_with fail
    refine (awake_any _).mono ?_
    rintro e w1 ⟨rfl, hB1⟩
    have HB1 := hid hB1
    clear hB1
    go_wp2_with fail
    refine (HPN.out _).mono ?_
    rintro e w2 ⟨pd, pc, rfl, hown, hB2⟩
    have HO2 := hid hown
    have HB2 := hid (chainB hB2 HB1.out)
    clear hown hB2
    go_wp2_with fail
    go_loopw [21] (fun i wr => ∃ k : Nat, k ≤ ns.length ∧ i = .int .i64 (k : Int) ∧ Below w2.heap.size w2 wr) (fun i _ => ns.length - (intOf i).toNat)
    case atStart => exact ⟨0, Nat.zero_le _, rfl, Below.refl _ _⟩
    case round =>
      obtain ⟨k, hk, rfl, hBr⟩ := hrel
      have HBr := hid hBr
      by_cases hlt : k < ns.length
      · obtain ⟨g, rfl, _, hgl, hcell⟩ := owns_cell HO2.out (by omega)
        obtain ⟨c0, c1⟩ := prcells_at ns k hlt
        replace c0 := cell_below hBr (hcell _ _ c0) hgl
        replace c1 := cell_below hBr (hcell _ _ c1) hgl
        obtain ⟨v1, v2⟩ := HV.out ns[k] (List.getElem_mem hlt)
        generalize ns[k] = p at *
        obtain ⟨i, j⟩ := p
        simp only at c0 c1 v1 v2
        have u1 : ¬ ((j : Int) ≤ i) := by omega
        have u2 : ¬ ((l.length : Int) ≤ j) := by omega
        clear hcell hBr
        go_wp2
        go_roundw
        case rel => exact ⟨k + 1, by omega, by go_num, HBr.out.trans ((Below.refl _ wr).alloc HBr.out.size _)⟩
        case measure => simp [intOf]; omega
      · have e : k = ns.length := by omega
        subst e
        clear hBr
        obtain ⟨wz, rfl⟩ : ∃ y, y = wr := ⟨_, rfl⟩
        have HBz := hid (chainB HBr.out HB2.out)
        have HOz := hid (owns_below HO2.out HBr.out)
        go_wp2_with fail
        refine (HAP.out pd pc ad cap _ (HPR.out _ _ _ _ HOz.out) (HU.out.below HBz.out) HH.out HL.out).mono ?_
        rintro e w3 ⟨ad3, cap3, rfl, hown, hB3⟩
        have HO3 := hid hown
        have HB3 := hid hB3
        have HBw3 := hid (chainB hB3 HBz.out)
        clear hown hB3
        go_wp2_with fail
        refine (HTH.out pd pc ad cap _ (HPR.out _ _ _ _ (owns_below HOz.out HB3.out)) (HU.out.below HBw3.out) HH.out HL.out).mono ?_
        rintro e w4 ⟨ad4, cap4, rfl, hown, hB4⟩
        have HO4 := hid hown
        have HB4 := hid hB4
        have HBw4 := hid (chainB hB4 HBw3.out)
        clear hown hB4
        go_wp2_with fail
        have ht := rises_any ad4 cap4 m w4 (owns_us HO4.out HTL.out.symm).1 (by rw [HTL.out]; omega) HS.out
        rw [HTL.out] at ht
        refine ht.mono ?_
        clear ht
        rintro e w5 ⟨rfl, hB5⟩
        have HBw5 := hid (chainB hB5 HBw4.out)
        have HB45 := hid (chainB hB5 HB4.out)
        have HU5 := hid (HU.out.below HBw5.out)
        have HU3 := hid (((owns_us HO3.out HTL.out.symm).1.below HB4.out).below hB5)
        have HU4 := hid ((owns_us HO4.out HTL.out.symm).1.below hB5)
        clear hB5 HO2 HOz HO3 HO4 HB45 HBw4 HBw3 HBz HB3 HB4
        go_wp2_with fail
        go_loopw [68] (fun i wr => ∃ k : Nat, k ≤ l.length ∧ i = .int .i64 (k : Int) ∧ Below w5.heap.size w5 wr) (fun i _ => l.length - (intOf i).toNat)
        case atStart => exact ⟨0, Nat.zero_le _, rfl, Below.refl _ _⟩
        case round =>
          obtain ⟨k, hk, rfl, hBr⟩ := hrel
          have HBq := hid hBr
          by_cases hlt : k < l.length
          · have hlt2 : k < m.length := by rw [HTL.out]; exact hlt
            obtain ⟨x3, rfl, cx3⟩ := (HU3.out.below hBr) k hlt2
            obtain ⟨x4, rfl, cx4⟩ := (HU4.out.below hBr) k hlt2
            have HOA := hid (offK_all l m m[k] HPE.out)
            have HOB := hid (fun q => offK_bd l m m[k] q)
            have HOS := hid (fun q h1 h2 => offK_succ l m m[k] q h1 h2)
            have HMK := hid (show ∃ (y : Addr), some x3 = some y ∧ True from ⟨x3, rfl, trivial⟩)
            have HCX := hid cx3
            clear hBr HMK
            obtain ⟨B, hBe⟩ : ∃ B, m[k] = B := ⟨_, rfl⟩
            rw [hBe] at cx3 cx4 HOA HOB HCX
            simp only [hBe] at HOS
            obtain ⟨wz, rfl⟩ : ∃ y, y = wr := ⟨_, rfl⟩
            go_wp2_with fail
            go_quiet (fail)
            have HBz := hid (show Below w5.heap.size w5 (wz.drewN nq) from belowDN HBq.out nq)
            clear cx3 cx4
            generalize wz.drewN nq = wy at *
            go_wp2_with fail
            go_loopw [9, 82] (fun n c wr => ∃ q : Nat, q ≤ l.length ∧ c = .int .i64 (q : Int) ∧ n = .int .i64 (offK l m B q) ∧ Below w5.heap.size w5 wr) (fun _ c _ => l.length - (intOf c).toNat)
            case atStart => exact ⟨0, Nat.zero_le _, rfl, by simp [offK], HBz.out⟩
            case round =>
              obtain ⟨q, hq, rfl, rfl, hBs⟩ := hrel
              have HBs := hid hBs
              have hob := HOB.out q
              by_cases hql : q < l.length
              · have hqm : q < m.length := by rw [HTL.out]; exact hql
                obtain ⟨x, rfl, cx⟩ := (HU5.out.below hBs) q hql
                obtain ⟨y, hy, cm⟩ := (HU3.out.below hBs) q hqm
                cases hy
                obtain ⟨y, hy, ck⟩ := (HU3.out.below hBs) k hlt2
                cases hy
                rw [hBe] at ck
                have HO1 := hid (HOS.out q hql hqm)
                obtain ⟨A, hA⟩ : ∃ A, l[q] = A := ⟨_, rfl⟩
                obtain ⟨C, hC⟩ : ∃ C, m[q] = C := ⟨_, rfl⟩
                rw [hA] at cx HO1
                rw [hC] at cm HO1
                have hoq : offK l m B q ≤ 200 ∧ -200 ≤ offK l m B q := by omega
                generalize offK l m B q = o at *
                generalize ho2 : offK l m B (q + 1) = o2 at *
                clear hBs hA hC hob HCX
                have hBe' := hid hBe
                clear hBe
                by_cases e1 : A = B
                · subst e1
                  by_cases e2 : C = A
                  · subst e2
                    have HO9 := hid (show o2 = o by rw [HO1.out]; simp)
                    go_wp2_with fail
                    go_quiet (fail)
                    go_wp2_with fail
                    have da := cell_dn nq cx
                    have db := cell_dn nq cm
                    have dc := cell_dn nq ck
                    have HBn := hid (show Below w5.heap.size w5 (wr.drewN nq) from belowDN HBs.out nq)
                    generalize wr.drewN nq = wn at *
                    clear cx cm ck
                    go_quiet (fail)
                    go_wp2
                    go_roundw
                    case rel => exact ⟨q + 1, by omega, by go_num, by rw [ho2, HO9.out] <;> go_num, belowDN HBn.out _⟩
                    case measure => simp [intOf]; omega
                  · have e2' : ¬ ((C : Int) = A) := by omega
                    have HO9 := hid (show o2 = o + 1 by rw [HO1.out]; simp [e2])
                    go_wp2_with fail
                    go_quiet (fail)
                    go_wp2_with fail
                    have da := cell_dn nq cx
                    have db := cell_dn nq cm
                    have dc := cell_dn nq ck
                    have HBn := hid (show Below w5.heap.size w5 (wr.drewN nq) from belowDN HBs.out nq)
                    generalize wr.drewN nq = wn at *
                    clear cx cm ck
                    go_quiet (fail)
                    go_wp2
                    go_roundw
                    case rel => exact ⟨q + 1, by omega, by go_num, by rw [ho2, HO9.out] <;> go_num, belowDN HBn.out _⟩
                    case measure => simp [intOf]; omega
                · have e1' : ¬ ((A : Int) = B) := by omega
                  by_cases e2 : C = B
                  · subst e2
                    have HO9 := hid (show o2 = o - 1 by rw [HO1.out]; simp [e1])
                    go_wp2_with fail
                    go_quiet (fail)
                    go_wp2_with fail
                    have da := cell_dn nq cx
                    have db := cell_dn nq cm
                    have dc := cell_dn nq ck
                    have HBn := hid (show Below w5.heap.size w5 (wr.drewN nq) from belowDN HBs.out nq)
                    generalize wr.drewN nq = wn at *
                    clear cx cm ck
                    go_quiet (fail)
                    go_wp2
                    go_roundw
                    case rel => exact ⟨q + 1, by omega, by go_num, by rw [ho2, HO9.out] <;> go_num, belowDN HBn.out _⟩
                    case measure => simp [intOf]; omega
                  · have e2' : ¬ ((C : Int) = B) := by omega
                    have HO9 := hid (show o2 = o by rw [HO1.out]; simp [e1, e2])
                    go_wp2_with fail
                    go_quiet (fail)
                    go_wp2_with fail
                    have da := cell_dn nq cx
                    have db := cell_dn nq cm
                    have dc := cell_dn nq ck
                    have HBn := hid (show Below w5.heap.size w5 (wr.drewN nq) from belowDN HBs.out nq)
                    generalize wr.drewN nq = wn at *
                    clear cx cm ck
                    go_quiet (fail)
                    go_wp2
                    go_roundw
                    case rel => exact ⟨q + 1, by omega, by go_num, by rw [ho2, HO9.out] <;> go_num, belowDN HBn.out _⟩
                    case measure => simp [intOf]; omega
              · have e : q = l.length := by omega
                subst e
                clear hBs hob
                rw [HOA.out]
                go_wp2
                go_roundw
                case rel => exact ⟨k + 1, by omega, by go_num, HBs.out⟩
                case measure => simp [intOf]; omega
          · have e : k = l.length := by omega
            subst e
            clear hBr
            go_wp2
            go_ret
            exact ⟨rfl, chainB HBq.out HBw5.out⟩

theorem sorts_walk (ad : Option Addr) (len cap : Nat) (zs : List Int) (w : World) (h : IsRow .u32 w ad len cap zs) :
    Calls Try.prog 3 #[.slice ad len cap] w fun e w' => e = .returned (.bool true) ∧ Below w.heap.size w w' := by
  have hcap : cap ≤ maxLen := by
    rcases h with ⟨_, _, rfl, _⟩ | ⟨x, _, _, h2, _⟩
    · exact Nat.zero_le _
    · exact h2
  obtain ⟨l, rfl, hw, hu, h0, hc⟩ := isRow_us h
  exact sorts_at ad cap l w hu h0 hw (by unfold maxLen at hcap; omega)
end Go.Proofs.Ythbfehkhfcmgpaa
