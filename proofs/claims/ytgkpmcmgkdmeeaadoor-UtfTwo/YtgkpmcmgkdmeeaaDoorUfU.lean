/- The law UtfTwo returns true at all inputs. Conditions: the variable leads holds what the program's text lays there. -/
import Derived.Test.YtgkpmcmgkdmeeaaDoorUfS
namespace Go.Proofs.YtgkpmcmgkdmeeaaDoor
open Go.RowKit
set_option linter.unusedVariables false

theorem Tryd.infoU8z : (Tryd.prog.info? 5).map (fun i => (i.zero, i.size, i.bytes)) = some (some (.int .u8 0), 1, 1) := by kernel_rfl

theorem own_cap {w : World} {base n cap m : Nat} {ad : Option Addr} {xs : List Value} (h : w.ownsRow base 23 1 (.slice ad n cap) n xs) (hm : m ≤ n) : m ≤ cap := by
  rcases h.2 with ⟨h0, h1⟩ | ⟨g, cap2, cur, hv, _, _, h1, _⟩
  · cases h0; omega
  · cases hv; omega
set_option maxHeartbeats 3200000 in
set_option maxRecDepth 20000 in
theorem two_core (ad ae : Option Addr) (cb cc : Nat) (b c : List Nat) (w : World) (h1 : U8s w ad b) (h2 : U8s w ae c) (hz1 : ad = none → cb = 0) (hz2 : ae = none → cc = 0) (hl1 : ∀ x ∈ b, x < 256) (hl2 : ∀ x ∈ c, x < 256) (t : Lv w) :
    Calls Tryd.prog 5 #[.slice ad b.length cb, .slice ae c.length cc] w fun e w' => e = .returned (.bool true) ∧ Below w.heap.size w w' := by
  have H1 := hid h1
  have H2 := hid h2
  have HZ1 := hid hz1
  have HZ2 := hid hz2
  have HL1 := hid hl1
  have HL2 := hid hl2
  have HT := hid t
  have HTP := hid t.pos
  clear h1 h2 hl1 hl2 t hz1 hz2
  by_cases hnb : b.length ≤ 40
  · have hib : ¬ (40 : Int) < (b.length : Int) := by omega
    by_cases hnc : c.length ≤ 40
    · have hic : ¬ (40 : Int) < (c.length : Int) := by omega
      obtain ⟨i0, hi, hy0, hy1, hy2⟩ := info_parts Tryd.infoU8z
      go_enter Tryd.func5, Tryd.ntmps5
      go_wp2_with fail
      refine (awake9_any _ HT.out).mono ?_
      rintro e w1 ⟨rfl, hB1⟩
      have B1 := hid hB1
      clear hB1
      go_wp2_with fail
      refine (lpoints_any ad cb b _ (H1.out.below B1.out) HL1.out (by omega) (HT.out.below B1.out)).mono ?_
      rintro e w2 ⟨s1, n1, rfl, o1, hB2⟩
      have O2 := hid o1
      have B2 := hid (belowCat B1.out hB2)
      clear o1 hB2
      go_wp2_with fail
      refine (lpoints_any ae cc c _ (H2.out.below B2.out) HL2.out (by omega) (HT.out.below B2.out)).mono ?_
      rintro e w3 ⟨s2, n2, rfl, o2, hB3⟩
      have P3 := hid (owns_below O2.out hB3)
      have O3 := hid o2
      have B3 := hid (belowCat B2.out hB3)
      clear o2 hB3 O2
      go_upto_region 7 with fail
      have HE := hid (show (w3.alloc (.cells #[] 5)).ownsRow w3.heap.size 5 1 (.slice (some ⟨w3.heap.size, 0, none⟩) 0 0) 0 [] from ⟨rfl, Or.inr ⟨w3.heap.size, 0, #[], rfl, Nat.le_refl _, heap_alloc_at _ _, by decide, by decide, rfl, rfl⟩⟩)
      have HM := hid ((Below.refl w3.heap.size w3).alloc (Nat.le_refl _) (.cells #[] 5))
      have HS1 := hid (src8 (H1.out.below (belowCat B3.out HM.out)) HZ1.out)
      go_wp2_with (at_builtin; refine wpList_append_opt9 rfl (.tmp 32) (.tmp 33) 22 rfl w3.heap.size 5 i0 _ 1 1 Tryd.underlying22 hi hy0 hy1 hy2 rfl (by decide) _ 0 [] rfl HE.out ad b.length cb (u8cs b) rfl HS1.out (u8cs_one b) (by unfold maxLen; omega) (by omega) (by simp) ?_)
      intro v4 w4 ho4 hg4
      have O4 := hid ho4
      have B4 := hid (HM.out.grown hg4 HM.out.size (fun k hk => by simp [Value.ownBlock] at hk; omega))
      have HS2 := hid (src8 (H2.out.below (belowCat B3.out B4.out)) HZ2.out)
      have HOB4 := hid (show ∀ k, v4.ownBlock = some k → w3.heap.size ≤ k from fun k hk => (O4.out.lt k hk).1)
      obtain ⟨sd4, sc4, rfl⟩ := owns_shape ho4
      clear ho4 hg4 HS1 HE HM
      go_wp2_with (at_builtin; refine wpList_append_opt9 rfl (.tmp 34) (.tmp 35) 22 rfl w3.heap.size 5 i0 _ 1 1 Tryd.underlying22 hi hy0 hy1 hy2 rfl (by decide) _ b.length (u8cs b) rfl O4.out ae c.length cc (u8cs c) rfl HS2.out (u8cs_one c) (by unfold maxLen; omega) (by omega) B4.out.size ?_)
      intro v5 w5 ho5 hg5
      have B5 := hid (B4.out.grown hg5 B4.out.size HOB4.out)
      have HTW := hid (two_pts b c)
      have HL3 := hid (show ∀ x ∈ b ++ c, x < 256 from fun x hx => (List.mem_append.1 hx).elim (HL1.out x) (HL2.out x))
      have e5 : (u8cs b ++ u8cs c) = u8cs (b ++ c) := by simp [u8cs]
      rw [e5] at ho5
      have hll : b.length + c.length = (b ++ c).length := by simp
      have hbc : (b ++ c).length ≤ 100 := by simp; omega
      obtain ⟨l, hlq⟩ : ∃ l, b ++ c = l := ⟨_, rfl⟩
      rw [hlq] at ho5 HTW HL3 hll hbc
      obtain ⟨sd5, sc5, rfl, hu5⟩ := own8 ho5 hll
      have U5 := hid hu5
      have Q1 := hid (owns_below P3.out B5.out)
      have Q2 := hid (owns_below O3.out B5.out)
      have B6 := hid (belowCat B3.out B5.out)
      clear hlq hll ho5 hg5 hu5 e5 O4 B4 HOB4 HS2 P3 O3 B5 B3
      go_wp2_with fail
      refine (lpoints_any sd5 sc5 l _ U5.out HL3.out hbc (HT.out.below B6.out)).mono ?_
      rintro e w6 ⟨s3, n3, rfl, o3, hB6⟩
      have R1 := hid (owns_below Q1.out hB6)
      have R2 := hid (owns_below Q2.out hB6)
      have R3 := hid o3
      have B7 := hid (belowCat B6.out hB6)
      have hp1 : (lptsOf (effL b)).length ≤ 40 := Nat.le_trans (List.length_filterMap_le _ _) (by rw [effL_len]; exact hnb)
      have hp2 : (lptsOf (effL c)).length ≤ 40 := Nat.le_trans (List.length_filterMap_le _ _) (by rw [effL_len]; exact hnc)
      clear o3 hB6 Q1 Q2 B6 U5 HL3
      obtain ⟨p1, hq1⟩ : ∃ p, lptsOf (effL b) = p := ⟨_, rfl⟩
      obtain ⟨p2, hq2⟩ : ∃ p, lptsOf (effL c) = p := ⟨_, rfl⟩
      obtain ⟨p3, hq3⟩ : ∃ p, lptsOf (effL l) = p := ⟨_, rfl⟩
      obtain ⟨g1, hg1⟩ : ∃ g, good (runL us0 b) = g := ⟨_, rfl⟩
      obtain ⟨g2, hg2⟩ : ∃ g, good (runL us0 c) = g := ⟨_, rfl⟩
      obtain ⟨g3, hg3⟩ : ∃ g, good (runL us0 l) = g := ⟨_, rfl⟩
      rw [hq1, hq2, hq3, hg1, hg2, hg3] at HTW
      rw [hq1] at R1 hp1
      rw [hq2] at R2 hp2
      rw [hq3] at R3
      rw [hq1, hq2, hq3, hg1, hg2, hg3]
      clear hq1 hq2 hq3 hg1 hg2 hg3
      cases g1 with
      | false =>
        go_wp2
        go_ret
        exact ⟨rfl, B7.out⟩
      | true =>
        obtain ⟨rfl, hp3⟩ := HTW.out rfl
        cases g3 with
        | false =>
          go_wp2
          go_ret
          exact ⟨rfl, B7.out⟩
        | true =>
          obtain rfl := hp3 rfl
          have hln : (p1 ++ p2).length = p1.length + p2.length := List.length_append
          have hw9 : IntKind.i64.wrap ((p1.length : Int) + (p2.length : Int)) = (p1.length : Int) + (p2.length : Int) := by rw [IntKind.wrap_i64]; omega
          rw [hln] at R3 ⊢
          obtain ⟨a1, c1, a2, c2, hs1, hs2, u1, u2⟩ := cut_at R3.out rfl
          have hn3 : p1.length ≤ n3 := own_cap R3.out (by omega)
          have V1 := hid u1
          have V2 := hid u2
          have V3 := hid (uowns_u32s R1.out rfl).1
          have V4 := hid (uowns_u32s R2.out rfl).1
          clear u1 u2 HTW hp3 R1 R2
          go_wp2_with fail
          refine (same9_yes a1 s1 c1 n1 p1 _ V1.out V3.out (by omega)).mono ?_
          rintro e w7 ⟨rfl, hB7⟩
          have B8 := hid (belowCat B7.out hB7)
          have X2 := hid (V2.out.below hB7)
          have X4 := hid (V4.out.below hB7)
          clear hB7 V1 V2 V3 V4 B7 R3
          go_wp2_with fail
          refine (same9_yes a2 s2 c2 n2 p2 _ X2.out X4.out (by omega)).mono ?_
          rintro e w8 ⟨rfl, hB8⟩
          have B9 := hid (belowCat B8.out hB8)
          clear hB8 B8
          go_wp2
          go_ret
          exact ⟨rfl, B9.out⟩
    · have hic : (40 : Int) < (c.length : Int) := by omega
      go_enter Tryd.func5, Tryd.ntmps5
      go_wp2_with fail
      refine (awake9_any _ HT.out).mono ?_
      rintro e w0 ⟨rfl, hB0⟩
      have B0 := hid hB0
      clear hB0
      go_wp2
      go_ret
      exact ⟨rfl, B0.out⟩
  · have hib : (40 : Int) < (b.length : Int) := by omega
    go_enter Tryd.func5, Tryd.ntmps5
    go_wp2_with fail
    refine (awake9_any _ HT.out).mono ?_
    rintro e w0 ⟨rfl, hB0⟩
    have B0 := hid hB0
    clear hB0
    go_wp2
    go_ret
    exact ⟨rfl, B0.out⟩
theorem row_none {k : IntKind} {w : World} {ad : Option Addr} {len cap : Nat} {zs : List Int} (h : IsRow k w ad len cap zs) : ad = none → cap = 0 := fun e => by
  rcases h with ⟨_, _, h0, _⟩ | ⟨x, rfl, _⟩
  · exact h0
  · cases e
theorem two_law (ad : Option Addr) (len cap : Nat) (zs : List Int) (ae : Option Addr) (len2 cap2 : Nat) (ys : List Int) (w : World) (hr : IsRow .u8 w ad len cap zs) (hs : IsRow .u8 w ae len2 cap2 ys) (t : Lv w) :
    Calls Tryd.prog 5 #[.slice ad len cap, .slice ae len2 cap2] w fun e w' => e = .returned (.bool true) ∧ Below w.heap.size w w' := by
  obtain ⟨b, rfl, hl, hu, hc⟩ := u8s_row hr
  obtain ⟨c, rfl, hl2, hu2, hc2⟩ := u8s_row hs
  exact two_core ad ae cap cap2 b c w hu hu2 (row_none hr) (row_none hs) hl hl2 t
end Go.Proofs.YtgkpmcmgkdmeeaaDoor
