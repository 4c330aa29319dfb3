/- The law TablesFull, over this seat's translation: its walk. Conditions: what the library's variables hold is some number, some errors. -/
import Derived.Test.YtkhdcpejpffnkaaGreatDoorTdI
import Derived.Test.YtkhdcpejpffnkaaGreatDoorTdK
import Derived.Test.YtkhdcpejpffnkaaGreatDoorTdL
import Derived.Test.YtkhdcpejpffnkaaGreatDoorTdN
import Derived.Test.YtkhdcpejpffnkaaGreatDoorTbW
namespace Go.Proofs.YtkhdcpejpffnkaaGreatDoor
open Go.RowKit
set_option linter.unusedVariables false

theorem DpAt.len {w : World} {ad : Option Addr} {cap : Nat} {ds : List Dq} (h : GvD w ad cap ds) : ds.length ≤ 1000000 := by have := h.len; omega
theorem GvD.ne {w : World} {ad : Option Addr} {cap : Nat} {ds : List Dq} (h : GvD w ad cap ds) : ∀ x ∈ ds, x.d.to ≠ [] := fun x hx e => by
  have h1 := chL_ne
  rw [← h.lit, List.all_map] at h1
  have h2 : 1 ≤ x.d.to.length := Nat.le_of_ble_eq_true (List.all_eq_true.1 h1 x hx)
  rw [e] at h2
  exact absurd h2 (by decide)
/-- what a line's answer says of the points that have one -/
theorem lnR_pts {w : World} {ad : Option Addr} {cap p : Nat} {ds : List Dq} {cp : Bool} {e : Ending} (h : GvD w ad cap ds) (r : LnR ds cp p e) : (p ∈ (cnt cp chL).map (·.1) ∧ ∃ i : Nat, e = .returned (.int .i64 (i : Int))) ∨ (¬ p ∈ (cnt cp chL).map (·.1) ∧ e = .returned (.int .i64 (-1))) := by
  have hk := lns_cnt h.lit cp
  have hp : (cnt cp chL).map (·.1) = (ds.filter (okD cp)).map (·.d.p) := by rw [← hk, lnsD_pts]
  rw [hp]
  rcases r with ⟨i, hi, h1, h2, h3⟩ | ⟨h1, h2⟩
  · exact Or.inl ⟨List.mem_map.2 ⟨ds[i], List.mem_filter.2 ⟨List.getElem_mem hi, h2⟩, h1⟩, i, h3⟩
  · exact Or.inr ⟨fun hm => by
      obtain ⟨x, hx, e⟩ := List.mem_map.1 hm
      obtain ⟨hx1, hx2⟩ := List.mem_filter.1 hx
      exact h1 x hx1 hx2 e, h2⟩
/-- where the first i points have this one -/
def ThR (pts : List Nat) (q i : Nat) (v : Value) : Prop := (v = .int .i64 (-1) ∧ ∀ j (h : j < pts.length), j < i → pts[j] ≠ q) ∨ ∃ j, ∃ h : j < pts.length, j < i ∧ pts[j] = q ∧ v = .int .i64 (j : Int)
theorem three_at {r : List Nat} {c : Nat} (h : c < 3) : (three r)[c]? = some (.int .u32 ((r.getD c 0 : Nat) : Int)) := by
  match c, h with
  | 0, _ => rfl
  | 1, _ => rfl
  | 2, _ => rfl
theorem thr_yes {pts : List Nat} {q j : Nat} (h : j < pts.length) (e : pts[j] = q) : ThR pts q (j + 1) (.int .i64 (j : Int)) := Or.inr ⟨j, h, Nat.lt_succ_self j, e, rfl⟩
theorem thr_no {pts : List Nat} {q j : Nat} {v : Value} (r : ThR pts q j v) (h : j < pts.length) (e : pts[j] ≠ q) : ThR pts q (j + 1) v := by
  rcases r with ⟨h1, h2⟩ | ⟨i, hi, h1, h2, h3⟩
  · exact Or.inl ⟨h1, fun k hk hkj => by
      by_cases ek : k = j
      · subst ek; exact e
      · exact h2 k hk (by omega)⟩
  · exact Or.inr ⟨i, hi, by omega, h2, h3⟩
set_option maxRecDepth 4000 in
set_option maxHeartbeats 12800000 in
theorem full_law (p at_ : Nat) (cp : Bool) (w : World) (hp : p < 4294967296) (ha : at_ < 65536) (v : Vr w) :
    Calls Tryz.prog 3 #[.int .u32 (p : Int), .int .u16 (at_ : Int), .bool cp] w fun e w' => e = .returned (.bool true) ∧ Below w.heap.size w w' := by
  have V0 := hid v
  clear v
  go_enter Tryz.func3, Tryz.ntmps3
  go_wp2_with fail
  refine (awake8_any _ V0.out).mono ?_
  rintro e w1 ⟨rfl, hb⟩
  have B1 := hid hb
  clear hb
  go_wp2_with fail
  refine (rnew_any _).mono ?_
  rintro e w2 ⟨⟨a0, n0, p0⟩, ⟨a1, n1, p1⟩, ⟨a3, n3, p3⟩, ⟨a4, n4, p4⟩, ⟨a5, n5, p5⟩, ad, cap, its, vs0, rfl, hl, ho, hb⟩
  obtain ⟨ds, hdl, hgv, hda⟩ := outD_dpat ho hl
  rw [← hdl]
  simp only [Sl3.v]
  have G2 := hid hgv
  have D2 := hid hda
  have B2 := hid (belowCat B1.out hb)
  clear hl ho hb hgv hda hdl B1
  go_upto_region 4 with fail
  have S0 := hid (heap_alloc_at w2 (.cells #[.slice a0 n0 p0, .slice a1 n1 p1, .slice ad ds.length cap, .slice a3 n3 p3, .slice a4 n4 p4, .slice a5 n5 p5] 31))
  have hBA := (Below.refl w2.heap.size w2).alloc (Nat.le_refl _) (.cells #[.slice a0 n0 p0, .slice a1 n1 p1, .slice ad ds.length cap, .slice a3 n3 p3, .slice a4 n4 p4, .slice a5 n5 p5] 31)
  have G3 := hid (G2.out.below hBA)
  have D3 := hid (D2.out.below hBA)
  have B3 := hid (show Below w.heap.size w (w2.alloc (.cells #[.slice a0 n0 p0, .slice a1 n1 p1, .slice ad ds.length cap, .slice a3 n3 p3, .slice a4 n4 p4, .slice a5 n5 p5] 31)) from belowCat B2.out hBA)
  clear hBA G2 D2 B2
  generalize w2.alloc (.cells #[.slice a0 n0 p0, .slice a1 n1 p1, .slice ad ds.length cap, .slice a3 n3 p3, .slice a4 n4 p4, .slice a5 n5 p5] 31) = w3 at *
  obtain ⟨W, hW⟩ : ∃ W, w2.heap.size = W := ⟨_, rfl⟩
  rw [hW] at S0 ⊢
  clear hW
  go_wp2_with fail
  refine (new_any _ (V0.out.below B3.out)).mono ?_
  rintro e w4 ⟨g, t0, t1, t3, t4, t5, ad2, cap2, its2, vs2, rfl, hg, _, hl, ho, hb⟩
  obtain ⟨ds2, hdl2, hgv2⟩ := outD_gvd ho hl
  rw [← hdl2] at hg
  have S1 := hid ((hb.block W (lt_of_heap S0.out)).trans S0.out)
  have G4 := hid (G3.out.below hb)
  have D4 := hid (D3.out.below hb)
  have B4 := hid (belowCat B3.out hb)
  have HG := hid hg
  have GG := hid hgv2
  clear hl ho hb hgv2 hdl2 hg S0 G3 D3 B3 V0
  go_wp2_with fail
  refine (fullM_any g cap2 t0 t1 t3 t4 t5 ad2 ds2 cp _ HG.out GG.out (chL_fewB cp)).mono ?_
  rintro e w5 ⟨kd, rd, kc, rc, vs, rfl, ht, hb⟩
  have S2 := hid ((hb.block W (lt_of_heap S1.out)).trans S1.out)
  have G5 := hid (G4.out.below hb)
  have D5 := hid (D4.out.below hb)
  have B5 := hid (belowCat B4.out hb)
  have HT := hid ht
  clear ht hb HG GG S1 G4 D4 B4
  have HFew := hid (few3_said (chL_fewB cp))
  have HLen := hid (chL_lenB cp)
  have HRis := hid (cnt_rises cp)
  have HLn := hid (fun (q : Nat) (w' : World) (hd : DpAt w' ad ds) => line_any (a0, n0, p0) (a1, n1, p1) (a3, n3, p3) (a4, n4, p4) (a5, n5, p5) ad cap q ds cp w' hd (DpAt.len G5.out))
  have HLR := hid (fun (q : Nat) (e : Ending) (r : LnR ds cp q e) => lnR_pts G5.out r)
  have HFl := hid (fun (q : Nat) (r : List Nat) (w' : World) (h1 : bcm 3 (cnt cp chL) q = some r) (h2 : r.length ≤ 1000000) (hd : DpAt w' ad ds) (hu : ∀ x ∈ ds, U32B w' x.g x.d.to) => rfull_any (a0, n0, p0) (a1, n1, p1) (a3, n3, p3) (a4, n4, p4) (a5, n5, p5) ad cap ds cp (ris_filter G5.out.ris _) (DpAt.len G5.out) G5.out.to3 G5.out.ne 3 q r w' (by rw [lns_cnt G5.out.lit cp]; exact h1) h2 hd hu)
  have U5 := hid G5.out.wds
  simp only [Sl3.v] at HLn HFl
  obtain ⟨K, hK⟩ : ∃ K, cnt cp chL = K := ⟨_, rfl⟩
  rw [hK] at HT HFew HLen HRis HFl ⊢
  simp only [hK] at HLR
  clear hK G5
  obtain ⟨n, hn⟩ : ∃ n, K.length = n := ⟨_, rfl⟩
  have HN := hid hn
  have HTk := hid HT.out.keys
  have HTr := hid HT.out.rows
  have HTe := hid HT.out.each
  rw [hn] at HLen HTk HTr HTe ⊢
  clear hn HT
  go_upto_region 5 with fail
  have hBA := (Below.refl w5.heap.size w5).alloc (Nat.le_refl _) (.cells #[.slice kd n kc, .slice rd n rc] 36)
  have T6 := hid (heap_alloc_at w5 (.cells #[.slice kd n kc, .slice rd n rc] 36))
  have S6 := hid ((hBA.block W (lt_of_heap S2.out)).trans S2.out)
  have D6 := hid (D5.out.below hBA)
  have U6 := hid (fun x hx => (U5.out x hx).below hBA)
  have Tk6 := hid (owns_below HTk.out hBA)
  have Tr6 := hid (owns_below HTr.out hBA)
  have Te6 := hid (HTe.out.keep (w' := w5.alloc (.cells #[.slice kd n kc, .slice rd n rc] 36)) (kb' := none) fun b cs h1 h2 => ⟨hBA.block b (lt_of_heap h1), fun e => by cases e⟩)
  have B6 := hid (show Below w.heap.size w (w5.alloc (.cells #[.slice kd n kc, .slice rd n rc] 36)) from belowCat B5.out hBA)
  clear hBA S2 D5 U5 HTk HTr HTe B5
  generalize w5.alloc (.cells #[.slice kd n kc, .slice rd n rc] 36) = w6 at *
  obtain ⟨T, hT⟩ : ∃ T, w5.heap.size = T := ⟨_, rfl⟩
  rw [hT] at T6 ⊢
  clear hT
  obtain ⟨gk, hgk, _, hkl, hkc⟩ := owns_cell Tk6.out HLen.out.1
  obtain ⟨gr, hgr, _, hrl, hrc⟩ := owns_cell Tr6.out HLen.out.1
  have HKc := hid (fun (w' : World) (hb : Below w6.heap.size w6 w') (j : Nat) (u : Value) (h : (iV (K.map (·.1)))[j]? = some u) => cell_below hb (hkc j u h) hkl)
  have HRc := hid (fun (w' : World) (hb : Below w6.heap.size w6 w') (j : Nat) (u : Value) (h : vs[j]? = some u) => cell_below hb (hrc j u h) hrl)
  subst hgk hgr
  clear hkl hkc hrl hrc Tk6 Tr6
  obtain ⟨pts, hpts⟩ : ∃ pts, K.map (·.1) = pts := ⟨_, rfl⟩
  have HPT := hid hpts
  rw [hpts] at HRis HKc
  simp only [hpts] at HLR
  have HPN := hid (show pts.length = n by rw [← hpts, List.length_map, HN.out])
  clear hpts
  have HT6 := hid (fun (w' : World) (hb : Below w6.heap.size w6 w') => show w'.cell? ⟨T, 0, none⟩ = some (.slice (some ⟨gk, 0, none⟩) n kc) ∧ w'.cell? ⟨T, 1, none⟩ = some (.slice (some ⟨gr, 0, none⟩) n rc) from
    have hh := (hb.block T (lt_of_heap T6.out)).trans T6.out
    ⟨cell_of_heap hh rfl, cell_of_heap hh rfl⟩)
  have HKp := hid (fun (w' : World) (hb : Below w6.heap.size w6 w') (j : Nat) (h : j < pts.length) => show w'.cell? ⟨gk, j, none⟩ = some (.int .u32 ((pts[j] : Nat) : Int)) from HKc.out w' hb j _ (by unfold iV; rw [List.getElem?_map, List.getElem?_eq_getElem h]; rfl))
  clear HKc T6
  have hn0 : 0 < n := HLen.out.1
  have hn506 : n ≤ 506 := HLen.out.2
  have hne : ((n : Int) == 0) = false := by simp; omega
  have kt := HT6.out w6 (Below.refl _ _)
  obtain ⟨kt0, kt1⟩ := kt
  go_upto_region 8 with fail
  obtain ⟨k, hk⟩ : ∃ k, at_ % n = k := ⟨_, rfl⟩
  have hkn : k < n := by rw [← hk]; exact Nat.mod_lt _ hn0
  rw [show ((at_ : Int) % (n : Int)) = (k : Int) by rw [← hk]; exact (Int.natCast_emod _ _).symm]
  have kk := HKp.out w6 (Below.refl _ _) k (by rw [HPN.out]; exact hkn)
  obtain ⟨pk, hpk⟩ : ∃ pk, pts[k]'(by rw [HPN.out]; exact hkn) = pk := ⟨_, rfl⟩
  rw [hpk] at kk
  clear hk hpk hne
  have hwk : IntKind.i64.wrap (k : Int) = (k : Int) := by rw [IntKind.wrap_i64]; omega
  go_upto_region 9 with fail
  have hBA := (Below.refl w6.heap.size w6).alloc (Nat.le_refl _) (.cells #[.int .u32 (p : Int), .int .u32 (pk : Int)] 22)
  have G7 := hid (heap_alloc_at w6 (.cells #[.int .u32 (p : Int), .int .u32 (pk : Int)] 22))
  have B7 := hid hBA
  clear kt0 kt1 kk hwk hkn hBA
  generalize w6.alloc (.cells #[.int .u32 (p : Int), .int .u32 (pk : Int)] 22) = w7 at *
  obtain ⟨G, hG⟩ : ∃ G, w6.heap.size = G := ⟨_, rfl⟩
  have HGE := hid hG
  rw [hG] at G7 ⊢
  clear hG
  have HWc := hid (fun (w' : World) (hb : Below w6.heap.size w6 w') => show w'.cell? ⟨W, 0, none⟩ = some (.slice a0 n0 p0) ∧ w'.cell? ⟨W, 1, none⟩ = some (.slice a1 n1 p1) ∧ w'.cell? ⟨W, 2, none⟩ = some (.slice ad ds.length cap) ∧ w'.cell? ⟨W, 3, none⟩ = some (.slice a3 n3 p3) ∧ w'.cell? ⟨W, 4, none⟩ = some (.slice a4 n4 p4) ∧ w'.cell? ⟨W, 5, none⟩ = some (.slice a5 n5 p5) from
    have hh := (hb.block W (lt_of_heap S6.out)).trans S6.out
    ⟨cell_of_heap hh rfl, cell_of_heap hh rfl, cell_of_heap hh rfl, cell_of_heap hh rfl, cell_of_heap hh rfl, cell_of_heap hh rfl⟩)
  go_loopw [51] (fun c wr => ∃ i : Nat, i ≤ 2 ∧ c = .int .i64 (i : Int) ∧ Below w6.heap.size w6 wr ∧ wr.heap[G]? = some (.cells #[.int .u32 (p : Int), .int .u32 (pk : Int)] 22 (0, 0))) (fun c _ => 2 - (intOf c).toNat)
  case atStart => exact ⟨0, by omega, rfl, B7.out, G7.out⟩
  case round =>
    obtain ⟨i, hi, rfl, hB, h0⟩ := hrel
    have HB := hid hB
    have H0 := hid h0
    by_cases hlt : i < 2
    · obtain ⟨q, kq⟩ : ∃ q : Nat, wr.cell? ⟨G, i, none⟩ = some (.int .u32 (q : Int)) := by
        have hi2 : i = 0 ∨ i = 1 := by omega
        rcases hi2 with rfl | rfl
        · exact ⟨p, cell_of_heap h0 rfl⟩
        · exact ⟨pk, cell_of_heap h0 rfl⟩
      clear hB h0 hi
      have kt0 := (HT6.out wr HB.out).1
      generalize wr = x1 at *
      go_upto_region 12 with fail
      go_wp2_with fail
      go_loopw [58, 12] (fun c th wr => ∃ j : Nat, j ≤ n ∧ c = .int .i64 (j : Int) ∧ ThR pts q j th ∧ wr = x1) (fun c _ _ => n - (intOf c).toNat)
      case atStart => exact ⟨0, Nat.zero_le _, rfl, Or.inl ⟨rfl, fun j _ h => absurd h (Nat.not_lt_zero j)⟩, rfl⟩
      case round =>
        obtain ⟨j, hj, rfl, hth, hw⟩ := hrel
        subst hw
        have HTH := hid hth
        clear hth
        by_cases hjl : j < n
        · have hjp : j < pts.length := by rw [HPN.out]; exact hjl
          have kx := HKp.out wr HB.out j hjp
          have HY := hid (fun e => thr_yes (q := q) hjp e)
          have HNn := hid (fun e => thr_no HTH.out hjp e)
          obtain ⟨y, hy⟩ : ∃ y, pts[j] = y := ⟨_, rfl⟩
          rw [hy] at kx HY HNn
          have hjb : j < 506 := by omega
          cases j with
          | zero =>
            clear hy hjp hj hjl
            by_cases hyq : y = q
            · have HTN := hid (HY.out hyq)
              subst hyq
              clear HY HNn
              go_wp2
              go_roundw
              case rel => exact ⟨0 + 1, by omega, by go_num, HTN.out, (by first | rfl | trivial)⟩
              case measure => simp [intOf]; omega
            · have HTN := hid (HNn.out hyq)
              have hyb : ((y : Int) == (q : Int)) = false := by simp; omega
              clear HY HNn hyq
              go_wp2
              go_roundw
              case rel => exact ⟨0 + 1, by omega, by go_num, HTN.out, (by first | rfl | trivial)⟩
              case measure => simp [intOf]; omega
          | succ m =>
            have hmp : m < pts.length := by omega
            have km := HKp.out wr HB.out m hmp
            have hlt2 : pts[m] < y := by
              rw [← hy]
              exact List.pairwise_iff_getElem.1 HRis.out m (m + 1) hmp hjp (by omega)
            obtain ⟨z, hz⟩ : ∃ z, pts[m] = z := ⟨_, rfl⟩
            rw [hz] at km hlt2
            have hzy : ¬ ((y : Int) ≤ (z : Int)) := by omega
            clear hy hjp hj hz hmp
            by_cases hyq : y = q
            · have HTN := hid (HY.out hyq)
              subst hyq
              clear HY HNn
              go_wp2
              go_roundw
              case rel => exact ⟨m + 1 + 1, by omega, by go_num, HTN.out, (by first | rfl | trivial)⟩
              case measure => simp [intOf]; omega
            · have HTN := hid (HNn.out hyq)
              have hyb : ((y : Int) == (q : Int)) = false := by simp; omega
              clear HY HNn hyq
              go_wp2
              go_roundw
              case rel => exact ⟨m + 1 + 1, by omega, by go_num, HTN.out, (by first | rfl | trivial)⟩
              case measure => simp [intOf]; omega
        · obtain rfl : j = n := by omega
          obtain ⟨kw0, kw1, kw2, kw3, kw4, kw5⟩ := HWc.out wr HB.out
          have HLq := hid (HLn.out q wr (D6.out.below HB.out))
          rcases HTH.out with ⟨rfl, hno⟩ | ⟨j', hj', _, hjq, rfl⟩
          · have HNo := hid (show ¬ q ∈ pts from fun hm => by
              obtain ⟨x, hx, e⟩ := List.getElem_of_mem hm
              exact hno x hx (by have := HPN.out; omega) e)
            clear hno HTH hj hjl
            go_wp2_with fail
            refine HLq.out.mono ?_
            rintro e y1 ⟨hr, hb⟩
            rcases HLR.out q e hr with ⟨hm, _⟩ | ⟨_, rfl⟩
            · exact absurd hm HNo.out
            · have BY := hid (show Below w6.heap.size w6 y1 from belowCat HB.out hb)
              have HY := hid ((hb.block G (lt_of_heap H0.out)).trans H0.out)
              clear hr hb kw0 kw1 kw2 kw3 kw4 kw5 HLq
              go_wp2
              go_roundw
              case rel => exact ⟨i + 1, by omega, by go_num, BY.out, HY.out⟩
              case measure => simp [intOf]; omega
          · have HIn := hid (show q ∈ pts from by rw [← hjq]; exact List.getElem_mem hj')
            have hjn : j' < j := by have := HPN.out; omega
            have hjK : j' < K.length := by rw [HN.out]; exact hjn
            obtain ⟨r, hr1, hr2⟩ := HFew.out K[j'] (List.getElem_mem hjK)
            have hKq : (K[j']).1 = q := by
              have h2 : pts[j'] = (K[j']).1 := by
                have := HPT.out
                subst this
                simp
              rw [← h2]; exact hjq
            have hrow : rowK K K[j'] = r := by unfold rowK; rw [hr1]; rfl
            rw [hKq] at hr1
            obtain ⟨b, hb1, hb2, _⟩ := Te6.out.row j' (by rw [List.length_map]; exact hjK)
            rw [List.getElem_map, hrow] at hb2
            have HB1 := hid hb1
            have HB2 := hid hb2
            have HR1 := hid hr1
            have HR2 := hid hr2
            have hjb : j' < 506 := by omega
            clear hjq HTH hj hjl hj' hjK hKq hrow hb1 hb2 hr1 hr2
            go_wp2_with fail
            refine HLq.out.mono ?_
            rintro e y1 ⟨hr, hb⟩
            rcases HLR.out q e hr with ⟨_, li, rfl⟩ | ⟨hm, _⟩
            · have BY := hid (show Below w6.heap.size w6 y1 from belowCat HB.out hb)
              have HY := hid ((hb.block G (lt_of_heap H0.out)).trans H0.out)
              clear hr hb kw0 kw1 kw2 kw3 kw4 kw5 HLq
              obtain ⟨kw0, kw1, kw2, kw3, kw4, kw5⟩ := HWc.out y1 BY.out
              go_wp2_with fail
              refine (HFl.out q r y1 HR1.out (by have := HR2.out; omega) (D6.out.below BY.out) (fun x hx => (U6.out x hx).below BY.out)).mono ?_
              rintro e y2 ⟨sd, sc, rfl, ho, hb⟩
              have BZ := hid (show Below w6.heap.size w6 y2 from belowCat BY.out hb)
              have HZ := hid ((hb.block G (lt_of_heap HY.out)).trans HY.out)
              have OZ := hid ho
              clear ho hb kw0 kw1 kw2 kw3 kw4 kw5 BY HY
              have kt1 := (HT6.out y2 BZ.out).2
              have kr := HRc.out y2 BZ.out j' _ HB1.out
              have KB := hid (fun (c : Nat) (h : c < 3) => show y2.cell? ⟨b, c, none⟩ = some (.int .u32 ((r.getD c 0 : Nat) : Int)) from cell_of_heap ((BZ.out.block b (lt_of_heap HB2.out)).trans HB2.out) (three_at h))
              have KF := hid (fun (c : Nat) (h : c < r.length) => show ∃ gf, sd = some ⟨gf, 0, none⟩ ∧ y2.cell? ⟨gf, c, none⟩ = some (.int .u32 ((r.getD c 0 : Nat) : Int)) from by
                obtain ⟨gf, h1, _, _, h2⟩ := owns_cell OZ.out (by omega)
                exact ⟨gf, h1, h2 c _ (iV_at h)⟩)
              have hjn2 : (j' : Int) < (j : Int) := by omega
              obtain ⟨m, hm⟩ : ∃ m, r.length = m := ⟨_, rfl⟩
              have hm3 : m ≤ 3 := by rw [← hm]; exact HR2.out
              rw [hm] at OZ KF ⊢
              have HM := hid hm
              clear hm
              generalize y2 = x2 at *
              go_wp2_with fail
              go_loopw [100] (fun c wr => ∃ c' : Nat, c' ≤ 3 ∧ c = .int .i64 (c' : Int) ∧ wr = x2) (fun c _ => 3 - (intOf c).toNat)
              case atStart => exact ⟨0, by omega, rfl, rfl⟩
              case round =>
                obtain ⟨c', hc', rfl, hw⟩ := hrel
                subst hw
                by_cases hcl : c' < 3
                · have kb := KB.out c' hcl
                  by_cases hcm : c' < m
                  · obtain ⟨gf, rfl, kf⟩ := KF.out c' hcm
                    obtain ⟨v, hv⟩ : ∃ v, r.getD c' 0 = v := ⟨_, rfl⟩
                    rw [hv] at kb kf
                    clear hv
                    go_wp2
                    go_roundw
                    case rel => exact ⟨c' + 1, by omega, by go_num, (by first | rfl | trivial)⟩
                    case measure => simp [intOf]; omega
                  · have hv : r.getD c' 0 = 0 := by
                      rw [List.getD_eq_getElem?_getD, List.getElem?_eq_none (by have := HM.out; omega)]; rfl
                    rw [hv] at kb
                    clear hv
                    go_wp2
                    go_roundw
                    case rel => exact ⟨c' + 1, by omega, by go_num, (by first | rfl | trivial)⟩
                    case measure => simp [intOf]; omega
                · obtain rfl : c' = 3 := by omega
                  go_wp2
                  go_roundw
                  case rel => exact ⟨i + 1, by omega, by go_num, BZ.out, HZ.out⟩
                  case measure => simp [intOf]; omega
            · exact absurd HIn.out hm
    · obtain rfl : i = 2 := by omega
      have BZ := hid (belowCat B6.out HB.out)
      clear hB h0
      go_wp2
      go_ret
      exact ⟨rfl, BZ.out⟩
end Go.Proofs.YtkhdcpejpffnkaaGreatDoor
