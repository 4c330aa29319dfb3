/- The document's Line and Full of layer 8, over this seat's translation. Conditions: at most 10^6 lines, in memory, whose points rise; what a point becomes ends, and is at most 10^6 points. The document's Full of layer 8, over this seat's translation. Conditions: at most 10^6 lines, in memory, whose points rise, none of which becomes nothing; what a point becomes ends, and is at most 10^6 points. -/
import Derived.Test.YtkhdcpejpffnkaaGreatDoorTdH
import Derived.Deep.RegionHeld3
import Derived.Deep.CutRange
namespace Go.Proofs.YtkhdcpejpffnkaaGreatDoor
open Go.RowKit
set_option linter.unusedVariables false

/-- the given chart's decompositions, as a call leaves them -/
theorem outD_dpat {w : World} {lo base cap : Nat} {ad : Option Addr} {its : List Dt} {vs : List Value} (o : OutD w lo base (.slice ad its.length cap) its vs) (hl : its.map dtE = chL) : ∃ ds : List Dq, ds.length = its.length ∧ GvD w ad cap ds ∧ DpAt w ad ds := by
  obtain ⟨ds, e1, e2, e3⟩ := o.rows
  have hdl : ds.length = its.length := by rw [← e1, List.length_map]
  have hown := o.own
  rw [← hdl, e2] at hown
  obtain ⟨ds2, f1, f2⟩ := outD_gvd o hl
  refine ⟨ds, hdl, ⟨by rw [← hl, ← e1, List.map_map]; rfl, ?_, fun x hx => (e3 x hx).2⟩, dpAt_own hown⟩
  obtain ⟨g, tl, h1, _, h2, _⟩ := blkD_of hown (by have := f2.len; omega) rfl
  refine Or.inr ⟨_, h1, fun j u hj => ?_⟩
  rw [add_plain]
  refine cell_of_heap h2 ?_
  rw [List.getElem?_toArray, List.getElem?_append_left (List.getElem?_eq_some_iff.1 hj).1]
  exact hj
/-- what Line answers -/
def LnR (ds : List Dq) (cp : Bool) (p : Nat) (e : Ending) : Prop := (∃ i, ∃ hi : i < ds.length, ds[i].d.p = p ∧ okD cp ds[i] = true ∧ e = .returned (.int .i64 (i : Int))) ∨ ((∀ x ∈ ds, okD cp x = true → x.d.p ≠ p) ∧ e = .returned (.int .i64 (-1)))
set_option maxHeartbeats 3200000 in
theorem line_any (s0 s1 s3 s4 s5 : Sl3) (ad : Option Addr) (cap p : Nat) (ds : List Dq) (cp : Bool) (w : World) (h : DpAt w ad ds) (hn : ds.length ≤ 1000000) :
    Calls Tryz.prog 11 #[.agg #[s0.v, s1.v, .slice ad ds.length cap, s3.v, s4.v, s5.v], .int .u32 (p : Int), .bool cp] w fun e w' => LnR ds cp p e ∧ Below w.heap.size w w' := by
  obtain ⟨a0, n0, p0⟩ := s0
  obtain ⟨a1, n1, p1⟩ := s1
  obtain ⟨a3, n3, p3⟩ := s3
  obtain ⟨a4, n4, p4⟩ := s4
  obtain ⟨a5, n5, p5⟩ := s5
  simp only [Sl3.v]
  have hBA := (Below.refl w.heap.size w).alloc (Nat.le_refl _) (.cells #[.slice a0 n0 p0, .slice a1 n1 p1, .slice ad ds.length cap, .slice a3 n3 p3, .slice a4 n4 p4, .slice a5 n5 p5] 31)
  have HD := hid (h.below hBA)
  have B1 := hid hBA
  have HA := hid (heap_alloc_at w (.cells #[.slice a0 n0 p0, .slice a1 n1 p1, .slice ad ds.length cap, .slice a3 n3 p3, .slice a4 n4 p4, .slice a5 n5 p5] 31))
  clear h hBA
  go_enter Tryz.func11, Tryz.ntmps11
  go_wp2_with fail
  generalize w.alloc (.cells #[.slice a0 n0 p0, .slice a1 n1 p1, .slice ad ds.length cap, .slice a3 n3 p3, .slice a4 n4 p4, .slice a5 n5 p5] 31) = w1 at *
  obtain ⟨N, hN⟩ : ∃ N, w.heap.size = N := ⟨_, rfl⟩
  have HN := hid hN
  rw [hN] at HA B1 ⊢
  clear hN
  have kd := cell_of_heap (i := 2) HA.out rfl
  go_loopw [7] (fun c wr => ∃ i : Nat, i ≤ ds.length ∧ c = .int .i64 (i : Int) ∧ (∀ j (hj : j < ds.length), j < i → okD cp ds[j] = true → ds[j].d.p ≠ p) ∧ wr = w1) (fun c _ => ds.length - (intOf c).toNat)
  case atStart => exact ⟨0, Nat.zero_le _, rfl, fun j _ h => absurd h (Nat.not_lt_zero j), rfl⟩
  case round =>
    obtain ⟨i, hi, rfl, hno, rfl⟩ := hrel
    have HNo := hid hno
    clear hno
    by_cases hlt : i < ds.length
    · obtain ⟨g, rfl, c0, c1, c2, c3⟩ := HD.out i hlt
      have HY := hid (fun (e1 : ds[i].d.p = p) (e2 : okD cp ds[i] = true) => show LnR ds cp p (.returned (.int .i64 (i : Int))) from Or.inl ⟨i, hlt, e1, e2, rfl⟩)
      have HS := hid (fun (e : okD cp ds[i] = true → ds[i].d.p ≠ p) => show ∀ j (hj : j < ds.length), j < i + 1 → okD cp ds[j] = true → ds[j].d.p ≠ p from fun j hj h => by
        by_cases ej : j = i
        · subst ej; exact e
        · exact HNo.out j hj (by omega))
      obtain ⟨x, hx⟩ : ∃ x, ds[i] = x := ⟨_, rfl⟩
      rw [hx] at c0 c1 c2 c3 HY HS
      have HOK := hid (show okD cp x = !(x.d.c && !cp) from rfl)
      obtain ⟨q, hq⟩ : ∃ q, x.d.p = q := ⟨_, rfl⟩
      obtain ⟨bc, hbc⟩ : ∃ bc, x.d.c = bc := ⟨_, rfl⟩
      rw [hq] at c0 HY HS
      rw [hbc] at c2 HOK
      have hib : i < 1000000 := by omega
      clear hx hq hbc hi c1 c3
      by_cases hqp : q = p
      · subst hqp
        cases cp with
        | true =>
          have HY2 := hid (HY.out rfl (by rw [HOK.out]; simp))
          clear HY HS HOK
          go_wp2
          go_ret
          exact ⟨HY2.out, by rw [HN.out]; exact B1.out⟩
        | false =>
          cases bc with
          | true =>
            have HS2 := hid (HS.out (fun e => by rw [HOK.out] at e; cases e))
            clear HY HS HOK
            go_wp2
            go_roundw
            case rel => exact ⟨i + 1, by omega, by go_num, HS2.out, (by first | rfl | trivial)⟩
            case measure => simp [intOf]; omega
          | false =>
            have HY2 := hid (HY.out rfl (by rw [HOK.out]; rfl))
            clear HY HS HOK
            go_wp2
            go_ret
            exact ⟨HY2.out, by rw [HN.out]; exact B1.out⟩
      · have hqb : ((q : Int) == (p : Int)) = false := by simp; omega
        have HS2 := hid (HS.out (fun _ => hqp))
        clear HY HS HOK c2
        go_wp2
        go_roundw
        case rel => exact ⟨i + 1, by omega, by go_num, HS2.out, (by first | rfl | trivial)⟩
        case measure => simp [intOf]; omega
    · have HE := hid (show LnR ds cp p (.returned (.int .i64 (-1))) from Or.inr ⟨fun x hx => by
        obtain ⟨j, hj, rfl⟩ := List.getElem_of_mem hx
        exact HNo.out j hj (by omega), rfl⟩)
      go_wp2
      go_ret
      exact ⟨HE.out, by rw [HN.out]; exact B1.out⟩
end Go.Proofs.YtkhdcpejpffnkaaGreatDoor
namespace Go.Proofs.YtkhdcpejpffnkaaGreatDoor
open Go.RowKit
set_option linter.unusedVariables false

theorem bcm_pos {l : List Ln} (hl : ∀ d ∈ l, d.2 ≠ []) : ∀ (f p : Nat) (r : List Nat), bcm f l p = some r → r ≠ [] := by
  intro f
  induction f with
  | zero => intro p r h; cases h
  | succ f ih =>
    intro p r h
    unfold bcm at h
    cases hd : lnOf l p with
    | none => rw [hd] at h; cases h; simp
    | some d =>
      rw [hd] at h
      simp only at h
      cases hm : d.2.mapM (bcm f l) with
      | none => rw [hm] at h; cases h
      | some rs =>
        rw [hm] at h
        obtain rfl : rs.flatten = r := by simpa using h
        have hmem : d ∈ l := List.mem_of_find?_eq_some hd
        have hne := hl d hmem
        have hlen := mapM_len _ hm
        have he := mapM_each _ _ _ hm
        cases hd2 : d.2 with
        | nil => exact absurd hd2 hne
        | cons a t =>
          have h0 : 0 < d.2.length := by rw [hd2]; simp
          have h1 := he 0 h0
          rw [List.getElem?_eq_getElem (by omega : 0 < rs.length)] at h1
          have h2 := ih _ _ h1
          intro h3
          rw [List.flatten_eq_nil_iff] at h3
          exact h2 (h3 _ (List.getElem_mem _))
set_option maxRecDepth 4000 in
set_option maxHeartbeats 12800000 in
theorem rfull_any (s0 s1 s3 s4 s5 : Sl3) (ad : Option Addr) (cap : Nat) (ds : List Dq) (cp : Bool) (hr : RisD (ds.filter (okD cp))) (hn : ds.length ≤ 1000000) (hto : ∀ x ∈ ds, x.d.to.length ≤ 3) (hne : ∀ x ∈ ds, x.d.to ≠ []) : ∀ (f p : Nat) (r : List Nat) (w : World), bcm f (lnsD (ds.filter (okD cp))) p = some r → r.length ≤ 1000000 → DpAt w ad ds → (∀ x ∈ ds, U32B w x.g x.d.to) →
    Calls Tryz.prog 12 #[.agg #[s0.v, s1.v, .slice ad ds.length cap, s3.v, s4.v, s5.v], .int .u32 (p : Int), .bool cp] w fun e w' => ∃ sd sc, e = .returned (.slice sd r.length sc) ∧ w'.ownsRow w.heap.size 22 1 (.slice sd r.length sc) r.length (iV r) ∧ Below w.heap.size w w' := by
  have HRis := hid hr
  have HTO := hid hto
  have HPO := hid (fun (f p : Nat) (r : List Nat) (h : bcm f (lnsD (ds.filter (okD cp))) p = some r) => bcm_pos (l := lnsD (ds.filter (okD cp))) (fun d hd => by
    obtain ⟨x, hx, rfl⟩ := List.mem_map.1 hd
    exact hne x (List.mem_filter.1 hx).1) f p r h)
  obtain ⟨i0, hi, hz0, hz1, hz2⟩ := info_parts infoU32
  have HI := hid (And.intro hi (And.intro hz0 (And.intro hz1 hz2)))
  clear hi hz0 hz1 hz2 hr hto hne
  intro f
  induction f with
  | zero => intro p r w h; cases h
  | succ f ih =>
    intro p r w hb hl hd hu
    have HD := hid hd
    have HU := hid hu
    have HIH := hid ih
    have HL := hid (fun w1 hd1 => line_any s0 s1 s3 s4 s5 ad cap p ds cp w1 hd1 hn)
    clear ih hd hu
    obtain ⟨a0, n0, p0⟩ := s0
    obtain ⟨a1, n1, p1⟩ := s1
    obtain ⟨a3, n3, p3⟩ := s3
    obtain ⟨a4, n4, p4⟩ := s4
    obtain ⟨a5, n5, p5⟩ := s5
    simp only [Sl3.v] at HL HIH ⊢
    have hBA := (Below.refl w.heap.size w).alloc (Nat.le_refl _) (.cells #[.slice a0 n0 p0, .slice a1 n1 p1, .slice ad ds.length cap, .slice a3 n3 p3, .slice a4 n4 p4, .slice a5 n5 p5] 31)
    have D1 := hid (HD.out.below hBA)
    have U1 := hid (fun x hx => (HU.out x hx).below hBA)
    have B1 := hid hBA
    have HA := hid (heap_alloc_at w (.cells #[.slice a0 n0 p0, .slice a1 n1 p1, .slice ad ds.length cap, .slice a3 n3 p3, .slice a4 n4 p4, .slice a5 n5 p5] 31))
    have hsz : (w.alloc (.cells #[.slice a0 n0 p0, .slice a1 n1 p1, .slice ad ds.length cap, .slice a3 n3 p3, .slice a4 n4 p4, .slice a5 n5 p5] 31)).heap.size = w.heap.size + 1 := by simp
    have HSZ := hid hsz
    clear hBA hsz
    go_enter Tryz.func12, Tryz.ntmps12
    go_wp2_with fail
    generalize w.alloc (.cells #[.slice a0 n0 p0, .slice a1 n1 p1, .slice ad ds.length cap, .slice a3 n3 p3, .slice a4 n4 p4, .slice a5 n5 p5] 31) = w1 at *
    obtain ⟨N, hN⟩ : ∃ N, w.heap.size = N := ⟨_, rfl⟩
    have HN := hid hN
    rw [hN] at HA HSZ ⊢
    clear hN
    refine (HL.out _ D1.out).mono ?_
    rintro e w2 ⟨hf, hB⟩
    have B2 := hid hB
    clear hB HL
    rcases hf with ⟨i, hil, hp, hok, rfl⟩ | ⟨hno, rfl⟩
    · have hln : lnOf (lnsD (ds.filter (okD cp))) p = some (p, ds[i].d.to) := by
        have := lnOf_mem (ris_nodup HRis.out) (d := (ds[i].d.p, ds[i].d.to)) (List.mem_map.2 ⟨ds[i], List.mem_filter.2 ⟨List.getElem_mem hil, hok⟩, rfl⟩)
        rw [hp] at this; exact this
      unfold bcm at hb
      rw [hln] at hb
      obtain ⟨g, rfl, c0, c1, c2, c3⟩ := D1.out i hil
      have hux := U1.out ds[i] (List.getElem_mem hil)
      have htx := HTO.out ds[i] (List.getElem_mem hil)
      obtain ⟨x, hx⟩ : ∃ x, ds[i] = x := ⟨_, rfl⟩
      rw [hx] at c1 hb hux htx
      simp only at hb
      cases hm : x.d.to.mapM (bcm f (lnsD (ds.filter (okD cp)))) with
      | none => rw [hm] at hb; cases hb
      | some rs =>
        rw [hm] at hb
        obtain rfl : rs.flatten = r := by simpa using hb
        have hrl := mapM_len _ hm
        have HEach := hid (mapM_each _ _ _ hm)
        have HXU := hid hux
        have HX := hid htx
        have HLr := hid hl
        have HRL := hid hrl
        have C1 := hid c1
        have hib : i < 1000000 := by omega
        clear hln hb hm hx hux htx hl hrl hp hok c0 c1 c2 c3
        obtain ⟨V, hV⟩ : ∃ V, x.d.to.length = V := ⟨_, rfl⟩
        have HVX := hid hV
        rw [hV] at HX HRL
        simp only [Dq.sl, hV] at C1
        clear hV
        go_wp2_with fail
        go_loopw [9, 8] (fun c all wr => ∃ (k sc : Nat) (sd : Option Addr), k ≤ V ∧ c = .int .i64 (k : Int) ∧ all = .slice sd (flatK rs k).length sc ∧ wr.ownsRow w1.heap.size 22 1 (.slice sd (flatK rs k).length sc) (flatK rs k).length (iV (flatK rs k)) ∧ Below w1.heap.size w1 wr) (fun c _ _ => V - (intOf c).toNat)
        case atStart => exact ⟨0, 0, none, Nat.zero_le _, rfl, rfl, World.ownsRow_nil _ _ _ _, B2.out⟩
        case round =>
          obtain ⟨k, sc, sd, hk, rfl, rfl, hown, hB⟩ := hrel
          have HB := hid hB
          have HO := hid hown
          have kd := cell_of_heap (i := 2) ((HB.out.block N (lt_of_heap HA.out)).trans HA.out) rfl
          have kt := (World.cell?_of_block (HB.out.block _ (lt_of_cell C1.out))).trans C1.out
          by_cases hlt : k < V
          · have hkb : k < 1000000 := by have := HX.out; omega
            have hkx : k < x.d.to.length := by rw [HVX.out]; exact hlt
            have hkr : k < rs.length := by rw [HRL.out]; exact hlt
            have kq := (HXU.out.below HB.out).cell hkx
            obtain ⟨q, hq⟩ : ∃ q, x.d.to.getD k 0 = q := ⟨_, rfl⟩
            have hqe : x.d.to[k] = q := by rw [← hq, List.getD_eq_getElem?_getD, List.getElem?_eq_getElem hkx]; rfl
            have hbq := HEach.out k hkx
            rw [hqe, List.getElem?_eq_getElem hkr] at hbq
            have KQ := hid (show ∀ w', Below w1.heap.size w1 w' → w'.cell? ⟨x.g, k, none⟩ = some (.int .u32 (q : Int)) from fun w' hb => by
              have := (HXU.out.below hb).cell hkx
              rw [hq] at this; exact this)
            rw [hq] at kq
            have HFS := hid (flatK_succ rs k hkr)
            have HFL := hid (flatK_le rs (k + 1))
            obtain ⟨s, hs⟩ : ∃ s, rs[k] = s := ⟨_, rfl⟩
            rw [hs] at hbq HFS
            rw [HFS.out] at HFL
            have hsl : s.length ≤ 1000000 := by have h1 := HFL.out; have h2 := HLr.out; rw [List.length_append] at h1; omega
            have hs0 : 0 < s.length := List.length_pos_iff.2 (HPO.out f q s hbq)
            have HC := hid (fun w4 (hb4 : Below w1.heap.size w1 w4) => HIH.out q s w4 hbq hsl (D1.out.below hb4) (fun y hy => (U1.out y hy).below hb4))
            obtain ⟨A, hA⟩ : ∃ A, flatK rs k = A := ⟨_, rfl⟩
            rw [hA] at HO HFS HFL ⊢
            have hal : A.length + s.length ≤ 1000000 := by have h1 := HFL.out; have h2 := HLr.out; rw [List.length_append] at h1; omega
            have KS := hid (show ∀ w' : World, Below w1.heap.size w1 w' → w'.cell? ⟨N, 0, none⟩ = some (.slice a0 n0 p0) ∧ w'.cell? ⟨N, 1, none⟩ = some (.slice a1 n1 p1) ∧ w'.cell? ⟨N, 2, none⟩ = some (.slice (some ⟨g, 0, none⟩) ds.length cap) ∧ w'.cell? ⟨N, 3, none⟩ = some (.slice a3 n3 p3) ∧ w'.cell? ⟨N, 4, none⟩ = some (.slice a4 n4 p4) ∧ w'.cell? ⟨N, 5, none⟩ = some (.slice a5 n5 p5) ∧ w'.cell? ⟨g, i * 4 + 1, none⟩ = some (.slice (some ⟨x.g, 0, none⟩) V x.cap) ∧ w'.cell? ⟨x.g, k, none⟩ = some (.int .u32 (q : Int)) from fun w' hb => by
              have hh := (hb.block N (lt_of_heap HA.out)).trans HA.out
              exact ⟨cell_of_heap hh rfl, cell_of_heap hh rfl, cell_of_heap hh rfl, cell_of_heap hh rfl, cell_of_heap hh rfl, cell_of_heap hh rfl, (World.cell?_of_block (hb.block _ (lt_of_cell C1.out))).trans C1.out, KQ.out w' hb⟩)
            clear hown hB hq hqe hbq hs hsl hA hkx hkr
            go_upto_region 8 with fail
            have HS0 := hid hs0
            have hil2 : (i : Int) < (ds.length : Int) := by omega
            have hkV2 : (k : Int) < (V : Int) := by omega
            clear hs0 kd kt kq
            refine wp_region_held_drew (S := (fun w' => w'.cell? ⟨N, 0, none⟩ = some (.slice a0 n0 p0) ∧ w'.cell? ⟨N, 1, none⟩ = some (.slice a1 n1 p1) ∧ w'.cell? ⟨N, 2, none⟩ = some (.slice (some ⟨g, 0, none⟩) ds.length cap) ∧ w'.cell? ⟨N, 3, none⟩ = some (.slice a3 n3 p3) ∧ w'.cell? ⟨N, 4, none⟩ = some (.slice a4 n4 p4) ∧ w'.cell? ⟨N, 5, none⟩ = some (.slice a5 n5 p5) ∧ w'.cell? ⟨g, i * 4 + 1, none⟩ = some (.slice (some ⟨x.g, 0, none⟩) V x.cap) ∧ w'.cell? ⟨x.g, k, none⟩ = some (.int .u32 (q : Int)))) (by kernel_rfl) (KS.out _ (blw_drew HB.out)) (fun hHeld => ?_)
            refine tk_at (i := 0) (d := some 29) (v := ?_) rfl rfl (by kernel_rfl) (by kernel_rfl) (by kernel_rfl) (fun _ _ _ h => h) (Or.inl ⟨by rfl, ?_⟩) (by assumption) ?_
            rotate_left
            · (intro w hSw; (try dsimp only at hSw); go_simp; try (with_reducible rfl))
            simp only [Act.put, List.setIfInBounds_toArray, List.set_cons_zero, List.set_cons_succ]
            refine tk_at (i := 1) (d := some 30) (v := ?_) rfl rfl (by kernel_rfl) (by kernel_rfl) (by kernel_rfl) (fun _ _ _ h => h) (Or.inl ⟨by rfl, ?_⟩) (by assumption) ?_
            rotate_left
            · (intro w hSw; (try dsimp only at hSw); go_simp; try (with_reducible rfl))
            simp only [Act.put, List.setIfInBounds_toArray, List.set_cons_zero, List.set_cons_succ]
            refine tk_at (i := 2) (d := some 31) (v := ?_) rfl rfl (by kernel_rfl) (by kernel_rfl) (by kernel_rfl) (fun _ _ _ h => h) (Or.inl ⟨by rfl, ?_⟩) (by assumption) ?_
            rotate_left
            · (intro w hSw; (try dsimp only at hSw); go_simp; try (with_reducible rfl))
            simp only [Act.put, List.setIfInBounds_toArray, List.set_cons_zero, List.set_cons_succ]
            refine tk_at (i := 3) (d := some 32) (v := ?_) rfl rfl (by kernel_rfl) (by kernel_rfl) (by kernel_rfl) (fun _ _ _ h => h) (Or.inl ⟨by rfl, ?_⟩) (by assumption) ?_
            rotate_left
            · (intro w hSw; (try dsimp only at hSw); go_simp; try (with_reducible rfl))
            simp only [Act.put, List.setIfInBounds_toArray, List.set_cons_zero, List.set_cons_succ]
            refine tk_at (i := 4) (d := some 33) (v := ?_) rfl rfl (by kernel_rfl) (by kernel_rfl) (by kernel_rfl) (fun _ _ _ h => h) (Or.inl ⟨by rfl, ?_⟩) (by assumption) ?_
            rotate_left
            · (intro w hSw; (try dsimp only at hSw); go_simp; try (with_reducible rfl))
            simp only [Act.put, List.setIfInBounds_toArray, List.set_cons_zero, List.set_cons_succ]
            refine tk_at (i := 5) (d := some 34) (v := ?_) rfl rfl (by kernel_rfl) (by kernel_rfl) (by kernel_rfl) (fun _ _ _ h => h) (Or.inl ⟨by rfl, ?_⟩) (by assumption) ?_
            rotate_left
            · (intro w hSw; (try dsimp only at hSw); go_simp; try (with_reducible rfl))
            simp only [Act.put, List.setIfInBounds_toArray, List.set_cons_zero, List.set_cons_succ]
            refine tk_at (i := 6) (d := some 35) (v := ?_) rfl rfl (by kernel_rfl) (by kernel_rfl) (by kernel_rfl) (fun _ _ _ h => h) (Or.inl ⟨by rfl, ?_⟩) (by assumption) ?_
            rotate_left
            · (intro w hSw; (try dsimp only at hSw); go_simp; try (with_reducible rfl))
            simp only [Act.put, List.setIfInBounds_toArray, List.set_cons_zero, List.set_cons_succ]
            refine tk_at (i := 7) (d := some 36) (v := ?_) rfl rfl (by kernel_rfl) (by kernel_rfl) (by kernel_rfl) (fun _ _ _ h => h) (Or.inl ⟨by rfl, ?_⟩) (by assumption) ?_
            rotate_left
            · (intro w hSw; (try dsimp only at hSw); go_simp; try (with_reducible rfl))
            simp only [Act.put, List.setIfInBounds_toArray, List.set_cons_zero, List.set_cons_succ]
            refine tk_at (i := 8) (d := some 37) (v := ?_) rfl rfl (by kernel_rfl) (by kernel_rfl) (by kernel_rfl) (fun _ _ _ h => h) (Or.inl ⟨by rfl, ?_⟩) (by assumption) ?_
            rotate_left
            · (intro w hSw; (try dsimp only at hSw); go_simp; try (with_reducible rfl))
            simp only [Act.put, List.setIfInBounds_toArray, List.set_cons_zero, List.set_cons_succ]
            refine tk_at (i := 9) (d := some 38) (v := ?_) rfl rfl (by kernel_rfl) (by kernel_rfl) (by kernel_rfl) (fun _ _ _ h => h) (Or.inl ⟨by rfl, ?_⟩) (by assumption) ?_
            rotate_left
            · (intro w hSw; (try dsimp only at hSw); go_simp; try (with_reducible rfl))
            simp only [Act.put, List.setIfInBounds_toArray, List.set_cons_zero, List.set_cons_succ]
            refine tk_at (i := 10) (d := some 39) (v := ?_) rfl rfl (by kernel_rfl) (by kernel_rfl) (by kernel_rfl) (fun _ _ _ h => h) (Or.inl ⟨by rfl, ?_⟩) (by assumption) ?_
            rotate_left
            · (intro w hSw; (try dsimp only at hSw); go_simp; try (with_reducible rfl))
            simp only [Act.put, List.setIfInBounds_toArray, List.set_cons_zero, List.set_cons_succ]
            refine tk_at (i := 11) (d := some 40) (v := ?_) rfl rfl (by kernel_rfl) (by kernel_rfl) (by kernel_rfl) (fun _ _ _ h => h) (Or.inl ⟨by rfl, ?_⟩) (by assumption) ?_
            rotate_left
            · (intro w hSw; (try dsimp only at hSw); go_simp; try (with_reducible rfl))
            simp only [Act.put, List.setIfInBounds_toArray, List.set_cons_zero, List.set_cons_succ]
            refine wpAnyH_ready (rs := [12]) (by kernel_rfl) (by simp) ?_
            refine AllReadyH.cons rfl (fun K hK => ?_) AllReadyH.nil
            go_simp
            refine (HC.out _ (blw_drew HB.out)).mono ?_
            rintro e w3 ⟨ad2, cap2, rfl, ho3, hB3⟩
            have B3 := hid (belowCat (blw_drew HB.out) hB3)
            have hod : wr.drew.ownsRow w1.heap.size 22 1 (.slice sd A.length sc) A.length (iV A) := HO.out
            have O3 := hid (owns_below hod hB3)
            have hsr : ∃ qa, ad2 = some qa ∧ (iV s).length = s.length * 1 ∧ ∀ j u, (iV s)[j]? = some u → w3.cell? (qa.add j) = some u := (own_src ho3 rfl).resolve_left (fun h => by have := HS0.out; omega)
            obtain ⟨qa, rfl, hq1, hq2⟩ := hsr
            have HQ := hid (And.intro hq1 hq2)
            clear ho3 hB3 hod hq1 hq2
            go_wp2_with fail
            refine hK.out _ _ (KS.out _ B3.out) (fun hHeld => ?_)
            clear hK K
            try simp only [Act.put, List.setIfInBounds_toArray, List.set_cons_zero, List.set_cons_succ]
            refine wpAnyH_ready (rs := [13]) (by kernel_rfl) (by simp) ?_
            refine AllReadyH.cons rfl (fun K hK => ?_) AllReadyH.nil
            refine step_append_lies _ rfl (.tmp 29) (.tmp 41) 33 rfl w1.heap.size 22 i0 _ 1 4 Tryz.underlying33 HI.out.1 HI.out.2.1 HI.out.2.2.1 HI.out.2.2.2 rfl (by decide) (.slice sd A.length sc) A.length (iV A) rfl O3.out qa s.length cap2 (iV s) rfl HQ.out.1 HQ.out.2 (iV_one s) HS0.out (by unfold maxLen; omega) (by omega) B3.out.size _ rfl ?_
            intro g7 cap7 w7 hown' hgrow hat hlt2
            have HO6 := hid hown'
            have B7 := hid (B3.out.grown hgrow B3.out.size (fun q hq => (O3.out.lt q hq).1))
            clear hown' hgrow hat hlt2
            refine hK.out _ _ (KS.out _ B7.out) (fun hHeld => ?_)
            clear hK K
            try simp only [Act.put, List.setIfInBounds_toArray]
            refine wpAnyH_ready (rs := [14]) (by kernel_rfl) (by simp) ?_
            refine AllReadyH.cons rfl (fun K hK => ?_) AllReadyH.nil
            go_simp
            go_wp2_with fail
            refine hK.out _ _ (KS.out _ B7.out) (fun hHeld => ?_)
            clear hK K
            try simp only [Act.put, List.setIfInBounds_toArray, List.set_cons_zero, List.set_cons_succ]
            refine wpAnyH_done (by kernel_rfl) ?_ _
            clear hHeld
            have HO7 := hid (show w7.ownsRow w1.heap.size 22 1 (.slice (some ⟨g7, 0, none⟩) (flatK rs (k + 1)).length cap7) (flatK rs (k + 1)).length (iV (flatK rs (k + 1))) by
              rw [HFS.out, List.length_append, iV_app]; exact HO6.out)
            have HLE := hid (show (flatK rs (k + 1)).length = A.length + s.length by rw [HFS.out, List.length_append])
            go_wp2
            go_roundw
            case rel => exact ⟨k + 1, cap7, some ⟨g7, 0, none⟩, by omega, by go_num, by rw [HLE.out], HO7.out, B7.out⟩
            case measure => simp [intOf]; omega
          · obtain rfl : k = V := by omega
            have e : flatK rs k = rs.flatten := by rw [← HRL.out]; exact flatK_all rs
            rw [e] at HO ⊢
            clear hown hB
            go_wp2
            go_ret
            exact ⟨sd, sc, rfl, owns_base HO.out (by have := HSZ.out; have := HN.out; omega), B1.out.trans (HB.out.mono (by have := HSZ.out; have := HN.out; omega))⟩
    · have hln : lnOf (lnsD (ds.filter (okD cp))) p = none := lnOf_not (fun x hx => hno x (List.mem_filter.1 hx).1 (List.mem_filter.1 hx).2)
      rw [show bcm (f + 1) (lnsD (ds.filter (okD cp))) p = some [p] by unfold bcm; rw [hln]] at hb
      cases hb
      have B3 := hid (show Below w.heap.size w w2 from B1.out.trans (B2.out.mono (by have := HSZ.out; have := HN.out; omega)))
      clear hno hl hln
      go_wp2
      go_ret
      refine ⟨some ⟨w2.heap.size, 0, none⟩, 1, rfl, ⟨rfl, Or.inr ⟨w2.heap.size, 1, _, rfl, B3.out.size, heap_alloc_at _ _, Nat.le_refl _, by unfold maxLen; omega, rfl, rfl⟩⟩, B3.out.alloc B3.out.size _⟩
end Go.Proofs.YtkhdcpejpffnkaaGreatDoor
