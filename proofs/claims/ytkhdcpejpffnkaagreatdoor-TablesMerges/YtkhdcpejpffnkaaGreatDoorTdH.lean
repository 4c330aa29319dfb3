/- Package tables' lines and Full, over this seat's translation: the table of what the given chart's points become. Conditions: what the library's variables hold is some number, some errors. -/
import Derived.Test.YtkhdcpejpffnkaaGreatDoorTdG
import Derived.Test.YtkhdcpejpffnkaaGreatDoorTdU
namespace Go.Proofs.YtkhdcpejpffnkaaGreatDoor
open Go.RowKit
set_option linter.unusedVariables false

/-- the given chart's decompositions in memory -/
structure GvD (w : World) (ad : Option Addr) (cap : Nat) (ds : List Dq) : Prop where
  lit : ds.map (fun x => dtE x.d) = chL
  at_ : DpIn w ad ds cap
  wds : ∀ x ∈ ds, U32B w x.g x.d.to
theorem GvD.below {w w' : World} {ad : Option Addr} {cap : Nat} {ds : List Dq} (h : GvD w ad cap ds) (hb : Below w.heap.size w w') : GvD w' ad cap ds :=
  ⟨h.lit, by
    rcases h.at_ with h | ⟨x, h1, h2⟩
    · exact Or.inl h
    · exact Or.inr ⟨x, h1, fun j u hj => cell_below hb (h2 j u hj) (cell_block_ltD (h2 j u hj))⟩, fun x hx => (h.wds x hx).below hb⟩
theorem GvD.len {w : World} {ad : Option Addr} {cap : Nat} {ds : List Dq} (h : GvD w ad cap ds) : ds.length = 506 := by
  have := congrArg List.length h.lit
  rw [List.length_map, chL_len.1] at this; exact this
theorem GvD.ris {w : World} {ad : Option Addr} {cap : Nat} {ds : List Dq} (h : GvD w ad cap ds) : RisD ds := by
  have h1 := chL_rises
  rw [← h.lit, List.map_map, List.pairwise_map] at h1
  exact fun i j hi hj hij => List.pairwise_iff_getElem.1 h1 i j hi hj hij
theorem GvD.to3 {w : World} {ad : Option Addr} {cap : Nat} {ds : List Dq} (h : GvD w ad cap ds) : ∀ x ∈ ds, x.d.to.length ≤ 3 := fun x hx => by
  have h1 := chL_to
  rw [← h.lit, List.all_map] at h1
  exact Nat.le_of_ble_eq_true (List.all_eq_true.1 h1 x hx)
theorem lns_cnt {ds : List Dq} {L : List Lt} (h : ds.map (fun x => dtE x.d) = L) (cp : Bool) : lnsD (ds.filter (okD cp)) = cnt cp L := by
  subst h
  unfold lnsD cnt
  rw [List.filter_map, List.map_map]
  rfl
theorem outD_gvd {w : World} {lo base cap : Nat} {ad : Option Addr} {its : List Dt} {vs : List Value} (o : OutD w lo base (.slice ad its.length cap) its vs) (hl : its.map dtE = chL) : ∃ ds : List Dq, ds.length = its.length ∧ GvD w ad cap ds := by
  obtain ⟨ds, e1, e2, e3⟩ := o.rows
  refine ⟨ds, by rw [← e1, List.length_map], ⟨by rw [← hl, ← e1, List.map_map]; rfl, ?_, fun x hx => (e3 x hx).2⟩⟩
  subst e2
  have hown := o.own
  have hdl : ds.length = its.length := by rw [← e1, List.length_map]
  obtain ⟨n, hn⟩ : ∃ n, its.length = n := ⟨_, rfl⟩
  rw [hn] at hown hdl
  rcases hown.2 with ⟨hx, h0⟩ | ⟨g', cap', cur, hx, hb, hg, h1, h2, h3, h4⟩
  · cases hx
    have : ds = [] := List.length_eq_zero_iff.1 (by omega)
    exact Or.inl ⟨rfl, this, rfl⟩
  · cases hx
    refine Or.inr ⟨_, rfl, fun j u hj => ?_⟩
    rw [add_plain]
    refine cell_of_heap hg ?_
    rw [← h4, List.getElem?_take] at hj
    split at hj
    · simpa using hj
    · cases hj
set_option maxHeartbeats 1600000 in
theorem tlines_any (g : Nat) (s0 s1 s2 s3 s4 s5 : Sl3) (w : World) (h : w.heap[g]? = some (.cells #[s0.v, s1.v, s2.v, s3.v, s4.v, s5.v] 90 (0, 0))) :
    Calls Tryz.prog 48 #[.pointer (some ⟨g, 0, none⟩)] w fun e w' => e = .returned (.agg #[s0.v, s1.v, s2.v, s3.v, s4.v, s5.v]) ∧ Below w.heap.size w w' := by
  obtain ⟨a0, n0, p0⟩ := s0
  obtain ⟨a1, n1, p1⟩ := s1
  obtain ⟨a2, n2, p2⟩ := s2
  obtain ⟨a3, n3, p3⟩ := s3
  obtain ⟨a4, n4, p4⟩ := s4
  obtain ⟨a5, n5, p5⟩ := s5
  simp only [Sl3.v] at h ⊢
  have hh := (heap_alloc_old w (.cells #[.slice none 0 0, .slice none 0 0, .slice none 0 0, .slice none 0 0, .slice none 0 0, .slice none 0 0] 90) g (lt_of_heap h)).trans h
  have HR := hid (heap_alloc_at w (.cells #[.slice none 0 0, .slice none 0 0, .slice none 0 0, .slice none 0 0, .slice none 0 0, .slice none 0 0] 90))
  have HB := hid (show Below w.heap.size w (w.alloc (.cells #[.slice none 0 0, .slice none 0 0, .slice none 0 0, .slice none 0 0, .slice none 0 0, .slice none 0 0] 90)) from (Below.refl _ _).alloc (Nat.le_refl _) _)
  go_enter Tryz.func48, Tryz.ntmps48
  go_upto_region 3 with fail
  generalize w.alloc (.cells #[.slice none 0 0, .slice none 0 0, .slice none 0 0, .slice none 0 0, .slice none 0 0, .slice none 0 0] 90) = w1 at *
  obtain ⟨N, hN⟩ : ∃ N, w.heap.size = N := ⟨_, rfl⟩
  rw [hN] at HR HB ⊢
  have k0 := cell_of_heap (i := 0) hh rfl
  have k1 := cell_of_heap (i := 1) hh rfl
  have k2 := cell_of_heap (i := 2) hh rfl
  have k3 := cell_of_heap (i := 3) hh rfl
  have k4 := cell_of_heap (i := 4) hh rfl
  have k5 := cell_of_heap (i := 5) hh rfl
  have c0 := cell_of_heap (i := 0) HR.out rfl
  have c1 := cell_of_heap (i := 1) HR.out rfl
  have c2 := cell_of_heap (i := 2) HR.out rfl
  have c3 := cell_of_heap (i := 3) HR.out rfl
  have c4 := cell_of_heap (i := 4) HR.out rfl
  have c5 := cell_of_heap (i := 5) HR.out rfl
  have z0 := frozen_of_heap (i := 0) HR.out
  have z1 := frozen_of_heap (i := 1) HR.out
  have z2 := frozen_of_heap (i := 2) HR.out
  have z3 := frozen_of_heap (i := 3) HR.out
  have z4 := frozen_of_heap (i := 4) HR.out
  have z5 := frozen_of_heap (i := 5) HR.out
  clear hh h
  go_wp2
  have hS : ((((((w1.setCell ⟨N, 0, none⟩ (.slice a0 n0 p0)).setCell ⟨N, 1, none⟩ (.slice a1 n1 p1)).setCell ⟨N, 2, none⟩ (.slice a2 n2 p2)).setCell ⟨N, 3, none⟩ (.slice a3 n3 p3)).setCell ⟨N, 4, none⟩ (.slice a4 n4 p4)).setCell ⟨N, 5, none⟩ (.slice a5 n5 p5)).heap[N]? = some (.cells #[.slice a0 n0 p0, .slice a1 n1 p1, .slice a2 n2 p2, .slice a3 n3 p3, .slice a4 n4 p4, .slice a5 n5 p5] 90 (0, 0)) := (tab_set (i := 5) (v := .slice a5 n5 p5) (tab_set (i := 4) (v := .slice a4 n4 p4) (tab_set (i := 3) (v := .slice a3 n3 p3) (tab_set (i := 2) (v := .slice a2 n2 p2) (tab_set (i := 1) (v := .slice a1 n1 p1) (tab_set (i := 0) (v := .slice a0 n0 p0) HR.out))))))
  have d0 := cell_of_heap (i := 0) hS rfl
  have d1 := cell_of_heap (i := 1) hS rfl
  have d2 := cell_of_heap (i := 2) hS rfl
  have d3 := cell_of_heap (i := 3) hS rfl
  have d4 := cell_of_heap (i := 4) hS rfl
  have d5 := cell_of_heap (i := 5) hS rfl
  have hb := blw_set6 (a := .slice a0 n0 p0) (b := .slice a1 n1 p1) (c := .slice a2 n2 p2) (d := .slice a3 n3 p3) (e := .slice a4 n4 p4) (f := .slice a5 n5 p5) (g := N) (w0 := w) (w := w1) (by rw [hN]; exact HB.out) (by omega)
  rw [hN] at hb
  exact bodyPost_ret (v := .agg #[.slice a0 n0 p0, .slice a1 n1 p1, .slice a2 n2 p2, .slice a3 n3 p3, .slice a4 n4 p4, .slice a5 n5 p5]) (by simp only [results, Tryz.results48]; simp [go_sem, d0, d1, d2, d3, d4, d5]) rfl ⟨rfl, by rw [hN]; exact hb⟩
/-- what the row of a line has -/
def rowK (K : List Ln) (d : Ln) : List Nat := (bcm 3 K d.1).getD []
/-- a table of what points become, a call's own -/
structure TabK (w : World) (lo : Nat) (K : List Ln) (kd rd : Option Addr) (kc rc : Nat) (vs : List Value) : Prop where
  keys : w.ownsRow lo 22 1 (.slice kd K.length kc) K.length (iV (K.map (·.1)))
  rows : w.ownsRow lo 33 1 (.slice rd K.length rc) K.length vs
  each : RowsI w vs (K.map (rowK K)) (Value.slice kd K.length kc).ownBlock
set_option maxRecDepth 4000 in
set_option maxHeartbeats 1600000 in
theorem fullM_any (g cap : Nat) (s0 s1 s3 s4 s5 : Sl3) (ad : Option Addr) (ds : List Dq) (cp : Bool) (w : World) (h : w.heap[g]? = some (.cells #[s0.v, s1.v, .slice ad ds.length cap, s3.v, s4.v, s5.v] 90 (0, 0))) (hd : GvD w ad cap ds) (hf : few3 3 (cnt cp chL) = true) :
    Calls Tryz.prog 10 #[.pointer (some ⟨g, 0, none⟩), .bool cp] w fun e w' => ∃ (kd rd : Option Addr) (kc rc : Nat) (vs : List Value), e = .returned (.agg #[.slice kd (cnt cp chL).length kc, .slice rd (cnt cp chL).length rc]) ∧ TabK w' w.heap.size (cnt cp chL) kd rd kc rc vs ∧ Below w.heap.size w w' := by
  have HLEN := hid hd.len
  have HK := hid (lns_cnt hd.lit cp)
  have HF := hid (few3_said hf)
  have HD := hid hd
  have HH := hid h
  have hE : ∀ x ∈ ds.filter (okD cp), ∃ r, bcm 3 (lnsD (ds.filter (okD cp))) x.d.p = some r ∧ r.length ≤ 1000000 := fun x hx => by
    rw [HK.out]
    have hm : (x.d.p, x.d.to) ∈ cnt cp chL := by rw [← HK.out]; exact List.mem_map.2 ⟨x, hx, rfl⟩
    obtain ⟨r, h1, h2⟩ := HF.out _ hm
    exact ⟨r, h1, by omega⟩
  have HE := hid hE
  have EL := hid (show (ds.filter (okD cp)).length = (cnt cp chL).length by rw [← HK.out]; unfold lnsD; rw [List.length_map])
  have EP := hid (show (ds.filter (okD cp)).map (·.d.p) = (cnt cp chL).map (·.1) by rw [← HK.out, lnsD_pts])
  have ER := hid (show (ds.filter (okD cp)).map (rowOf 3 (ds.filter (okD cp))) = (cnt cp chL).map (rowK (cnt cp chL)) by
    have e : (cnt cp chL).map (rowK (cnt cp chL)) = (lnsD (ds.filter (okD cp))).map (rowK (lnsD (ds.filter (okD cp)))) := by rw [HK.out]
    rw [e]
    conv => rhs; unfold lnsD
    rw [List.map_map]
    rfl)
  obtain ⟨K, hK⟩ : ∃ K, cnt cp chL = K := ⟨_, rfl⟩
  rw [hK] at EL EP ER ⊢
  obtain ⟨a0, n0, p0⟩ := s0
  obtain ⟨a1, n1, p1⟩ := s1
  obtain ⟨a3, n3, p3⟩ := s3
  obtain ⟨a4, n4, p4⟩ := s4
  obtain ⟨a5, n5, p5⟩ := s5
  clear h hd hE hf HF HK hK
  go_enter Tryz.func10, Tryz.ntmps10
  go_wp2_with fail
  have B1 := hid ((Below.refl w.heap.size w).alloc (Nat.le_refl _) (.cells #[.slice none 0 0, .slice none 0 0] 36))
  have HR := hid (heap_alloc_at w (.cells #[.slice none 0 0, .slice none 0 0] 36))
  have H1 := hid ((B1.out.block g (lt_of_heap HH.out)).trans HH.out)
  have D1 := hid (HD.out.below B1.out)
  generalize w.alloc (.cells #[.slice none 0 0, .slice none 0 0] 36) = w1 at *
  obtain ⟨N, hN⟩ : ∃ N, w.heap.size = N := ⟨_, rfl⟩
  have HN := hid hN
  rw [hN] at HR B1 ⊢
  clear hN
  refine (tlines_any g (a0, n0, p0) (a1, n1, p1) (ad, ds.length, cap) (a3, n3, p3) (a4, n4, p4) (a5, n5, p5) w1 H1.out).mono ?_
  rintro e w2 ⟨rfl, hB2⟩
  simp only [Sl3.v]
  have B2 := hid (show Below N w w2 from B1.out.trans (hB2.mono (by have := B1.out.size; have := HN.out; omega)))
  have R2 := hid ((hB2.block N (lt_of_heap HR.out)).trans HR.out)
  have D2 := hid (D1.out.below hB2)
  clear hB2 B1 HR H1 D1
  have hfd : ∀ w : World, (Instr.field 90 (.agg #[.slice a0 n0 p0, .slice a1 n1 p1, .slice ad ds.length cap, .slice a3 n3 p3, .slice a4 n4 p4, .slice a5 n5 p5]) 2).run Tryz.prog w = .ok (.slice ad ds.length cap) w := fun _ => by kernel_rfl
  go_wp2_with fail
  clear hfd
  refine (full_any 3 ad cap ds cp _ D2.out.at_ (by have := HLEN.out; omega) (by have := HLEN.out; omega) D2.out.ris (fun x hx => by have := D2.out.to3 x hx; omega) D2.out.wds HE.out).mono ?_
  rintro e w3 ⟨kd, rd, kc, rc, vs, rfl, h1, h2, h3, hB3⟩
  rw [EL.out, EP.out] at h1
  rw [EL.out] at h2
  rw [EL.out, ER.out] at h3
  rw [EL.out]
  have K1 := hid h1
  have K2 := hid h2
  have K3 := hid h3
  have B3 := hid (show Below N w w3 from B2.out.trans (hB3.mono (by have := B2.out.size; have := HN.out; omega)))
  have R3 := hid ((hB3.block N (lt_of_heap R2.out)).trans R2.out)
  have LT := hid (show N < w2.heap.size from lt_of_heap R2.out)
  clear h1 h2 h3 hB3 B2 R2 D2 HE EL EP ER HD HH
  have c0 := cell_of_heap (i := 0) R3.out rfl
  have c1 := cell_of_heap (i := 1) R3.out rfl
  have z0 := frozen_of_heap (i := 0) R3.out
  have z1 := frozen_of_heap (i := 1) R3.out
  obtain ⟨n, hn⟩ : ∃ n, K.length = n := ⟨_, rfl⟩
  have HNN := hid hn
  rw [hn] at K1 K2 K3 ⊢
  clear hn
  go_wp2
  have Q := hid (tb_put1 (v := .slice rd n rc) (tb_put0 (v := .slice kd n kc) R3.out))
  have d0 := cell_of_heap (i := 0) Q.out rfl
  have d1 := cell_of_heap (i := 1) Q.out rfl
  have HKe := hid (fun (q : Nat) (h : q ≠ N) => show (((w3.setCell ⟨N, 0, none⟩ (.slice kd n kc)).setCell ⟨N, 1, none⟩ (.slice rd n rc))).heap[q]? = w3.heap[q]? from (Below.heap_setCell _ _ _ _ h).trans (Below.heap_setCell _ _ _ _ h))
  refine bodyPost_ret (v := .agg #[.slice kd n kc, .slice rd n rc]) (by simp only [results, Tryz.results10]; simp [go_sem, d0, d1]) rfl ?_
  refine ⟨kd, rd, kc, rc, vs, by rw [HNN.out], ⟨?_, ?_, ?_⟩, ?_⟩
  · rw [HNN.out]
    exact owns_base (owns_of_blocks K1.out fun q hq => HKe.out q (by have := (K1.out.lt q hq).1; have := LT.out; omega)) (by have := LT.out; have := HN.out; omega)
  · rw [HNN.out]
    exact owns_base (owns_of_blocks K2.out fun q hq => HKe.out q (by have := (K2.out.lt q hq).1; have := LT.out; omega)) (by have := LT.out; have := HN.out; omega)
  · rw [HNN.out]
    exact K3.out.keep fun b cs h1 h2 => ⟨HKe.out b (heap_ne h1 R3.out (by decide)), h2⟩
  · rw [HN.out]
    exact (B3.out.setCell (p := ⟨N, 0, none⟩) (Nat.le_refl _) _).setCell (p := ⟨N, 1, none⟩) (Nat.le_refl _) _
end Go.Proofs.YtkhdcpejpffnkaaGreatDoor
