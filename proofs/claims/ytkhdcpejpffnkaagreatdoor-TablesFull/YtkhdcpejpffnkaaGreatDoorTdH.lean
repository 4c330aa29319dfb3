/- Package tables' New, lines and Full, over this seat's translation: what the chart of what points become says. Conditions: what the library's variables hold is some number, some errors. The given chart of what points become, as plain mathematics: its points rise, what each becomes ends, and is at most three points. Nothing of the program is named here. Package tables' lines and Full, over this seat's translation: the table of what the given chart's points become. Conditions: what the library's variables hold is some number, some errors. -/
import Derived.Test.YtkhdcpejpffnkaaGreatDoorTdF
import Derived.Test.YtkhdcpejpffnkaaGreatDoorChWr
import Derived.Test.YtkhdcpejpffnkaaGreatDoorChGa
import Derived.Test.YtkhdcpejpffnkaaGreatDoorTbV
namespace Go.Proofs.YtkhdcpejpffnkaaGreatDoor
open Go.RowKit
set_option linter.unusedVariables false

/-- a slice's three numbers -/
abbrev Sl3 := Option Addr × Nat × Nat
abbrev Sl3.v (s : Sl3) : Value := .slice s.1 s.2.1 s.2.2
theorem OutD.setOther {w : World} {lo base N i : Nat} {v u : Value} {its : List Dt} {vs : List Value} {cs : Array Value} (o : OutD w lo base v its vs) (h : w.heap[N]? = some (.cells cs 90 (0, 0))) : OutD (w.setCell ⟨N, i, none⟩ u) lo base v its vs :=
  ⟨owns_of_blocks o.own fun q hq => by
    obtain ⟨ds, hds⟩ := rowB o.own hq
    exact Below.heap_setCell _ _ _ _ (heap_ne hds h (by decide)), fun k hk => by
    obtain ⟨g, cap, h1, h2, h3⟩ := o.row k hk
    exact ⟨g, cap, h1, h2, h3.keep fun ds hds => (Below.heap_setCell _ _ _ _ (heap_ne hds h (by decide))).trans hds⟩⟩
theorem tab_set {w : World} {N i : Nat} {s0 s1 s2 s3 s4 s5 v : Value} (h : w.heap[N]? = some (.cells #[s0, s1, s2, s3, s4, s5] 90 (0, 0))) : (w.setCell ⟨N, i, none⟩ v).heap[N]? = some (.cells (#[s0, s1, s2, s3, s4, s5].setIfInBounds i v) 90 (0, 0)) := heap_setCell_at _ _ _ _ _ _ _ h
set_option maxRecDepth 2000 in
set_option maxHeartbeats 12800000 in
theorem new_any (w : World) (v : Vr w) :
    Calls Tryz.prog 9 #[] w fun e w' => ∃ (g : Nat) (s0 s1 s3 s4 s5 : Sl3) (ad : Option Addr) (cap : Nat) (its : List Dt) (vs : List Value), e = .returned (.pointer (some ⟨g, 0, none⟩)) ∧ w'.heap[g]? = some (.cells #[s0.v, s1.v, .slice ad its.length cap, s3.v, s4.v, s5.v] 90 (0, 0)) ∧ w.heap.size ≤ g ∧
      its.map dtE = chL ∧ OutD w' w.heap.size w.heap.size (.slice ad its.length cap) its vs ∧ Below w.heap.size w w' := by
  have V0 := hid v
  clear v
  go_enter Tryz.func9, Tryz.ntmps9
  generalize hT1 : ByteArray.mk _ = T1
  generalize hT2 : ByteArray.mk _ = T2
  generalize hT3 : ByteArray.mk _ = T3
  generalize hT4 : ByteArray.mk _ = T4
  generalize hT5 : ByteArray.mk _ = T5
  generalize hT6 : ByteArray.mk _ = T6
  have F1 := hid (show T1.size ≤ 1000000 from Nat.le_of_ble_eq_true (by subst hT1; kernel_rfl))
  have F2 := hid (show T2.size ≤ 1000000 from Nat.le_of_ble_eq_true (by subst hT2; kernel_rfl))
  have F4 := hid (show T4.size ≤ 1000000 from Nat.le_of_ble_eq_true (by subst hT4; kernel_rfl))
  have F5 := hid (show T5.size ≤ 1000000 from Nat.le_of_ble_eq_true (by subst hT5; kernel_rfl))
  have F6 := hid (show T6.size ≤ 1000000 from Nat.le_of_ble_eq_true (by subst hT6; kernel_rfl))
  have F3 : goodV dcK upD 400 T3 = true := by subst hT3; kernel_rfl
  rw [dcK_eq] at F3
  have F3 := hid F3
  have E3 : eqV dcK (lwV T3) chL = true := by subst hT3; kernel_rfl
  rw [dcK_eq] at E3
  have E3 := hid E3
  clear hT1 hT2 hT3 hT4 hT5 hT6
  go_wp2_with fail
  have HN0 := hid (heap_alloc_at w (.cells #[.slice none 0 0, .slice none 0 0, .slice none 0 0, .slice none 0 0, .slice none 0 0, .slice none 0 0] 90))
  have B0 := hid (show Below w.heap.size w (w.alloc (.cells #[.slice none 0 0, .slice none 0 0, .slice none 0 0, .slice none 0 0, .slice none 0 0, .slice none 0 0] 90)) from (Below.refl _ _).alloc (Nat.le_refl _) _)
  generalize w.alloc (.cells #[.slice none 0 0, .slice none 0 0, .slice none 0 0, .slice none 0 0, .slice none 0 0, .slice none 0 0] 90) = w0 at *
  obtain ⟨N, hN⟩ : ∃ N, w.heap.size = N := ⟨_, rfl⟩
  have HNE := hid hN
  rw [hN] at HN0 ⊢
  clear hN
  refine (ranges_any T1 _ (V0.out.below B0.out) F1.out).mono ?_
  rintro e v1 ⟨ad1, cap1, at1, its1, rfl, hr, ho, hb⟩
  have HV1 := hid ((hb.block N (lt_of_heap HN0.out)).trans HN0.out)
  have BV1 := hid (belowCat B0.out hb)
  obtain ⟨n1, hn1⟩ : ∃ n, its1.length = n := ⟨_, rfl⟩
  rw [hn1]
  clear hr ho hb hn1 HN0 B0
  obtain ⟨E1, hE1⟩ : ∃ E : Int, (if at1 = 0 then 0 else 3) = E := ⟨_, rfl⟩
  rw [hE1]
  clear hE1
  have c1 := cell_of_heap (i := 0) HV1.out rfl
  have z1 := frozen_of_heap (i := 0) HV1.out
  go_wp2_with fail
  have HN1 := hid (show (v1.setCell ⟨N, 0, none⟩ (.slice ad1 n1 cap1)).heap[N]? = some (.cells #[.slice ad1 n1 cap1, .slice none 0 0, .slice none 0 0, .slice none 0 0, .slice none 0 0, .slice none 0 0] 90 (0, 0)) from tab_set HV1.out)
  have B1 := hid (show Below w.heap.size w (v1.setCell ⟨N, 0, none⟩ (.slice ad1 n1 cap1)) from BV1.out.setCell (p := ⟨N, 0, none⟩) (by have := HNE.out; show w.heap.size ≤ N; omega) _)
  clear c1 z1 HV1 BV1
  generalize v1.setCell ⟨N, 0, none⟩ (.slice ad1 n1 cap1) = w1 at *
  refine (classes_any T2 _ (V0.out.below B1.out) F2.out).mono ?_
  rintro e v2 ⟨ad2, cap2, at2, its2, rfl, hr, ho, hb⟩
  have HV2 := hid ((hb.block N (lt_of_heap HN1.out)).trans HN1.out)
  have BV2 := hid (belowCat B1.out hb)
  obtain ⟨n2, hn2⟩ : ∃ n, its2.length = n := ⟨_, rfl⟩
  rw [hn2]
  clear hr ho hb hn2 HN1 B1
  obtain ⟨E2, hE2⟩ : ∃ E : Int, (if at2 = 0 then 0 else 3) = E := ⟨_, rfl⟩
  rw [hE2]
  clear hE2
  have c2 := cell_of_heap (i := 1) HV2.out rfl
  have z2 := frozen_of_heap (i := 1) HV2.out
  go_wp2_with fail
  have HN2 := hid (show (v2.setCell ⟨N, 1, none⟩ (.slice ad2 n2 cap2)).heap[N]? = some (.cells #[.slice ad1 n1 cap1, .slice ad2 n2 cap2, .slice none 0 0, .slice none 0 0, .slice none 0 0, .slice none 0 0] 90 (0, 0)) from tab_set HV2.out)
  have B2 := hid (show Below w.heap.size w (v2.setCell ⟨N, 1, none⟩ (.slice ad2 n2 cap2)) from BV2.out.setCell (p := ⟨N, 1, none⟩) (by have := HNE.out; show w.heap.size ≤ N; omega) _)
  clear c2 z2 HV2 BV2
  generalize v2.setCell ⟨N, 1, none⟩ (.slice ad2 n2 cap2) = w2 at *
  refine (decomps_any T3 _ (V0.out.below B2.out) (goodV_size F3.out)).mono ?_
  rintro e v3 ⟨ad3, cap3, at3, its3, vs3, rfl, hr, ho, hb⟩
  obtain ⟨rfl, _⟩ := goodV_said F3.out hr
  have HL := hid (its_lit E3.out hr)
  have OD0 := hid (show OutD v3 w.heap.size w.heap.size (.slice ad3 its3.length cap3) its3 vs3 from ho.base B2.out.size B2.out.size)
  have HV3 := hid ((hb.block N (lt_of_heap HN2.out)).trans HN2.out)
  have BV3 := hid (belowCat B2.out hb)
  obtain ⟨n3, hn3⟩ : ∃ n, its3.length = n := ⟨_, rfl⟩
  rw [hn3] at OD0
  have HN3E := hid hn3
  rw [hn3]
  clear hr ho hb hn3 HN2 B2
  rw [if_pos rfl]
  have c3 := cell_of_heap (i := 2) HV3.out rfl
  have z3 := frozen_of_heap (i := 2) HV3.out
  go_wp2_with fail
  have HN3 := hid (show (v3.setCell ⟨N, 2, none⟩ (.slice ad3 n3 cap3)).heap[N]? = some (.cells #[.slice ad1 n1 cap1, .slice ad2 n2 cap2, .slice ad3 n3 cap3, .slice none 0 0, .slice none 0 0, .slice none 0 0] 90 (0, 0)) from tab_set HV3.out)
  have B3 := hid (show Below w.heap.size w (v3.setCell ⟨N, 2, none⟩ (.slice ad3 n3 cap3)) from BV3.out.setCell (p := ⟨N, 2, none⟩) (by have := HNE.out; show w.heap.size ≤ N; omega) _)
  have OD0 := hid (OutD.setOther (i := 2) (u := (.slice ad3 n3 cap3)) OD0.out HV3.out)
  clear c3 z3 HV3 BV3
  generalize v3.setCell ⟨N, 2, none⟩ (.slice ad3 n3 cap3) = w3 at *
  refine (runs_any T4 _ (V0.out.below B3.out) F4.out).mono ?_
  rintro e v4 ⟨ad4, cap4, at4, its4, rfl, hr, ho, hb⟩
  have HV4 := hid ((hb.block N (lt_of_heap HN3.out)).trans HN3.out)
  have BV4 := hid (belowCat B3.out hb)
  have OV4 := hid (OD0.out.below hb)
  obtain ⟨n4, hn4⟩ : ∃ n, its4.length = n := ⟨_, rfl⟩
  rw [hn4]
  clear hr ho hb hn4 HN3 B3 OD0
  obtain ⟨E4, hE4⟩ : ∃ E : Int, (if at4 = 0 then 0 else 3) = E := ⟨_, rfl⟩
  rw [hE4]
  clear hE4
  have c4 := cell_of_heap (i := 3) HV4.out rfl
  have z4 := frozen_of_heap (i := 3) HV4.out
  go_wp2_with fail
  have HN4 := hid (show (v4.setCell ⟨N, 3, none⟩ (.slice ad4 n4 cap4)).heap[N]? = some (.cells #[.slice ad1 n1 cap1, .slice ad2 n2 cap2, .slice ad3 n3 cap3, .slice ad4 n4 cap4, .slice none 0 0, .slice none 0 0] 90 (0, 0)) from tab_set HV4.out)
  have B4 := hid (show Below w.heap.size w (v4.setCell ⟨N, 3, none⟩ (.slice ad4 n4 cap4)) from BV4.out.setCell (p := ⟨N, 3, none⟩) (by have := HNE.out; show w.heap.size ≤ N; omega) _)
  have OD1 := hid (OutD.setOther (i := 3) (u := (.slice ad4 n4 cap4)) OV4.out HV4.out)
  clear c4 z4 HV4 BV4 OV4
  generalize v4.setCell ⟨N, 3, none⟩ (.slice ad4 n4 cap4) = w4 at *
  refine (runs_any T5 _ (V0.out.below B4.out) F5.out).mono ?_
  rintro e v5 ⟨ad5, cap5, at5, its5, rfl, hr, ho, hb⟩
  have HV5 := hid ((hb.block N (lt_of_heap HN4.out)).trans HN4.out)
  have BV5 := hid (belowCat B4.out hb)
  have OV5 := hid (OD1.out.below hb)
  obtain ⟨n5, hn5⟩ : ∃ n, its5.length = n := ⟨_, rfl⟩
  rw [hn5]
  clear hr ho hb hn5 HN4 B4 OD1
  obtain ⟨E5, hE5⟩ : ∃ E : Int, (if at5 = 0 then 0 else 3) = E := ⟨_, rfl⟩
  rw [hE5]
  clear hE5
  have c5 := cell_of_heap (i := 4) HV5.out rfl
  have z5 := frozen_of_heap (i := 4) HV5.out
  go_wp2_with fail
  have HN5 := hid (show (v5.setCell ⟨N, 4, none⟩ (.slice ad5 n5 cap5)).heap[N]? = some (.cells #[.slice ad1 n1 cap1, .slice ad2 n2 cap2, .slice ad3 n3 cap3, .slice ad4 n4 cap4, .slice ad5 n5 cap5, .slice none 0 0] 90 (0, 0)) from tab_set HV5.out)
  have B5 := hid (show Below w.heap.size w (v5.setCell ⟨N, 4, none⟩ (.slice ad5 n5 cap5)) from BV5.out.setCell (p := ⟨N, 4, none⟩) (by have := HNE.out; show w.heap.size ≤ N; omega) _)
  have OD2 := hid (OutD.setOther (i := 4) (u := (.slice ad5 n5 cap5)) OV5.out HV5.out)
  clear c5 z5 HV5 BV5 OV5
  generalize v5.setCell ⟨N, 4, none⟩ (.slice ad5 n5 cap5) = w5 at *
  refine (sets_any T6 _ (V0.out.below B5.out) F6.out).mono ?_
  rintro e v6 ⟨ad6, cap6, at6, its6, rfl, hr, ho, hb⟩
  have HV6 := hid ((hb.block N (lt_of_heap HN5.out)).trans HN5.out)
  have BV6 := hid (belowCat B5.out hb)
  have OV6 := hid (OD2.out.below hb)
  obtain ⟨n6, hn6⟩ : ∃ n, its6.length = n := ⟨_, rfl⟩
  rw [hn6]
  clear hr ho hb hn6 HN5 B5 OD2
  obtain ⟨E6, hE6⟩ : ∃ E : Int, (if at6 = 0 then 0 else 3) = E := ⟨_, rfl⟩
  rw [hE6]
  clear hE6
  have c6 := cell_of_heap (i := 5) HV6.out rfl
  have z6 := frozen_of_heap (i := 5) HV6.out
  go_wp2
  have HN6 := hid (show (v6.setCell ⟨N, 5, none⟩ (.slice ad6 n6 cap6)).heap[N]? = some (.cells #[.slice ad1 n1 cap1, .slice ad2 n2 cap2, .slice ad3 n3 cap3, .slice ad4 n4 cap4, .slice ad5 n5 cap5, .slice ad6 n6 cap6] 90 (0, 0)) from tab_set HV6.out)
  have B6 := hid (show Below w.heap.size w (v6.setCell ⟨N, 5, none⟩ (.slice ad6 n6 cap6)) from BV6.out.setCell (p := ⟨N, 5, none⟩) (by have := HNE.out; show w.heap.size ≤ N; omega) _)
  have OD3 := hid (OutD.setOther (i := 5) (u := (.slice ad6 n6 cap6)) OV6.out HV6.out)
  clear c6 z6 HV6 BV6 OV6
  go_ret
  have e3 := HN3E.out
  exact ⟨N, (ad1, n1, cap1), (ad2, n2, cap2), (ad4, n4, cap4), (ad5, n5, cap5), (ad6, n6, cap6), ad3, cap3, its3, vs3, rfl, by rw [e3]; exact HN6.out, by have := HNE.out; omega, HL.out, by rw [e3]; exact OD3.out, B6.out⟩
end Go.Proofs.YtkhdcpejpffnkaaGreatDoor
namespace Go.Proofs.YtkhdcpejpffnkaaGreatDoor
set_option linter.unusedVariables false

theorem risesB_said : ∀ {l : List Nat}, risesB l = true → l.Pairwise (· < ·) := by
  intro l
  induction l with
  | nil => intro _; exact List.Pairwise.nil
  | cons a r ih =>
    intro h
    cases r with
    | nil => exact List.pairwise_singleton _ _
    | cons b t =>
      simp only [risesB, Bool.and_eq_true] at h
      have hab : a < b := by have := h.1; unfold Nat.blt at this; exact Nat.le_of_ble_eq_true this
      have hp := ih h.2
      refine List.Pairwise.cons (fun x hx => ?_) hp
      rcases List.mem_cons.1 hx with rfl | hx
      · exact hab
      · exact Nat.lt_trans hab (List.rel_of_pairwise_cons hp hx)
/-- what each becomes ends within so many lines, and is at most three points -/
def few3 (F : Nat) (l : List Ln) : Bool := l.all fun d => match bcm F l d.1 with
  | some r => Nat.ble r.length 3
  | none => false
theorem few3_said {F : Nat} {l : List Ln} (h : few3 F l = true) : ∀ d ∈ l, ∃ r, bcm F l d.1 = some r ∧ r.length ≤ 3 := fun d hd => by
  have h1 := List.all_eq_true.1 h d hd
  cases hb : bcm F l d.1 with
  | none => rw [hb] at h1; cases h1
  | some r => rw [hb] at h1; exact ⟨r, rfl, Nat.le_of_ble_eq_true h1⟩
theorem chL_rises : (chL.map (·.1)).Pairwise (· < ·) := risesB_said (by decide +kernel)
theorem chL_few : few3 3 (cnt false chL) = true := by decide +kernel
theorem chL_len : chL.length = 506 ∧ (cnt false chL).length = 306 := by decide +kernel
theorem chL_01D5 : bcm 3 (cnt false chL) 469 = some [85, 776, 772] := by decide +kernel
theorem chL_has : ((cnt false chL).map (·.1)).contains 469 = true := by decide +kernel
theorem chL_to : (chL.all fun d => Nat.ble d.2.1.length 3) = true := by decide +kernel
end Go.Proofs.YtkhdcpejpffnkaaGreatDoor
namespace Go.Proofs.YtkhdcpejpffnkaaGreatDoor
open Go.RowKit
set_option linter.unusedVariables false

/-- the given chart's decompositions in memory -/
structure GvD (w : World) (ad : Option Addr) (cap : Nat) (ds : List Dq) : Prop where
  lit : ds.map (fun x => dtE x.d) = chL
  at_ : DpIn w ad ds cap
  wds : ∀ x ∈ ds, U32B w x.g x.d.to
theorem GvD.below {w w' : World} {ad : Option Addr} {cap : Nat} {ds : List Dq} (h : GvD w ad cap ds) (hb : Below w.heap.size w w') : GvD w' ad cap ds :=
  ⟨h.lit, by
    rcases h.at_ with h | ⟨x, h1, h2⟩
    · exact Or.inl h
    · exact Or.inr ⟨x, h1, fun j u hj => cell_below hb (h2 j u hj) (cell_block_ltD (h2 j u hj))⟩, fun x hx => (h.wds x hx).below hb⟩
theorem GvD.len {w : World} {ad : Option Addr} {cap : Nat} {ds : List Dq} (h : GvD w ad cap ds) : ds.length = 506 := by
  have := congrArg List.length h.lit
  rw [List.length_map, chL_len.1] at this; exact this
theorem GvD.ris {w : World} {ad : Option Addr} {cap : Nat} {ds : List Dq} (h : GvD w ad cap ds) : RisD ds := by
  have h1 := chL_rises
  rw [← h.lit, List.map_map, List.pairwise_map] at h1
  exact fun i j hi hj hij => List.pairwise_iff_getElem.1 h1 i j hi hj hij
theorem GvD.to3 {w : World} {ad : Option Addr} {cap : Nat} {ds : List Dq} (h : GvD w ad cap ds) : ∀ x ∈ ds, x.d.to.length ≤ 3 := fun x hx => by
  have h1 := chL_to
  rw [← h.lit, List.all_map] at h1
  exact Nat.le_of_ble_eq_true (List.all_eq_true.1 h1 x hx)
theorem lns_cnt {ds : List Dq} {L : List Lt} (h : ds.map (fun x => dtE x.d) = L) (cp : Bool) : lnsD (ds.filter (okD cp)) = cnt cp L := by
  subst h
  unfold lnsD cnt
  rw [List.filter_map, List.map_map]
  rfl
theorem outD_gvd {w : World} {lo base cap : Nat} {ad : Option Addr} {its : List Dt} {vs : List Value} (o : OutD w lo base (.slice ad its.length cap) its vs) (hl : its.map dtE = chL) : ∃ ds : List Dq, ds.length = its.length ∧ GvD w ad cap ds := by
  obtain ⟨ds, e1, e2, e3⟩ := o.rows
  refine ⟨ds, by rw [← e1, List.length_map], ⟨by rw [← hl, ← e1, List.map_map]; rfl, ?_, fun x hx => (e3 x hx).2⟩⟩
  subst e2
  have hown := o.own
  have hdl : ds.length = its.length := by rw [← e1, List.length_map]
  obtain ⟨n, hn⟩ : ∃ n, its.length = n := ⟨_, rfl⟩
  rw [hn] at hown hdl
  rcases hown.2 with ⟨hx, h0⟩ | ⟨g', cap', cur, hx, hb, hg, h1, h2, h3, h4⟩
  · cases hx
    have : ds = [] := List.length_eq_zero_iff.1 (by omega)
    exact Or.inl ⟨rfl, this, rfl⟩
  · cases hx
    refine Or.inr ⟨_, rfl, fun j u hj => ?_⟩
    rw [add_plain]
    refine cell_of_heap hg ?_
    rw [← h4, List.getElem?_take] at hj
    split at hj
    · simpa using hj
    · cases hj
set_option maxHeartbeats 1600000 in
theorem tlines_any (g : Nat) (s0 s1 s2 s3 s4 s5 : Sl3) (w : World) (h : w.heap[g]? = some (.cells #[s0.v, s1.v, s2.v, s3.v, s4.v, s5.v] 90 (0, 0))) :
    Calls Tryz.prog 48 #[.pointer (some ⟨g, 0, none⟩)] w fun e w' => e = .returned (.agg #[s0.v, s1.v, s2.v, s3.v, s4.v, s5.v]) ∧ Below w.heap.size w w' := by
  obtain ⟨a0, n0, p0⟩ := s0
  obtain ⟨a1, n1, p1⟩ := s1
  obtain ⟨a2, n2, p2⟩ := s2
  obtain ⟨a3, n3, p3⟩ := s3
  obtain ⟨a4, n4, p4⟩ := s4
  obtain ⟨a5, n5, p5⟩ := s5
  simp only [Sl3.v] at h ⊢
  have hh := (heap_alloc_old w (.cells #[.slice none 0 0, .slice none 0 0, .slice none 0 0, .slice none 0 0, .slice none 0 0, .slice none 0 0] 90) g (lt_of_heap h)).trans h
  have HR := hid (heap_alloc_at w (.cells #[.slice none 0 0, .slice none 0 0, .slice none 0 0, .slice none 0 0, .slice none 0 0, .slice none 0 0] 90))
  have HB := hid (show Below w.heap.size w (w.alloc (.cells #[.slice none 0 0, .slice none 0 0, .slice none 0 0, .slice none 0 0, .slice none 0 0, .slice none 0 0] 90)) from (Below.refl _ _).alloc (Nat.le_refl _) _)
  go_enter Tryz.func48, Tryz.ntmps48
  go_upto_region 3 with fail
  generalize w.alloc (.cells #[.slice none 0 0, .slice none 0 0, .slice none 0 0, .slice none 0 0, .slice none 0 0, .slice none 0 0] 90) = w1 at *
  obtain ⟨N, hN⟩ : ∃ N, w.heap.size = N := ⟨_, rfl⟩
  rw [hN] at HR HB ⊢
  have k0 := cell_of_heap (i := 0) hh rfl
  have k1 := cell_of_heap (i := 1) hh rfl
  have k2 := cell_of_heap (i := 2) hh rfl
  have k3 := cell_of_heap (i := 3) hh rfl
  have k4 := cell_of_heap (i := 4) hh rfl
  have k5 := cell_of_heap (i := 5) hh rfl
  have c0 := cell_of_heap (i := 0) HR.out rfl
  have c1 := cell_of_heap (i := 1) HR.out rfl
  have c2 := cell_of_heap (i := 2) HR.out rfl
  have c3 := cell_of_heap (i := 3) HR.out rfl
  have c4 := cell_of_heap (i := 4) HR.out rfl
  have c5 := cell_of_heap (i := 5) HR.out rfl
  have z0 := frozen_of_heap (i := 0) HR.out
  have z1 := frozen_of_heap (i := 1) HR.out
  have z2 := frozen_of_heap (i := 2) HR.out
  have z3 := frozen_of_heap (i := 3) HR.out
  have z4 := frozen_of_heap (i := 4) HR.out
  have z5 := frozen_of_heap (i := 5) HR.out
  clear hh h
  go_wp2
  have hS : ((((((w1.setCell ⟨N, 0, none⟩ (.slice a0 n0 p0)).setCell ⟨N, 1, none⟩ (.slice a1 n1 p1)).setCell ⟨N, 2, none⟩ (.slice a2 n2 p2)).setCell ⟨N, 3, none⟩ (.slice a3 n3 p3)).setCell ⟨N, 4, none⟩ (.slice a4 n4 p4)).setCell ⟨N, 5, none⟩ (.slice a5 n5 p5)).heap[N]? = some (.cells #[.slice a0 n0 p0, .slice a1 n1 p1, .slice a2 n2 p2, .slice a3 n3 p3, .slice a4 n4 p4, .slice a5 n5 p5] 90 (0, 0)) := (tab_set (i := 5) (v := .slice a5 n5 p5) (tab_set (i := 4) (v := .slice a4 n4 p4) (tab_set (i := 3) (v := .slice a3 n3 p3) (tab_set (i := 2) (v := .slice a2 n2 p2) (tab_set (i := 1) (v := .slice a1 n1 p1) (tab_set (i := 0) (v := .slice a0 n0 p0) HR.out))))))
  have d0 := cell_of_heap (i := 0) hS rfl
  have d1 := cell_of_heap (i := 1) hS rfl
  have d2 := cell_of_heap (i := 2) hS rfl
  have d3 := cell_of_heap (i := 3) hS rfl
  have d4 := cell_of_heap (i := 4) hS rfl
  have d5 := cell_of_heap (i := 5) hS rfl
  have hb := blw_set6 (a := .slice a0 n0 p0) (b := .slice a1 n1 p1) (c := .slice a2 n2 p2) (d := .slice a3 n3 p3) (e := .slice a4 n4 p4) (f := .slice a5 n5 p5) (g := N) (w0 := w) (w := w1) (by rw [hN]; exact HB.out) (by omega)
  rw [hN] at hb
  exact bodyPost_ret (v := .agg #[.slice a0 n0 p0, .slice a1 n1 p1, .slice a2 n2 p2, .slice a3 n3 p3, .slice a4 n4 p4, .slice a5 n5 p5]) (by simp only [results, Tryz.results48]; simp [go_sem, d0, d1, d2, d3, d4, d5]) rfl ⟨rfl, by rw [hN]; exact hb⟩
/-- what the row of a line has -/
def rowK (K : List Ln) (d : Ln) : List Nat := (bcm 3 K d.1).getD []
/-- a table of what points become, a call's own -/
structure TabK (w : World) (lo : Nat) (K : List Ln) (kd rd : Option Addr) (kc rc : Nat) (vs : List Value) : Prop where
  keys : w.ownsRow lo 22 1 (.slice kd K.length kc) K.length (iV (K.map (·.1)))
  rows : w.ownsRow lo 33 1 (.slice rd K.length rc) K.length vs
  each : RowsI w vs (K.map (rowK K)) (Value.slice kd K.length kc).ownBlock
set_option maxRecDepth 4000 in
set_option maxHeartbeats 1600000 in
theorem fullM_any (g cap : Nat) (s0 s1 s3 s4 s5 : Sl3) (ad : Option Addr) (ds : List Dq) (cp : Bool) (w : World) (h : w.heap[g]? = some (.cells #[s0.v, s1.v, .slice ad ds.length cap, s3.v, s4.v, s5.v] 90 (0, 0))) (hd : GvD w ad cap ds) (hf : few3 3 (cnt cp chL) = true) :
    Calls Tryz.prog 10 #[.pointer (some ⟨g, 0, none⟩), .bool cp] w fun e w' => ∃ (kd rd : Option Addr) (kc rc : Nat) (vs : List Value), e = .returned (.agg #[.slice kd (cnt cp chL).length kc, .slice rd (cnt cp chL).length rc]) ∧ TabK w' w.heap.size (cnt cp chL) kd rd kc rc vs ∧ Below w.heap.size w w' := by
  have HLEN := hid hd.len
  have HK := hid (lns_cnt hd.lit cp)
  have HF := hid (few3_said hf)
  have HD := hid hd
  have HH := hid h
  have hE : ∀ x ∈ ds.filter (okD cp), ∃ r, bcm 3 (lnsD (ds.filter (okD cp))) x.d.p = some r ∧ r.length ≤ 1000000 := fun x hx => by
    rw [HK.out]
    have hm : (x.d.p, x.d.to) ∈ cnt cp chL := by rw [← HK.out]; exact List.mem_map.2 ⟨x, hx, rfl⟩
    obtain ⟨r, h1, h2⟩ := HF.out _ hm
    exact ⟨r, h1, by omega⟩
  have HE := hid hE
  have EL := hid (show (ds.filter (okD cp)).length = (cnt cp chL).length by rw [← HK.out]; unfold lnsD; rw [List.length_map])
  have EP := hid (show (ds.filter (okD cp)).map (·.d.p) = (cnt cp chL).map (·.1) by rw [← HK.out, lnsD_pts])
  have ER := hid (show (ds.filter (okD cp)).map (rowOf 3 (ds.filter (okD cp))) = (cnt cp chL).map (rowK (cnt cp chL)) by
    have e : (cnt cp chL).map (rowK (cnt cp chL)) = (lnsD (ds.filter (okD cp))).map (rowK (lnsD (ds.filter (okD cp)))) := by rw [HK.out]
    rw [e]
    conv => rhs; unfold lnsD
    rw [List.map_map]
    rfl)
  obtain ⟨K, hK⟩ : ∃ K, cnt cp chL = K := ⟨_, rfl⟩
  rw [hK] at EL EP ER ⊢
  obtain ⟨a0, n0, p0⟩ := s0
  obtain ⟨a1, n1, p1⟩ := s1
  obtain ⟨a3, n3, p3⟩ := s3
  obtain ⟨a4, n4, p4⟩ := s4
  obtain ⟨a5, n5, p5⟩ := s5
  clear h hd hE hf HF HK hK
  go_enter Tryz.func10, Tryz.ntmps10
  go_wp2_with fail
  have B1 := hid ((Below.refl w.heap.size w).alloc (Nat.le_refl _) (.cells #[.slice none 0 0, .slice none 0 0] 36))
  have HR := hid (heap_alloc_at w (.cells #[.slice none 0 0, .slice none 0 0] 36))
  have H1 := hid ((B1.out.block g (lt_of_heap HH.out)).trans HH.out)
  have D1 := hid (HD.out.below B1.out)
  generalize w.alloc (.cells #[.slice none 0 0, .slice none 0 0] 36) = w1 at *
  obtain ⟨N, hN⟩ : ∃ N, w.heap.size = N := ⟨_, rfl⟩
  have HN := hid hN
  rw [hN] at HR B1 ⊢
  clear hN
  refine (tlines_any g (a0, n0, p0) (a1, n1, p1) (ad, ds.length, cap) (a3, n3, p3) (a4, n4, p4) (a5, n5, p5) w1 H1.out).mono ?_
  rintro e w2 ⟨rfl, hB2⟩
  simp only [Sl3.v]
  have B2 := hid (show Below N w w2 from B1.out.trans (hB2.mono (by have := B1.out.size; have := HN.out; omega)))
  have R2 := hid ((hB2.block N (lt_of_heap HR.out)).trans HR.out)
  have D2 := hid (D1.out.below hB2)
  clear hB2 B1 HR H1 D1
  have hfd : ∀ w : World, (Instr.field 90 (.agg #[.slice a0 n0 p0, .slice a1 n1 p1, .slice ad ds.length cap, .slice a3 n3 p3, .slice a4 n4 p4, .slice a5 n5 p5]) 2).run Tryz.prog w = .ok (.slice ad ds.length cap) w := fun _ => by kernel_rfl
  go_wp2_with fail
  clear hfd
  refine (full_any 3 ad cap ds cp _ D2.out.at_ (by have := HLEN.out; omega) (by have := HLEN.out; omega) D2.out.ris (fun x hx => by have := D2.out.to3 x hx; omega) D2.out.wds HE.out).mono ?_
  rintro e w3 ⟨kd, rd, kc, rc, vs, rfl, h1, h2, h3, hB3⟩
  rw [EL.out, EP.out] at h1
  rw [EL.out] at h2
  rw [EL.out, ER.out] at h3
  rw [EL.out]
  have K1 := hid h1
  have K2 := hid h2
  have K3 := hid h3
  have B3 := hid (show Below N w w3 from B2.out.trans (hB3.mono (by have := B2.out.size; have := HN.out; omega)))
  have R3 := hid ((hB3.block N (lt_of_heap R2.out)).trans R2.out)
  have LT := hid (show N < w2.heap.size from lt_of_heap R2.out)
  clear h1 h2 h3 hB3 B2 R2 D2 HE EL EP ER HD HH
  have c0 := cell_of_heap (i := 0) R3.out rfl
  have c1 := cell_of_heap (i := 1) R3.out rfl
  have z0 := frozen_of_heap (i := 0) R3.out
  have z1 := frozen_of_heap (i := 1) R3.out
  obtain ⟨n, hn⟩ : ∃ n, K.length = n := ⟨_, rfl⟩
  have HNN := hid hn
  rw [hn] at K1 K2 K3 ⊢
  clear hn
  go_wp2
  have Q := hid (tb_put1 (v := .slice rd n rc) (tb_put0 (v := .slice kd n kc) R3.out))
  have d0 := cell_of_heap (i := 0) Q.out rfl
  have d1 := cell_of_heap (i := 1) Q.out rfl
  have HKe := hid (fun (q : Nat) (h : q ≠ N) => show (((w3.setCell ⟨N, 0, none⟩ (.slice kd n kc)).setCell ⟨N, 1, none⟩ (.slice rd n rc))).heap[q]? = w3.heap[q]? from (Below.heap_setCell _ _ _ _ h).trans (Below.heap_setCell _ _ _ _ h))
  refine bodyPost_ret (v := .agg #[.slice kd n kc, .slice rd n rc]) (by simp only [results, Tryz.results10]; simp [go_sem, d0, d1]) rfl ?_
  refine ⟨kd, rd, kc, rc, vs, by rw [HNN.out], ⟨?_, ?_, ?_⟩, ?_⟩
  · rw [HNN.out]
    exact owns_base (owns_of_blocks K1.out fun q hq => HKe.out q (by have := (K1.out.lt q hq).1; have := LT.out; omega)) (by have := LT.out; have := HN.out; omega)
  · rw [HNN.out]
    exact owns_base (owns_of_blocks K2.out fun q hq => HKe.out q (by have := (K2.out.lt q hq).1; have := LT.out; omega)) (by have := LT.out; have := HN.out; omega)
  · rw [HNN.out]
    exact K3.out.keep fun b cs h1 h2 => ⟨HKe.out b (heap_ne h1 R3.out (by decide)), h2⟩
  · rw [HN.out]
    exact (B3.out.setCell (p := ⟨N, 0, none⟩) (Nat.le_refl _) _).setCell (p := ⟨N, 1, none⟩) (Nat.le_refl _) _
end Go.Proofs.YtkhdcpejpffnkaaGreatDoor
