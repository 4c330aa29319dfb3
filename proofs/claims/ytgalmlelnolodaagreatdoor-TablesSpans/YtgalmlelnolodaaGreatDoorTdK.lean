/- The document's Line and Full of layer 8, over this seat's translation. Conditions: at most 10^6 lines, in memory, whose points rise; what a point becomes ends, and is at most 10^6 points. The document's Full of layer 8, over this seat's translation. Conditions: at most 10^6 lines, in memory, whose points rise, none of which becomes nothing; what a point becomes ends, and is at most 10^6 points. -/
import Derived.Test.YtgalmlelnolodaaGreatDoorTdH
import Derived.Deep.RegionHeld3
import Derived.Deep.CutRange
namespace Go.Proofs.YtgalmlelnolodaaGreatDoor
open Go.RowKit
set_option linter.unusedVariables false

/-- the given chart's decompositions, as a call leaves them -/
theorem outD_dpat {w : World} {lo base cap : Nat} {ad : Option Addr} {its : List Dt} {vs : List Value} (o : OutD w lo base (.slice ad its.length cap) its vs) (hl : its.map dtE = chL) : ∃ ds : List Dq, ds.length = its.length ∧ GvD w ad cap ds ∧ DpAt w ad ds := by
  obtain ⟨ds, e1, e2, e3⟩ := o.rows
  have hdl : ds.length = its.length := by rw [← e1, List.length_map]
  have hown := o.own
  rw [← hdl, e2] at hown
  obtain ⟨ds2, f1, f2⟩ := outD_gvd o hl
  refine ⟨ds, hdl, ⟨by rw [← hl, ← e1, List.map_map]; rfl, ?_, fun x hx => (e3 x hx).2⟩, dpAt_own hown⟩
  obtain ⟨g, tl, h1, _, h2, _⟩ := blkD_of hown (by have := f2.len; omega) rfl
  refine Or.inr ⟨_, h1, fun j u hj => ?_⟩
  rw [add_plain]
  refine cell_of_heap h2 ?_
  rw [List.getElem?_toArray, List.getElem?_append_left (List.getElem?_eq_some_iff.1 hj).1]
  exact hj
/-- what Line answers -/
def LnR (ds : List Dq) (cp : Bool) (p : Nat) (e : Ending) : Prop := (∃ i, ∃ hi : i < ds.length, ds[i].d.p = p ∧ okD cp ds[i] = true ∧ e = .returned (.int .i64 (i : Int))) ∨ ((∀ x ∈ ds, okD cp x = true → x.d.p ≠ p) ∧ e = .returned (.int .i64 (-1)))
set_option maxHeartbeats 3200000 in
theorem line_any (s0 s1 s3 s4 s5 : Sl3) (ad : Option Addr) (cap p : Nat) (ds : List Dq) (cp : Bool) (w : World) (h : DpAt w ad ds) (hn : ds.length ≤ 1000000) :
    Calls Tryz.prog 18 #[.agg #[s0.v, s1.v, .slice ad ds.length cap, s3.v, s4.v, s5.v], .int .u32 (p : Int), .bool cp] w fun e w' => LnR ds cp p e ∧ Below w.heap.size w w' := by
  obtain ⟨a0, n0, p0⟩ := s0
  obtain ⟨a1, n1, p1⟩ := s1
  obtain ⟨a3, n3, p3⟩ := s3
  obtain ⟨a4, n4, p4⟩ := s4
  obtain ⟨a5, n5, p5⟩ := s5
  simp only [Sl3.v]
  have hBA := (Below.refl w.heap.size w).alloc (Nat.le_refl _) (.cells #[.slice a0 n0 p0, .slice a1 n1 p1, .slice ad ds.length cap, .slice a3 n3 p3, .slice a4 n4 p4, .slice a5 n5 p5] 30)
  have HD := hid (h.below hBA)
  have B1 := hid hBA
  have HA := hid (heap_alloc_at w (.cells #[.slice a0 n0 p0, .slice a1 n1 p1, .slice ad ds.length cap, .slice a3 n3 p3, .slice a4 n4 p4, .slice a5 n5 p5] 30))
  clear h hBA
  go_enter Tryz.func18, Tryz.ntmps18
  go_wp2_with fail
  generalize w.alloc (.cells #[.slice a0 n0 p0, .slice a1 n1 p1, .slice ad ds.length cap, .slice a3 n3 p3, .slice a4 n4 p4, .slice a5 n5 p5] 30) = w1 at *
  obtain ⟨N, hN⟩ : ∃ N, w.heap.size = N := ⟨_, rfl⟩
  have HN := hid hN
  rw [hN] at HA B1 ⊢
  clear hN
  have kd := cell_of_heap (i := 2) HA.out rfl
  go_loopw [7] (fun c wr => ∃ i : Nat, i ≤ ds.length ∧ c = .int .i64 (i : Int) ∧ (∀ j (hj : j < ds.length), j < i → okD cp ds[j] = true → ds[j].d.p ≠ p) ∧ wr = w1) (fun c _ => ds.length - (intOf c).toNat)
  case atStart => exact ⟨0, Nat.zero_le _, rfl, fun j _ h => absurd h (Nat.not_lt_zero j), rfl⟩
  case round =>
    obtain ⟨i, hi, rfl, hno, rfl⟩ := hrel
    have HNo := hid hno
    clear hno
    by_cases hlt : i < ds.length
    · obtain ⟨g, rfl, c0, c1, c2, c3⟩ := HD.out i hlt
      have HY := hid (fun (e1 : ds[i].d.p = p) (e2 : okD cp ds[i] = true) => show LnR ds cp p (.returned (.int .i64 (i : Int))) from Or.inl ⟨i, hlt, e1, e2, rfl⟩)
      have HS := hid (fun (e : okD cp ds[i] = true → ds[i].d.p ≠ p) => show ∀ j (hj : j < ds.length), j < i + 1 → okD cp ds[j] = true → ds[j].d.p ≠ p from fun j hj h => by
        by_cases ej : j = i
        · subst ej; exact e
        · exact HNo.out j hj (by omega))
      obtain ⟨x, hx⟩ : ∃ x, ds[i] = x := ⟨_, rfl⟩
      rw [hx] at c0 c1 c2 c3 HY HS
      have HOK := hid (show okD cp x = !(x.d.c && !cp) from rfl)
      obtain ⟨q, hq⟩ : ∃ q, x.d.p = q := ⟨_, rfl⟩
      obtain ⟨bc, hbc⟩ : ∃ bc, x.d.c = bc := ⟨_, rfl⟩
      rw [hq] at c0 HY HS
      rw [hbc] at c2 HOK
      have hib : i < 1000000 := by omega
      clear hx hq hbc hi c1 c3
      by_cases hqp : q = p
      · subst hqp
        cases cp with
        | true =>
          have HY2 := hid (HY.out rfl (by rw [HOK.out]; simp))
          clear HY HS HOK
          go_wp2
          go_ret
          exact ⟨HY2.out, by rw [HN.out]; exact B1.out⟩
        | false =>
          cases bc with
          | true =>
            have HS2 := hid (HS.out (fun e => by rw [HOK.out] at e; cases e))
            clear HY HS HOK
            go_wp2
            go_roundw
            case rel => exact ⟨i + 1, by omega, by go_num, HS2.out, (by first | rfl | trivial)⟩
            case measure => simp [intOf]; omega
          | false =>
            have HY2 := hid (HY.out rfl (by rw [HOK.out]; rfl))
            clear HY HS HOK
            go_wp2
            go_ret
            exact ⟨HY2.out, by rw [HN.out]; exact B1.out⟩
      · have hqb : ((q : Int) == (p : Int)) = false := by simp; omega
        have HS2 := hid (HS.out (fun _ => hqp))
        clear HY HS HOK c2
        go_wp2
        go_roundw
        case rel => exact ⟨i + 1, by omega, by go_num, HS2.out, (by first | rfl | trivial)⟩
        case measure => simp [intOf]; omega
    · have HE := hid (show LnR ds cp p (.returned (.int .i64 (-1))) from Or.inr ⟨fun x hx => by
        obtain ⟨j, hj, rfl⟩ := List.getElem_of_mem hx
        exact HNo.out j hj (by omega), rfl⟩)
      go_wp2
      go_ret
      exact ⟨HE.out, by rw [HN.out]; exact B1.out⟩
end Go.Proofs.YtgalmlelnolodaaGreatDoor
namespace Go.Proofs.YtgalmlelnolodaaGreatDoor
open Go.RowKit
set_option linter.unusedVariables false

theorem bcm_pos {l : List Ln} (hl : ∀ d ∈ l, d.2 ≠ []) : ∀ (f p : Nat) (r : List Nat), bcm f l p = some r → r ≠ [] := by
  intro f
  induction f with
  | zero => intro p r h; cases h
  | succ f ih =>
    intro p r h
    unfold bcm at h
    cases hd : lnOf l p with
    | none => rw [hd] at h; cases h; simp
    | some d =>
      rw [hd] at h
      simp only at h
      cases hm : d.2.mapM (bcm f l) with
      | none => rw [hm] at h; cases h
      | some rs =>
        rw [hm] at h
        obtain rfl : rs.flatten = r := by simpa using h
        have hmem : d ∈ l := List.mem_of_find?_eq_some hd
        have hne := hl d hmem
        have hlen := mapM_len _ hm
        have he := mapM_each _ _ _ hm
        cases hd2 : d.2 with
        | nil => exact absurd hd2 hne
        | cons a t =>
          have h0 : 0 < d.2.length := by rw [hd2]; simp
          have h1 := he 0 h0
          rw [List.getElem?_eq_getElem (by omega : 0 < rs.length)] at h1
          have h2 := ih _ _ h1
          intro h3
          rw [List.flatten_eq_nil_iff] at h3
          exact h2 (h3 _ (List.getElem_mem _))
end Go.Proofs.YtgalmlelnolodaaGreatDoor
