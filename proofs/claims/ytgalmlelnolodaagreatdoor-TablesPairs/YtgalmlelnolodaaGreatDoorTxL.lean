/- slices.Clone of spans with numbers, and of runs; package tables' Classes, Lowers and Widths, and the document's Class of layer 8, over this seat's translation. Conditions: rows in memory, of at most a thousand million. Package tables' Pairs, and the document's Pair of layer 8, over this seat's translation. Conditions: at most 10^6 lines, in memory. The law TablesPairs, over this seat's translation: its walk. Conditions: what the library's variables hold is some number, some errors. -/
import Derived.Test.YtgalmlelnolodaaGreatDoorTdH
import Derived.Test.YtgalmlelnolodaaGreatDoorTxA
import Derived.Test.YtgalmlelnolodaaGreatDoorTdK
import Derived.Test.YtgalmlelnolodaaGreatDoorTdI
import Derived.Test.YtgalmlelnolodaaGreatDoorTxR
import Derived.Test.YtgalmlelnolodaaGreatDoorTbW
namespace Go.Proofs.YtgalmlelnolodaaGreatDoor
open Go.RowKit
set_option linter.unusedVariables false

/-- a span with a word, as an item -/
def rnIt (r : Rn) : It := ⟨r.s.f, r.s.l, [.int .u32 (r.t : Int)]⟩
theorem rn_its : ∀ {its : List It}, (∀ i ∈ its, i.a ≤ 1114111 ∧ i.b ≤ 1114111 ∧ ∃ n : Nat, n ≤ 1114111 ∧ i.r = [.int .u32 (n : Int)]) → ∃ l : List Rn, its = l.map rnIt ∧ ∀ r ∈ l, r.ok := by
  intro its
  induction its with
  | nil => intro _; exact ⟨[], rfl, fun r hr => by cases hr⟩
  | cons i t ih =>
    intro h
    obtain ⟨l, h1, h2⟩ := ih (fun x hx => h x (List.mem_cons_of_mem _ hx))
    obtain ⟨a, b, n, hn, hr⟩ := h i List.mem_cons_self
    refine ⟨⟨⟨i.a, i.b⟩, n⟩ :: l, ?_, fun r hr => ?_⟩
    · rw [List.map_cons, ← h1]
      congr 1
      unfold rnIt
      rw [← hr]
    · rcases List.mem_cons.1 hr with rfl | hr
      · exact ⟨⟨by show i.a < _; omega, by show i.b < _; omega⟩, by show n < _; omega⟩
      · exact h2 r hr
/-- as cells -/
abbrev rnC (l : List Rn) : List Value := rowC rgC (l.map rnIt)
theorem rnIt_size (l : List Rn) : ∀ i ∈ l.map rnIt, (rgC i).size = 3 := fun i hi => by
  obtain ⟨r, _, rfl⟩ := List.mem_map.1 hi
  rfl
theorem rnC_len (l : List Rn) : (rnC l).length = l.length * 3 := by rw [rowC_len (rnIt_size l), List.length_map]
theorem rnC_at {l : List Rn} {k : Nat} (h : k < l.length) : (rnC l)[k * 3]? = some (.int .u32 (l[k].s.f : Int)) ∧ (rnC l)[k * 3 + 1]? = some (.int .u32 (l[k].s.l : Int)) ∧ (rnC l)[k * 3 + 2]? = some (.int .u32 (l[k].t : Int)) := by
  have hk : k < (l.map rnIt).length := by rw [List.length_map]; exact h
  have e : (l.map rnIt)[k] = rnIt l[k] := by rw [List.getElem_map]
  have h0 := rowC_at (rnIt_size l) hk (show 0 < 3 by omega)
  have h1 := rowC_at (rnIt_size l) hk (show 1 < 3 by omega)
  have h2 := rowC_at (rnIt_size l) hk (show 2 < 3 by omega)
  rw [e] at h0 h1 h2
  exact ⟨h0, h1, h2⟩
theorem rnC_one (l : List Rn) : ∀ u ∈ rnC l, u.oneCell' = true := by
  induction l with
  | nil => intro u hu; cases hu
  | cons r t ih =>
    intro u hu
    have e : rnC (r :: t) = [.int .u32 (r.s.f : Int), .int .u32 (r.s.l : Int), .int .u32 (r.t : Int)] ++ rnC t := rfl
    rw [e] at hu
    rcases List.mem_append.1 hu with hu | hu
    · simp only [List.mem_cons, List.not_mem_nil, or_false] at hu
      rcases hu with rfl | rfl | rfl <;> rfl
    · exact ih u hu
theorem rns_cells {w : World} {g : Nat} {l : List Rn} (hl : ∀ r ∈ l, r.ok) (h : ∀ j u, (rnC l)[j]? = some u → w.cell? ⟨g, j, none⟩ = some u) : RnsAt w (some ⟨g, 0, none⟩) l :=
  ⟨hl, fun k hk => by
    obtain ⟨h0, h1, h2⟩ := rnC_at hk
    refine ⟨_, rfl, ?_, ?_, ?_⟩
    · rw [add_plain]; exact h _ _ h0
    · rw [add_plain]; exact h _ _ h1
    · rw [add_plain]; exact h _ _ h2⟩
/-- such a row in memory -/
structure RnM (w : World) (l : List Rn) (s : Sl3) : Prop where
  len : s.2.1 = l.length
  ok : ∀ r ∈ l, r.ok
  at_ : (s.1 = none ∧ l = [] ∧ s.2.2 = 0) ∨ ∃ g, s.1 = some ⟨g, 0, none⟩ ∧ ∀ j u, (rnC l)[j]? = some u → w.cell? ⟨g, j, none⟩ = some u
theorem RnM.below {w w' : World} {l : List Rn} {s : Sl3} (h : RnM w l s) (hb : Below w.heap.size w w') : RnM w' l s :=
  ⟨h.len, h.ok, by
    rcases h.at_ with h | ⟨g, h1, h3⟩
    · exact Or.inl h
    · exact Or.inr ⟨g, h1, fun j u hj => cellX hb (h3 j u hj)⟩⟩
theorem RnM.rns {w : World} {l : List Rn} {s : Sl3} (h : RnM w l s) : RnsAt w s.1 l := by
  rcases h.at_ with ⟨_, h2, _⟩ | ⟨g, h1, h3⟩
  · subst h2
    exact ⟨fun r hr => (by cases hr), fun k hk => absurd hk (Nat.not_lt_zero k)⟩
  · rw [h1]
    exact rns_cells h.ok h3
theorem RnM.of {w : World} {lo : Nat} {l : List Rn} {s : Sl3} (h : RwI w lo rgC (l.map rnIt) s) (hl : ∀ r ∈ l, r.ok) : RnM w l s :=
  ⟨by rw [h.len, List.length_map], hl, by
    rcases h.at_ with ⟨h1, h2, h3⟩ | ⟨g, h1, _, h3⟩
    · exact Or.inl ⟨h1, List.map_eq_nil_iff.1 h2, h3⟩
    · exact Or.inr ⟨g, h1, h3⟩⟩
theorem rns_own {w : World} {base e cap : Nat} {ad : Option Addr} {l : List Rn} (h : w.ownsRow base e 3 (.slice ad l.length cap) l.length (rnC l)) (hl : ∀ r ∈ l, r.ok) : RnsAt w ad l := by
  have h2 := RwI.of (C := rgC) (its := l.map rnIt) (base := base) (e := e) (size := 3) (ad := ad) (cap := cap) (w := w) (by rw [List.length_map]; exact h)
  exact (RnM.of h2 hl).rns
set_option maxHeartbeats 800000 in
theorem cloneW_any (s : Sl3) (l : List Rn) (w : World) (h : RnM w l s) (hn : l.length ≤ 1000000000) :
    Calls Tryz.prog 44 #[s.v] w fun e w' => ∃ ad' cap', e = .returned (.slice ad' l.length cap') ∧ RnsAt w' ad' l ∧ Below w.heap.size w w' := by
  have qT : ∀ (w : World) (a : Option Addr) (n c n' c' : Nat), (binOp .eql 25 (.slice a n c) (.slice none n' c')).run Tryz.prog w = .ok (.bool a.isNone) w := fun w a n c n' c' => Lib.run_eql_slice_nil w _ _ a n c n' c' Tryz.underlying25
  obtain ⟨ad, n, cap⟩ := s
  have hlen : n = l.length := h.len
  subst hlen
  have hok := hid h.ok
  simp only [Sl3.v]
  rcases h.at_ with ⟨h1, rfl, h3⟩ | ⟨g, h1, hx⟩
  · simp only at h1 h3
    subst h1 h3
    go_enter Tryz.func44, Tryz.ntmps44
    go_wp2
    go_ret
    exact ⟨none, 0, rfl, ⟨fun r hr => (by cases hr), fun k hk => absurd hk (Nat.not_lt_zero k)⟩, Below.refl _ _⟩
  · simp only at h1
    subst h1
    obtain ⟨i0, hi, hz0, hz1, hz2⟩ := info_parts infoWeight
    have HC0 : Hid ((w.alloc (.cells #[] 104)).ownsRow w.heap.size 104 3 (.slice (some ⟨w.heap.size, 0, none⟩) 0 0) 0 []) := World.ownsRow_made w #[] 0 (Nat.le_refl _) (by decide) rfl
    have HC1 : Hid (∀ j u, (rnC l)[j]? = some u → (w.alloc (.cells #[] 104)).cell? ((⟨g, 0, none⟩ : Addr).add j) = some u) := fun j u hj => by
      rw [add_plain]
      exact cellX ((Below.refl _ w).alloc (Nat.le_refl _) _) (hx j u hj)
    have hlen := rnC_len l
    have h1 := rnC_one l
    have HR := hid (fun (w' : World) (ad : Option Addr) (cap : Nat) (h : w'.ownsRow w.heap.size 104 3 (.slice ad l.length cap) l.length (rnC l)) => rns_own h hok.out)
    clear hx h
    generalize rnC l = xs at *
    generalize l.length = n at *
    go_enter Tryz.func44, Tryz.ntmps44
    go_wp2_with (at_builtin; refine wpList_append_own _ rfl (.tmp 5) (.tmp 6) 25 rfl w.heap.size 104 i0 _ 3 12 Tryz.underlying25 hi hz0 hz1 hz2 rfl (by decide) _ 0 [] rfl HC0.out ⟨g, 0, none⟩ n cap xs rfl hlen HC1.out h1 (by unfold maxLen; omega) (by omega) (by simp) ?_)
    intro v' w1 hown hgrow _
    obtain ⟨ad', cap', rfl⟩ := owns_shape hown
    have HO := hid (HR.out _ _ _ hown)
    clear h1 hi hz0 hz1 hz2 qT hown
    go_wp2
    go_ret
    exact ⟨_, _, rfl, HO.out, ((Below.refl _ _).alloc (Nat.le_refl _) _).grown hgrow (by simp) (by intro k hk; simp [Value.ownBlock] at hk; omega)⟩
set_option maxHeartbeats 800000 in
theorem cloneR_any (s : Sl3) (l : List Rn) (w : World) (h : RnM w l s) (hn : l.length ≤ 1000000000) :
    Calls Tryz.prog 43 #[s.v] w fun e w' => ∃ ad' cap', e = .returned (.slice ad' l.length cap') ∧ RnsAt w' ad' l ∧ Below w.heap.size w w' := by
  have qT : ∀ (w : World) (a : Option Addr) (n c n' c' : Nat), (binOp .eql 27 (.slice a n c) (.slice none n' c')).run Tryz.prog w = .ok (.bool a.isNone) w := fun w a n c n' c' => Lib.run_eql_slice_nil w _ _ a n c n' c' Tryz.underlying27
  obtain ⟨ad, n, cap⟩ := s
  have hlen : n = l.length := h.len
  subst hlen
  have hok := hid h.ok
  simp only [Sl3.v]
  rcases h.at_ with ⟨h1, rfl, h3⟩ | ⟨g, h1, hx⟩
  · simp only at h1 h3
    subst h1 h3
    go_enter Tryz.func43, Tryz.ntmps43
    go_wp2
    go_ret
    exact ⟨none, 0, rfl, ⟨fun r hr => (by cases hr), fun k hk => absurd hk (Nat.not_lt_zero k)⟩, Below.refl _ _⟩
  · simp only at h1
    subst h1
    obtain ⟨i0, hi, hz0, hz1, hz2⟩ := info_parts infoRun
    have HC0 : Hid ((w.alloc (.cells #[] 101)).ownsRow w.heap.size 101 3 (.slice (some ⟨w.heap.size, 0, none⟩) 0 0) 0 []) := World.ownsRow_made w #[] 0 (Nat.le_refl _) (by decide) rfl
    have HC1 : Hid (∀ j u, (rnC l)[j]? = some u → (w.alloc (.cells #[] 101)).cell? ((⟨g, 0, none⟩ : Addr).add j) = some u) := fun j u hj => by
      rw [add_plain]
      exact cellX ((Below.refl _ w).alloc (Nat.le_refl _) _) (hx j u hj)
    have hlen := rnC_len l
    have h1 := rnC_one l
    have HR := hid (fun (w' : World) (ad : Option Addr) (cap : Nat) (h : w'.ownsRow w.heap.size 101 3 (.slice ad l.length cap) l.length (rnC l)) => rns_own h hok.out)
    clear hx h
    generalize rnC l = xs at *
    generalize l.length = n at *
    go_enter Tryz.func43, Tryz.ntmps43
    go_wp2_with (at_builtin; refine wpList_append_own _ rfl (.tmp 5) (.tmp 6) 27 rfl w.heap.size 101 i0 _ 3 12 Tryz.underlying27 hi hz0 hz1 hz2 rfl (by decide) _ 0 [] rfl HC0.out ⟨g, 0, none⟩ n cap xs rfl hlen HC1.out h1 (by unfold maxLen; omega) (by omega) (by simp) ?_)
    intro v' w1 hown hgrow _
    obtain ⟨ad', cap', rfl⟩ := owns_shape hown
    have HO := hid (HR.out _ _ _ hown)
    clear h1 hi hz0 hz1 hz2 qT hown
    go_wp2
    go_ret
    exact ⟨_, _, rfl, HO.out, ((Below.refl _ _).alloc (Nat.le_refl _) _).grown hgrow (by simp) (by intro k hk; simp [Value.ownBlock] at hk; omega)⟩
set_option maxHeartbeats 800000 in
theorem mClasses_any (g : Nat) (s0 s1 s2 s3 s4 s5 : Sl3) (l : List Rn) (w : World) (h : w.heap[g]? = some (.cells #[s0.v, s1.v, s2.v, s3.v, s4.v, s5.v] 84 (0, 0))) (hs : RnM w l s1) (hn : l.length ≤ 1000000000) :
    Calls Tryz.prog 15 #[.pointer (some ⟨g, 0, none⟩)] w fun e w' => ∃ ad cap, e = .returned (.slice ad l.length cap) ∧ RnsAt w' ad l ∧ Below w.heap.size w w' := by
  have HS := hid hs
  have HL := hid (tlines_any g s0 s1 s2 s3 s4 s5 w h)
  obtain ⟨a0, n0, p0⟩ := s0
  obtain ⟨a1, n1, p1⟩ := s1
  obtain ⟨a2, n2, p2⟩ := s2
  obtain ⟨a3, n3, p3⟩ := s3
  obtain ⟨a4, n4, p4⟩ := s4
  obtain ⟨a5, n5, p5⟩ := s5
  simp only [Sl3.v] at HL
  have hfd : ∀ w : World, (Instr.field 84 (.agg #[.slice a0 n0 p0, .slice a1 n1 p1, .slice a2 n2 p2, .slice a3 n3 p3, .slice a4 n4 p4, .slice a5 n5 p5]) 1).run Tryz.prog w = .ok (.slice a1 n1 p1) w := fun _ => by kernel_rfl
  clear h hs
  go_enter Tryz.func15, Tryz.ntmps15
  go_wp2_with fail
  refine HL.out.mono ?_
  rintro e w1 ⟨rfl, hb⟩
  have B1 := hid hb
  have S1 := hid (HS.out.below hb)
  clear hb HS HL
  go_wp2_with fail
  clear hfd
  refine (cloneW_any (a1, n1, p1) l _ S1.out hn).mono ?_
  rintro e w2 ⟨ad, cap, rfl, hr, hb⟩
  have B2 := hid (B1.out.trans (hb.mono B1.out.size))
  have R2 := hid hr
  clear hr hb B1 S1
  go_wp2
  go_ret
  exact ⟨ad, cap, rfl, R2.out, B2.out⟩
set_option maxHeartbeats 800000 in
theorem mLowers_any (g : Nat) (s0 s1 s2 s3 s4 s5 : Sl3) (l : List Rn) (w : World) (h : w.heap[g]? = some (.cells #[s0.v, s1.v, s2.v, s3.v, s4.v, s5.v] 84 (0, 0))) (hs : RnM w l s3) (hn : l.length ≤ 1000000000) :
    Calls Tryz.prog 12 #[.pointer (some ⟨g, 0, none⟩)] w fun e w' => ∃ ad cap, e = .returned (.slice ad l.length cap) ∧ RnsAt w' ad l ∧ Below w.heap.size w w' := by
  have HS := hid hs
  have HL := hid (tlines_any g s0 s1 s2 s3 s4 s5 w h)
  obtain ⟨a0, n0, p0⟩ := s0
  obtain ⟨a1, n1, p1⟩ := s1
  obtain ⟨a2, n2, p2⟩ := s2
  obtain ⟨a3, n3, p3⟩ := s3
  obtain ⟨a4, n4, p4⟩ := s4
  obtain ⟨a5, n5, p5⟩ := s5
  simp only [Sl3.v] at HL
  have hfd : ∀ w : World, (Instr.field 84 (.agg #[.slice a0 n0 p0, .slice a1 n1 p1, .slice a2 n2 p2, .slice a3 n3 p3, .slice a4 n4 p4, .slice a5 n5 p5]) 3).run Tryz.prog w = .ok (.slice a3 n3 p3) w := fun _ => by kernel_rfl
  clear h hs
  go_enter Tryz.func12, Tryz.ntmps12
  go_wp2_with fail
  refine HL.out.mono ?_
  rintro e w1 ⟨rfl, hb⟩
  have B1 := hid hb
  have S1 := hid (HS.out.below hb)
  clear hb HS HL
  go_wp2_with fail
  clear hfd
  refine (cloneR_any (a3, n3, p3) l _ S1.out hn).mono ?_
  rintro e w2 ⟨ad, cap, rfl, hr, hb⟩
  have B2 := hid (B1.out.trans (hb.mono B1.out.size))
  have R2 := hid hr
  clear hr hb B1 S1
  go_wp2
  go_ret
  exact ⟨ad, cap, rfl, R2.out, B2.out⟩
set_option maxHeartbeats 800000 in
theorem mWidths_any (g : Nat) (s0 s1 s2 s3 s4 s5 : Sl3) (l : List Rn) (w : World) (h : w.heap[g]? = some (.cells #[s0.v, s1.v, s2.v, s3.v, s4.v, s5.v] 84 (0, 0))) (hs : RnM w l s4) (hn : l.length ≤ 1000000000) :
    Calls Tryz.prog 13 #[.pointer (some ⟨g, 0, none⟩)] w fun e w' => ∃ ad cap, e = .returned (.slice ad l.length cap) ∧ RnsAt w' ad l ∧ Below w.heap.size w w' := by
  have HS := hid hs
  have HL := hid (tlines_any g s0 s1 s2 s3 s4 s5 w h)
  obtain ⟨a0, n0, p0⟩ := s0
  obtain ⟨a1, n1, p1⟩ := s1
  obtain ⟨a2, n2, p2⟩ := s2
  obtain ⟨a3, n3, p3⟩ := s3
  obtain ⟨a4, n4, p4⟩ := s4
  obtain ⟨a5, n5, p5⟩ := s5
  simp only [Sl3.v] at HL
  have hfd : ∀ w : World, (Instr.field 84 (.agg #[.slice a0 n0 p0, .slice a1 n1 p1, .slice a2 n2 p2, .slice a3 n3 p3, .slice a4 n4 p4, .slice a5 n5 p5]) 4).run Tryz.prog w = .ok (.slice a4 n4 p4) w := fun _ => by kernel_rfl
  clear h hs
  go_enter Tryz.func13, Tryz.ntmps13
  go_wp2_with fail
  refine HL.out.mono ?_
  rintro e w1 ⟨rfl, hb⟩
  have B1 := hid hb
  have S1 := hid (HS.out.below hb)
  clear hb HS HL
  go_wp2_with fail
  clear hfd
  refine (cloneR_any (a4, n4, p4) l _ S1.out hn).mono ?_
  rintro e w2 ⟨ad, cap, rfl, hr, hb⟩
  have B2 := hid (B1.out.trans (hb.mono B1.out.size))
  have R2 := hid hr
  clear hr hb B1 S1
  go_wp2
  go_ret
  exact ⟨ad, cap, rfl, R2.out, B2.out⟩
theorem rmapM_any (x : Nat) (s : Sl3) (l : List Rn) (w : World) (h : RnM w l s) (hn : l.length ≤ 1000000000) :
    Calls Tryz.prog 11 #[s.v, .int .u32 (x : Int)] w fun e w' => e = .returned (.tuple #[.int .u32 (mpT l x l.length : Nat), .bool (mpM l x l.length)]) ∧ Below w.heap.size w w' := by
  obtain ⟨a, n, p⟩ := s
  have e : n = l.length := h.len
  subst e
  exact rmap_any x p a l w h.rns hn
set_option maxHeartbeats 1600000 in
theorem rclassM_any (s0 s1 s2 s3 s4 s5 : Sl3) (l : List Rn) (x : Nat) (w : World) (hs : RnM w l s1) (hn : l.length ≤ 1000000000) :
    Calls Tryz.prog 16 #[.agg #[s0.v, s1.v, s2.v, s3.v, s4.v, s5.v], .int .u32 (x : Int)] w fun e w' => e = .returned (.int .u32 (clT l x l.length : Nat)) ∧ Below w.heap.size w w' := by
  have hle := hs.len
  have HR0 := hs.rns
  obtain ⟨a0, n0, p0⟩ := s0
  obtain ⟨a1, n1, p1⟩ := s1
  obtain ⟨a2, n2, p2⟩ := s2
  obtain ⟨a3, n3, p3⟩ := s3
  obtain ⟨a4, n4, p4⟩ := s4
  obtain ⟨a5, n5, p5⟩ := s5
  simp only [Sl3.v] at hle HR0 ⊢
  subst hle
  have hBA := (Below.refl w.heap.size w).alloc (Nat.le_refl _) (.cells #[.slice a0 n0 p0, .slice a1 l.length p1, .slice a2 n2 p2, .slice a3 n3 p3, .slice a4 n4 p4, .slice a5 n5 p5] 30)
  have HR := hid (HR0.below hBA)
  have B1 := hid hBA
  have HA := hid (heap_alloc_at w (.cells #[.slice a0 n0 p0, .slice a1 l.length p1, .slice a2 n2 p2, .slice a3 n3 p3, .slice a4 n4 p4, .slice a5 n5 p5] 30))
  clear hs hBA HR0
  go_enter Tryz.func16, Tryz.ntmps16
  go_wp2_with fail
  refine (rclass_any x p1 a1 l _ HR.out hn).mono ?_
  rintro e w2 ⟨rfl, hb⟩
  have B2 := hid (B1.out.trans (hb.mono B1.out.size))
  clear hb
  go_wp2
  go_ret
  exact ⟨rfl, B2.out⟩
end Go.Proofs.YtgalmlelnolodaaGreatDoor
namespace Go.Proofs.YtgalmlelnolodaaGreatDoor
open Go.RowKit
set_option linter.unusedVariables false

/-- the pair of a line -/
def prOf (x : Dt) : Option Pr := match x.a, x.c, x.to with
  | false, false, [p, q] => some ⟨p, q, x.p⟩
  | _, _, _ => none
def prsD (ds : List Dq) : List Pr := ds.filterMap fun x => prOf x.d
theorem prsD_succ (ds : List Dq) {k : Nat} (h : k < ds.length) : prsD (ds.take (k + 1)) = prsD (ds.take k) ++ (prOf ds[k].d).toList := by
  unfold prsD
  rw [List.take_succ_eq_append_getElem h, List.filterMap_append]
  congr 1
theorem prsD_len (ds : List Dq) (k : Nat) : (prsD (ds.take k)).length ≤ k := by
  unfold prsD
  exact Nat.le_trans (List.length_filterMap_le _ _) (by rw [List.length_take]; omega)
theorem prOf_a {x : Dt} (h : x.a = true) : prOf x = none := by unfold prOf; rw [h]
theorem prOf_c {x : Dt} (h : x.c = true) : prOf x = none := by unfold prOf; rw [h]; cases x.a <;> rfl
theorem prOf_n {x : Dt} (h : x.to.length ≠ 2) : prOf x = none := by
  unfold prOf
  split
  · rename_i p q h1 h2 h3
    rw [h3] at h; exact absurd rfl h
  · rfl
theorem prOf_y {x : Dt} {p q : Nat} (ha : x.a = false) (hc : x.c = false) (ht : x.to = [p, q]) : prOf x = some ⟨p, q, x.p⟩ := by unfold prOf; rw [ha, hc, ht]
theorem two_of {l : List Nat} (h : l.length = 2) : ∃ p q, l = [p, q] := by
  match l, h with
  | [p, q], _ => exact ⟨p, q, rfl⟩
/-- pairs as cells -/
def prC : List Pr → List Value
  | [] => []
  | r :: t => .int .u32 (r.a : Int) :: .int .u32 (r.b : Int) :: .int .u32 (r.t : Int) :: prC t
theorem prC_app (l r : List Pr) : prC (l ++ r) = prC l ++ prC r := by
  induction l with
  | nil => rfl
  | cons s t ih => simp [prC, ih]
theorem prC_len (l : List Pr) : (prC l).length = l.length * 3 := by
  induction l with
  | nil => rfl
  | cons s t ih => simp only [prC, List.length_cons, ih]; omega
theorem prC_at {l : List Pr} {k : Nat} (h : k < l.length) : (prC l)[k * 3]? = some (.int .u32 (l[k].a : Int)) ∧ (prC l)[k * 3 + 1]? = some (.int .u32 (l[k].b : Int)) ∧ (prC l)[k * 3 + 2]? = some (.int .u32 (l[k].t : Int)) := by
  induction l generalizing k with
  | nil => simp at h
  | cons s t ih =>
    cases k with
    | zero => exact ⟨rfl, rfl, rfl⟩
    | succ k =>
      have := ih (k := k) (by simpa using h)
      rw [show (k + 1) * 3 = k * 3 + 1 + 1 + 1 by omega]
      exact ⟨this.1, this.2.1, this.2.2⟩
theorem prs_own {w : World} {base n cap : Nat} {ad : Option Addr} {l : List Pr} (h : w.ownsRow base 97 3 (.slice ad n cap) n (prC l)) (hn : l.length = n) (hl : ∀ r ∈ l, r.ok) : PrsAt w ad l :=
  ⟨hl, fun k hk => by
    obtain ⟨g, hg, _, _, hc⟩ := owns_cell h (by omega)
    obtain ⟨h1, h2, h3⟩ := prC_at hk
    refine ⟨_, hg, ?_, ?_, ?_⟩
    · rw [add_plain]; exact hc _ _ h1
    · rw [add_plain]; exact hc _ _ h2
    · rw [add_plain]; exact hc _ _ h3⟩
theorem infoPair : (Tryz.prog.info? 97).map (fun i => (i.zero, i.size, i.bytes)) = some (some (.agg #[.int .u32 0, .int .u32 0, .int .u32 0]), 3, 12) := by kernel_rfl
set_option maxHeartbeats 6400000 in
theorem pairs_any (g : Nat) (s0 s1 s3 s4 s5 : Sl3) (ad : Option Addr) (cap : Nat) (ds : List Dq) (w : World) (h : w.heap[g]? = some (.cells #[s0.v, s1.v, .slice ad ds.length cap, s3.v, s4.v, s5.v] 84 (0, 0))) (hd : DpAt w ad ds) (hu : ∀ x ∈ ds, U32B w x.g x.d.to) (hn : ds.length ≤ 1000000) :
    Calls Tryz.prog 9 #[.pointer (some ⟨g, 0, none⟩)] w fun e w' => ∃ ad' cap', e = .returned (.slice ad' (prsD ds).length cap') ∧ w'.ownsRow w.heap.size 97 3 (.slice ad' (prsD ds).length cap') (prsD ds).length (prC (prsD ds)) ∧ Below w.heap.size w w' := by
  have HD := hid hd
  have HU := hid hu
  obtain ⟨i0, hi, hz0, hz1, hz2⟩ := info_parts infoPair
  have HI := hid (And.intro hi (And.intro hz0 (And.intro hz1 hz2)))
  have HL := hid (tlines_any g s0 s1 (ad, ds.length, cap) s3 s4 s5 w h)
  obtain ⟨a0, n0, p0⟩ := s0
  obtain ⟨a1, n1, p1⟩ := s1
  obtain ⟨a3, n3, p3⟩ := s3
  obtain ⟨a4, n4, p4⟩ := s4
  obtain ⟨a5, n5, p5⟩ := s5
  simp only [Sl3.v] at HL
  obtain ⟨V, hV⟩ : ∃ V, ds.length = V := ⟨_, rfl⟩
  have HV := hid hV
  rw [hV] at HL hn
  clear hi hz0 hz1 hz2 h hd hu hV
  have hfd : ∀ w : World, (Instr.field 84 (.agg #[.slice a0 n0 p0, .slice a1 n1 p1, .slice ad V cap, .slice a3 n3 p3, .slice a4 n4 p4, .slice a5 n5 p5]) 2).run Tryz.prog w = .ok (.slice ad V cap) w := fun _ => by kernel_rfl
  go_enter Tryz.func9, Tryz.ntmps9
  go_wp2_with fail
  refine HL.out.mono ?_
  rintro e w1 ⟨rfl, hb⟩
  have B1 := hid hb
  clear hb HL
  go_wp2_with fail
  clear hfd
  go_loopw [10, 3] (fun c l wr => ∃ (i cp : Nat) (sd : Option Addr), i ≤ V ∧ c = .int .i64 (i : Int) ∧ l = .slice sd (prsD (ds.take i)).length cp ∧ wr.ownsRow w.heap.size 97 3 (.slice sd (prsD (ds.take i)).length cp) (prsD (ds.take i)).length (prC (prsD (ds.take i))) ∧ Below w.heap.size w wr) (fun c _ _ => V - (intOf c).toNat)
  case atStart => exact ⟨0, 0, none, Nat.zero_le _, rfl, rfl, World.ownsRow_nil _ _ _ _, B1.out⟩
  case round =>
    obtain ⟨i, cp, sd, hi, rfl, rfl, hown, hB⟩ := hrel
    have HB := hid hB
    have HO := hid hown
    by_cases hlt : i < V
    · have hid' : i < ds.length := by rw [HV.out]; exact hlt
      obtain ⟨gd, rfl, c0, c1, c2, c3⟩ := (HD.out.below hB) i hid'
      have HPS := hid (prsD_succ ds hid')
      have HPL := hid (prsD_len ds i)
      have hux := (HU.out ds[i] (List.getElem_mem hid')).below hB
      obtain ⟨x, hx⟩ : ∃ x, ds[i] = x := ⟨_, rfl⟩
      rw [hx] at c0 c1 c2 c3 HPS hux
      have HUX := hid hux
      obtain ⟨vg, hvg⟩ : ∃ v, x.g = v := ⟨_, rfl⟩
      obtain ⟨vn, hvn⟩ : ∃ v, x.d.to.length = v := ⟨_, rfl⟩
      obtain ⟨vc, hvc⟩ : ∃ v, x.cap = v := ⟨_, rfl⟩
      obtain ⟨p, hp⟩ : ∃ v, x.d.p = v := ⟨_, rfl⟩
      obtain ⟨bc, hbc⟩ : ∃ v, x.d.c = v := ⟨_, rfl⟩
      obtain ⟨ba, hba⟩ : ∃ v, x.d.a = v := ⟨_, rfl⟩
      simp only [Dq.sl, hvg, hvn, hvc, hp, hbc, hba] at c0 c1 c2 c3
      rw [hvg] at HUX
      have HP := hid hp
      have HC := hid hbc
      have HA := hid hba
      have HNE := hid hvn
      have hib : i < 1000000 := by omega
      obtain ⟨A, hAe⟩ : ∃ A, prsD (ds.take i) = A := ⟨_, rfl⟩
      rw [hAe] at HO HPS HPL ⊢
      have hAL : A.length ≤ 1000000 := by have := HPL.out; omega
      have BA := hid (show Below w.heap.size w (wr.alloc (.cells #[.int .u32 (p : Int), .slice (some ⟨vg, 0, none⟩) vn vc, .bool bc, .bool ba] 64)) from HB.out.alloc HB.out.size _)
      have OA := hid (owns_below HO.out ((Below.refl wr.heap.size wr).alloc (Nat.le_refl _) (.cells #[.int .u32 (p : Int), .slice (some ⟨vg, 0, none⟩) vn vc, .bool bc, .bool ba] 64)))
      clear hown hB hx hux hvg hvn hvc hp hbc hba hi hAe hid'
      cases ba with
      | true =>
        have HPN := hid (show prsD (ds.take (i + 1)) = A by rw [HPS.out, prOf_a HA.out]; simp)
        go_wp2
        go_roundw
        case rel => exact ⟨i + 1, cp, sd, by omega, by go_num, by rw [HPN.out], by rw [HPN.out]; exact OA.out, BA.out⟩
        case measure => simp [intOf]; omega
      | false =>
        cases bc with
        | true =>
          have HPN := hid (show prsD (ds.take (i + 1)) = A by rw [HPS.out, prOf_c HC.out]; simp)
          go_wp2
          go_roundw
          case rel => exact ⟨i + 1, cp, sd, by omega, by go_num, by rw [HPN.out], by rw [HPN.out]; exact OA.out, BA.out⟩
          case measure => simp [intOf]; omega
        | false =>
          by_cases h2 : vn = 2
          · subst h2
            obtain ⟨q0, q1, hq⟩ := two_of HNE.out
            have HPN := hid (show prsD (ds.take (i + 1)) = A ++ [⟨q0, q1, p⟩] by rw [HPS.out, prOf_y HA.out HC.out hq, HP.out]; rfl)
            have HQ := hid (show ∀ w' : World, Below wr.heap.size wr w' → w'.cell? ⟨vg, 0, none⟩ = some (.int .u32 (q0 : Int)) ∧ w'.cell? ⟨vg, 1, none⟩ = some (.int .u32 (q1 : Int)) from fun w' hb => by
              have h0 := (HUX.out.below hb).cell (show 0 < x.d.to.length by rw [hq]; simp)
              have h1 := (HUX.out.below hb).cell (show 1 < x.d.to.length by rw [hq]; simp)
              rw [hq] at h0 h1
              exact ⟨h0, h1⟩)
            clear hq
            go_upto_region 6 with fail
            clear c0 c1 c2 c3
            have BW := (Below.refl wr.heap.size wr).alloc (Nat.le_refl _) (.cells #[.int .u32 (p : Int), .slice (some ⟨vg, 0, none⟩) 2 vc, .bool false, .bool false] 64)
            obtain ⟨csv, hv1, hv2⟩ := HUX.out.below BW
            obtain ⟨wa, hwa⟩ : ∃ y, wr.alloc (.cells #[.int .u32 (p : Int), .slice (some ⟨vg, 0, none⟩) 2 vc, .bool false, .bool false] 64) = y := ⟨_, rfl⟩
            obtain ⟨na, hna⟩ : ∃ na, wr.heap.size = na := ⟨_, rfl⟩
            have A0 := hid (show wa.heap[na]? = some (.cells #[.int .u32 (p : Int), .slice (some ⟨vg, 0, none⟩) 2 vc, .bool false, .bool false] 64 (0, 0)) by rw [← hwa, ← hna]; exact heap_alloc_at _ _)
            rw [hwa] at BA OA hv1 BW
            have HV1 := hid hv1
            have HCells := hid (HQ.out _ BW)
            rw [hwa, hna]
            have KS := hid (show ∀ w' : World, Below wa.heap.size wa w' → w'.cell? ⟨na, 0, none⟩ = some (.int .u32 (p : Int)) ∧ w'.cell? ⟨na, 1, none⟩ = some (.slice (some ⟨vg, 0, none⟩) 2 vc) ∧ w'.cell? ⟨vg, 0, none⟩ = some (.int .u32 (q0 : Int)) ∧ w'.cell? ⟨vg, 1, none⟩ = some (.int .u32 (q1 : Int)) from fun w' hb => ⟨cellX hb (cell_of_heap A0.out rfl), cellX hb (cell_of_heap A0.out rfl), cellX hb HCells.out.1, cellX hb HCells.out.2⟩)
            have bD : Below wa.heap.size wa (wa.drew.alloc (.cells #[.int .u32 (q0 : Int), .int .u32 (q1 : Int), .int .u32 (p : Int)] 97)) := blwXA (blwXD (Below.refl _ _))
            have HOD := hid (owns_below OA.out bD)
            have HBD := hid (belowCat BA.out bD)
            have HOB := hid (show ∀ j, (Value.slice sd A.length cp).ownBlock = some j → w.heap.size ≤ j from fun j hj => (HOD.out.lt j hj).1)
            have hbn := (bD.block na (lt_of_heap A0.out)).trans A0.out
            have hbv := (bD.block vg (lt_of_heap HV1.out)).trans HV1.out
            have HKP := hid (show ∀ w7, (wa.drew.alloc (.cells #[.int .u32 (q0 : Int), .int .u32 (q1 : Int), .int .u32 (p : Int)] 97)).grownBy w7 (Value.slice sd A.length cp).ownBlock → (fun w' => w'.cell? ⟨na, 0, none⟩ = some (.int .u32 (p : Int)) ∧ w'.cell? ⟨na, 1, none⟩ = some (.slice (some ⟨vg, 0, none⟩) 2 vc) ∧ w'.cell? ⟨vg, 0, none⟩ = some (.int .u32 (q0 : Int)) ∧ w'.cell? ⟨vg, 1, none⟩ = some (.int .u32 (q1 : Int))) w7 from fun w7 hg7 => by
              have h1 : w7.cell? ⟨na, 0, none⟩ = (wa.drew.alloc (.cells #[.int .u32 (q0 : Int), .int .u32 (q1 : Int), .int .u32 (p : Int)] 97)).cell? ⟨na, 0, none⟩ := World.cell?_of_block (hg7.block na (lt_of_heap hbn) (fun e => rowNe HOD.out hbn (by decide) e.symm))
              have h2 : w7.cell? ⟨na, 1, none⟩ = (wa.drew.alloc (.cells #[.int .u32 (q0 : Int), .int .u32 (q1 : Int), .int .u32 (p : Int)] 97)).cell? ⟨na, 1, none⟩ := World.cell?_of_block (hg7.block na (lt_of_heap hbn) (fun e => rowNe HOD.out hbn (by decide) e.symm))
              have h3 : w7.cell? ⟨vg, 0, none⟩ = (wa.drew.alloc (.cells #[.int .u32 (q0 : Int), .int .u32 (q1 : Int), .int .u32 (p : Int)] 97)).cell? ⟨vg, 0, none⟩ := World.cell?_of_block (hg7.block vg (lt_of_heap hbv) (fun e => rowNe HOD.out hbv (by decide) e.symm))
              have h4 : w7.cell? ⟨vg, 1, none⟩ = (wa.drew.alloc (.cells #[.int .u32 (q0 : Int), .int .u32 (q1 : Int), .int .u32 (p : Int)] 97)).cell? ⟨vg, 1, none⟩ := World.cell?_of_block (hg7.block vg (lt_of_heap hbv) (fun e => rowNe HOD.out hbv (by decide) e.symm))
              have hs := KS.out _ bD
              exact ⟨h1.trans hs.1, h2.trans hs.2.1, h3.trans hs.2.2.1, h4.trans hs.2.2.2⟩)
            obtain ⟨hi, hz0, hz1, hz2⟩ := HI.out
            clear hwa hna BW HQ hv1 hv2 bD hbn hbv HCells
            refine wp_region_held_drew (S := (fun w' => w'.cell? ⟨na, 0, none⟩ = some (.int .u32 (p : Int)) ∧ w'.cell? ⟨na, 1, none⟩ = some (.slice (some ⟨vg, 0, none⟩) 2 vc) ∧ w'.cell? ⟨vg, 0, none⟩ = some (.int .u32 (q0 : Int)) ∧ w'.cell? ⟨vg, 1, none⟩ = some (.int .u32 (q1 : Int)))) (by kernel_rfl) (KS.out _ (blwXD (Below.refl _ _))) (fun hHeld => ?_)
            refine tk_at (i := 0) (d := some 28) (v := ?_) rfl rfl (by kernel_rfl) (by kernel_rfl) (by kernel_rfl) (fun _ _ _ h => h) (Or.inl ⟨by rfl, ?_⟩) (by assumption) ?_
            rotate_left
            · (intro w hSw; (try dsimp only at hSw); go_simp; try (with_reducible rfl))
            simp only [Act.put, List.setIfInBounds_toArray, List.set_cons_zero, List.set_cons_succ]
            refine tk_at (i := 1) (d := some 29) (v := ?_) rfl rfl (by kernel_rfl) (by kernel_rfl) (by kernel_rfl) (fun _ _ _ h => h) (Or.inl ⟨by rfl, ?_⟩) (by assumption) ?_
            rotate_left
            · (intro w hSw; (try dsimp only at hSw); go_simp; try (with_reducible rfl))
            simp only [Act.put, List.setIfInBounds_toArray, List.set_cons_zero, List.set_cons_succ]
            refine tk_at (i := 2) (d := some 30) (v := ?_) rfl rfl (by kernel_rfl) (by kernel_rfl) (by kernel_rfl) (fun _ _ _ h => h) (Or.inl ⟨by rfl, ?_⟩) (by assumption) ?_
            rotate_left
            · (intro w hSw; (try dsimp only at hSw); go_simp; try (with_reducible rfl))
            simp only [Act.put, List.setIfInBounds_toArray, List.set_cons_zero, List.set_cons_succ]
            refine tk_at (i := 3) (d := some 31) (v := ?_) rfl rfl (by kernel_rfl) (by kernel_rfl) (by kernel_rfl) (fun _ _ _ h => h) (Or.inl ⟨by rfl, ?_⟩) (by assumption) ?_
            rotate_left
            · (intro w hSw; (try dsimp only at hSw); go_simp; try (with_reducible rfl))
            simp only [Act.put, List.setIfInBounds_toArray, List.set_cons_zero, List.set_cons_succ]
            refine tk_at (i := 4) (d := some 32) (v := ?_) rfl rfl (by kernel_rfl) (by kernel_rfl) (by kernel_rfl) (fun _ _ _ h => h) (Or.inl ⟨by rfl, ?_⟩) (by assumption) ?_
            rotate_left
            · (intro w hSw; (try dsimp only at hSw); go_simp; try (with_reducible rfl))
            simp only [Act.put, List.setIfInBounds_toArray, List.set_cons_zero, List.set_cons_succ]
            refine tk_at (i := 5) (d := some 33) (v := ?_) rfl rfl (by kernel_rfl) (by kernel_rfl) (by kernel_rfl) (fun _ _ _ h => h) (Or.inl ⟨by rfl, ?_⟩) (by assumption) ?_
            rotate_left
            · (intro w hSw; (try dsimp only at hSw); go_simp; try (with_reducible rfl))
            simp only [Act.put, List.setIfInBounds_toArray, List.set_cons_zero, List.set_cons_succ]
            refine tk_at (i := 6) (d := some 34) (v := ?_) rfl rfl (by kernel_rfl) (by kernel_rfl) (by kernel_rfl) (fun _ _ _ h => h) (Or.inl ⟨by rfl, ?_⟩) (by assumption) ?_
            rotate_left
            · (intro w hSw; (try dsimp only at hSw); go_simp; try (with_reducible rfl))
            simp only [Act.put, List.setIfInBounds_toArray, List.set_cons_zero, List.set_cons_succ]
            refine tk_at (i := 7) (d := some 35) (v := ?_) rfl rfl (by kernel_rfl) (by kernel_rfl) (by kernel_rfl) (fun _ _ _ h => h) (Or.inl ⟨by rfl, ?_⟩) (by assumption) ?_
            rotate_left
            · (intro w hSw; (try dsimp only at hSw); go_simp; try (with_reducible rfl))
            simp only [Act.put, List.setIfInBounds_toArray, List.set_cons_zero, List.set_cons_succ]
            refine tk_at (i := 8) (d := some 36) (v := ?_) rfl rfl (by kernel_rfl) (by kernel_rfl) (by kernel_rfl) (fun _ _ _ h => h) (Or.inl ⟨by rfl, ?_⟩) (by assumption) ?_
            rotate_left
            · (intro w hSw; (try dsimp only at hSw); go_simp; try (with_reducible rfl))
            simp only [Act.put, List.setIfInBounds_toArray, List.set_cons_zero, List.set_cons_succ]
            refine tk_at (i := 9) (d := some 37) (v := ?_) rfl rfl (by kernel_rfl) (by kernel_rfl) (by kernel_rfl) (fun _ _ _ h => h) (Or.inl ⟨by rfl, ?_⟩) (by assumption) ?_
            rotate_left
            · (intro w hSw; (try dsimp only at hSw); go_simp; try (with_reducible rfl))
            simp only [Act.put, List.setIfInBounds_toArray, List.set_cons_zero, List.set_cons_succ]
            refine tk_at (i := 10) (d := some 38) (v := ?_) rfl rfl (by kernel_rfl) (by kernel_rfl) (by kernel_rfl) (fun _ _ _ h => h) (Or.inl ⟨by rfl, ?_⟩) (by assumption) ?_
            rotate_left
            · (intro w hSw; (try dsimp only at hSw); go_simp; try (with_reducible rfl))
            simp only [Act.put, List.setIfInBounds_toArray, List.set_cons_zero, List.set_cons_succ]
            refine tk_at (i := 11) (d := some 39) (v := ?_) rfl rfl (by kernel_rfl) (by kernel_rfl) (by kernel_rfl) (fun _ _ _ h => h) (Or.inl ⟨by rfl, ?_⟩) (by assumption) ?_
            rotate_left
            · (intro w hSw; (try dsimp only at hSw); go_simp; try (with_reducible rfl))
            simp only [Act.put, List.setIfInBounds_toArray, List.set_cons_zero, List.set_cons_succ]
            refine wpAnyH_ready (rs := [12]) (by kernel_rfl) (by simp) ?_
            refine AllReadyH.cons rfl (fun K hK => ?_) AllReadyH.nil
            go_simp
            go_wp2_with fail
            refine hK.out _ _ (KS.out _ (blwXA (blwXD (Below.refl _ _)))) (fun hHeld => ?_)
            clear hK K
            try simp only [Act.put, List.setIfInBounds_toArray, List.set_cons_zero, List.set_cons_succ]
            refine wpAnyH_ready (rs := [13]) (by kernel_rfl) (by simp) ?_
            refine AllReadyH.cons rfl (fun K hK => ?_) AllReadyH.nil
            refine step_append_lies _ rfl (.tmp 28) (.tmp 40) 36 rfl w.heap.size 97 i0 _ 3 12 Tryz.underlying36 hi hz0 hz1 hz2 rfl (by decide) (.slice sd A.length cp) A.length (prC A) rfl HOD.out _ 1 1 [.int .u32 (q0 : Int), .int .u32 (q1 : Int), .int .u32 (p : Int)] rfl rfl (World.news_of_block (heap_alloc_at _ _)) (by intro y hy; simp only [List.mem_cons, List.not_mem_nil, or_false] at hy; rcases hy with rfl | rfl | rfl <;> rfl) (by decide) (by unfold maxLen; omega) (by omega) HBD.out.size _ rfl ?_
            intro g7 cap7 w7 hown' hgrow hat hlt2
            have HO7 := hid (show w7.ownsRow w.heap.size 97 3 (.slice (some ⟨g7, 0, none⟩) (A.length + 1) cap7) (A.length + 1) (prC (A ++ [⟨q0, q1, p⟩])) from by rw [prC_app]; exact hown')
            have B7 := hid (HBD.out.grown hgrow HBD.out.size HOB.out)
            have HK7 := hid (HKP.out w7 hgrow)
            clear hown' hgrow hat hlt2
            refine hK.out _ _ HK7.out (fun hHeld => ?_)
            clear hK K
            try simp only [Act.put, List.setIfInBounds_toArray]
            refine wpAnyH_ready (rs := [14]) (by kernel_rfl) (by simp) ?_
            refine AllReadyH.cons rfl (fun K hK => ?_) AllReadyH.nil
            go_simp
            go_wp2_with fail
            refine hK.out _ _ (HK7.out) (fun hHeld => ?_)
            clear hK K
            try simp only [Act.put, List.setIfInBounds_toArray, List.set_cons_zero, List.set_cons_succ]
            refine wpAnyH_done (by kernel_rfl) ?_ _
            clear hHeld
            go_wp2
            go_roundw
            case rel => exact ⟨i + 1, cap7, some ⟨g7, 0, none⟩, by omega, by go_num, by rw [HPN.out, List.length_append]; rfl, by rw [HPN.out, List.length_append]; exact HO7.out, B7.out⟩
            case measure => simp [intOf]; omega
          · have HPN := hid (show prsD (ds.take (i + 1)) = A by rw [HPS.out, prOf_n (by rw [HNE.out]; exact h2)]; simp)
            have h2i : ((vn : Int) == 2) = false := by simp; omega
            go_wp2
            go_roundw
            case rel => exact ⟨i + 1, cp, sd, by omega, by go_num, by rw [HPN.out], by rw [HPN.out]; exact OA.out, BA.out⟩
            case measure => simp [intOf]; omega
    · obtain rfl : i = V := by omega
      have e : ds.take i = ds := List.take_of_length_le (by rw [HV.out]; exact Nat.le_refl _)
      rw [e] at HO ⊢
      clear hown hB
      go_wp2
      go_ret
      exact ⟨sd, cp, rfl, HO.out, HB.out⟩
/-- what two points become by pairs: the first one that has them -/
def prM (a b : Nat) (l : List Pr) : Bool := (l.find? (pm a b)).isSome
def prT (a b : Nat) (l : List Pr) : Nat := match l.find? (pm a b) with
  | some p => p.t
  | none => 0
theorem prsD_more (ds : List Dq) (k : Nat) : prsD ds = prsD (ds.take k) ++ prsD (ds.drop k) := by
  unfold prsD
  rw [← List.filterMap_append, List.take_append_drop]
theorem pr_hit {ds : List Dq} {k : Nat} (h : k < ds.length) {a b : Nat} {r : Pr} (h0 : (prsD (ds.take k)).find? (pm a b) = none) (h1 : prOf ds[k].d = some r) (h2 : pm a b r = true) : prT a b (prsD ds) = r.t ∧ prM a b (prsD ds) = true := by
  have e : (prsD ds).find? (pm a b) = some r := by
    rw [prsD_more ds (k + 1), prsD_succ ds h, h1, List.find?_append, List.find?_append, h0]
    simp [h2]
  unfold prT prM
  rw [e]
  exact ⟨rfl, rfl⟩
theorem pr_miss {ds : List Dq} {k : Nat} (h : k < ds.length) {a b : Nat} (h0 : (prsD (ds.take k)).find? (pm a b) = none) (h1 : ∀ r, prOf ds[k].d = some r → pm a b r = false) : (prsD (ds.take (k + 1))).find? (pm a b) = none := by
  rw [prsD_succ ds h, List.find?_append, h0]
  cases hp : prOf ds[k].d with
  | none => rfl
  | some r => simp [h1 r hp]
theorem pr_none {ds : List Dq} {a b : Nat} (h0 : (prsD ds).find? (pm a b) = none) : prT a b (prsD ds) = 0 ∧ prM a b (prsD ds) = false := by
  unfold prT prM
  rw [h0]
  exact ⟨rfl, rfl⟩
theorem two_find (a b : Nat) : ∀ (l : List Pr) (u : Nat), (l.Pairwise fun p q => pm p.a p.b q = false) → l.foldl (fun u p => gat u (pm a b p) p.t) u = u ||| prT a b l := by
  intro l
  induction l with
  | nil => intro u _; show u = u ||| 0; simp
  | cons p r ih =>
    intro u h
    obtain ⟨h1, h2⟩ := List.pairwise_cons.1 h
    rw [List.foldl_cons, ih _ h2]
    cases hp : pm a b p with
    | false =>
      have e : prT a b (p :: r) = prT a b r := by unfold prT; rw [List.find?_cons, hp]
      rw [e]
      unfold gat
      simp
    | true =>
      have e : prT a b (p :: r) = p.t := by unfold prT; rw [List.find?_cons, hp]
      have hab : a = p.a ∧ b = p.b := by
        unfold pm at hp
        simpa using hp
      have hn : r.find? (pm a b) = none := by
        rw [List.find?_eq_none]
        intro q hq
        have := h1 q hq
        rw [hab.1, hab.2, this]; simp
      have e2 : prT a b r = 0 := by unfold prT; rw [hn]
      rw [e, e2]
      unfold gat
      simp
theorem tw_find {a b : Nat} {l : List Pr} (h : l.Pairwise fun p q => pm p.a p.b q = false) : twT a b l l.length = prT a b l ∧ twM a b l l.length = prM a b l := by
  constructor
  · unfold twT
    rw [List.take_length, two_find a b l 0 h]
    simp
  · unfold twM prM
    rw [List.take_length, Bool.eq_iff_iff]
    simp
set_option maxHeartbeats 6400000 in
theorem rpair_any (s0 s1 s3 s4 s5 : Sl3) (ad : Option Addr) (cap a b : Nat) (ds : List Dq) (w : World) (hd : DpAt w ad ds) (hu : ∀ x ∈ ds, U32B w x.g x.d.to) (hn : ds.length ≤ 1000000) :
    Calls Tryz.prog 10 #[.agg #[s0.v, s1.v, .slice ad ds.length cap, s3.v, s4.v, s5.v], .int .u32 (a : Int), .int .u32 (b : Int)] w fun e w' => e = .returned (.tuple #[.int .u32 (prT a b (prsD ds) : Nat), .bool (prM a b (prsD ds))]) ∧ Below w.heap.size w w' := by
  obtain ⟨a0, n0, p0⟩ := s0
  obtain ⟨a1, n1, p1⟩ := s1
  obtain ⟨a3, n3, p3⟩ := s3
  obtain ⟨a4, n4, p4⟩ := s4
  obtain ⟨a5, n5, p5⟩ := s5
  simp only [Sl3.v]
  obtain ⟨V, hV⟩ : ∃ V, ds.length = V := ⟨_, rfl⟩
  have HV := hid hV
  rw [hV] at hn ⊢
  have hBA := (Below.refl w.heap.size w).alloc (Nat.le_refl _) (.cells #[.slice a0 n0 p0, .slice a1 n1 p1, .slice ad V cap, .slice a3 n3 p3, .slice a4 n4 p4, .slice a5 n5 p5] 30)
  have HD := hid (hd.below hBA)
  have HU := hid (fun x hx => (hu x hx).below hBA)
  have B1 := hid hBA
  have HA := hid (heap_alloc_at w (.cells #[.slice a0 n0 p0, .slice a1 n1 p1, .slice ad V cap, .slice a3 n3 p3, .slice a4 n4 p4, .slice a5 n5 p5] 30))
  clear hd hu hBA hV
  obtain ⟨T, hT⟩ : ∃ T, prT a b (prsD ds) = T := ⟨_, rfl⟩
  obtain ⟨M, hM⟩ : ∃ M, prM a b (prsD ds) = M := ⟨_, rfl⟩
  have HTE := hid hT
  have HME := hid hM
  rw [hT, hM]
  clear hT hM
  go_enter Tryz.func10, Tryz.ntmps10
  go_wp2_with fail
  generalize w.alloc (.cells #[.slice a0 n0 p0, .slice a1 n1 p1, .slice ad V cap, .slice a3 n3 p3, .slice a4 n4 p4, .slice a5 n5 p5] 30) = w1 at *
  obtain ⟨N, hN⟩ : ∃ N, w.heap.size = N := ⟨_, rfl⟩
  have HN := hid hN
  rw [hN] at HA B1 ⊢
  clear hN
  go_loopw [8] (fun c wr => ∃ i : Nat, i ≤ V ∧ c = .int .i64 (i : Int) ∧ (prsD (ds.take i)).find? (pm a b) = none ∧ Below w1.heap.size w1 wr) (fun c _ => V - (intOf c).toNat)
  case atStart => exact ⟨0, Nat.zero_le _, rfl, rfl, Below.refl _ _⟩
  case round =>
    obtain ⟨i, hi, rfl, hno, hB⟩ := hrel
    have HB := hid hB
    have HNO := hid hno
    have kd := cell_of_heap (i := 2) ((hB.block N (lt_of_heap HA.out)).trans HA.out) rfl
    clear hno
    by_cases hlt : i < V
    · have hid' : i < ds.length := by rw [HV.out]; exact hlt
      obtain ⟨gd, rfl, c0, c1, c2, c3⟩ := (HD.out.below hB) i hid'
      have HMISS := hid (fun h1 => pr_miss hid' (a := a) (b := b) HNO.out h1)
      have HHIT := hid (fun (r : Pr) h1 h2 => pr_hit hid' (a := a) (b := b) (r := r) HNO.out h1 h2)
      have hux := (HU.out ds[i] (List.getElem_mem hid')).below hB
      obtain ⟨x, hx⟩ : ∃ x, ds[i] = x := ⟨_, rfl⟩
      rw [hx] at c0 c1 c2 c3 hux HMISS HHIT
      have HUX := hid hux
      obtain ⟨vg, hvg⟩ : ∃ v, x.g = v := ⟨_, rfl⟩
      obtain ⟨vn, hvn⟩ : ∃ v, x.d.to.length = v := ⟨_, rfl⟩
      obtain ⟨vc, hvc⟩ : ∃ v, x.cap = v := ⟨_, rfl⟩
      obtain ⟨p, hp⟩ : ∃ v, x.d.p = v := ⟨_, rfl⟩
      obtain ⟨bc, hbc⟩ : ∃ v, x.d.c = v := ⟨_, rfl⟩
      obtain ⟨ba, hba⟩ : ∃ v, x.d.a = v := ⟨_, rfl⟩
      simp only [Dq.sl, hvg, hvn, hvc, hp, hbc, hba] at c0 c1 c2 c3
      rw [hvg] at HUX
      have HP := hid hp
      have HC := hid hbc
      have HAL := hid hba
      have HNE := hid hvn
      have hib : i < 1000000 := by omega
      have BA := hid (show Below w1.heap.size w1 (wr.alloc (.cells #[.int .u32 (p : Int), .slice (some ⟨vg, 0, none⟩) vn vc, .bool bc, .bool ba] 64)) from HB.out.alloc HB.out.size _)
      clear hB hx hux hvg hvn hvc hp hbc hba hi hid'
      cases bc with
      | true =>
        have HPN := hid (HMISS.out (fun r h => by rw [prOf_c HC.out] at h; cases h))
        clear HMISS HHIT
        go_wp2
        go_roundw
        case rel => exact ⟨i + 1, by omega, by go_num, HPN.out, BA.out⟩
        case measure => simp [intOf]; omega
      | false =>
        cases ba with
        | true =>
          have HPN := hid (HMISS.out (fun r h => by rw [prOf_a HAL.out] at h; cases h))
          clear HMISS HHIT
          go_wp2
          go_roundw
          case rel => exact ⟨i + 1, by omega, by go_num, HPN.out, BA.out⟩
          case measure => simp [intOf]; omega
        | false =>
          by_cases h2 : vn = 2
          · subst h2
            obtain ⟨q0, q1, hq⟩ := two_of HNE.out
            have HPR := hid (prOf_y HAL.out HC.out hq)
            rw [HP.out] at HPR
            have HCL := hid (show (wr.alloc (.cells #[.int .u32 (p : Int), .slice (some ⟨vg, 0, none⟩) 2 vc, .bool false, .bool false] 64)).cell? ⟨vg, 0, none⟩ = some (.int .u32 (q0 : Int)) ∧ (wr.alloc (.cells #[.int .u32 (p : Int), .slice (some ⟨vg, 0, none⟩) 2 vc, .bool false, .bool false] 64)).cell? ⟨vg, 1, none⟩ = some (.int .u32 (q1 : Int)) by
              have hb := (Below.refl wr.heap.size wr).alloc (Nat.le_refl _) (.cells #[.int .u32 (p : Int), .slice (some ⟨vg, 0, none⟩) 2 vc, .bool false, .bool false] 64)
              have h0 := (HUX.out.below hb).cell (show 0 < x.d.to.length by rw [hq]; simp)
              have h1 := (HUX.out.below hb).cell (show 1 < x.d.to.length by rw [hq]; simp)
              rw [hq] at h0 h1
              exact ⟨h0, h1⟩)
            obtain ⟨v0, v1⟩ := HCL.out
            clear hq
            by_cases e0 : q0 = a
            · subst e0
              by_cases e1 : q1 = b
              · subst e1
                have HH := hid (HHIT.out _ HPR.out (by unfold pm; simp))
                rw [HTE.out, HME.out] at HH
                have HT2 := hid (show T = p from HH.out.1)
                have HM2 := hid (show M = true from HH.out.2)
                clear HMISS HHIT
                go_wp2
                exact bodyPost_ret (v := .tuple #[.int .u32 (p : Int), .bool true]) (by simp [results, Tryz.results10, go_sem]) rfl ⟨by rw [HT2.out, HM2.out], by rw [HN.out]; exact B1.out.trans (BA.out.mono (by have h1 := B1.out.size; have h2 := HN.out; omega))⟩
              · have HPN := hid (HMISS.out (fun r h => by
                  have := h.symm.trans HPR.out
                  cases this
                  unfold pm
                  simp
                  omega))
                have e1i : ((q1 : Int) == (b : Int)) = false := by simp; omega
                clear HMISS HHIT
                go_wp2
                go_roundw
                case rel => exact ⟨i + 1, by omega, by go_num, HPN.out, BA.out⟩
                case measure => simp [intOf]; omega
            · have HPN := hid (HMISS.out (fun r h => by
                have := h.symm.trans HPR.out
                cases this
                unfold pm
                simp
                omega))
              have e0i : ((q0 : Int) == (a : Int)) = false := by simp; omega
              clear HMISS HHIT
              go_wp2
              go_roundw
              case rel => exact ⟨i + 1, by omega, by go_num, HPN.out, BA.out⟩
              case measure => simp [intOf]; omega
          · have HPN := hid (HMISS.out (fun r h => by rw [prOf_n (by rw [HNE.out]; exact h2)] at h; cases h))
            have h2i : ((vn : Int) == 2) = false := by simp; omega
            clear HMISS HHIT
            go_wp2
            go_roundw
            case rel => exact ⟨i + 1, by omega, by go_num, HPN.out, BA.out⟩
            case measure => simp [intOf]; omega
    · obtain rfl : i = V := by omega
      have e : ds.take i = ds := List.take_of_length_le (by rw [HV.out]; exact Nat.le_refl _)
      rw [e] at HNO
      have HH := hid (pr_none HNO.out)
      rw [HTE.out, HME.out] at HH
      have HT2 := hid (show T = 0 from HH.out.1)
      have HM2 := hid (show M = false from HH.out.2)
      clear hB
      go_wp2
      exact bodyPost_ret (v := .tuple #[.int .u32 0, .bool false]) (by simp [results, Tryz.results10, go_sem]) rfl ⟨by rw [HT2.out, HM2.out]; rfl, by rw [HN.out]; exact B1.out.trans (HB.out.mono (by have h1 := B1.out.size; have h2 := HN.out; omega))⟩
end Go.Proofs.YtgalmlelnolodaaGreatDoor
namespace Go.Proofs.YtgalmlelnolodaaGreatDoor
open Go.RowKit
set_option linter.unusedVariables false

/-- the pairs of the given chart -/
def prOfL (d : Lt) : Option Pr := match d.2.2.2, d.2.2.1, d.2.1 with
  | false, false, [p, q] => some ⟨p, q, d.1⟩
  | _, _, _ => none
def prsL (l : List Lt) : List Pr := l.filterMap prOfL
theorem prsD_L {ds : List Dq} {L : List Lt} (h : ds.map (fun x => dtE x.d) = L) : prsD ds = prsL L := by
  subst h
  unfold prsD prsL
  rw [List.filterMap_map]
  rfl
def apartB : List Pr → Bool
  | [] => true
  | p :: r => r.all (fun q => !(pm p.a p.b q)) && apartB r
theorem apartB_said : ∀ {l : List Pr}, apartB l = true → l.Pairwise fun p q => pm p.a p.b q = false := by
  intro l
  induction l with
  | nil => intro _; exact List.Pairwise.nil
  | cons p r ih =>
    intro h
    simp only [apartB, Bool.and_eq_true, List.all_eq_true] at h
    exact List.Pairwise.cons (fun q hq => by have := h.1 q hq; simpa using this) (ih h.2)
def okB (l : List Pr) : Bool := l.all fun r => Nat.blt r.a 4294967296 && (Nat.blt r.b 4294967296 && Nat.blt r.t 4294967296)
theorem okB_said {l : List Pr} (h : okB l = true) : ∀ r ∈ l, r.ok := fun r hr => by
  have h1 := List.all_eq_true.1 h r hr
  rw [Bool.and_eq_true, Bool.and_eq_true] at h1
  exact ⟨Nat.le_of_ble_eq_true h1.1, Nat.le_of_ble_eq_true h1.2.1, Nat.le_of_ble_eq_true h1.2.2⟩
theorem prsL_apart : apartB (prsL chL) = true := by decide +kernel
theorem prsL_ok : okB (prsL chL) = true := by decide +kernel
/-- what both answers hold in memory -/
structure PF (w : World) (g R V : Nat) (s0 s1 s3 s4 s5 t0 t1 t3 t4 t5 : Sl3) (ad ad2 : Option Addr) (cap cap2 : Nat) (lc ll lw : List Rn) (ds ds2 : List Dq) : Prop where
  hg : w.heap[g]? = some (.cells #[t0.v, t1.v, .slice ad2 V cap2, t3.v, t4.v, t5.v] 84 (0, 0))
  hR : w.heap[R]? = some (.cells #[s0.v, s1.v, .slice ad V cap, s3.v, s4.v, s5.v] 30 (0, 0))
  sc : RnM w lc s1
  sl : RnM w ll s3
  sw : RnM w lw s4
  tc : RnM w lc t1
  tl : RnM w ll t3
  tw : RnM w lw t4
  d : DpAt w ad ds
  u : ∀ x ∈ ds, U32B w x.g x.d.to
  d2 : DpAt w ad2 ds2
  u2 : ∀ x ∈ ds2, U32B w x.g x.d.to
theorem PF.below {w w' : World} {g R V : Nat} {s0 s1 s3 s4 s5 t0 t1 t3 t4 t5 : Sl3} {ad ad2 : Option Addr} {cap cap2 : Nat} {lc ll lw : List Rn} {ds ds2 : List Dq} (h : PF w g R V s0 s1 s3 s4 s5 t0 t1 t3 t4 t5 ad ad2 cap cap2 lc ll lw ds ds2) (hb : Below w.heap.size w w') : PF w' g R V s0 s1 s3 s4 s5 t0 t1 t3 t4 t5 ad ad2 cap cap2 lc ll lw ds ds2 :=
  ⟨(hb.block g (lt_of_heap h.hg)).trans h.hg, (hb.block R (lt_of_heap h.hR)).trans h.hR, h.sc.below hb, h.sl.below hb, h.sw.below hb, h.tc.below hb, h.tl.below hb, h.tw.below hb, h.d.below hb, fun x hx => (h.u x hx).below hb, h.d2.below hb, fun x hx => (h.u2 x hx).below hb⟩
set_option maxRecDepth 4000 in
set_option maxHeartbeats 12800000 in
theorem pairs_law (a b : Nat) (w : World) (ha : a < 4294967296) (hb : b < 4294967296) (v : Vr w) :
    Calls Tryz.prog 3 #[.int .u32 (a : Int), .int .u32 (b : Int)] w fun e w' => e = .returned (.bool true) ∧ Below w.heap.size w w' := by
  have V0 := hid v
  clear v
  obtain ⟨itR, itC, itL, itW, itS, G⟩ := gi_ex
  obtain ⟨lc, rfl, okc⟩ := rn_its (its := itC) (fun i hi => by obtain ⟨j, _, e⟩ := rsV_some G.c i hi; exact wtOf_r e)
  obtain ⟨ll, rfl, okl⟩ := rn_its (its := itL) (fun i hi => by obtain ⟨j, _, e⟩ := rsV_some G.l i hi; exact ruOf_r e)
  obtain ⟨lw, rfl, okw⟩ := rn_its (its := itW) (fun i hi => by obtain ⟨j, _, e⟩ := rsV_some G.w i hi; exact ruOf_r e)
  have NC := hid (show lc.length ≤ 1000000000 by have := gi_len G.c (goodV_size gdC); rw [List.length_map] at this; omega)
  have NL := hid (show ll.length ≤ 1000000000 by have := gi_len G.l (goodV_size gdL); rw [List.length_map] at this; omega)
  have NW := hid (show lw.length ≤ 1000000000 by have := gi_len G.w (goodV_size gdW); rw [List.length_map] at this; omega)
  have OC := hid okc
  have OL := hid okl
  have OW := hid okw
  have HG := hid G
  clear okc okl okw G
  go_enter Tryz.func3, Tryz.ntmps3
  go_wp2_with fail
  refine (awake8_any _ V0.out).mono ?_
  rintro e w1 ⟨rfl, hb⟩
  have B1 := hid hb
  clear hb
  go_wp2_with fail
  refine (rnewX_any _ _ _ _ _ HG.out _).mono ?_
  rintro e w2 ⟨⟨a0, n0, p0⟩, ⟨a1, n1, p1⟩, ⟨a3, n3, p3⟩, ⟨a4, n4, p4⟩, ⟨a5, n5, p5⟩, ad, cap, its, vs0, rfl, hl, ho, hA, hb⟩
  obtain ⟨ds, hdl, hgv, hda⟩ := outD_dpat ho hl
  rw [← hdl]
  simp only [Sl3.v]
  obtain ⟨_, qW, qL, qC, _⟩ := hA.five
  have G2 := hid hgv
  have D2 := hid hda
  have C2 := hid (RnM.of qC OC.out)
  have L2 := hid (RnM.of qL OL.out)
  have W2 := hid (RnM.of qW OW.out)
  have B2 := hid (belowCat B1.out hb)
  clear hl ho hb hgv hda hdl B1 hA qW qL qC
  go_wp2_with fail
  refine (newX_any _ _ _ _ _ HG.out _ (V0.out.below B2.out)).mono ?_
  rintro e w3 ⟨g, ⟨c0, m0, q0⟩, ⟨c1, m1, q1⟩, ⟨c3, m3, q3⟩, ⟨c4, m4, q4⟩, ⟨c5, m5, q5⟩, ad2, cap2, its2, vs2, rfl, hg, _, hl, ho, hA, hb⟩
  obtain ⟨ds2, hdl2, hgv2, hda2⟩ := outD_dpat ho hl
  rw [← hdl2] at hg
  have hd506 := G2.out.len
  have hv2 : ds2.length = ds.length := by rw [hgv2.len, hd506]
  rw [hv2] at hg
  have HV2 := hid hv2
  have HLE := hid (show ds.length ≤ 1000000 by omega)
  obtain ⟨_, qW, qL, qC, _⟩ := hA.five
  have F3 := hid (fun (w' : World) (R : Nat) (h1 : Below w3.heap.size w3 w') (h2 : w'.heap[R]? = some (.cells #[.slice a0 n0 p0, .slice a1 n1 p1, .slice ad ds.length cap, .slice a3 n3 p3, .slice a4 n4 p4, .slice a5 n5 p5] 30 (0, 0))) => show PF w' g R ds.length (a0, n0, p0) (a1, n1, p1) (a3, n3, p3) (a4, n4, p4) (a5, n5, p5) (c0, m0, q0) (c1, m1, q1) (c3, m3, q3) (c4, m4, q4) (c5, m5, q5) ad ad2 cap cap2 lc ll lw ds ds2 from
    ⟨(h1.block g (lt_of_heap hg)).trans hg, h2, (C2.out.below hb).below h1, (L2.out.below hb).below h1, (W2.out.below hb).below h1, (RnM.of qC OC.out).below h1, (RnM.of qL OL.out).below h1, (RnM.of qW OW.out).below h1, (D2.out.below hb).below h1, fun x hx => ((G2.out.wds x hx).below hb).below h1, hda2.below h1, fun x hx => (hgv2.wds x hx).below h1⟩)
  have HPD := hid (show prsD ds = prsL chL from prsD_L G2.out.lit)
  have HPD2 := hid (show prsD ds2 = prsL chL from prsD_L hgv2.lit)
  have B3 := hid (belowCat B2.out hb)
  clear hl ho hb hgv2 hda2 hdl2 B2 hA qW qL qC hg hv2 hd506 C2 L2 W2 G2 D2 V0 HG OC OL OW
  obtain ⟨V, hV⟩ : ∃ V, ds.length = V := ⟨_, rfl⟩
  have HV := hid hV
  rw [hV] at F3 HLE HV2 ⊢
  clear hV
  go_upto_region 4 with fail
  have hBA := (Below.refl w3.heap.size w3).alloc (Nat.le_refl _) (.cells #[.slice a0 n0 p0, .slice a1 n1 p1, .slice ad V cap, .slice a3 n3 p3, .slice a4 n4 p4, .slice a5 n5 p5] 30)
  have F4 := hid (F3.out _ _ hBA (heap_alloc_at w3 (.cells #[.slice a0 n0 p0, .slice a1 n1 p1, .slice ad V cap, .slice a3 n3 p3, .slice a4 n4 p4, .slice a5 n5 p5] 30)))
  have B4 := hid (belowCat B3.out hBA)
  clear hBA F3 B3
  generalize w3.alloc (.cells #[.slice a0 n0 p0, .slice a1 n1 p1, .slice ad V cap, .slice a3 n3 p3, .slice a4 n4 p4, .slice a5 n5 p5] 30) = w4 at *
  obtain ⟨R, hR⟩ : ∃ R, w3.heap.size = R := ⟨_, rfl⟩
  rw [hR] at F4 ⊢
  clear hR
  obtain ⟨T, hT⟩ : ∃ T, prT a b (prsL chL) = T := ⟨_, rfl⟩
  obtain ⟨M, hM⟩ : ∃ M, prM a b (prsL chL) = M := ⟨_, rfl⟩
  have HTW := hid (show twT a b (prsD ds2) (prsD ds2).length = T ∧ twM a b (prsD ds2) (prsD ds2).length = M by
    rw [HPD2.out, ← hT, ← hM]
    exact tw_find (apartB_said prsL_apart))
  have HTP := hid (show prT a b (prsD ds) = T ∧ prM a b (prsD ds) = M by rw [HPD.out]; exact ⟨hT, hM⟩)
  have OKP := hid (show ∀ r ∈ prsD ds2, r.ok by rw [HPD2.out]; exact okB_said prsL_ok)
  obtain ⟨X, hX⟩ : ∃ X, mpT ll a ll.length = X := ⟨_, rfl⟩
  obtain ⟨XM, hXM⟩ : ∃ X, mpM ll a ll.length = X := ⟨_, rfl⟩
  obtain ⟨Y, hY⟩ : ∃ Y, mpT lw a lw.length = Y := ⟨_, rfl⟩
  obtain ⟨YM, hYM⟩ : ∃ Y, mpM lw a lw.length = Y := ⟨_, rfl⟩
  obtain ⟨Z, hZ⟩ : ∃ Z, clT lc a lc.length = Z := ⟨_, rfl⟩
  have HX := hid (And.intro hX hXM)
  have HY := hid (And.intro hY hYM)
  have HZ := hid hZ
  have HPA := hid (fun (w' : World) (f : PF w' g R V (a0, n0, p0) (a1, n1, p1) (a3, n3, p3) (a4, n4, p4) (a5, n5, p5) (c0, m0, q0) (c1, m1, q1) (c3, m3, q3) (c4, m4, q4) (c5, m5, q5) ad ad2 cap cap2 lc ll lw ds ds2) => pairs_any g (c0, m0, q0) (c1, m1, q1) (c3, m3, q3) (c4, m4, q4) (c5, m5, q5) ad2 cap2 ds2 w' (by rw [HV2.out]; exact f.hg) f.d2 f.u2 (by rw [HV2.out]; exact HLE.out))
  have HPB := hid (fun (w' : World) (f : PF w' g R V (a0, n0, p0) (a1, n1, p1) (a3, n3, p3) (a4, n4, p4) (a5, n5, p5) (c0, m0, q0) (c1, m1, q1) (c3, m3, q3) (c4, m4, q4) (c5, m5, q5) ad ad2 cap cap2 lc ll lw ds ds2) => show Calls Tryz.prog 10 #[.agg #[.slice a0 n0 p0, .slice a1 n1 p1, .slice ad V cap, .slice a3 n3 p3, .slice a4 n4 p4, .slice a5 n5 p5], .int .u32 (a : Int), .int .u32 (b : Int)] w' fun e w2 => e = .returned (.tuple #[.int .u32 (T : Int), .bool M]) ∧ Below w'.heap.size w' w2 by
    have h := rpair_any (a0, n0, p0) (a1, n1, p1) (a3, n3, p3) (a4, n4, p4) (a5, n5, p5) ad cap a b ds w' f.d f.u (by rw [HV.out]; exact HLE.out)
    rw [HV.out, HTP.out.1, HTP.out.2] at h
    exact h)
  have HPN := hid (show (prsD ds2).length ≤ 1000000000 by have h1 := prsD_len ds2 ds2.length; rw [List.take_length] at h1; have := HV2.out; have := HLE.out; omega)
  clear hT hM hX hXM hY hYM hZ HPD HPD2 HTP
  go_wp2_with fail
  refine (HPA.out _ F4.out).mono ?_
  rintro e w5 ⟨adp, capp, rfl, hop, hb⟩
  have F5 := hid (F4.out.below hb)
  have P5 := hid (prs_own hop rfl OKP.out)
  have B5 := hid (belowCat B4.out hb)
  clear hop hb F4 B4 HPA
  obtain ⟨PL, hPL⟩ : ∃ l, prsD ds2 = l := ⟨_, rfl⟩
  rw [hPL] at P5 HTW HPN ⊢
  clear hPL OKP
  go_wp2_with fail
  refine (rtwo_any a b capp adp PL _ P5.out HPN.out).mono ?_
  rintro e w6 ⟨rfl, hw6⟩
  subst hw6
  rw [HTW.out.1, HTW.out.2]
  clear HTW P5 HPN
  have k0 := cell_of_heap (i := 0) F5.out.hR rfl
  have k1 := cell_of_heap (i := 1) F5.out.hR rfl
  have k2 := cell_of_heap (i := 2) F5.out.hR rfl
  have k3 := cell_of_heap (i := 3) F5.out.hR rfl
  have k4 := cell_of_heap (i := 4) F5.out.hR rfl
  have k5 := cell_of_heap (i := 5) F5.out.hR rfl
  go_wp2_with fail
  refine (HPB.out _ F5.out).mono ?_
  rintro e w7 ⟨rfl, hb⟩
  have F7 := hid (F5.out.below hb)
  have B7 := hid (belowCat B5.out hb)
  clear hb F5 B5 HPB k0 k1 k2 k3 k4 k5
  go_wp2_with fail
  refine (mLowers_any g (c0, m0, q0) (c1, m1, q1) (ad2, V, cap2) (c3, m3, q3) (c4, m4, q4) (c5, m5, q5) ll _ F7.out.hg F7.out.tl NL.out).mono ?_
  rintro e w8 ⟨adl, capl, rfl, hr, hb⟩
  have F8 := hid (F7.out.below hb)
  have B8 := hid (belowCat B7.out hb)
  have R8 := hid hr
  clear hr hb F7 B7
  go_wp2_with fail
  refine (rmap_any a capl adl ll _ R8.out NL.out).mono ?_
  rintro e w9 ⟨rfl, hb⟩
  rw [HX.out.1, HX.out.2]
  have F9 := hid (F8.out.below hb)
  have B9 := hid (belowCat B8.out hb)
  clear hb F8 B8 R8
  go_wp2_with fail
  refine (mWidths_any g (c0, m0, q0) (c1, m1, q1) (ad2, V, cap2) (c3, m3, q3) (c4, m4, q4) (c5, m5, q5) lw _ F9.out.hg F9.out.tw NW.out).mono ?_
  rintro e wa ⟨adl, capl, rfl, hr, hb⟩
  have Fa := hid (F9.out.below hb)
  have Ba := hid (belowCat B9.out hb)
  have Ra := hid hr
  clear hr hb F9 B9
  go_wp2_with fail
  refine (rmap_any a capl adl lw _ Ra.out NW.out).mono ?_
  rintro e wb ⟨rfl, hb⟩
  rw [HY.out.1, HY.out.2]
  have Fb := hid (Fa.out.below hb)
  have Bb := hid (belowCat Ba.out hb)
  clear hb Fa Ba Ra
  have k3 := cell_of_heap (i := 3) Fb.out.hR rfl
  go_wp2_with fail
  refine (rmapM_any a (a3, n3, p3) ll _ Fb.out.sl NL.out).mono ?_
  rintro e wc ⟨rfl, hb⟩
  rw [HX.out.1, HX.out.2]
  have Fc := hid (Fb.out.below hb)
  have Bc := hid (belowCat Bb.out hb)
  clear hb Fb Bb k3
  have k4 := cell_of_heap (i := 4) Fc.out.hR rfl
  go_wp2_with fail
  refine (rmapM_any a (a4, n4, p4) lw _ Fc.out.sw NW.out).mono ?_
  rintro e wd ⟨rfl, hb⟩
  rw [HY.out.1, HY.out.2]
  have Fd := hid (Fc.out.below hb)
  have Bd := hid (belowCat Bc.out hb)
  clear hb Fc Bc k4
  go_upto_region 10 with fail
  have KS := hid (show ∀ w' : World, Below wd.heap.size wd w' → (fun w' => w'.cell? ⟨R, 0, none⟩ = some (.slice a0 n0 p0) ∧ w'.cell? ⟨R, 1, none⟩ = some (.slice a1 n1 p1) ∧ w'.cell? ⟨R, 2, none⟩ = some (.slice ad V cap) ∧ w'.cell? ⟨R, 3, none⟩ = some (.slice a3 n3 p3) ∧ w'.cell? ⟨R, 4, none⟩ = some (.slice a4 n4 p4) ∧ w'.cell? ⟨R, 5, none⟩ = some (.slice a5 n5 p5)) w' from fun w' hb => by
    have h := (Fd.out.below hb).hR
    exact ⟨cell_of_heap h rfl, cell_of_heap h rfl, cell_of_heap h rfl, cell_of_heap h rfl, cell_of_heap h rfl, cell_of_heap h rfl⟩)
  have BD := hid (show Below wd.heap.size wd wd.drew from blwXD (Below.refl _ _))
  refine wp_region_held_drew (S := (fun w' => w'.cell? ⟨R, 0, none⟩ = some (.slice a0 n0 p0) ∧ w'.cell? ⟨R, 1, none⟩ = some (.slice a1 n1 p1) ∧ w'.cell? ⟨R, 2, none⟩ = some (.slice ad V cap) ∧ w'.cell? ⟨R, 3, none⟩ = some (.slice a3 n3 p3) ∧ w'.cell? ⟨R, 4, none⟩ = some (.slice a4 n4 p4) ∧ w'.cell? ⟨R, 5, none⟩ = some (.slice a5 n5 p5))) (by kernel_rfl) (KS.out _ BD.out) (fun hHeld => ?_)
  refine tk_at (i := 0) (d := some 66) (v := ?_) rfl rfl (by kernel_rfl) (by kernel_rfl) (by kernel_rfl) (fun _ _ _ h => h) (Or.inl ⟨by rfl, ?_⟩) (by assumption) ?_
  rotate_left
  · (intro w hSw; (try dsimp only at hSw); go_simp; try (with_reducible rfl))
  simp only [Act.put, List.setIfInBounds_toArray, List.set_cons_zero, List.set_cons_succ]
  refine tk_at (i := 1) (d := some 67) (v := ?_) rfl rfl (by kernel_rfl) (by kernel_rfl) (by kernel_rfl) (fun _ _ _ h => h) (Or.inl ⟨by rfl, ?_⟩) (by assumption) ?_
  rotate_left
  · (intro w hSw; (try dsimp only at hSw); go_simp; try (with_reducible rfl))
  simp only [Act.put, List.setIfInBounds_toArray, List.set_cons_zero, List.set_cons_succ]
  refine tk_at (i := 2) (d := some 68) (v := ?_) rfl rfl (by kernel_rfl) (by kernel_rfl) (by kernel_rfl) (fun _ _ _ h => h) (Or.inl ⟨by rfl, ?_⟩) (by assumption) ?_
  rotate_left
  · (intro w hSw; (try dsimp only at hSw); go_simp; try (with_reducible rfl))
  simp only [Act.put, List.setIfInBounds_toArray, List.set_cons_zero, List.set_cons_succ]
  refine tk_at (i := 3) (d := some 69) (v := ?_) rfl rfl (by kernel_rfl) (by kernel_rfl) (by kernel_rfl) (fun _ _ _ h => h) (Or.inl ⟨by rfl, ?_⟩) (by assumption) ?_
  rotate_left
  · (intro w hSw; (try dsimp only at hSw); go_simp; try (with_reducible rfl))
  simp only [Act.put, List.setIfInBounds_toArray, List.set_cons_zero, List.set_cons_succ]
  refine tk_at (i := 4) (d := some 70) (v := ?_) rfl rfl (by kernel_rfl) (by kernel_rfl) (by kernel_rfl) (fun _ _ _ h => h) (Or.inl ⟨by rfl, ?_⟩) (by assumption) ?_
  rotate_left
  · (intro w hSw; (try dsimp only at hSw); go_simp; try (with_reducible rfl))
  simp only [Act.put, List.setIfInBounds_toArray, List.set_cons_zero, List.set_cons_succ]
  refine tk_at (i := 5) (d := some 71) (v := ?_) rfl rfl (by kernel_rfl) (by kernel_rfl) (by kernel_rfl) (fun _ _ _ h => h) (Or.inl ⟨by rfl, ?_⟩) (by assumption) ?_
  rotate_left
  · (intro w hSw; (try dsimp only at hSw); go_simp; try (with_reducible rfl))
  simp only [Act.put, List.setIfInBounds_toArray, List.set_cons_zero, List.set_cons_succ]
  refine tk_at (i := 6) (d := some 72) (v := ?_) rfl rfl (by kernel_rfl) (by kernel_rfl) (by kernel_rfl) (fun _ _ _ h => h) (Or.inl ⟨by rfl, ?_⟩) (by assumption) ?_
  rotate_left
  · (intro w hSw; (try dsimp only at hSw); go_simp; try (with_reducible rfl))
  simp only [Act.put, List.setIfInBounds_toArray, List.set_cons_zero, List.set_cons_succ]
  refine tk_at (i := 7) (d := some 73) (v := ?_) rfl rfl (by kernel_rfl) (by kernel_rfl) (by kernel_rfl) (fun _ _ _ h => h) (Or.inl ⟨by rfl, ?_⟩) (by assumption) ?_
  rotate_left
  · (intro w hSw; (try dsimp only at hSw); go_simp; try (with_reducible rfl))
  simp only [Act.put, List.setIfInBounds_toArray, List.set_cons_zero, List.set_cons_succ]
  refine tk_at (i := 8) (d := some 74) (v := ?_) rfl rfl (by kernel_rfl) (by kernel_rfl) (by kernel_rfl) (fun _ _ _ h => h) (Or.inl ⟨by rfl, ?_⟩) (by assumption) ?_
  rotate_left
  · (intro w hSw; (try dsimp only at hSw); go_simp; try (with_reducible rfl))
  simp only [Act.put, List.setIfInBounds_toArray, List.set_cons_zero, List.set_cons_succ]
  refine tk_at (i := 9) (d := some 75) (v := ?_) rfl rfl (by kernel_rfl) (by kernel_rfl) (by kernel_rfl) (fun _ _ _ h => h) (Or.inl ⟨by rfl, ?_⟩) (by assumption) ?_
  rotate_left
  · (intro w hSw; (try dsimp only at hSw); go_simp; try (with_reducible rfl))
  simp only [Act.put, List.setIfInBounds_toArray, List.set_cons_zero, List.set_cons_succ]
  refine tk_at (i := 10) (d := some 76) (v := ?_) rfl rfl (by kernel_rfl) (by kernel_rfl) (by kernel_rfl) (fun _ _ _ h => h) (Or.inl ⟨by rfl, ?_⟩) (by assumption) ?_
  rotate_left
  · (intro w hSw; (try dsimp only at hSw); go_simp; try (with_reducible rfl))
  simp only [Act.put, List.setIfInBounds_toArray, List.set_cons_zero, List.set_cons_succ]
  refine tk_at (i := 11) (d := some 77) (v := ?_) rfl rfl (by kernel_rfl) (by kernel_rfl) (by kernel_rfl) (fun _ _ _ h => h) (Or.inl ⟨by rfl, ?_⟩) (by assumption) ?_
  rotate_left
  · (intro w hSw; (try dsimp only at hSw); go_simp; try (with_reducible rfl))
  simp only [Act.put, List.setIfInBounds_toArray, List.set_cons_zero, List.set_cons_succ]
  refine tk_at (i := 12) (d := some 78) (v := ?_) rfl rfl (by kernel_rfl) (by kernel_rfl) (by kernel_rfl) (fun _ _ _ h => h) (Or.inl ⟨by rfl, ?_⟩) (by assumption) ?_
  rotate_left
  · (intro w hSw; (try dsimp only at hSw); go_simp; try (with_reducible rfl))
  simp only [Act.put, List.setIfInBounds_toArray, List.set_cons_zero, List.set_cons_succ]
  refine tk_at (i := 13) (d := some 79) (v := ?_) rfl rfl (by kernel_rfl) (by kernel_rfl) (by kernel_rfl) (fun _ _ _ h => h) (Or.inl ⟨by rfl, ?_⟩) (by assumption) ?_
  rotate_left
  · (intro w hSw; (try dsimp only at hSw); go_simp; try (with_reducible rfl))
  simp only [Act.put, List.setIfInBounds_toArray, List.set_cons_zero, List.set_cons_succ]
  refine tk_at (i := 14) (d := some 80) (v := ?_) rfl rfl (by kernel_rfl) (by kernel_rfl) (by kernel_rfl) (fun _ _ _ h => h) (Or.inl ⟨by rfl, ?_⟩) (by assumption) ?_
  rotate_left
  · (intro w hSw; (try dsimp only at hSw); go_simp; try (with_reducible rfl))
  simp only [Act.put, List.setIfInBounds_toArray, List.set_cons_zero, List.set_cons_succ]
  refine tk_at (i := 15) (d := some 81) (v := ?_) rfl rfl (by kernel_rfl) (by kernel_rfl) (by kernel_rfl) (fun _ _ _ h => h) (Or.inl ⟨by rfl, ?_⟩) (by assumption) ?_
  rotate_left
  · (intro w hSw; (try dsimp only at hSw); go_simp; try (with_reducible rfl))
  simp only [Act.put, List.setIfInBounds_toArray, List.set_cons_zero, List.set_cons_succ]
  refine tk_at (i := 16) (d := some 82) (v := ?_) rfl rfl (by kernel_rfl) (by kernel_rfl) (by kernel_rfl) (fun _ _ _ h => h) (Or.inl ⟨by rfl, ?_⟩) (by assumption) ?_
  rotate_left
  · (intro w hSw; (try dsimp only at hSw); go_simp; try (with_reducible rfl))
  simp only [Act.put, List.setIfInBounds_toArray, List.set_cons_zero, List.set_cons_succ]
  refine tk_at (i := 17) (d := some 83) (v := ?_) rfl rfl (by kernel_rfl) (by kernel_rfl) (by kernel_rfl) (fun _ _ _ h => h) (Or.inl ⟨by rfl, ?_⟩) (by assumption) ?_
  rotate_left
  · (intro w hSw; (try dsimp only at hSw); go_simp; try (with_reducible rfl))
  simp only [Act.put, List.setIfInBounds_toArray, List.set_cons_zero, List.set_cons_succ]
  refine tk_at (i := 18) (d := some 84) (v := ?_) rfl rfl (by kernel_rfl) (by kernel_rfl) (by kernel_rfl) (fun _ _ _ h => h) (Or.inl ⟨by rfl, ?_⟩) (by assumption) ?_
  rotate_left
  · (intro w hSw; (try dsimp only at hSw); go_simp; try (with_reducible rfl))
  simp only [Act.put, List.setIfInBounds_toArray, List.set_cons_zero, List.set_cons_succ]
  refine tk_at (i := 19) (d := some 85) (v := ?_) rfl rfl (by kernel_rfl) (by kernel_rfl) (by kernel_rfl) (fun _ _ _ h => h) (Or.inl ⟨by rfl, ?_⟩) (by assumption) ?_
  rotate_left
  · (intro w hSw; (try dsimp only at hSw); go_simp; try (with_reducible rfl))
  simp only [Act.put, List.setIfInBounds_toArray, List.set_cons_zero, List.set_cons_succ]
  refine tk_at (i := 21) (d := some 87) (v := ?_) rfl rfl (by kernel_rfl) (by kernel_rfl) (by kernel_rfl) (fun _ _ _ h => h) (Or.inl ⟨by rfl, ?_⟩) (by assumption) ?_
  rotate_left
  · (intro w hSw; (try dsimp only at hSw); go_simp; try (with_reducible rfl))
  simp only [Act.put, List.setIfInBounds_toArray, List.set_cons_zero, List.set_cons_succ]
  refine tk_at (i := 23) (d := some 89) (v := ?_) rfl rfl (by kernel_rfl) (by kernel_rfl) (by kernel_rfl) (fun _ _ _ h => h) (Or.inl ⟨by rfl, ?_⟩) (by assumption) ?_
  rotate_left
  · (intro w hSw; (try dsimp only at hSw); go_simp; try (with_reducible rfl))
  simp only [Act.put, List.setIfInBounds_toArray, List.set_cons_zero, List.set_cons_succ]
  refine tk_at (i := 24) (d := some 90) (v := ?_) rfl rfl (by kernel_rfl) (by kernel_rfl) (by kernel_rfl) (fun _ _ _ h => h) (Or.inl ⟨by rfl, ?_⟩) (by assumption) ?_
  rotate_left
  · (intro w hSw; (try dsimp only at hSw); go_simp; try (with_reducible rfl))
  simp only [Act.put, List.setIfInBounds_toArray, List.set_cons_zero, List.set_cons_succ]
  refine wpAnyH_ready (rs := [20]) (by kernel_rfl) (by simp) ?_
  refine AllReadyH.cons rfl (fun K hK => ?_) AllReadyH.nil
  go_simp
  refine (mClasses_any g (c0, m0, q0) (c1, m1, q1) (ad2, V, cap2) (c3, m3, q3) (c4, m4, q4) (c5, m5, q5) lc _ (Fd.out.below BD.out).hg (Fd.out.below BD.out).tc NC.out).mono ?_
  rintro e we ⟨ade, cape, rfl, hr, hb⟩
  have B10 := hid (belowCat BD.out hb)
  have R10 := hid hr
  clear hr hb
  go_wp2_with fail
  refine hK.out _ _ (KS.out _ B10.out) (fun hHeld => ?_)
  clear hK K
  try simp only [Act.put, List.setIfInBounds_toArray, List.set_cons_zero, List.set_cons_succ]
  refine wpAnyH_ready (rs := [22]) (by kernel_rfl) (by simp) ?_
  refine AllReadyH.cons rfl (fun K hK => ?_) AllReadyH.nil
  go_simp
  refine (rclass_any a cape ade lc _ R10.out NC.out).mono ?_
  rintro e wf ⟨rfl, hb⟩
  rw [HZ.out]
  have B11 := hid (belowCat B10.out hb)
  clear hb
  go_wp2_with fail
  refine hK.out _ _ (KS.out _ B11.out) (fun hHeld => ?_)
  clear hK K
  try simp only [Act.put, List.setIfInBounds_toArray, List.set_cons_zero, List.set_cons_succ]
  refine wpAnyH_ready (rs := [25]) (by kernel_rfl) (by simp) ?_
  refine AllReadyH.cons rfl (fun K hK => ?_) AllReadyH.nil
  go_simp
  refine (rclassM_any (a0, n0, p0) (a1, n1, p1) (ad, V, cap) (a3, n3, p3) (a4, n4, p4) (a5, n5, p5) lc a _ (Fd.out.below B11.out).sc NC.out).mono ?_
  rintro e wg ⟨rfl, hb⟩
  rw [HZ.out]
  have B12 := hid (belowCat B11.out hb)
  clear hb
  go_wp2_with fail
  refine hK.out _ _ (KS.out _ B12.out) (fun hHeld => ?_)
  clear hK K
  try simp only [Act.put, List.setIfInBounds_toArray, List.set_cons_zero, List.set_cons_succ]
  refine tk_at (i := 26) (d := some 92) (v := ?_) rfl rfl (by kernel_rfl) (by kernel_rfl) (by kernel_rfl) (fun _ _ _ h => h) (Or.inl ⟨by rfl, ?_⟩) (by assumption) ?_
  rotate_left
  · (intro w hSw; (try dsimp only at hSw); go_simp; try (with_reducible rfl))
  simp only [Act.put, List.setIfInBounds_toArray, List.set_cons_zero, List.set_cons_succ]
  refine tk_at (i := 27) (d := some 93) (v := ?_) rfl rfl (by kernel_rfl) (by kernel_rfl) (by kernel_rfl) (fun _ _ _ h => h) (Or.inl ⟨by rfl, ?_⟩) (by assumption) ?_
  rotate_left
  · (intro w hSw; (try dsimp only at hSw); go_simp; try (with_reducible rfl))
  simp only [Act.put, List.setIfInBounds_toArray, List.set_cons_zero, List.set_cons_succ]
  refine wpAnyH_ready (rs := [28]) (by kernel_rfl) (by simp) ?_
  refine AllReadyH.cons rfl (fun K hK => ?_) AllReadyH.nil
  go_simp
  go_wp2_with fail
  refine hK.out _ _ (KS.out _ B12.out) (fun hHeld => ?_)
  clear hK K
  try simp only [Act.put, List.setIfInBounds_toArray, List.set_cons_zero, List.set_cons_succ]
  refine wpAnyH_done (by kernel_rfl) ?_ _
  clear hHeld
  go_wp2
  go_ret
  exact ⟨rfl, belowCat Bd.out B12.out⟩
end Go.Proofs.YtgalmlelnolodaaGreatDoor
