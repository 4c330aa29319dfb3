/- Ranges and named spans in memory: what the charts of ranges and of sets say; their order. Conditions: none. slices.Contains of strings, strings.Contains of one letter, and the document's One and Letter, over this seat's translation. Conditions: at most 10^6 strings, in memory; a text of at most 10^6 bytes. Package tables' closures of its methods, over this seat's translation: which lines are asked for. Conditions: what they name is in memory. Package tables' pick at its closures, over this seat's translation: the merged spans of those lines that are asked for. Conditions: at most 10^6 lines, in memory. The document's Range and Set of layer 8, over this seat's translation. Conditions: at most 10^6 lines, in memory. Package tables' Assigned, Cats, Sides, Joins, Set and Alike, over this seat's translation: merged spans of the lines that are asked for. Conditions: at most 10^6 lines and names, in memory. Spans of asked lines hold a point where its own line is asked for; lists of strings as they are read. Conditions: none. -/
import Derived.Test.YtgalmlelnolodaaGreatDoorTxA
import Derived.Test.YtgalmlelnolodaaGreatDoorTdD
import Derived.Test.YtgalmlelnolodaaGreatDoorTbN
import Derived.Test.YtgalmlelnolodaaGreatDoorShL
import Derived.Lib.IndexAny
import Derived.Test.YtgalmlelnolodaaGreatDoorTbQ
import Derived.Test.YtgalmlelnolodaaGreatDoorTdH
import Derived.Test.YtgalmlelnolodaaGreatDoorTdK
import Derived.ProofKit
import Derived.Deep.Slices
import Derived.OpenShut
namespace Go.Proofs.YtgalmlelnolodaaGreatDoor
open Go.RowKit
set_option linter.unusedVariables false

/-- a range: its points, category, direction, joining type, and whether it is new -/
structure Rng where
  a : Nat
  b : Nat
  c : ByteArray
  d : ByteArray
  j : ByteArray
  n : Bool
def rgIt (r : Rng) : It := ⟨r.a, r.b, [.string r.c, .string r.d, .string r.j, .bool r.n]⟩
/-- a set's span, and its name -/
structure Nm where
  s : ByteArray
  a : Nat
  b : Nat
def nmIt (r : Nm) : It := ⟨r.a, r.b, [.string r.s]⟩
theorem rg_form {ws : List ByteArray} {i : It} (h : rgOf ws = some i) : ∃ r : Rng, i = rgIt r ∧ r.a ≤ r.b ∧ r.b ≤ 1114111 ∧ r.j.size = 1 := by
  have hle := rg_le h
  have hbb := (rgOf_r h).2.1
  by_cases h6 : ws.length = 6
  · rw [rgOf_6 h6] at h
    cases ho : spV (bs (wd ws 0)) (bs (wd ws 1)) with
    | none => rw [ho] at h; cases h
    | some p =>
      rw [ho] at h
      simp only [Option.bind_some] at h
      split at h
      · rename_i hc
        cases h
        simp only [Bool.and_eq_true] at hc
        refine ⟨⟨p.1, p.2, wd ws 2, wd ws 3, wd ws 4, (wd ws 5).toList == [110, 101, 119]⟩, rfl, hle, hbb, ?_⟩
        by_cases h1 : (wd ws 4).size = 1
        · exact h1
        · have := hc.1.2
          rw [jnV_no h1] at this
          cases this
      · cases h
  · rw [rgOf_no6 h6] at h; cases h
theorem its_form {β : Type} {of_ : List ByteArray → Option It} {f : β → It} {P : β → Prop} {bh : It → It → Bool} {ls : List (List ByteArray)} {k : Nat} {its : List It} (hr : rsV of_ bh ls k = (its, 0)) (h : ∀ ws i, of_ ws = some i → ∃ r : β, i = f r ∧ P r) : ∃ l : List β, its = l.map f ∧ ∀ r ∈ l, P r := by
  have hs := rsV_some hr
  clear hr
  induction its with
  | nil => exact ⟨[], rfl, fun r hr => by cases hr⟩
  | cons i t ih =>
    obtain ⟨l, h1, h2⟩ := ih (fun x hx => hs x (List.mem_cons_of_mem _ hx))
    obtain ⟨j, _, e⟩ := hs i List.mem_cons_self
    obtain ⟨r, hr, hp⟩ := h _ _ e
    refine ⟨r :: l, by rw [List.map_cons, ← h1, hr], fun x hx => ?_⟩
    rcases List.mem_cons.1 hx with rfl | hx
    · exact hp
    · exact h2 x hx
theorem nm_form {ws : List ByteArray} {i : It} (h : nmOf ws = some i) : ∃ r : Nm, i = nmIt r ∧ r.a ≤ 1114111 ∧ r.b ≤ 1114111 := by
  obtain ⟨h1, h2, s, h3⟩ := nmOf_r h
  exact ⟨⟨s, i.a, i.b⟩, by unfold nmIt; rw [← h3], h1, h2⟩
theorem up_pair {of_ : List ByteArray → Option It} {ls : List (List ByteArray)} : ∀ {k : Nat} {l : List It}, rsV of_ upW ls k = (l, 0) → (∀ x ∈ l, x.a ≤ x.b) → l.Pairwise fun p q => p.b < q.a := by
  intro k
  induction k with
  | zero => intro l h _; cases h; exact List.Pairwise.nil
  | succ k ih =>
    intro l h hab
    obtain ⟨l0, e0, h0⟩ : ∃ l0 e0, rsV of_ upW ls k = (l0, e0) := ⟨_, _, rfl⟩
    rw [rsV, h0] at h
    by_cases he : e0 = 0
    · subst he
      simp only [ne_eq, not_true_eq_false, if_false] at h
      split at h
      · rename_i y hy
        split at h
        · rename_i hf
          cases h
          have hp := ih h0 (fun x hx => hab x (List.mem_append_left _ hx))
          rw [List.pairwise_append]
          refine ⟨hp, List.pairwise_singleton _ _, fun p hpm q hq => ?_⟩
          rw [List.mem_singleton] at hq
          subst hq
          unfold fitV at hf
          cases hl : l0.getLast? with
          | none =>
            rw [List.getLast?_eq_none_iff] at hl
            subst hl; cases hpm
          | some z =>
            rw [hl] at hf
            have hz : z.b < q.a := by simpa [upW] using hf
            obtain ⟨ys, hys⟩ := List.getLast?_eq_some_iff.1 hl
            subst hys
            rcases List.mem_append.1 hpm with h1 | h1
            · have := (List.pairwise_append.1 hp).2.2 p h1 z (List.mem_singleton.2 rfl)
              have hz2 := hab z (List.mem_append_left _ (List.mem_append_right _ (List.mem_singleton.2 rfl)))
              omega
            · rw [List.mem_singleton] at h1
              subst h1; exact hz
        · cases h
      · cases h
    · simp only [ne_eq, he, not_false_eq_true, if_true] at h
      cases h; exact absurd rfl he
/-- the spans of those that are asked for -/
def pkR (f : Rng → Bool) (l : List Rng) : List Zp := (l.filter f).map fun r => (r.a, r.b)
def pkN (f : Nm → Bool) (l : List Nm) : List Zp := (l.filter f).map fun r => (r.a, r.b)
def pkD (f : Dq → Bool) (l : List Dq) : List Zp := (l.filter f).map fun x => (x.d.p, x.d.p)
theorem pkR_succ (f : Rng → Bool) (l : List Rng) {k : Nat} (h : k < l.length) : pkR f (l.take (k + 1)) = pkR f (l.take k) ++ (if f l[k] then [(l[k].a, l[k].b)] else []) := by
  unfold pkR
  rw [List.take_succ_eq_append_getElem h, List.filter_append, List.map_append]
  congr 1
  cases hf : f l[k] <;> simp [hf]
theorem pkR_len (f : Rng → Bool) (l : List Rng) (k : Nat) : (pkR f (l.take k)).length ≤ k := by
  unfold pkR
  rw [List.length_map]
  exact Nat.le_trans (List.length_filter_le _ _) (by rw [List.length_take]; omega)
theorem pkN_succ (f : Nm → Bool) (l : List Nm) {k : Nat} (h : k < l.length) : pkN f (l.take (k + 1)) = pkN f (l.take k) ++ (if f l[k] then [(l[k].a, l[k].b)] else []) := by
  unfold pkN
  rw [List.take_succ_eq_append_getElem h, List.filter_append, List.map_append]
  congr 1
  cases hf : f l[k] <;> simp [hf]
theorem pkN_len (f : Nm → Bool) (l : List Nm) (k : Nat) : (pkN f (l.take k)).length ≤ k := by
  unfold pkN
  rw [List.length_map]
  exact Nat.le_trans (List.length_filter_le _ _) (by rw [List.length_take]; omega)
theorem pkD_succ (f : Dq → Bool) (l : List Dq) {k : Nat} (h : k < l.length) : pkD f (l.take (k + 1)) = pkD f (l.take k) ++ (if f l[k] then [(l[k].d.p, l[k].d.p)] else []) := by
  unfold pkD
  rw [List.take_succ_eq_append_getElem h, List.filter_append, List.map_append]
  congr 1
  cases hf : f l[k] <;> simp [hf]
theorem pkD_len (f : Dq → Bool) (l : List Dq) (k : Nat) : (pkD f (l.take k)).length ≤ k := by
  unfold pkD
  rw [List.length_map]
  exact Nat.le_trans (List.length_filter_le _ _) (by rw [List.length_take]; omega)
def RgAt (w : World) (ad : Option Addr) (l : List Rng) : Prop := ∀ k (hk : k < l.length), ∃ g, ad = some ⟨g, 0, none⟩ ∧ w.cell? ⟨g, k * 6, none⟩ = some (.int .u32 ((l[k].a : Nat) : Int)) ∧ w.cell? ⟨g, k * 6 + 1, none⟩ = some (.int .u32 ((l[k].b : Nat) : Int)) ∧ w.cell? ⟨g, k * 6 + 2, none⟩ = some (.string l[k].c) ∧ w.cell? ⟨g, k * 6 + 3, none⟩ = some (.string l[k].d) ∧ w.cell? ⟨g, k * 6 + 4, none⟩ = some (.string l[k].j) ∧ w.cell? ⟨g, k * 6 + 5, none⟩ = some (.bool l[k].n)
theorem RgAt.below {w w' : World} {ad : Option Addr} {l : List Rng} (h : RgAt w ad l) (hb : Below w.heap.size w w') : RgAt w' ad l := fun k hk => by
  obtain ⟨g, hg, h0, h1, h2, h3, h4, h5⟩ := h k hk
  exact ⟨g, hg, cellX hb h0, cellX hb h1, cellX hb h2, cellX hb h3, cellX hb h4, cellX hb h5⟩
theorem rgIt_size (l : List Rng) : ∀ i ∈ l.map rgIt, (rgC i).size = 6 := fun i hi => by
  obtain ⟨r, _, rfl⟩ := List.mem_map.1 hi
  rfl
theorem RgAt.of {w : World} {lo : Nat} {l : List Rng} {s : Option Addr × Nat × Nat} (h : RwI w lo rgC (l.map rgIt) s) : s.2.1 = l.length ∧ RgAt w s.1 l := by
  refine ⟨by rw [h.len, List.length_map], fun k hk => ?_⟩
  rcases h.at_ with ⟨_, h2, _⟩ | ⟨g, h1, _, h3⟩
  · have : l = [] := List.map_eq_nil_iff.1 h2
    subst this
    exact absurd hk (Nat.not_lt_zero k)
  · have hk2 : k < (l.map rgIt).length := by rw [List.length_map]; exact hk
    have e : (l.map rgIt)[k] = rgIt l[k] := by rw [List.getElem_map]
    have h0x := rowC_at (rgIt_size l) hk2 (show 0 < 6 by omega)
    have h1x := rowC_at (rgIt_size l) hk2 (show 1 < 6 by omega)
    have h2x := rowC_at (rgIt_size l) hk2 (show 2 < 6 by omega)
    have h3x := rowC_at (rgIt_size l) hk2 (show 3 < 6 by omega)
    have h4x := rowC_at (rgIt_size l) hk2 (show 4 < 6 by omega)
    have h5x := rowC_at (rgIt_size l) hk2 (show 5 < 6 by omega)
    rw [e] at h0x h1x h2x h3x h4x h5x
    exact ⟨g, h1, h3 _ _ h0x, h3 _ _ h1x, h3 _ _ h2x, h3 _ _ h3x, h3 _ _ h4x, h3 _ _ h5x⟩
def NmAt (w : World) (ad : Option Addr) (l : List Nm) : Prop := ∀ k (hk : k < l.length), ∃ g, ad = some ⟨g, 0, none⟩ ∧ w.cell? ⟨g, k * 3, none⟩ = some (.string l[k].s) ∧ w.cell? ⟨g, k * 3 + 1, none⟩ = some (.int .u32 ((l[k].a : Nat) : Int)) ∧ w.cell? ⟨g, k * 3 + 2, none⟩ = some (.int .u32 ((l[k].b : Nat) : Int))
theorem NmAt.below {w w' : World} {ad : Option Addr} {l : List Nm} (h : NmAt w ad l) (hb : Below w.heap.size w w') : NmAt w' ad l := fun k hk => by
  obtain ⟨g, hg, h0, h1, h2⟩ := h k hk
  exact ⟨g, hg, cellX hb h0, cellX hb h1, cellX hb h2⟩
theorem nmIt_size (l : List Nm) : ∀ i ∈ l.map nmIt, (nmC i).size = 3 := fun i hi => by
  obtain ⟨r, _, rfl⟩ := List.mem_map.1 hi
  rfl
theorem NmAt.of {w : World} {lo : Nat} {l : List Nm} {s : Option Addr × Nat × Nat} (h : RwI w lo nmC (l.map nmIt) s) : s.2.1 = l.length ∧ NmAt w s.1 l := by
  refine ⟨by rw [h.len, List.length_map], fun k hk => ?_⟩
  rcases h.at_ with ⟨_, h2, _⟩ | ⟨g, h1, _, h3⟩
  · have : l = [] := List.map_eq_nil_iff.1 h2
    subst this
    exact absurd hk (Nat.not_lt_zero k)
  · have hk2 : k < (l.map nmIt).length := by rw [List.length_map]; exact hk
    have e : (l.map nmIt)[k] = nmIt l[k] := by rw [List.getElem_map]
    have h0x := rowC_at (nmIt_size l) hk2 (show 0 < 3 by omega)
    have h1x := rowC_at (nmIt_size l) hk2 (show 1 < 3 by omega)
    have h2x := rowC_at (nmIt_size l) hk2 (show 2 < 3 by omega)
    rw [e] at h0x h1x h2x
    exact ⟨g, h1, h3 _ _ h0x, h3 _ _ h1x, h3 _ _ h2x⟩
/-- texts by their bytes -/
def eqB (a b : ByteArray) : Bool := a.toList == b.toList
def memB (s : ByteArray) (l : List ByteArray) : Bool := l.any fun t => eqB t s
/-- strings in memory -/
def StAt (w : World) (ad : Option Addr) (l : List ByteArray) : Prop := ∀ k (hk : k < l.length), ∃ x, ad = some x ∧ w.cell? (x.add k) = some (.string l[k])
theorem StAt.below {w w' : World} {ad : Option Addr} {l : List ByteArray} (h : StAt w ad l) (hb : Below w.heap.size w w') : StAt w' ad l := fun k hk => by
  obtain ⟨x, h1, h2⟩ := h k hk
  exact ⟨x, h1, cellX hb h2⟩
end Go.Proofs.YtgalmlelnolodaaGreatDoor
namespace Go.Proofs.YtgalmlelnolodaaGreatDoor
open Go.RowKit
set_option linter.unusedVariables false

theorem memB_no {s : ByteArray} {l : List ByteArray} (h : ∀ j (hj : j < l.length), eqB l[j] s = false) : memB s l = false := by
  unfold memB
  rw [List.any_eq_false]
  intro t ht
  obtain ⟨j, hj, e⟩ := List.getElem_of_mem ht
  rw [← e, h j hj]
  simp
theorem memB_yes {s : ByteArray} {l : List ByteArray} {k : Nat} (hk : k < l.length) (h : eqB l[k] s = true) : memB s l = true := by
  unfold memB
  rw [List.any_eq_true]
  exact ⟨l[k], List.getElem_mem hk, h⟩
theorem eqB_comm (a b : ByteArray) : eqB a b = eqB b a := by
  unfold eqB
  rw [Bool.eq_iff_iff, beq_iff_eq, beq_iff_eq]
  exact eq_comm
theorem no_more {l : List ByteArray} {s : ByteArray} {k : Nat} (hk : k < l.length) (h : ∀ j (hj : j < l.length), j < k → eqB l[j] s = false) (e : eqB l[k] s = false) : ∀ j (hj : j < l.length), j < k + 1 → eqB l[j] s = false := fun j hj h2 => by
  by_cases ej : j = k
  · subst ej; exact e
  · exact h j hj (by omega)
set_option maxHeartbeats 1600000 in
theorem indexSt_any (ad : Option Addr) (l : List ByteArray) (cap : Nat) (s : ByteArray) (w : World) (h : StAt w ad l) (hn : l.length ≤ 1000000) :
    Calls Tryz.prog 78 #[.slice ad l.length cap, .string s] w fun e w' => ((∃ k : Nat, k < l.length ∧ memB s l = true ∧ e = .returned (.int .i64 (k : Int))) ∨ (memB s l = false ∧ e = .returned (.int .i64 (-1)))) ∧ w' = w := by
  have HX := hid h
  clear h
  go_enter Tryz.func78, Tryz.ntmps78
  go_wp2_with fail
  go_loopw [8] (fun c wr => ∃ k : Nat, k ≤ l.length ∧ c = .int .i64 (k : Int) ∧ (∀ j (hj : j < l.length), j < k → eqB l[j] s = false) ∧ wr = w) (fun c _ => l.length - (intOf c).toNat)
  case atStart => exact ⟨0, Nat.zero_le _, rfl, fun j _ h => absurd h (Nat.not_lt_zero j), rfl⟩
  case round =>
    obtain ⟨k, hk, rfl, hno, rfl⟩ := hrel
    have HNo := hid hno
    clear hno
    by_cases hlt : k < l.length
    · obtain ⟨x, rfl, hc⟩ := HX.out k hlt
      have HS := hid (no_more hlt HNo.out)
      have HY := hid (memB_yes (s := s) hlt)
      obtain ⟨y, hy⟩ : ∃ y, l[k] = y := ⟨_, rfl⟩
      rw [hy] at hc HS HY
      have hib : k < 1000000 := by omega
      clear hy hk
      cases hys : eqB y s
      · have HS2 := hid (HS.out hys)
        have e1 : (s.toList == y.toList) = false := by rw [eqB_comm] at hys; exact hys
        clear HS HY hys
        go_wp2
        go_roundw
        case rel => exact ⟨k + 1, by omega, by go_num, HS2.out, (by first | rfl | trivial)⟩
        case measure => simp [intOf]; omega
      · have HM := hid (HY.out hys)
        have e1 : (s.toList == y.toList) = true := by rw [eqB_comm] at hys; exact hys
        clear HS HY hys
        go_wp2
        go_ret
        exact ⟨Or.inl ⟨k, hlt, HM.out, rfl⟩, rfl⟩
    · have HE := hid (memB_no (s := s) (l := l) fun j hj => HNo.out j hj (by omega))
      go_wp2
      go_ret
      exact ⟨Or.inr ⟨HE.out, rfl⟩, rfl⟩
set_option maxHeartbeats 1600000 in
theorem contains_any (ad : Option Addr) (l : List ByteArray) (cap : Nat) (s : ByteArray) (w : World) (h : StAt w ad l) (hn : l.length ≤ 1000000) :
    Calls Tryz.prog 48 #[.slice ad l.length cap, .string s] w fun e w' => e = .returned (.bool (memB s l)) ∧ w' = w := by
  have HC := hid (indexSt_any ad l cap s w h hn)
  clear h hn
  go_enter Tryz.func48, Tryz.ntmps48
  go_wp2_with fail
  refine HC.out.mono ?_
  rintro e w1 ⟨hq, rfl⟩
  rcases hq with ⟨k, hk, hm, rfl⟩ | ⟨hm, rfl⟩
  · have HM := hid hm
    have hk0 : (0 : Int) ≤ (k : Int) := by omega
    clear HC hm
    go_wp2
    go_ret
    exact ⟨by rw [HM.out]; rfl, rfl⟩
  · have HM := hid hm
    clear HC hm
    go_wp2
    go_ret
    exact ⟨by rw [HM.out]; rfl, rfl⟩
set_option maxHeartbeats 1600000 in
theorem one_any (ad : Option Addr) (l : List ByteArray) (cap : Nat) (s : ByteArray) (w : World) (h : StAt w ad l) (hn : l.length ≤ 1000000) :
    Calls Tryz.prog 21 #[.slice ad l.length cap, .string s] w fun e w' => e = .returned (.bool (memB s l)) ∧ w' = w := by
  have HX := hid h
  clear h
  go_enter Tryz.func21, Tryz.ntmps21
  go_wp2_with fail
  go_loopw [5] (fun c wr => ∃ k : Nat, k ≤ l.length ∧ c = .int .i64 (k : Int) ∧ (∀ j (hj : j < l.length), j < k → eqB l[j] s = false) ∧ wr = w) (fun c _ => l.length - (intOf c).toNat)
  case atStart => exact ⟨0, Nat.zero_le _, rfl, fun j _ h => absurd h (Nat.not_lt_zero j), rfl⟩
  case round =>
    obtain ⟨k, hk, rfl, hno, rfl⟩ := hrel
    have HNo := hid hno
    clear hno
    by_cases hlt : k < l.length
    · obtain ⟨x, rfl, hc⟩ := HX.out k hlt
      have HS := hid (no_more hlt HNo.out)
      have HY := hid (memB_yes (s := s) hlt)
      obtain ⟨y, hy⟩ : ∃ y, l[k] = y := ⟨_, rfl⟩
      rw [hy] at hc HS HY
      have hib : k < 1000000 := by omega
      clear hy hk
      cases hys : eqB y s
      · have HS2 := hid (HS.out hys)
        have e1 : (y.toList == s.toList) = false := hys
        clear HS HY hys
        go_wp2
        go_roundw
        case rel => exact ⟨k + 1, by omega, by go_num, HS2.out, (by first | rfl | trivial)⟩
        case measure => simp [intOf]; omega
      · have HM := hid (HY.out hys)
        have e1 : (y.toList == s.toList) = true := hys
        clear HS HY hys
        go_wp2
        go_ret
        exact ⟨by rw [HM.out]; rfl, rfl⟩
    · have HE := hid (memB_no (s := s) (l := l) fun j hj => HNo.out j hj (by omega))
      go_wp2
      go_ret
      exact ⟨by rw [HE.out]; rfl, rfl⟩
theorem stContains_any (s : ByteArray) (c : UInt8) (w : World) :
    Calls Tryz.prog 51 #[.string s, .string ⟨#[c]⟩] w fun e w' => e = .returned (.bool (s.data.toList.contains c)) ∧ w' = w := by
  refine (Tryz.strings_Contains_one s c w).mono ?_
  rintro e w' ⟨rfl, rfl⟩
  rw [Lib.contains_iff_indexByte]
  exact ⟨rfl, rfl⟩
theorem byte_at (s : ByteArray) (k : Nat) (h : k < s.data.size) : (s.extract k (k + 1)).toList = [s.data[k]] := by
  rw [ByteArray.toList_eq, ByteArray.data_extract, Array.toList_extract, List.extract_eq_take_drop]
  have e : k + 1 - k = 1 := by omega
  rw [e]
  have h2 : k < s.data.toList.length := by simpa using h
  rw [List.drop_eq_getElem_cons h2]
  simp
set_option maxHeartbeats 1600000 in
theorem letter_any (s : ByteArray) (c : UInt8) (w : World) (hn : s.size ≤ 1000000) :
    Calls Tryz.prog 24 #[.string s, .string ⟨#[c]⟩] w fun e w' => e = .returned (.bool (s.data.toList.contains c)) ∧ w' = w := by
  go_enter Tryz.func24, Tryz.ntmps24
  go_wp2_with fail
  go_loopw [5] (fun k wr => ∃ i : Nat, i ≤ s.size ∧ k = .int .i64 (i : Int) ∧ (∀ j (hj : j < s.data.size), j < i → s.data[j] ≠ c) ∧ wr = w) (fun k _ => s.size - (intOf k).toNat)
  case atStart => exact ⟨0, Nat.zero_le _, rfl, fun j _ h => absurd h (Nat.not_lt_zero j), rfl⟩
  case round =>
    obtain ⟨k, hk, rfl, hno, rfl⟩ := hrel
    have HNo := hid hno
    clear hno
    by_cases hlt : k < s.size
    · have hkd : k < s.data.size := by simpa using hlt
      have hib : k < 1000000 := by omega
      have hwk : IntKind.i64.wrap ((k : Int) + 1) = (k : Int) + 1 := by rw [IntKind.wrap_i64]; omega
      have HBA := hid (byte_at s k hkd)
      by_cases hc : s.data[k] = c
      · have HC := hid (show s.data.toList.contains c = true from by
          rw [List.contains_iff_mem, ← hc]
          exact Array.getElem_mem_toList hkd)
        have hq : ((s.extract k (k + 1)).toList == [c]) = true := by rw [HBA.out, hc]; simp
        clear hc HBA
        go_wp2
        go_ret
        exact ⟨by rw [HC.out]; rfl, rfl⟩
      · have hq : ((s.extract k (k + 1)).toList == [c]) = false := by rw [HBA.out]; simpa using hc
        have HS := hid (show ∀ j (hj : j < s.data.size), j < k + 1 → s.data[j] ≠ c from fun j hj h => by
          by_cases ej : j = k
          · subst ej; exact hc
          · exact HNo.out j hj (by omega))
        clear hc HBA
        go_wp2
        go_roundw
        case rel => exact ⟨k + 1, by omega, by go_num, HS.out, (by first | rfl | trivial)⟩
        case measure => simp [intOf]; omega
    · have HC := hid (show s.data.toList.contains c = false from by
        rw [Bool.eq_false_iff]
        intro h
        rw [List.contains_iff_mem] at h
        obtain ⟨j, hj, e⟩ := List.getElem_of_mem h
        have hj2 : j < s.data.size := by simpa using hj
        have hj3 : j < s.size := hj2
        exact HNo.out j hj2 (by omega) (by rw [← e]; simp))
      go_wp2
      go_ret
      exact ⟨by rw [HC.out]; rfl, rfl⟩
end Go.Proofs.YtgalmlelnolodaaGreatDoor
namespace Go.Proofs.YtgalmlelnolodaaGreatDoor
open Go.RowKit
set_option linter.unusedVariables false

set_option maxHeartbeats 3200000 in
theorem askA_any (a b : Nat) (sc sd sj : ByteArray) (nw : Bool) (al : Bool) (pb : Nat) (w : World) (hp : w.heap[pb]? = some (.cells #[.bool al] 4 (0, 0))) :
    Calls Tryz.prog 46 #[.agg #[.int .u32 (a : Int), .int .u32 (b : Int), .string sc, .string sd, .string sj, .bool nw], .pointer (some ⟨pb, 0, none⟩)] w fun e w' => e = .returned (.tuple #[.agg #[.int .u32 (a : Int), .int .u32 (b : Int)], .bool (al || !nw)]) ∧ Below w.heap.size w w' := by
  have HP := hid hp
  have LP := hid (lt_of_heap hp)
  go_enter Tryz.func46, Tryz.ntmps46
  go_wp2_with fail
  have hBA := ((Below.refl w.heap.size w).alloc (Nat.le_refl _) (.cells #[.int .u32 (a : Int), .int .u32 (b : Int), .string sc, .string sd, .string sj, .bool nw] 49)).alloc (by simp) (.cells #[.int .u32 0, .int .u32 0] 47)
  have Z0 := hid (show ((w.alloc (.cells #[.int .u32 (a : Int), .int .u32 (b : Int), .string sc, .string sd, .string sj, .bool nw] 49)).alloc (.cells #[.int .u32 0, .int .u32 0] 47)).heap[w.heap.size]? = some (.cells #[.int .u32 (a : Int), .int .u32 (b : Int), .string sc, .string sd, .string sj, .bool nw] 49 (0, 0)) from by rw [heap_alloc_old _ _ _ (by simp)]; exact heap_alloc_at _ _)
  have Z1 := hid (show ((w.alloc (.cells #[.int .u32 (a : Int), .int .u32 (b : Int), .string sc, .string sd, .string sj, .bool nw] 49)).alloc (.cells #[.int .u32 0, .int .u32 0] 47)).heap[w.heap.size + 1]? = some (.cells #[.int .u32 0, .int .u32 0] 47 (0, 0)) from by
    have := heap_alloc_at (w.alloc (.cells #[.int .u32 (a : Int), .int .u32 (b : Int), .string sc, .string sd, .string sj, .bool nw] 49)) (.cells #[.int .u32 0, .int .u32 0] 47); rw [World.size_alloc] at this; exact this)
  have ZP := hid ((hBA.block pb LP.out).trans HP.out)
  have BA := hid hBA
  clear hBA
  generalize (w.alloc (.cells #[.int .u32 (a : Int), .int .u32 (b : Int), .string sc, .string sd, .string sj, .bool nw] 49)).alloc (.cells #[.int .u32 0, .int .u32 0] 47) = w1 at *
  obtain ⟨N, hN⟩ : ∃ N, w.heap.size = N := ⟨_, rfl⟩
  have HN := hid hN
  rw [hN] at Z0 Z1 LP ⊢
  clear hN hp HP
  have KS := hid (show ∀ w' : World, w'.heap[N]? = some (.cells #[.int .u32 (a : Int), .int .u32 (b : Int), .string sc, .string sd, .string sj, .bool nw] 49 (0, 0)) → w'.heap[pb]? = some (.cells #[.bool al] 4 (0, 0)) → (fun w' => w'.cell? ⟨N, 0, none⟩ = some (.int .u32 (a : Int)) ∧ w'.cell? ⟨N, 1, none⟩ = some (.int .u32 (b : Int)) ∧ w'.cell? ⟨N, 5, none⟩ = some (.bool nw) ∧ w'.cell? ⟨pb, 0, none⟩ = some (.bool al)) w' from fun w' h0 hp => ⟨cell_of_heap h0 rfl, cell_of_heap h0 rfl, cell_of_heap h0 rfl, cell_of_heap hp rfl⟩)
  cases al with
  | true =>
    refine wp_region_held_drew (S := (fun w' => w'.cell? ⟨N, 0, none⟩ = some (.int .u32 (a : Int)) ∧ w'.cell? ⟨N, 1, none⟩ = some (.int .u32 (b : Int)) ∧ w'.cell? ⟨N, 5, none⟩ = some (.bool nw) ∧ w'.cell? ⟨pb, 0, none⟩ = some (.bool true))) (by kernel_rfl) (KS.out _ Z0.out ZP.out) (fun hHeld => ?_)
    refine tk_at (i := 0) (d := some 5) (v := ?_) rfl rfl (by kernel_rfl) (by kernel_rfl) (by kernel_rfl) (fun _ _ _ h => h) (Or.inl ⟨by rfl, ?_⟩) (by assumption) ?_
    rotate_left
    · (intro w hSw; (try dsimp only at hSw); go_simp; try (with_reducible rfl))
    simp only [Act.put, List.setIfInBounds_toArray, List.set_cons_zero, List.set_cons_succ]
    refine tk_at (i := 1) (d := some 6) (v := ?_) rfl rfl (by kernel_rfl) (by kernel_rfl) (by kernel_rfl) (fun _ _ _ h => h) (Or.inl ⟨by rfl, ?_⟩) (by assumption) ?_
    rotate_left
    · (intro w hSw; (try dsimp only at hSw); go_simp; try (with_reducible rfl))
    simp only [Act.put, List.setIfInBounds_toArray, List.set_cons_zero, List.set_cons_succ]
    refine tk_at (i := 2) (d := some 7) (v := ?_) rfl rfl (by kernel_rfl) (by kernel_rfl) (by kernel_rfl) (fun _ _ _ h => h) (Or.inl ⟨by rfl, ?_⟩) (by assumption) ?_
    rotate_left
    · (intro w hSw; (try dsimp only at hSw); go_simp; try (with_reducible rfl))
    simp only [Act.put, List.setIfInBounds_toArray, List.set_cons_zero, List.set_cons_succ]
    refine tk_at (i := 3) (d := some 8) (v := ?_) rfl rfl (by kernel_rfl) (by kernel_rfl) (by kernel_rfl) (fun _ _ _ h => h) (Or.inl ⟨by rfl, ?_⟩) (by assumption) ?_
    rotate_left
    · (intro w hSw; (try dsimp only at hSw); go_simp; try (with_reducible rfl))
    simp only [Act.put, List.setIfInBounds_toArray, List.set_cons_zero, List.set_cons_succ]
    refine tk_at (i := 4) (d := some 9) (v := undef) rfl rfl (by kernel_rfl) (by kernel_rfl) (by kernel_rfl) (fun _ _ _ h => h) (Or.inr ⟨by rfl, rfl⟩) (by assumption) ?_
    simp only [Act.put, List.setIfInBounds_toArray, List.set_cons_zero, List.set_cons_succ]
    refine tk_at (i := 5) (d := some 10) (v := undef) rfl rfl (by kernel_rfl) (by kernel_rfl) (by kernel_rfl) (fun _ _ _ h => h) (Or.inr ⟨by rfl, rfl⟩) (by assumption) ?_
    simp only [Act.put, List.setIfInBounds_toArray, List.set_cons_zero, List.set_cons_succ]
    refine tk_at (i := 6) (d := some 11) (v := undef) rfl rfl (by kernel_rfl) (by kernel_rfl) (by kernel_rfl) (fun _ _ _ h => h) (Or.inr ⟨by rfl, rfl⟩) (by assumption) ?_
    simp only [Act.put, List.setIfInBounds_toArray, List.set_cons_zero, List.set_cons_succ]
    refine tk_at (i := 7) (d := some 12) (v := ?_) rfl rfl (by kernel_rfl) (by kernel_rfl) (by kernel_rfl) (fun _ _ _ h => h) (Or.inl ⟨by rfl, ?_⟩) (by assumption) ?_
    rotate_left
    · (intro w hSw; (try dsimp only at hSw); go_simp; try (with_reducible rfl))
    simp only [Act.put, List.setIfInBounds_toArray, List.set_cons_zero, List.set_cons_succ]
    have X0 := hid (show w1.drew.heap[N]? = _ from Z0.out)
    have X1 := hid (show w1.drew.heap[N + 1]? = _ from Z1.out)
    have XP := hid (show w1.drew.heap[pb]? = _ from ZP.out)
    have XB := hid (show Below w.heap.size w w1.drew from blwXD BA.out)
    clear hHeld
    generalize w1.drew = x0 at *
    have f0 := frozen_of_heap (i := 0) X1.out
    have f1 := frozen_of_heap (i := 1) X1.out
    have c0 := cell_of_heap (i := 0) X1.out rfl
    have c1 := cell_of_heap (i := 1) X1.out rfl
    refine wpAnyH_ready (rs := [8]) (by kernel_rfl) (by simp) ?_
    refine AllReadyH.cons rfl (fun K hK => ?_) AllReadyH.nil
    go_simp
    go_wp2_with fail
    refine hK.out _ _ (KS.out _ ((Below.heap_setCell _ _ _ _ (show N ≠ N + 1 by omega)).trans ((Below.heap_setCell _ _ _ _ (show N ≠ N + 1 by omega)).trans X0.out)) ((Below.heap_setCell _ _ _ _ (show pb ≠ N + 1 by have := LP.out; omega)).trans ((Below.heap_setCell _ _ _ _ (show pb ≠ N + 1 by have := LP.out; omega)).trans XP.out))) (fun hHeld => ?_)
    clear hK K
    try simp only [Act.put, List.setIfInBounds_toArray, List.set_cons_zero, List.set_cons_succ]
    refine wpAnyH_ready (rs := [9]) (by kernel_rfl) (by simp) ?_
    refine AllReadyH.cons rfl (fun K hK => ?_) AllReadyH.nil
    go_simp
    go_wp2_with fail
    refine hK.out _ _ (KS.out _ ((Below.heap_setCell _ _ _ _ (show N ≠ N + 1 by omega)).trans ((Below.heap_setCell _ _ _ _ (show N ≠ N + 1 by omega)).trans X0.out)) ((Below.heap_setCell _ _ _ _ (show pb ≠ N + 1 by have := LP.out; omega)).trans ((Below.heap_setCell _ _ _ _ (show pb ≠ N + 1 by have := LP.out; omega)).trans XP.out))) (fun hHeld => ?_)
    clear hK K
    try simp only [Act.put, List.setIfInBounds_toArray, List.set_cons_zero, List.set_cons_succ]
    refine wpAnyH_done (by kernel_rfl) ?_ _
    clear hHeld
    go_wp2
    have HX := heap_setCell_at _ _ 1 _ _ _ (.int .u32 (b : Int)) (heap_setCell_at _ _ 0 _ _ _ (.int .u32 (a : Int)) X1.out)
    have d0 := cell_of_heap (i := 0) HX rfl
    have d1 := cell_of_heap (i := 1) HX rfl
    have hbb := (XB.out.setCell (p := ⟨N + 1, 0, none⟩) (by have := HN.out; show w.heap.size ≤ N + 1; omega) (.int .u32 (a : Int))).setCell (p := ⟨N + 1, 1, none⟩) (by have := HN.out; show w.heap.size ≤ N + 1; omega) (.int .u32 (b : Int))
    exact bodyPost_ret (v := .tuple #[.agg #[.int .u32 (a : Int), .int .u32 (b : Int)], .bool true]) (by simp only [results, Tryz.results46]; simp [go_sem, d0, d1]) rfl ⟨rfl, hbb⟩
  | false =>
    refine wp_region_held_drew (S := (fun w' => w'.cell? ⟨N, 0, none⟩ = some (.int .u32 (a : Int)) ∧ w'.cell? ⟨N, 1, none⟩ = some (.int .u32 (b : Int)) ∧ w'.cell? ⟨N, 5, none⟩ = some (.bool nw) ∧ w'.cell? ⟨pb, 0, none⟩ = some (.bool false))) (by kernel_rfl) (KS.out _ Z0.out ZP.out) (fun hHeld => ?_)
    refine tk_at (i := 0) (d := some 5) (v := ?_) rfl rfl (by kernel_rfl) (by kernel_rfl) (by kernel_rfl) (fun _ _ _ h => h) (Or.inl ⟨by rfl, ?_⟩) (by assumption) ?_
    rotate_left
    · (intro w hSw; (try dsimp only at hSw); go_simp; try (with_reducible rfl))
    simp only [Act.put, List.setIfInBounds_toArray, List.set_cons_zero, List.set_cons_succ]
    refine tk_at (i := 1) (d := some 6) (v := ?_) rfl rfl (by kernel_rfl) (by kernel_rfl) (by kernel_rfl) (fun _ _ _ h => h) (Or.inl ⟨by rfl, ?_⟩) (by assumption) ?_
    rotate_left
    · (intro w hSw; (try dsimp only at hSw); go_simp; try (with_reducible rfl))
    simp only [Act.put, List.setIfInBounds_toArray, List.set_cons_zero, List.set_cons_succ]
    refine tk_at (i := 2) (d := some 7) (v := ?_) rfl rfl (by kernel_rfl) (by kernel_rfl) (by kernel_rfl) (fun _ _ _ h => h) (Or.inl ⟨by rfl, ?_⟩) (by assumption) ?_
    rotate_left
    · (intro w hSw; (try dsimp only at hSw); go_simp; try (with_reducible rfl))
    simp only [Act.put, List.setIfInBounds_toArray, List.set_cons_zero, List.set_cons_succ]
    refine tk_at (i := 3) (d := some 8) (v := ?_) rfl rfl (by kernel_rfl) (by kernel_rfl) (by kernel_rfl) (fun _ _ _ h => h) (Or.inl ⟨by rfl, ?_⟩) (by assumption) ?_
    rotate_left
    · (intro w hSw; (try dsimp only at hSw); go_simp; try (with_reducible rfl))
    simp only [Act.put, List.setIfInBounds_toArray, List.set_cons_zero, List.set_cons_succ]
    refine tk_at (i := 4) (d := some 9) (v := ?_) rfl rfl (by kernel_rfl) (by kernel_rfl) (by kernel_rfl) (fun _ _ _ h => h) (Or.inl ⟨by rfl, ?_⟩) (by assumption) ?_
    rotate_left
    · (intro w hSw; (try dsimp only at hSw); go_simp; try (with_reducible rfl))
    simp only [Act.put, List.setIfInBounds_toArray, List.set_cons_zero, List.set_cons_succ]
    refine tk_at (i := 5) (d := some 10) (v := ?_) rfl rfl (by kernel_rfl) (by kernel_rfl) (by kernel_rfl) (fun _ _ _ h => h) (Or.inl ⟨by rfl, ?_⟩) (by assumption) ?_
    rotate_left
    · (intro w hSw; (try dsimp only at hSw); go_simp; try (with_reducible rfl))
    simp only [Act.put, List.setIfInBounds_toArray, List.set_cons_zero, List.set_cons_succ]
    refine tk_at (i := 6) (d := some 11) (v := ?_) rfl rfl (by kernel_rfl) (by kernel_rfl) (by kernel_rfl) (fun _ _ _ h => h) (Or.inl ⟨by rfl, ?_⟩) (by assumption) ?_
    rotate_left
    · (intro w hSw; (try dsimp only at hSw); go_simp; try (with_reducible rfl))
    simp only [Act.put, List.setIfInBounds_toArray, List.set_cons_zero, List.set_cons_succ]
    refine tk_at (i := 7) (d := some 12) (v := ?_) rfl rfl (by kernel_rfl) (by kernel_rfl) (by kernel_rfl) (fun _ _ _ h => h) (Or.inl ⟨by rfl, ?_⟩) (by assumption) ?_
    rotate_left
    · (intro w hSw; (try dsimp only at hSw); go_simp; try (with_reducible rfl))
    simp only [Act.put, List.setIfInBounds_toArray, List.set_cons_zero, List.set_cons_succ]
    have X0 := hid (show w1.drew.heap[N]? = _ from Z0.out)
    have X1 := hid (show w1.drew.heap[N + 1]? = _ from Z1.out)
    have XP := hid (show w1.drew.heap[pb]? = _ from ZP.out)
    have XB := hid (show Below w.heap.size w w1.drew from blwXD BA.out)
    clear hHeld
    generalize w1.drew = x0 at *
    have f0 := frozen_of_heap (i := 0) X1.out
    have f1 := frozen_of_heap (i := 1) X1.out
    have c0 := cell_of_heap (i := 0) X1.out rfl
    have c1 := cell_of_heap (i := 1) X1.out rfl
    refine wpAnyH_ready (rs := [8]) (by kernel_rfl) (by simp) ?_
    refine AllReadyH.cons rfl (fun K hK => ?_) AllReadyH.nil
    go_simp
    go_wp2_with fail
    refine hK.out _ _ (KS.out _ ((Below.heap_setCell _ _ _ _ (show N ≠ N + 1 by omega)).trans ((Below.heap_setCell _ _ _ _ (show N ≠ N + 1 by omega)).trans X0.out)) ((Below.heap_setCell _ _ _ _ (show pb ≠ N + 1 by have := LP.out; omega)).trans ((Below.heap_setCell _ _ _ _ (show pb ≠ N + 1 by have := LP.out; omega)).trans XP.out))) (fun hHeld => ?_)
    clear hK K
    try simp only [Act.put, List.setIfInBounds_toArray, List.set_cons_zero, List.set_cons_succ]
    refine wpAnyH_ready (rs := [9]) (by kernel_rfl) (by simp) ?_
    refine AllReadyH.cons rfl (fun K hK => ?_) AllReadyH.nil
    go_simp
    go_wp2_with fail
    refine hK.out _ _ (KS.out _ ((Below.heap_setCell _ _ _ _ (show N ≠ N + 1 by omega)).trans ((Below.heap_setCell _ _ _ _ (show N ≠ N + 1 by omega)).trans X0.out)) ((Below.heap_setCell _ _ _ _ (show pb ≠ N + 1 by have := LP.out; omega)).trans ((Below.heap_setCell _ _ _ _ (show pb ≠ N + 1 by have := LP.out; omega)).trans XP.out))) (fun hHeld => ?_)
    clear hK K
    try simp only [Act.put, List.setIfInBounds_toArray, List.set_cons_zero, List.set_cons_succ]
    refine wpAnyH_done (by kernel_rfl) ?_ _
    clear hHeld
    go_wp2
    have HX := heap_setCell_at _ _ 1 _ _ _ (.int .u32 (b : Int)) (heap_setCell_at _ _ 0 _ _ _ (.int .u32 (a : Int)) X1.out)
    have d0 := cell_of_heap (i := 0) HX rfl
    have d1 := cell_of_heap (i := 1) HX rfl
    have hbb := (XB.out.setCell (p := ⟨N + 1, 0, none⟩) (by have := HN.out; show w.heap.size ≤ N + 1; omega) (.int .u32 (a : Int))).setCell (p := ⟨N + 1, 1, none⟩) (by have := HN.out; show w.heap.size ≤ N + 1; omega) (.int .u32 (b : Int))
    exact bodyPost_ret (v := .tuple #[.agg #[.int .u32 (a : Int), .int .u32 (b : Int)], .bool (!nw)]) (by simp only [results, Tryz.results46]; simp [go_sem, d0, d1]) rfl ⟨rfl, hbb⟩
set_option maxHeartbeats 3200000 in
theorem askK_any (a b : Nat) (sc sd sj : ByteArray) (nw : Bool) (na : Option Addr) (nl : List ByteArray) (nc : Nat) (pb : Nat) (w : World) (hp : w.heap[pb]? = some (.cells #[.slice na nl.length nc] 45 (0, 0))) (hs : StAt w na nl) (hn : nl.length ≤ 1000000) :
    Calls Tryz.prog 47 #[.agg #[.int .u32 (a : Int), .int .u32 (b : Int), .string sc, .string sd, .string sj, .bool nw], .pointer (some ⟨pb, 0, none⟩)] w fun e w' => e = .returned (.tuple #[.agg #[.int .u32 (a : Int), .int .u32 (b : Int)], .bool (memB sc nl)]) ∧ Below w.heap.size w w' := by
  have HP := hid hp
  have LP := hid (lt_of_heap hp)
  have HS := hid hs
  go_enter Tryz.func47, Tryz.ntmps47
  go_wp2_with fail
  have hBA := ((Below.refl w.heap.size w).alloc (Nat.le_refl _) (.cells #[.int .u32 (a : Int), .int .u32 (b : Int), .string sc, .string sd, .string sj, .bool nw] 49)).alloc (by simp) (.cells #[.int .u32 0, .int .u32 0] 47)
  have Z0 := hid (show ((w.alloc (.cells #[.int .u32 (a : Int), .int .u32 (b : Int), .string sc, .string sd, .string sj, .bool nw] 49)).alloc (.cells #[.int .u32 0, .int .u32 0] 47)).heap[w.heap.size]? = some (.cells #[.int .u32 (a : Int), .int .u32 (b : Int), .string sc, .string sd, .string sj, .bool nw] 49 (0, 0)) from by rw [heap_alloc_old _ _ _ (by simp)]; exact heap_alloc_at _ _)
  have Z1 := hid (show ((w.alloc (.cells #[.int .u32 (a : Int), .int .u32 (b : Int), .string sc, .string sd, .string sj, .bool nw] 49)).alloc (.cells #[.int .u32 0, .int .u32 0] 47)).heap[w.heap.size + 1]? = some (.cells #[.int .u32 0, .int .u32 0] 47 (0, 0)) from by
    have := heap_alloc_at (w.alloc (.cells #[.int .u32 (a : Int), .int .u32 (b : Int), .string sc, .string sd, .string sj, .bool nw] 49)) (.cells #[.int .u32 0, .int .u32 0] 47); rw [World.size_alloc] at this; exact this)
  have ZP := hid ((hBA.block pb LP.out).trans HP.out)
  have BA := hid hBA
  clear hBA
  generalize (w.alloc (.cells #[.int .u32 (a : Int), .int .u32 (b : Int), .string sc, .string sd, .string sj, .bool nw] 49)).alloc (.cells #[.int .u32 0, .int .u32 0] 47) = w1 at *
  obtain ⟨N, hN⟩ : ∃ N, w.heap.size = N := ⟨_, rfl⟩
  have HN := hid hN
  rw [hN] at Z0 Z1 LP ⊢
  clear hN hp HP
  have KS := hid (show ∀ w' : World, w'.heap[N]? = some (.cells #[.int .u32 (a : Int), .int .u32 (b : Int), .string sc, .string sd, .string sj, .bool nw] 49 (0, 0)) → w'.heap[pb]? = some (.cells #[.slice na nl.length nc] 45 (0, 0)) → (fun w' => w'.cell? ⟨N, 0, none⟩ = some (.int .u32 (a : Int)) ∧ w'.cell? ⟨N, 1, none⟩ = some (.int .u32 (b : Int)) ∧ w'.cell? ⟨N, 2, none⟩ = some (.string sc) ∧ w'.cell? ⟨pb, 0, none⟩ = some (.slice na nl.length nc)) w' from fun w' h0 hp => ⟨cell_of_heap h0 rfl, cell_of_heap h0 rfl, cell_of_heap h0 rfl, cell_of_heap hp rfl⟩)
  refine wp_region_held_drew (S := (fun w' => w'.cell? ⟨N, 0, none⟩ = some (.int .u32 (a : Int)) ∧ w'.cell? ⟨N, 1, none⟩ = some (.int .u32 (b : Int)) ∧ w'.cell? ⟨N, 2, none⟩ = some (.string sc) ∧ w'.cell? ⟨pb, 0, none⟩ = some (.slice na nl.length nc))) (by kernel_rfl) (KS.out _ Z0.out ZP.out) (fun hHeld => ?_)
  refine tk_at (i := 0) (d := some 5) (v := ?_) rfl rfl (by kernel_rfl) (by kernel_rfl) (by kernel_rfl) (fun _ _ _ h => h) (Or.inl ⟨by rfl, ?_⟩) (by assumption) ?_
  rotate_left
  · (intro w hSw; (try dsimp only at hSw); go_simp; try (with_reducible rfl))
  simp only [Act.put, List.setIfInBounds_toArray, List.set_cons_zero, List.set_cons_succ]
  refine tk_at (i := 1) (d := some 6) (v := ?_) rfl rfl (by kernel_rfl) (by kernel_rfl) (by kernel_rfl) (fun _ _ _ h => h) (Or.inl ⟨by rfl, ?_⟩) (by assumption) ?_
  rotate_left
  · (intro w hSw; (try dsimp only at hSw); go_simp; try (with_reducible rfl))
  simp only [Act.put, List.setIfInBounds_toArray, List.set_cons_zero, List.set_cons_succ]
  refine tk_at (i := 2) (d := some 7) (v := ?_) rfl rfl (by kernel_rfl) (by kernel_rfl) (by kernel_rfl) (fun _ _ _ h => h) (Or.inl ⟨by rfl, ?_⟩) (by assumption) ?_
  rotate_left
  · (intro w hSw; (try dsimp only at hSw); go_simp; try (with_reducible rfl))
  simp only [Act.put, List.setIfInBounds_toArray, List.set_cons_zero, List.set_cons_succ]
  refine tk_at (i := 3) (d := some 8) (v := ?_) rfl rfl (by kernel_rfl) (by kernel_rfl) (by kernel_rfl) (fun _ _ _ h => h) (Or.inl ⟨by rfl, ?_⟩) (by assumption) ?_
  rotate_left
  · (intro w hSw; (try dsimp only at hSw); go_simp; try (with_reducible rfl))
  simp only [Act.put, List.setIfInBounds_toArray, List.set_cons_zero, List.set_cons_succ]
  refine tk_at (i := 4) (d := some 9) (v := ?_) rfl rfl (by kernel_rfl) (by kernel_rfl) (by kernel_rfl) (fun _ _ _ h => h) (Or.inl ⟨by rfl, ?_⟩) (by assumption) ?_
  rotate_left
  · (intro w hSw; (try dsimp only at hSw); go_simp; try (with_reducible rfl))
  simp only [Act.put, List.setIfInBounds_toArray, List.set_cons_zero, List.set_cons_succ]
  refine wpAnyH_ready (rs := [5]) (by kernel_rfl) (by simp) ?_
  refine AllReadyH.cons rfl (fun K hK => ?_) AllReadyH.nil
  go_simp
  refine (contains_any na nl nc sc _ (HS.out.below (blwXD BA.out)) hn).mono ?_
  rintro e w2 ⟨rfl, rfl⟩
  have BC := hid (show Below w1.heap.size w1 w1.drew from blwXD (Below.refl _ _))
  generalize w1.drew = w2 at *
  go_wp2_with fail
  refine hK.out _ _ (KS.out _ ((BC.out.block N (lt_of_heap Z0.out)).trans Z0.out) ((BC.out.block pb (lt_of_heap ZP.out)).trans ZP.out)) (fun hHeld => ?_)
  clear hK K
  try simp only [Act.put, List.setIfInBounds_toArray, List.set_cons_zero, List.set_cons_succ]
  have X0 := hid ((BC.out.block N (lt_of_heap Z0.out)).trans Z0.out)
  have X1 := hid ((BC.out.block (N + 1) (lt_of_heap Z1.out)).trans Z1.out)
  have XP := hid ((BC.out.block pb (lt_of_heap ZP.out)).trans ZP.out)
  have XB := hid (show Below w.heap.size w w2 from BA.out.trans (BC.out.mono BA.out.size))
  generalize w2 = x0 at *
  have f0 := frozen_of_heap (i := 0) X1.out
  have f1 := frozen_of_heap (i := 1) X1.out
  have c0 := cell_of_heap (i := 0) X1.out rfl
  have c1 := cell_of_heap (i := 1) X1.out rfl
  refine wpAnyH_ready (rs := [6]) (by kernel_rfl) (by simp) ?_
  refine AllReadyH.cons rfl (fun K hK => ?_) AllReadyH.nil
  go_simp
  go_wp2_with fail
  refine hK.out _ _ (KS.out _ ((Below.heap_setCell _ _ _ _ (show N ≠ N + 1 by omega)).trans ((Below.heap_setCell _ _ _ _ (show N ≠ N + 1 by omega)).trans X0.out)) ((Below.heap_setCell _ _ _ _ (show pb ≠ N + 1 by have := LP.out; omega)).trans ((Below.heap_setCell _ _ _ _ (show pb ≠ N + 1 by have := LP.out; omega)).trans XP.out))) (fun hHeld => ?_)
  clear hK K
  try simp only [Act.put, List.setIfInBounds_toArray, List.set_cons_zero, List.set_cons_succ]
  refine wpAnyH_ready (rs := [7]) (by kernel_rfl) (by simp) ?_
  refine AllReadyH.cons rfl (fun K hK => ?_) AllReadyH.nil
  go_simp
  go_wp2_with fail
  refine hK.out _ _ (KS.out _ ((Below.heap_setCell _ _ _ _ (show N ≠ N + 1 by omega)).trans ((Below.heap_setCell _ _ _ _ (show N ≠ N + 1 by omega)).trans X0.out)) ((Below.heap_setCell _ _ _ _ (show pb ≠ N + 1 by have := LP.out; omega)).trans ((Below.heap_setCell _ _ _ _ (show pb ≠ N + 1 by have := LP.out; omega)).trans XP.out))) (fun hHeld => ?_)
  clear hK K
  try simp only [Act.put, List.setIfInBounds_toArray, List.set_cons_zero, List.set_cons_succ]
  refine wpAnyH_done (by kernel_rfl) ?_ _
  clear hHeld
  go_wp2
  have HX := heap_setCell_at _ _ 1 _ _ _ (.int .u32 (b : Int)) (heap_setCell_at _ _ 0 _ _ _ (.int .u32 (a : Int)) X1.out)
  have d0 := cell_of_heap (i := 0) HX rfl
  have d1 := cell_of_heap (i := 1) HX rfl
  have hbb := (XB.out.setCell (p := ⟨N + 1, 0, none⟩) (by have := HN.out; show w.heap.size ≤ N + 1; omega) (.int .u32 (a : Int))).setCell (p := ⟨N + 1, 1, none⟩) (by have := HN.out; show w.heap.size ≤ N + 1; omega) (.int .u32 (b : Int))
  exact bodyPost_ret (v := .tuple #[.agg #[.int .u32 (a : Int), .int .u32 (b : Int)], .bool (memB sc nl)]) (by simp only [results, Tryz.results47]; simp [go_sem, d0, d1]) rfl ⟨rfl, hbb⟩
set_option maxHeartbeats 3200000 in
theorem askS_any (a b : Nat) (sc sd sj : ByteArray) (nw : Bool) (na : Option Addr) (nl : List ByteArray) (nc : Nat) (pb : Nat) (w : World) (hp : w.heap[pb]? = some (.cells #[.slice na nl.length nc] 45 (0, 0))) (hs : StAt w na nl) (hn : nl.length ≤ 1000000) :
    Calls Tryz.prog 49 #[.agg #[.int .u32 (a : Int), .int .u32 (b : Int), .string sc, .string sd, .string sj, .bool nw], .pointer (some ⟨pb, 0, none⟩)] w fun e w' => e = .returned (.tuple #[.agg #[.int .u32 (a : Int), .int .u32 (b : Int)], .bool (memB sd nl)]) ∧ Below w.heap.size w w' := by
  have HP := hid hp
  have LP := hid (lt_of_heap hp)
  have HS := hid hs
  go_enter Tryz.func49, Tryz.ntmps49
  go_wp2_with fail
  have hBA := ((Below.refl w.heap.size w).alloc (Nat.le_refl _) (.cells #[.int .u32 (a : Int), .int .u32 (b : Int), .string sc, .string sd, .string sj, .bool nw] 49)).alloc (by simp) (.cells #[.int .u32 0, .int .u32 0] 47)
  have Z0 := hid (show ((w.alloc (.cells #[.int .u32 (a : Int), .int .u32 (b : Int), .string sc, .string sd, .string sj, .bool nw] 49)).alloc (.cells #[.int .u32 0, .int .u32 0] 47)).heap[w.heap.size]? = some (.cells #[.int .u32 (a : Int), .int .u32 (b : Int), .string sc, .string sd, .string sj, .bool nw] 49 (0, 0)) from by rw [heap_alloc_old _ _ _ (by simp)]; exact heap_alloc_at _ _)
  have Z1 := hid (show ((w.alloc (.cells #[.int .u32 (a : Int), .int .u32 (b : Int), .string sc, .string sd, .string sj, .bool nw] 49)).alloc (.cells #[.int .u32 0, .int .u32 0] 47)).heap[w.heap.size + 1]? = some (.cells #[.int .u32 0, .int .u32 0] 47 (0, 0)) from by
    have := heap_alloc_at (w.alloc (.cells #[.int .u32 (a : Int), .int .u32 (b : Int), .string sc, .string sd, .string sj, .bool nw] 49)) (.cells #[.int .u32 0, .int .u32 0] 47); rw [World.size_alloc] at this; exact this)
  have ZP := hid ((hBA.block pb LP.out).trans HP.out)
  have BA := hid hBA
  clear hBA
  generalize (w.alloc (.cells #[.int .u32 (a : Int), .int .u32 (b : Int), .string sc, .string sd, .string sj, .bool nw] 49)).alloc (.cells #[.int .u32 0, .int .u32 0] 47) = w1 at *
  obtain ⟨N, hN⟩ : ∃ N, w.heap.size = N := ⟨_, rfl⟩
  have HN := hid hN
  rw [hN] at Z0 Z1 LP ⊢
  clear hN hp HP
  have KS := hid (show ∀ w' : World, w'.heap[N]? = some (.cells #[.int .u32 (a : Int), .int .u32 (b : Int), .string sc, .string sd, .string sj, .bool nw] 49 (0, 0)) → w'.heap[pb]? = some (.cells #[.slice na nl.length nc] 45 (0, 0)) → (fun w' => w'.cell? ⟨N, 0, none⟩ = some (.int .u32 (a : Int)) ∧ w'.cell? ⟨N, 1, none⟩ = some (.int .u32 (b : Int)) ∧ w'.cell? ⟨N, 3, none⟩ = some (.string sd) ∧ w'.cell? ⟨pb, 0, none⟩ = some (.slice na nl.length nc)) w' from fun w' h0 hp => ⟨cell_of_heap h0 rfl, cell_of_heap h0 rfl, cell_of_heap h0 rfl, cell_of_heap hp rfl⟩)
  refine wp_region_held_drew (S := (fun w' => w'.cell? ⟨N, 0, none⟩ = some (.int .u32 (a : Int)) ∧ w'.cell? ⟨N, 1, none⟩ = some (.int .u32 (b : Int)) ∧ w'.cell? ⟨N, 3, none⟩ = some (.string sd) ∧ w'.cell? ⟨pb, 0, none⟩ = some (.slice na nl.length nc))) (by kernel_rfl) (KS.out _ Z0.out ZP.out) (fun hHeld => ?_)
  refine tk_at (i := 0) (d := some 5) (v := ?_) rfl rfl (by kernel_rfl) (by kernel_rfl) (by kernel_rfl) (fun _ _ _ h => h) (Or.inl ⟨by rfl, ?_⟩) (by assumption) ?_
  rotate_left
  · (intro w hSw; (try dsimp only at hSw); go_simp; try (with_reducible rfl))
  simp only [Act.put, List.setIfInBounds_toArray, List.set_cons_zero, List.set_cons_succ]
  refine tk_at (i := 1) (d := some 6) (v := ?_) rfl rfl (by kernel_rfl) (by kernel_rfl) (by kernel_rfl) (fun _ _ _ h => h) (Or.inl ⟨by rfl, ?_⟩) (by assumption) ?_
  rotate_left
  · (intro w hSw; (try dsimp only at hSw); go_simp; try (with_reducible rfl))
  simp only [Act.put, List.setIfInBounds_toArray, List.set_cons_zero, List.set_cons_succ]
  refine tk_at (i := 2) (d := some 7) (v := ?_) rfl rfl (by kernel_rfl) (by kernel_rfl) (by kernel_rfl) (fun _ _ _ h => h) (Or.inl ⟨by rfl, ?_⟩) (by assumption) ?_
  rotate_left
  · (intro w hSw; (try dsimp only at hSw); go_simp; try (with_reducible rfl))
  simp only [Act.put, List.setIfInBounds_toArray, List.set_cons_zero, List.set_cons_succ]
  refine tk_at (i := 3) (d := some 8) (v := ?_) rfl rfl (by kernel_rfl) (by kernel_rfl) (by kernel_rfl) (fun _ _ _ h => h) (Or.inl ⟨by rfl, ?_⟩) (by assumption) ?_
  rotate_left
  · (intro w hSw; (try dsimp only at hSw); go_simp; try (with_reducible rfl))
  simp only [Act.put, List.setIfInBounds_toArray, List.set_cons_zero, List.set_cons_succ]
  refine tk_at (i := 4) (d := some 9) (v := ?_) rfl rfl (by kernel_rfl) (by kernel_rfl) (by kernel_rfl) (fun _ _ _ h => h) (Or.inl ⟨by rfl, ?_⟩) (by assumption) ?_
  rotate_left
  · (intro w hSw; (try dsimp only at hSw); go_simp; try (with_reducible rfl))
  simp only [Act.put, List.setIfInBounds_toArray, List.set_cons_zero, List.set_cons_succ]
  refine wpAnyH_ready (rs := [5]) (by kernel_rfl) (by simp) ?_
  refine AllReadyH.cons rfl (fun K hK => ?_) AllReadyH.nil
  go_simp
  refine (contains_any na nl nc sd _ (HS.out.below (blwXD BA.out)) hn).mono ?_
  rintro e w2 ⟨rfl, rfl⟩
  have BC := hid (show Below w1.heap.size w1 w1.drew from blwXD (Below.refl _ _))
  generalize w1.drew = w2 at *
  go_wp2_with fail
  refine hK.out _ _ (KS.out _ ((BC.out.block N (lt_of_heap Z0.out)).trans Z0.out) ((BC.out.block pb (lt_of_heap ZP.out)).trans ZP.out)) (fun hHeld => ?_)
  clear hK K
  try simp only [Act.put, List.setIfInBounds_toArray, List.set_cons_zero, List.set_cons_succ]
  have X0 := hid ((BC.out.block N (lt_of_heap Z0.out)).trans Z0.out)
  have X1 := hid ((BC.out.block (N + 1) (lt_of_heap Z1.out)).trans Z1.out)
  have XP := hid ((BC.out.block pb (lt_of_heap ZP.out)).trans ZP.out)
  have XB := hid (show Below w.heap.size w w2 from BA.out.trans (BC.out.mono BA.out.size))
  generalize w2 = x0 at *
  have f0 := frozen_of_heap (i := 0) X1.out
  have f1 := frozen_of_heap (i := 1) X1.out
  have c0 := cell_of_heap (i := 0) X1.out rfl
  have c1 := cell_of_heap (i := 1) X1.out rfl
  refine wpAnyH_ready (rs := [6]) (by kernel_rfl) (by simp) ?_
  refine AllReadyH.cons rfl (fun K hK => ?_) AllReadyH.nil
  go_simp
  go_wp2_with fail
  refine hK.out _ _ (KS.out _ ((Below.heap_setCell _ _ _ _ (show N ≠ N + 1 by omega)).trans ((Below.heap_setCell _ _ _ _ (show N ≠ N + 1 by omega)).trans X0.out)) ((Below.heap_setCell _ _ _ _ (show pb ≠ N + 1 by have := LP.out; omega)).trans ((Below.heap_setCell _ _ _ _ (show pb ≠ N + 1 by have := LP.out; omega)).trans XP.out))) (fun hHeld => ?_)
  clear hK K
  try simp only [Act.put, List.setIfInBounds_toArray, List.set_cons_zero, List.set_cons_succ]
  refine wpAnyH_ready (rs := [7]) (by kernel_rfl) (by simp) ?_
  refine AllReadyH.cons rfl (fun K hK => ?_) AllReadyH.nil
  go_simp
  go_wp2_with fail
  refine hK.out _ _ (KS.out _ ((Below.heap_setCell _ _ _ _ (show N ≠ N + 1 by omega)).trans ((Below.heap_setCell _ _ _ _ (show N ≠ N + 1 by omega)).trans X0.out)) ((Below.heap_setCell _ _ _ _ (show pb ≠ N + 1 by have := LP.out; omega)).trans ((Below.heap_setCell _ _ _ _ (show pb ≠ N + 1 by have := LP.out; omega)).trans XP.out))) (fun hHeld => ?_)
  clear hK K
  try simp only [Act.put, List.setIfInBounds_toArray, List.set_cons_zero, List.set_cons_succ]
  refine wpAnyH_done (by kernel_rfl) ?_ _
  clear hHeld
  go_wp2
  have HX := heap_setCell_at _ _ 1 _ _ _ (.int .u32 (b : Int)) (heap_setCell_at _ _ 0 _ _ _ (.int .u32 (a : Int)) X1.out)
  have d0 := cell_of_heap (i := 0) HX rfl
  have d1 := cell_of_heap (i := 1) HX rfl
  have hbb := (XB.out.setCell (p := ⟨N + 1, 0, none⟩) (by have := HN.out; show w.heap.size ≤ N + 1; omega) (.int .u32 (a : Int))).setCell (p := ⟨N + 1, 1, none⟩) (by have := HN.out; show w.heap.size ≤ N + 1; omega) (.int .u32 (b : Int))
  exact bodyPost_ret (v := .tuple #[.agg #[.int .u32 (a : Int), .int .u32 (b : Int)], .bool (memB sd nl)]) (by simp only [results, Tryz.results49]; simp [go_sem, d0, d1]) rfl ⟨rfl, hbb⟩
set_option maxHeartbeats 3200000 in
theorem askJ_any (a b : Nat) (sc sd : ByteArray) (cj : UInt8) (nw : Bool) (ss : ByteArray) (pb : Nat) (w : World) (hp : w.heap[pb]? = some (.cells #[.string ss] 9 (0, 0))) :
    Calls Tryz.prog 50 #[.agg #[.int .u32 (a : Int), .int .u32 (b : Int), .string sc, .string sd, .string ⟨#[cj]⟩, .bool nw], .pointer (some ⟨pb, 0, none⟩)] w fun e w' => e = .returned (.tuple #[.agg #[.int .u32 (a : Int), .int .u32 (b : Int)], .bool (ss.data.toList.contains cj)]) ∧ Below w.heap.size w w' := by
  have HP := hid hp
  have LP := hid (lt_of_heap hp)
  go_enter Tryz.func50, Tryz.ntmps50
  go_wp2_with fail
  have hBA := ((Below.refl w.heap.size w).alloc (Nat.le_refl _) (.cells #[.int .u32 (a : Int), .int .u32 (b : Int), .string sc, .string sd, .string ⟨#[cj]⟩, .bool nw] 49)).alloc (by simp) (.cells #[.int .u32 0, .int .u32 0] 47)
  have Z0 := hid (show ((w.alloc (.cells #[.int .u32 (a : Int), .int .u32 (b : Int), .string sc, .string sd, .string ⟨#[cj]⟩, .bool nw] 49)).alloc (.cells #[.int .u32 0, .int .u32 0] 47)).heap[w.heap.size]? = some (.cells #[.int .u32 (a : Int), .int .u32 (b : Int), .string sc, .string sd, .string ⟨#[cj]⟩, .bool nw] 49 (0, 0)) from by rw [heap_alloc_old _ _ _ (by simp)]; exact heap_alloc_at _ _)
  have Z1 := hid (show ((w.alloc (.cells #[.int .u32 (a : Int), .int .u32 (b : Int), .string sc, .string sd, .string ⟨#[cj]⟩, .bool nw] 49)).alloc (.cells #[.int .u32 0, .int .u32 0] 47)).heap[w.heap.size + 1]? = some (.cells #[.int .u32 0, .int .u32 0] 47 (0, 0)) from by
    have := heap_alloc_at (w.alloc (.cells #[.int .u32 (a : Int), .int .u32 (b : Int), .string sc, .string sd, .string ⟨#[cj]⟩, .bool nw] 49)) (.cells #[.int .u32 0, .int .u32 0] 47); rw [World.size_alloc] at this; exact this)
  have ZP := hid ((hBA.block pb LP.out).trans HP.out)
  have BA := hid hBA
  clear hBA
  generalize (w.alloc (.cells #[.int .u32 (a : Int), .int .u32 (b : Int), .string sc, .string sd, .string ⟨#[cj]⟩, .bool nw] 49)).alloc (.cells #[.int .u32 0, .int .u32 0] 47) = w1 at *
  obtain ⟨N, hN⟩ : ∃ N, w.heap.size = N := ⟨_, rfl⟩
  have HN := hid hN
  rw [hN] at Z0 Z1 LP ⊢
  clear hN hp HP
  have KS := hid (show ∀ w' : World, w'.heap[N]? = some (.cells #[.int .u32 (a : Int), .int .u32 (b : Int), .string sc, .string sd, .string ⟨#[cj]⟩, .bool nw] 49 (0, 0)) → w'.heap[pb]? = some (.cells #[.string ss] 9 (0, 0)) → (fun w' => w'.cell? ⟨N, 0, none⟩ = some (.int .u32 (a : Int)) ∧ w'.cell? ⟨N, 1, none⟩ = some (.int .u32 (b : Int)) ∧ w'.cell? ⟨N, 4, none⟩ = some (.string ⟨#[cj]⟩) ∧ w'.cell? ⟨pb, 0, none⟩ = some (.string ss)) w' from fun w' h0 hp => ⟨cell_of_heap h0 rfl, cell_of_heap h0 rfl, cell_of_heap h0 rfl, cell_of_heap hp rfl⟩)
  refine wp_region_held_drew (S := (fun w' => w'.cell? ⟨N, 0, none⟩ = some (.int .u32 (a : Int)) ∧ w'.cell? ⟨N, 1, none⟩ = some (.int .u32 (b : Int)) ∧ w'.cell? ⟨N, 4, none⟩ = some (.string ⟨#[cj]⟩) ∧ w'.cell? ⟨pb, 0, none⟩ = some (.string ss))) (by kernel_rfl) (KS.out _ Z0.out ZP.out) (fun hHeld => ?_)
  refine tk_at (i := 0) (d := some 5) (v := ?_) rfl rfl (by kernel_rfl) (by kernel_rfl) (by kernel_rfl) (fun _ _ _ h => h) (Or.inl ⟨by rfl, ?_⟩) (by assumption) ?_
  rotate_left
  · (intro w hSw; (try dsimp only at hSw); go_simp; try (with_reducible rfl))
  simp only [Act.put, List.setIfInBounds_toArray, List.set_cons_zero, List.set_cons_succ]
  refine tk_at (i := 1) (d := some 6) (v := ?_) rfl rfl (by kernel_rfl) (by kernel_rfl) (by kernel_rfl) (fun _ _ _ h => h) (Or.inl ⟨by rfl, ?_⟩) (by assumption) ?_
  rotate_left
  · (intro w hSw; (try dsimp only at hSw); go_simp; try (with_reducible rfl))
  simp only [Act.put, List.setIfInBounds_toArray, List.set_cons_zero, List.set_cons_succ]
  refine tk_at (i := 2) (d := some 7) (v := ?_) rfl rfl (by kernel_rfl) (by kernel_rfl) (by kernel_rfl) (fun _ _ _ h => h) (Or.inl ⟨by rfl, ?_⟩) (by assumption) ?_
  rotate_left
  · (intro w hSw; (try dsimp only at hSw); go_simp; try (with_reducible rfl))
  simp only [Act.put, List.setIfInBounds_toArray, List.set_cons_zero, List.set_cons_succ]
  refine tk_at (i := 3) (d := some 8) (v := ?_) rfl rfl (by kernel_rfl) (by kernel_rfl) (by kernel_rfl) (fun _ _ _ h => h) (Or.inl ⟨by rfl, ?_⟩) (by assumption) ?_
  rotate_left
  · (intro w hSw; (try dsimp only at hSw); go_simp; try (with_reducible rfl))
  simp only [Act.put, List.setIfInBounds_toArray, List.set_cons_zero, List.set_cons_succ]
  refine tk_at (i := 4) (d := some 9) (v := ?_) rfl rfl (by kernel_rfl) (by kernel_rfl) (by kernel_rfl) (fun _ _ _ h => h) (Or.inl ⟨by rfl, ?_⟩) (by assumption) ?_
  rotate_left
  · (intro w hSw; (try dsimp only at hSw); go_simp; try (with_reducible rfl))
  simp only [Act.put, List.setIfInBounds_toArray, List.set_cons_zero, List.set_cons_succ]
  refine wpAnyH_ready (rs := [5]) (by kernel_rfl) (by simp) ?_
  refine AllReadyH.cons rfl (fun K hK => ?_) AllReadyH.nil
  go_simp
  refine (stContains_any ss cj _).mono ?_
  rintro e w2 ⟨rfl, rfl⟩
  have BC := hid (show Below w1.heap.size w1 w1.drew from blwXD (Below.refl _ _))
  generalize w1.drew = w2 at *
  go_wp2_with fail
  refine hK.out _ _ (KS.out _ ((BC.out.block N (lt_of_heap Z0.out)).trans Z0.out) ((BC.out.block pb (lt_of_heap ZP.out)).trans ZP.out)) (fun hHeld => ?_)
  clear hK K
  try simp only [Act.put, List.setIfInBounds_toArray, List.set_cons_zero, List.set_cons_succ]
  have X0 := hid ((BC.out.block N (lt_of_heap Z0.out)).trans Z0.out)
  have X1 := hid ((BC.out.block (N + 1) (lt_of_heap Z1.out)).trans Z1.out)
  have XP := hid ((BC.out.block pb (lt_of_heap ZP.out)).trans ZP.out)
  have XB := hid (show Below w.heap.size w w2 from BA.out.trans (BC.out.mono BA.out.size))
  generalize w2 = x0 at *
  have f0 := frozen_of_heap (i := 0) X1.out
  have f1 := frozen_of_heap (i := 1) X1.out
  have c0 := cell_of_heap (i := 0) X1.out rfl
  have c1 := cell_of_heap (i := 1) X1.out rfl
  refine wpAnyH_ready (rs := [6]) (by kernel_rfl) (by simp) ?_
  refine AllReadyH.cons rfl (fun K hK => ?_) AllReadyH.nil
  go_simp
  go_wp2_with fail
  refine hK.out _ _ (KS.out _ ((Below.heap_setCell _ _ _ _ (show N ≠ N + 1 by omega)).trans ((Below.heap_setCell _ _ _ _ (show N ≠ N + 1 by omega)).trans X0.out)) ((Below.heap_setCell _ _ _ _ (show pb ≠ N + 1 by have := LP.out; omega)).trans ((Below.heap_setCell _ _ _ _ (show pb ≠ N + 1 by have := LP.out; omega)).trans XP.out))) (fun hHeld => ?_)
  clear hK K
  try simp only [Act.put, List.setIfInBounds_toArray, List.set_cons_zero, List.set_cons_succ]
  refine wpAnyH_ready (rs := [7]) (by kernel_rfl) (by simp) ?_
  refine AllReadyH.cons rfl (fun K hK => ?_) AllReadyH.nil
  go_simp
  go_wp2_with fail
  refine hK.out _ _ (KS.out _ ((Below.heap_setCell _ _ _ _ (show N ≠ N + 1 by omega)).trans ((Below.heap_setCell _ _ _ _ (show N ≠ N + 1 by omega)).trans X0.out)) ((Below.heap_setCell _ _ _ _ (show pb ≠ N + 1 by have := LP.out; omega)).trans ((Below.heap_setCell _ _ _ _ (show pb ≠ N + 1 by have := LP.out; omega)).trans XP.out))) (fun hHeld => ?_)
  clear hK K
  try simp only [Act.put, List.setIfInBounds_toArray, List.set_cons_zero, List.set_cons_succ]
  refine wpAnyH_done (by kernel_rfl) ?_ _
  clear hHeld
  go_wp2
  have HX := heap_setCell_at _ _ 1 _ _ _ (.int .u32 (b : Int)) (heap_setCell_at _ _ 0 _ _ _ (.int .u32 (a : Int)) X1.out)
  have d0 := cell_of_heap (i := 0) HX rfl
  have d1 := cell_of_heap (i := 1) HX rfl
  have hbb := (XB.out.setCell (p := ⟨N + 1, 0, none⟩) (by have := HN.out; show w.heap.size ≤ N + 1; omega) (.int .u32 (a : Int))).setCell (p := ⟨N + 1, 1, none⟩) (by have := HN.out; show w.heap.size ≤ N + 1; omega) (.int .u32 (b : Int))
  exact bodyPost_ret (v := .tuple #[.agg #[.int .u32 (a : Int), .int .u32 (b : Int)], .bool (ss.data.toList.contains cj)]) (by simp only [results, Tryz.results50]; simp [go_sem, d0, d1]) rfl ⟨rfl, hbb⟩
set_option maxHeartbeats 3200000 in
theorem askT_any (nm : ByteArray) (a b : Nat) (ss : ByteArray) (pb : Nat) (w : World) (hp : w.heap[pb]? = some (.cells #[.string ss] 9 (0, 0))) :
    Calls Tryz.prog 53 #[.agg #[.string nm, .int .u32 (a : Int), .int .u32 (b : Int)], .pointer (some ⟨pb, 0, none⟩)] w fun e w' => e = .returned (.tuple #[.agg #[.int .u32 (a : Int), .int .u32 (b : Int)], .bool (eqB nm ss)]) ∧ Below w.heap.size w w' := by
  have HP := hid hp
  have LP := hid (lt_of_heap hp)
  go_enter Tryz.func53, Tryz.ntmps53
  go_wp2_with fail
  have hBA := ((Below.refl w.heap.size w).alloc (Nat.le_refl _) (.cells #[.string nm, .int .u32 (a : Int), .int .u32 (b : Int)] 110)).alloc (by simp) (.cells #[.int .u32 0, .int .u32 0] 47)
  have Z0 := hid (show ((w.alloc (.cells #[.string nm, .int .u32 (a : Int), .int .u32 (b : Int)] 110)).alloc (.cells #[.int .u32 0, .int .u32 0] 47)).heap[w.heap.size]? = some (.cells #[.string nm, .int .u32 (a : Int), .int .u32 (b : Int)] 110 (0, 0)) from by rw [heap_alloc_old _ _ _ (by simp)]; exact heap_alloc_at _ _)
  have Z1 := hid (show ((w.alloc (.cells #[.string nm, .int .u32 (a : Int), .int .u32 (b : Int)] 110)).alloc (.cells #[.int .u32 0, .int .u32 0] 47)).heap[w.heap.size + 1]? = some (.cells #[.int .u32 0, .int .u32 0] 47 (0, 0)) from by
    have := heap_alloc_at (w.alloc (.cells #[.string nm, .int .u32 (a : Int), .int .u32 (b : Int)] 110)) (.cells #[.int .u32 0, .int .u32 0] 47); rw [World.size_alloc] at this; exact this)
  have ZP := hid ((hBA.block pb LP.out).trans HP.out)
  have BA := hid hBA
  clear hBA
  generalize (w.alloc (.cells #[.string nm, .int .u32 (a : Int), .int .u32 (b : Int)] 110)).alloc (.cells #[.int .u32 0, .int .u32 0] 47) = w1 at *
  obtain ⟨N, hN⟩ : ∃ N, w.heap.size = N := ⟨_, rfl⟩
  have HN := hid hN
  rw [hN] at Z0 Z1 LP ⊢
  clear hN hp HP
  have KS := hid (show ∀ w' : World, w'.heap[N]? = some (.cells #[.string nm, .int .u32 (a : Int), .int .u32 (b : Int)] 110 (0, 0)) → w'.heap[pb]? = some (.cells #[.string ss] 9 (0, 0)) → (fun w' => w'.cell? ⟨N, 0, none⟩ = some (.string nm) ∧ w'.cell? ⟨N, 1, none⟩ = some (.int .u32 (a : Int)) ∧ w'.cell? ⟨N, 2, none⟩ = some (.int .u32 (b : Int)) ∧ w'.cell? ⟨pb, 0, none⟩ = some (.string ss)) w' from fun w' h0 hp => ⟨cell_of_heap h0 rfl, cell_of_heap h0 rfl, cell_of_heap h0 rfl, cell_of_heap hp rfl⟩)
  refine wp_region_held_drew (S := (fun w' => w'.cell? ⟨N, 0, none⟩ = some (.string nm) ∧ w'.cell? ⟨N, 1, none⟩ = some (.int .u32 (a : Int)) ∧ w'.cell? ⟨N, 2, none⟩ = some (.int .u32 (b : Int)) ∧ w'.cell? ⟨pb, 0, none⟩ = some (.string ss))) (by kernel_rfl) (KS.out _ Z0.out ZP.out) (fun hHeld => ?_)
  refine tk_at (i := 0) (d := some 5) (v := ?_) rfl rfl (by kernel_rfl) (by kernel_rfl) (by kernel_rfl) (fun _ _ _ h => h) (Or.inl ⟨by rfl, ?_⟩) (by assumption) ?_
  rotate_left
  · (intro w hSw; (try dsimp only at hSw); go_simp; try (with_reducible rfl))
  simp only [Act.put, List.setIfInBounds_toArray, List.set_cons_zero, List.set_cons_succ]
  refine tk_at (i := 1) (d := some 6) (v := ?_) rfl rfl (by kernel_rfl) (by kernel_rfl) (by kernel_rfl) (fun _ _ _ h => h) (Or.inl ⟨by rfl, ?_⟩) (by assumption) ?_
  rotate_left
  · (intro w hSw; (try dsimp only at hSw); go_simp; try (with_reducible rfl))
  simp only [Act.put, List.setIfInBounds_toArray, List.set_cons_zero, List.set_cons_succ]
  refine tk_at (i := 2) (d := some 7) (v := ?_) rfl rfl (by kernel_rfl) (by kernel_rfl) (by kernel_rfl) (fun _ _ _ h => h) (Or.inl ⟨by rfl, ?_⟩) (by assumption) ?_
  rotate_left
  · (intro w hSw; (try dsimp only at hSw); go_simp; try (with_reducible rfl))
  simp only [Act.put, List.setIfInBounds_toArray, List.set_cons_zero, List.set_cons_succ]
  refine tk_at (i := 3) (d := some 8) (v := ?_) rfl rfl (by kernel_rfl) (by kernel_rfl) (by kernel_rfl) (fun _ _ _ h => h) (Or.inl ⟨by rfl, ?_⟩) (by assumption) ?_
  rotate_left
  · (intro w hSw; (try dsimp only at hSw); go_simp; try (with_reducible rfl))
  simp only [Act.put, List.setIfInBounds_toArray, List.set_cons_zero, List.set_cons_succ]
  refine tk_at (i := 4) (d := some 9) (v := ?_) rfl rfl (by kernel_rfl) (by kernel_rfl) (by kernel_rfl) (fun _ _ _ h => h) (Or.inl ⟨by rfl, ?_⟩) (by assumption) ?_
  rotate_left
  · (intro w hSw; (try dsimp only at hSw); go_simp; try (with_reducible rfl))
  simp only [Act.put, List.setIfInBounds_toArray, List.set_cons_zero, List.set_cons_succ]
  refine tk_at (i := 5) (d := some 10) (v := ?_) rfl rfl (by kernel_rfl) (by kernel_rfl) (by kernel_rfl) (fun _ _ _ h => h) (Or.inl ⟨by rfl, ?_⟩) (by assumption) ?_
  rotate_left
  · (intro w hSw; (try dsimp only at hSw); go_simp; try (with_reducible rfl))
  simp only [Act.put, List.setIfInBounds_toArray, List.set_cons_zero, List.set_cons_succ]
  have X0 := hid (show w1.drew.heap[N]? = _ from Z0.out)
  have X1 := hid (show w1.drew.heap[N + 1]? = _ from Z1.out)
  have XP := hid (show w1.drew.heap[pb]? = _ from ZP.out)
  have XB := hid (show Below w.heap.size w w1.drew from blwXD BA.out)
  clear hHeld
  generalize w1.drew = x0 at *
  have f0 := frozen_of_heap (i := 0) X1.out
  have f1 := frozen_of_heap (i := 1) X1.out
  have c0 := cell_of_heap (i := 0) X1.out rfl
  have c1 := cell_of_heap (i := 1) X1.out rfl
  refine wpAnyH_ready (rs := [6]) (by kernel_rfl) (by simp) ?_
  refine AllReadyH.cons rfl (fun K hK => ?_) AllReadyH.nil
  go_simp
  go_wp2_with fail
  refine hK.out _ _ (KS.out _ ((Below.heap_setCell _ _ _ _ (show N ≠ N + 1 by omega)).trans ((Below.heap_setCell _ _ _ _ (show N ≠ N + 1 by omega)).trans X0.out)) ((Below.heap_setCell _ _ _ _ (show pb ≠ N + 1 by have := LP.out; omega)).trans ((Below.heap_setCell _ _ _ _ (show pb ≠ N + 1 by have := LP.out; omega)).trans XP.out))) (fun hHeld => ?_)
  clear hK K
  try simp only [Act.put, List.setIfInBounds_toArray, List.set_cons_zero, List.set_cons_succ]
  refine wpAnyH_ready (rs := [7]) (by kernel_rfl) (by simp) ?_
  refine AllReadyH.cons rfl (fun K hK => ?_) AllReadyH.nil
  go_simp
  go_wp2_with fail
  refine hK.out _ _ (KS.out _ ((Below.heap_setCell _ _ _ _ (show N ≠ N + 1 by omega)).trans ((Below.heap_setCell _ _ _ _ (show N ≠ N + 1 by omega)).trans X0.out)) ((Below.heap_setCell _ _ _ _ (show pb ≠ N + 1 by have := LP.out; omega)).trans ((Below.heap_setCell _ _ _ _ (show pb ≠ N + 1 by have := LP.out; omega)).trans XP.out))) (fun hHeld => ?_)
  clear hK K
  try simp only [Act.put, List.setIfInBounds_toArray, List.set_cons_zero, List.set_cons_succ]
  refine wpAnyH_done (by kernel_rfl) ?_ _
  clear hHeld
  go_wp2
  have HX := heap_setCell_at _ _ 1 _ _ _ (.int .u32 (b : Int)) (heap_setCell_at _ _ 0 _ _ _ (.int .u32 (a : Int)) X1.out)
  have d0 := cell_of_heap (i := 0) HX rfl
  have d1 := cell_of_heap (i := 1) HX rfl
  have hbb := (XB.out.setCell (p := ⟨N + 1, 0, none⟩) (by have := HN.out; show w.heap.size ≤ N + 1; omega) (.int .u32 (a : Int))).setCell (p := ⟨N + 1, 1, none⟩) (by have := HN.out; show w.heap.size ≤ N + 1; omega) (.int .u32 (b : Int))
  exact bodyPost_ret (v := .tuple #[.agg #[.int .u32 (a : Int), .int .u32 (b : Int)], .bool (nm.toList == ss.toList)]) (by simp only [results, Tryz.results53]; simp [go_sem, d0, d1]) rfl ⟨rfl, hbb⟩
set_option maxHeartbeats 3200000 in
theorem askL_any (p vg vn vc : Nat) (bc ba : Bool) (w : World) :
    Calls Tryz.prog 55 #[.agg #[.int .u32 (p : Int), .slice (some ⟨vg, 0, none⟩) vn vc, .bool bc, .bool ba]] w fun e w' => e = .returned (.tuple #[.agg #[.int .u32 (p : Int), .int .u32 (p : Int)], .bool (bc)]) ∧ Below w.heap.size w w' := by
  go_enter Tryz.func55, Tryz.ntmps55
  go_wp2_with fail
  have hBA := ((Below.refl w.heap.size w).alloc (Nat.le_refl _) (.cells #[.int .u32 (p : Int), .slice (some ⟨vg, 0, none⟩) vn vc, .bool bc, .bool ba] 64)).alloc (by simp) (.cells #[.int .u32 0, .int .u32 0] 47)
  have Z0 := hid (show ((w.alloc (.cells #[.int .u32 (p : Int), .slice (some ⟨vg, 0, none⟩) vn vc, .bool bc, .bool ba] 64)).alloc (.cells #[.int .u32 0, .int .u32 0] 47)).heap[w.heap.size]? = some (.cells #[.int .u32 (p : Int), .slice (some ⟨vg, 0, none⟩) vn vc, .bool bc, .bool ba] 64 (0, 0)) from by rw [heap_alloc_old _ _ _ (by simp)]; exact heap_alloc_at _ _)
  have Z1 := hid (show ((w.alloc (.cells #[.int .u32 (p : Int), .slice (some ⟨vg, 0, none⟩) vn vc, .bool bc, .bool ba] 64)).alloc (.cells #[.int .u32 0, .int .u32 0] 47)).heap[w.heap.size + 1]? = some (.cells #[.int .u32 0, .int .u32 0] 47 (0, 0)) from by
    have := heap_alloc_at (w.alloc (.cells #[.int .u32 (p : Int), .slice (some ⟨vg, 0, none⟩) vn vc, .bool bc, .bool ba] 64)) (.cells #[.int .u32 0, .int .u32 0] 47); rw [World.size_alloc] at this; exact this)
  have BA := hid hBA
  clear hBA
  generalize (w.alloc (.cells #[.int .u32 (p : Int), .slice (some ⟨vg, 0, none⟩) vn vc, .bool bc, .bool ba] 64)).alloc (.cells #[.int .u32 0, .int .u32 0] 47) = w1 at *
  obtain ⟨N, hN⟩ : ∃ N, w.heap.size = N := ⟨_, rfl⟩
  have HN := hid hN
  rw [hN] at Z0 Z1 ⊢
  clear hN
  have KS := hid (show ∀ w' : World, w'.heap[N]? = some (.cells #[.int .u32 (p : Int), .slice (some ⟨vg, 0, none⟩) vn vc, .bool bc, .bool ba] 64 (0, 0)) → (fun w' => w'.cell? ⟨N, 0, none⟩ = some (.int .u32 (p : Int)) ∧ w'.cell? ⟨N, 2, none⟩ = some (.bool bc)) w' from fun w' h0 => ⟨cell_of_heap h0 rfl, cell_of_heap h0 rfl⟩)
  refine wp_region_held_drew (S := (fun w' => w'.cell? ⟨N, 0, none⟩ = some (.int .u32 (p : Int)) ∧ w'.cell? ⟨N, 2, none⟩ = some (.bool bc))) (by kernel_rfl) (KS.out _ Z0.out) (fun hHeld => ?_)
  refine tk_at (i := 0) (d := some 4) (v := ?_) rfl rfl (by kernel_rfl) (by kernel_rfl) (by kernel_rfl) (fun _ _ _ h => h) (Or.inl ⟨by rfl, ?_⟩) (by assumption) ?_
  rotate_left
  · (intro w hSw; (try dsimp only at hSw); go_simp; try (with_reducible rfl))
  simp only [Act.put, List.setIfInBounds_toArray, List.set_cons_zero, List.set_cons_succ]
  refine tk_at (i := 1) (d := some 5) (v := ?_) rfl rfl (by kernel_rfl) (by kernel_rfl) (by kernel_rfl) (fun _ _ _ h => h) (Or.inl ⟨by rfl, ?_⟩) (by assumption) ?_
  rotate_left
  · (intro w hSw; (try dsimp only at hSw); go_simp; try (with_reducible rfl))
  simp only [Act.put, List.setIfInBounds_toArray, List.set_cons_zero, List.set_cons_succ]
  refine tk_at (i := 2) (d := some 6) (v := ?_) rfl rfl (by kernel_rfl) (by kernel_rfl) (by kernel_rfl) (fun _ _ _ h => h) (Or.inl ⟨by rfl, ?_⟩) (by assumption) ?_
  rotate_left
  · (intro w hSw; (try dsimp only at hSw); go_simp; try (with_reducible rfl))
  simp only [Act.put, List.setIfInBounds_toArray, List.set_cons_zero, List.set_cons_succ]
  refine tk_at (i := 3) (d := some 7) (v := ?_) rfl rfl (by kernel_rfl) (by kernel_rfl) (by kernel_rfl) (fun _ _ _ h => h) (Or.inl ⟨by rfl, ?_⟩) (by assumption) ?_
  rotate_left
  · (intro w hSw; (try dsimp only at hSw); go_simp; try (with_reducible rfl))
  simp only [Act.put, List.setIfInBounds_toArray, List.set_cons_zero, List.set_cons_succ]
  refine tk_at (i := 4) (d := some 8) (v := ?_) rfl rfl (by kernel_rfl) (by kernel_rfl) (by kernel_rfl) (fun _ _ _ h => h) (Or.inl ⟨by rfl, ?_⟩) (by assumption) ?_
  rotate_left
  · (intro w hSw; (try dsimp only at hSw); go_simp; try (with_reducible rfl))
  simp only [Act.put, List.setIfInBounds_toArray, List.set_cons_zero, List.set_cons_succ]
  refine tk_at (i := 5) (d := some 9) (v := ?_) rfl rfl (by kernel_rfl) (by kernel_rfl) (by kernel_rfl) (fun _ _ _ h => h) (Or.inl ⟨by rfl, ?_⟩) (by assumption) ?_
  rotate_left
  · (intro w hSw; (try dsimp only at hSw); go_simp; try (with_reducible rfl))
  simp only [Act.put, List.setIfInBounds_toArray, List.set_cons_zero, List.set_cons_succ]
  refine tk_at (i := 6) (d := some 10) (v := ?_) rfl rfl (by kernel_rfl) (by kernel_rfl) (by kernel_rfl) (fun _ _ _ h => h) (Or.inl ⟨by rfl, ?_⟩) (by assumption) ?_
  rotate_left
  · (intro w hSw; (try dsimp only at hSw); go_simp; try (with_reducible rfl))
  simp only [Act.put, List.setIfInBounds_toArray, List.set_cons_zero, List.set_cons_succ]
  have X0 := hid (show w1.drew.heap[N]? = _ from Z0.out)
  have X1 := hid (show w1.drew.heap[N + 1]? = _ from Z1.out)
  have XB := hid (show Below w.heap.size w w1.drew from blwXD BA.out)
  clear hHeld
  generalize w1.drew = x0 at *
  have f0 := frozen_of_heap (i := 0) X1.out
  have f1 := frozen_of_heap (i := 1) X1.out
  have c0 := cell_of_heap (i := 0) X1.out rfl
  have c1 := cell_of_heap (i := 1) X1.out rfl
  refine wpAnyH_ready (rs := [7]) (by kernel_rfl) (by simp) ?_
  refine AllReadyH.cons rfl (fun K hK => ?_) AllReadyH.nil
  go_simp
  go_wp2_with fail
  refine hK.out _ _ (KS.out _ ((Below.heap_setCell _ _ _ _ (show N ≠ N + 1 by omega)).trans ((Below.heap_setCell _ _ _ _ (show N ≠ N + 1 by omega)).trans X0.out))) (fun hHeld => ?_)
  clear hK K
  try simp only [Act.put, List.setIfInBounds_toArray, List.set_cons_zero, List.set_cons_succ]
  refine wpAnyH_ready (rs := [8]) (by kernel_rfl) (by simp) ?_
  refine AllReadyH.cons rfl (fun K hK => ?_) AllReadyH.nil
  go_simp
  go_wp2_with fail
  refine hK.out _ _ (KS.out _ ((Below.heap_setCell _ _ _ _ (show N ≠ N + 1 by omega)).trans ((Below.heap_setCell _ _ _ _ (show N ≠ N + 1 by omega)).trans X0.out))) (fun hHeld => ?_)
  clear hK K
  try simp only [Act.put, List.setIfInBounds_toArray, List.set_cons_zero, List.set_cons_succ]
  refine wpAnyH_done (by kernel_rfl) ?_ _
  clear hHeld
  go_wp2
  have HX := heap_setCell_at _ _ 1 _ _ _ (.int .u32 (p : Int)) (heap_setCell_at _ _ 0 _ _ _ (.int .u32 (p : Int)) X1.out)
  have d0 := cell_of_heap (i := 0) HX rfl
  have d1 := cell_of_heap (i := 1) HX rfl
  have hbb := (XB.out.setCell (p := ⟨N + 1, 0, none⟩) (by have := HN.out; show w.heap.size ≤ N + 1; omega) (.int .u32 (p : Int))).setCell (p := ⟨N + 1, 1, none⟩) (by have := HN.out; show w.heap.size ≤ N + 1; omega) (.int .u32 (p : Int))
  exact bodyPost_ret (v := .tuple #[.agg #[.int .u32 (p : Int), .int .u32 (p : Int)], .bool bc]) (by simp only [results, Tryz.results55]; simp [go_sem, d0, d1]) rfl ⟨rfl, hbb⟩
end Go.Proofs.YtgalmlelnolodaaGreatDoor
namespace Go.Proofs.YtgalmlelnolodaaGreatDoor
open Go.RowKit
set_option linter.unusedVariables false

theorem one_byte {s : ByteArray} (h : s.size = 1) : ∃ c, s = ⟨#[c]⟩ := by
  obtain ⟨⟨l⟩⟩ := s
  match l, h with
  | [c], _ => exact ⟨c, rfl⟩
def jnF (ss : ByteArray) (r : Rng) : Bool := r.j.data.toList.all fun c => ss.data.toList.contains c
set_option maxHeartbeats 6400000 in
theorem pickA_any (ad : Option Addr) (cap : Nat) (l : List Rng) (al : Bool) (pb : Nat) (w : World) (h : RgAt w ad l) (hp : w.heap[pb]? = some (.cells #[.bool al] 4 (0, 0))) (hn : l.length ≤ 1000001) (h32 : ∀ s ∈ pkR (fun r : Rng => al || !r.n) l, s.1 < 4294967296 ∧ s.2 < 4294967296) :
    Calls Tryz.prog 45 #[.slice ad l.length cap, .func (.func 46) #[] #[.pointer (some ⟨pb, 0, none⟩)]] w fun e w' => ∃ ad2 cap2 m, e = .returned (.slice ad2 m.length cap2) ∧ MrgOk (pkR (fun r : Rng => al || !r.n) l) m ∧ ZpR w' w.heap.size (.slice ad2 m.length cap2) m ∧ Below w.heap.size w w' := by
  have HX := hid h
  have H32 := hid h32
  have HP := hid hp
  have HASK := hid (fun (r : Rng) (hm : r ∈ l) (w' : World) (hb : Below w.heap.size w w') => show Calls Tryz.prog 46 #[.agg #[.int .u32 (r.a : Int), .int .u32 (r.b : Int), .string r.c, .string r.d, .string r.j, .bool r.n], .pointer (some ⟨pb, 0, none⟩)] w' fun e w2 => e = .returned (.tuple #[.agg #[.int .u32 (r.a : Int), .int .u32 (r.b : Int)], .bool ((fun r : Rng => al || !r.n) r)]) ∧ Below w'.heap.size w' w2 from askA_any r.a r.b r.c r.d r.j r.n al pb w' ((hb.block pb (lt_of_heap HP.out)).trans HP.out))
  obtain ⟨i0, hi, hz0, hz1, hz2⟩ := info_parts infoSpan
  have HI := hid (And.intro hi (And.intro hz0 (And.intro hz1 hz2)))
  obtain ⟨V, hV⟩ : ∃ V, l.length = V := ⟨_, rfl⟩
  have HV := hid hV
  obtain ⟨F, hF⟩ : ∃ F, (fun r : Rng => al || !r.n) = F := ⟨_, rfl⟩
  rw [hF] at H32 HASK ⊢
  have HLEN := hid (fun k => pkR_len F l k)
  rw [hV] at hn ⊢
  clear hi hz0 hz1 hz2 h h32 hV hF hp
  go_enter Tryz.func45, Tryz.ntmps45
  go_wp2_with fail
  go_loopw [12, 5] (fun c sl wr => ∃ (k cp : Nat) (sd : Option Addr), k ≤ V ∧ c = .int .i64 (k : Int) ∧ sl = .slice sd (pkR F (l.take k)).length cp ∧ wr.ownsRow w.heap.size 47 2 (.slice sd (pkR F (l.take k)).length cp) (pkR F (l.take k)).length (zpC (pkR F (l.take k))) ∧ Below w.heap.size w wr) (fun c _ _ => V - (intOf c).toNat)
  case atStart => exact ⟨0, 0, none, Nat.zero_le _, rfl, rfl, World.ownsRow_nil _ _ _ _, Below.refl _ _⟩
  case round =>
    obtain ⟨k, cp, sd, hk, rfl, rfl, hown, hB⟩ := hrel
    have HB := hid hB
    have HO := hid hown
    by_cases hlt : k < V
    · have hkl : k < l.length := by rw [HV.out]; exact hlt
      obtain ⟨g, rfl, c0, c1, c2, c3, c4, c5⟩ := (HX.out.below hB) k hkl
      have HPS := hid (pkR_succ F l hkl)
      have HPL := hid (HLEN.out k)
      have HA := hid (fun w' hb => HASK.out l[k] (List.getElem_mem hkl) w' hb)
      obtain ⟨r, hr⟩ : ∃ r, l[k] = r := ⟨_, rfl⟩
      rw [hr] at c0 c1 c2 c3 c4 c5 HPS HA
      obtain ⟨a, b, sc, sd', sj, nw⟩ := r
      simp only at c0 c1 c2 c3 c4 c5 HPS HA
      have hib : k < 1000001 := by omega
      obtain ⟨A, hAe⟩ : ∃ A, pkR F (l.take k) = A := ⟨_, rfl⟩
      rw [hAe] at HO HPS HPL ⊢
      have hAL : A.length ≤ 1000001 := by have := HPL.out; omega
      have BA := hid (show Below w.heap.size w (wr.alloc (.cells #[.int .u32 (a : Int), .int .u32 (b : Int), .string sc, .string sd', .string sj, .bool nw] 49)) from HB.out.alloc HB.out.size _)
      have OA := hid (owns_below HO.out ((Below.refl wr.heap.size wr).alloc (Nat.le_refl _) (.cells #[.int .u32 (a : Int), .int .u32 (b : Int), .string sc, .string sd', .string sj, .bool nw] 49)))
      clear hown hB hr hk hAe hkl
      go_wp2_with fail
      refine (HA.out _ BA.out).mono ?_
      rintro e w2 ⟨rfl, hb2⟩
      have O2 := hid (owns_below OA.out hb2)
      have B2 := hid (belowCat BA.out hb2)
      clear hb2 OA BA HB HO HA c0 c1 c2 c3 c4 c5
      cases hf : F ⟨a, b, sc, sd', sj, nw⟩ with
      | false =>
        rw [hf] at HPS
        have HPN := hid (show pkR F (l.take (k + 1)) = A by rw [HPS.out]; simp)
        have O3 := hid (owns_below O2.out ((Below.refl w2.heap.size w2).alloc (Nat.le_refl _) (.cells #[.int .u32 (a : Int), .int .u32 (b : Int)] 47)))
        have B3 := hid (show Below w.heap.size w (w2.alloc (.cells #[.int .u32 (a : Int), .int .u32 (b : Int)] 47)) from B2.out.alloc B2.out.size _)
        go_wp2
        go_roundw
        case rel => exact ⟨k + 1, cp, sd, by omega, by go_num, by rw [HPN.out], by rw [HPN.out]; exact O3.out, B3.out⟩
        case measure => simp [intOf]; omega
      | true =>
        rw [hf] at HPS
        have HPN := hid (show pkR F (l.take (k + 1)) = A ++ [(a, b)] by rw [HPS.out]; simp)
        have O3 := hid (owns_below O2.out ((Below.refl w2.heap.size w2).alloc (Nat.le_refl _) (.cells #[.int .u32 (a : Int), .int .u32 (b : Int)] 47)))
        have B3 := hid (show Below w.heap.size w (w2.alloc (.cells #[.int .u32 (a : Int), .int .u32 (b : Int)] 47)) from B2.out.alloc B2.out.size _)
        have Z3 := hid (heap_alloc_at w2 (.cells #[.int .u32 (a : Int), .int .u32 (b : Int)] 47))
        clear O2 B2 hf
        go_upto_region 7 with fail
        obtain ⟨w3, hw3⟩ : ∃ y, w2.alloc (.cells #[.int .u32 (a : Int), .int .u32 (b : Int)] 47) = y := ⟨_, rfl⟩
        obtain ⟨N, hN⟩ : ∃ N, w2.heap.size = N := ⟨_, rfl⟩
        rw [hw3] at O3 B3 Z3
        rw [hN] at Z3
        rw [hw3, hN]
        clear hw3 hN
        have z0 := cell_of_heap (i := 0) Z3.out rfl
        have z1 := cell_of_heap (i := 1) Z3.out rfl
        obtain ⟨hi, hz0, hz1, hz2⟩ := HI.out
        go_wp2_with (at_builtin; refine wpList_append_own _ rfl (.tmp 23) (.tmp 25) 53 rfl w.heap.size 47 i0 _ 2 8 Tryz.underlying53 hi hz0 hz1 hz2 rfl (by decide) _ A.length (zpC A) rfl (O3.out.alloc _) ⟨w3.heap.size, 0, none⟩ 1 1 [.int .u32 (a : Int), .int .u32 (b : Int)] rfl rfl (World.news_of_block (heap_alloc_at _ _)) (by intro u hu; simp at hu; rcases hu with rfl | rfl <;> rfl) (by unfold maxLen; omega) (by omega) (by have := B3.out.size; simp; omega) ?_)
        intro v' wi hown hgrow _
        obtain ⟨sd2, cp2, rfl⟩ := owns_shape hown
        have HO2 := hid (show wi.ownsRow w.heap.size 47 2 (.slice sd2 (A.length + 1) cp2) (A.length + 1) (zpC (A ++ [(a, b)])) by rw [zpC_app]; exact hown)
        have B4 := hid (show Below w.heap.size w wi from (B3.out.alloc B3.out.size _).grown hgrow (by have := B3.out.size; simp; omega) (fun q hq => (O3.out.lt q hq).1))
        clear hown hgrow z0 z1 hz0 hz1 hz2 hi
        go_wp2
        go_roundw
        case rel => exact ⟨k + 1, cp2, sd2, by omega, by go_num, by rw [HPN.out, List.length_append]; rfl, by rw [HPN.out, List.length_append]; exact HO2.out, B4.out⟩
        case measure => simp [intOf]; omega
    · obtain rfl : k = V := by omega
      have e : l.take k = l := List.take_of_length_le (by rw [HV.out]; exact Nat.le_refl _)
      have HL := hid (HLEN.out k)
      rw [e] at HO HL ⊢
      clear hown hB e
      go_wp2_with fail
      refine (mergeOk_any sd cp (pkR F l) _ (SpIn.own HO.out) (by have := HL.out; omega) H32.out).mono ?_
      rintro e w2 ⟨ad2, cap2, m, rfl, hm, hz, hb⟩
      have M2 := hid hm
      have Z2 := hid (own_base hz HB.out.size)
      have B2 := hid (belowCat HB.out hb)
      clear hm hz hb
      go_wp2
      go_ret
      exact ⟨ad2, cap2, m, rfl, M2.out, Z2.out, B2.out⟩
set_option maxHeartbeats 6400000 in
theorem pickK_any (ad : Option Addr) (cap : Nat) (l : List Rng) (na : Option Addr) (nl : List ByteArray) (nc : Nat) (pb : Nat) (w : World) (h : RgAt w ad l) (hp : w.heap[pb]? = some (.cells #[.slice na nl.length nc] 45 (0, 0))) (hs : StAt w na nl) (hnn : nl.length ≤ 1000000) (hn : l.length ≤ 1000001) (h32 : ∀ s ∈ pkR (fun r : Rng => memB r.c nl) l, s.1 < 4294967296 ∧ s.2 < 4294967296) :
    Calls Tryz.prog 45 #[.slice ad l.length cap, .func (.func 47) #[] #[.pointer (some ⟨pb, 0, none⟩)]] w fun e w' => ∃ ad2 cap2 m, e = .returned (.slice ad2 m.length cap2) ∧ MrgOk (pkR (fun r : Rng => memB r.c nl) l) m ∧ ZpR w' w.heap.size (.slice ad2 m.length cap2) m ∧ Below w.heap.size w w' := by
  have HX := hid h
  have H32 := hid h32
  have HP := hid hp
  have HASK := hid (fun (r : Rng) (hm : r ∈ l) (w' : World) (hb : Below w.heap.size w w') => show Calls Tryz.prog 47 #[.agg #[.int .u32 (r.a : Int), .int .u32 (r.b : Int), .string r.c, .string r.d, .string r.j, .bool r.n], .pointer (some ⟨pb, 0, none⟩)] w' fun e w2 => e = .returned (.tuple #[.agg #[.int .u32 (r.a : Int), .int .u32 (r.b : Int)], .bool ((fun r : Rng => memB r.c nl) r)]) ∧ Below w'.heap.size w' w2 from askK_any r.a r.b r.c r.d r.j r.n na nl nc pb w' ((hb.block pb (lt_of_heap HP.out)).trans HP.out) (hs.below hb) hnn)
  obtain ⟨i0, hi, hz0, hz1, hz2⟩ := info_parts infoSpan
  have HI := hid (And.intro hi (And.intro hz0 (And.intro hz1 hz2)))
  obtain ⟨V, hV⟩ : ∃ V, l.length = V := ⟨_, rfl⟩
  have HV := hid hV
  obtain ⟨F, hF⟩ : ∃ F, (fun r : Rng => memB r.c nl) = F := ⟨_, rfl⟩
  rw [hF] at H32 HASK ⊢
  have HLEN := hid (fun k => pkR_len F l k)
  rw [hV] at hn ⊢
  clear hi hz0 hz1 hz2 h h32 hV hF hp hs hnn
  go_enter Tryz.func45, Tryz.ntmps45
  go_wp2_with fail
  go_loopw [12, 5] (fun c sl wr => ∃ (k cp : Nat) (sd : Option Addr), k ≤ V ∧ c = .int .i64 (k : Int) ∧ sl = .slice sd (pkR F (l.take k)).length cp ∧ wr.ownsRow w.heap.size 47 2 (.slice sd (pkR F (l.take k)).length cp) (pkR F (l.take k)).length (zpC (pkR F (l.take k))) ∧ Below w.heap.size w wr) (fun c _ _ => V - (intOf c).toNat)
  case atStart => exact ⟨0, 0, none, Nat.zero_le _, rfl, rfl, World.ownsRow_nil _ _ _ _, Below.refl _ _⟩
  case round =>
    obtain ⟨k, cp, sd, hk, rfl, rfl, hown, hB⟩ := hrel
    have HB := hid hB
    have HO := hid hown
    by_cases hlt : k < V
    · have hkl : k < l.length := by rw [HV.out]; exact hlt
      obtain ⟨g, rfl, c0, c1, c2, c3, c4, c5⟩ := (HX.out.below hB) k hkl
      have HPS := hid (pkR_succ F l hkl)
      have HPL := hid (HLEN.out k)
      have HA := hid (fun w' hb => HASK.out l[k] (List.getElem_mem hkl) w' hb)
      obtain ⟨r, hr⟩ : ∃ r, l[k] = r := ⟨_, rfl⟩
      rw [hr] at c0 c1 c2 c3 c4 c5 HPS HA
      obtain ⟨a, b, sc, sd', sj, nw⟩ := r
      simp only at c0 c1 c2 c3 c4 c5 HPS HA
      have hib : k < 1000001 := by omega
      obtain ⟨A, hAe⟩ : ∃ A, pkR F (l.take k) = A := ⟨_, rfl⟩
      rw [hAe] at HO HPS HPL ⊢
      have hAL : A.length ≤ 1000001 := by have := HPL.out; omega
      have BA := hid (show Below w.heap.size w (wr.alloc (.cells #[.int .u32 (a : Int), .int .u32 (b : Int), .string sc, .string sd', .string sj, .bool nw] 49)) from HB.out.alloc HB.out.size _)
      have OA := hid (owns_below HO.out ((Below.refl wr.heap.size wr).alloc (Nat.le_refl _) (.cells #[.int .u32 (a : Int), .int .u32 (b : Int), .string sc, .string sd', .string sj, .bool nw] 49)))
      clear hown hB hr hk hAe hkl
      go_wp2_with fail
      refine (HA.out _ BA.out).mono ?_
      rintro e w2 ⟨rfl, hb2⟩
      have O2 := hid (owns_below OA.out hb2)
      have B2 := hid (belowCat BA.out hb2)
      clear hb2 OA BA HB HO HA c0 c1 c2 c3 c4 c5
      cases hf : F ⟨a, b, sc, sd', sj, nw⟩ with
      | false =>
        rw [hf] at HPS
        have HPN := hid (show pkR F (l.take (k + 1)) = A by rw [HPS.out]; simp)
        have O3 := hid (owns_below O2.out ((Below.refl w2.heap.size w2).alloc (Nat.le_refl _) (.cells #[.int .u32 (a : Int), .int .u32 (b : Int)] 47)))
        have B3 := hid (show Below w.heap.size w (w2.alloc (.cells #[.int .u32 (a : Int), .int .u32 (b : Int)] 47)) from B2.out.alloc B2.out.size _)
        go_wp2
        go_roundw
        case rel => exact ⟨k + 1, cp, sd, by omega, by go_num, by rw [HPN.out], by rw [HPN.out]; exact O3.out, B3.out⟩
        case measure => simp [intOf]; omega
      | true =>
        rw [hf] at HPS
        have HPN := hid (show pkR F (l.take (k + 1)) = A ++ [(a, b)] by rw [HPS.out]; simp)
        have O3 := hid (owns_below O2.out ((Below.refl w2.heap.size w2).alloc (Nat.le_refl _) (.cells #[.int .u32 (a : Int), .int .u32 (b : Int)] 47)))
        have B3 := hid (show Below w.heap.size w (w2.alloc (.cells #[.int .u32 (a : Int), .int .u32 (b : Int)] 47)) from B2.out.alloc B2.out.size _)
        have Z3 := hid (heap_alloc_at w2 (.cells #[.int .u32 (a : Int), .int .u32 (b : Int)] 47))
        clear O2 B2 hf
        go_upto_region 7 with fail
        obtain ⟨w3, hw3⟩ : ∃ y, w2.alloc (.cells #[.int .u32 (a : Int), .int .u32 (b : Int)] 47) = y := ⟨_, rfl⟩
        obtain ⟨N, hN⟩ : ∃ N, w2.heap.size = N := ⟨_, rfl⟩
        rw [hw3] at O3 B3 Z3
        rw [hN] at Z3
        rw [hw3, hN]
        clear hw3 hN
        have z0 := cell_of_heap (i := 0) Z3.out rfl
        have z1 := cell_of_heap (i := 1) Z3.out rfl
        obtain ⟨hi, hz0, hz1, hz2⟩ := HI.out
        go_wp2_with (at_builtin; refine wpList_append_own _ rfl (.tmp 23) (.tmp 25) 53 rfl w.heap.size 47 i0 _ 2 8 Tryz.underlying53 hi hz0 hz1 hz2 rfl (by decide) _ A.length (zpC A) rfl (O3.out.alloc _) ⟨w3.heap.size, 0, none⟩ 1 1 [.int .u32 (a : Int), .int .u32 (b : Int)] rfl rfl (World.news_of_block (heap_alloc_at _ _)) (by intro u hu; simp at hu; rcases hu with rfl | rfl <;> rfl) (by unfold maxLen; omega) (by omega) (by have := B3.out.size; simp; omega) ?_)
        intro v' wi hown hgrow _
        obtain ⟨sd2, cp2, rfl⟩ := owns_shape hown
        have HO2 := hid (show wi.ownsRow w.heap.size 47 2 (.slice sd2 (A.length + 1) cp2) (A.length + 1) (zpC (A ++ [(a, b)])) by rw [zpC_app]; exact hown)
        have B4 := hid (show Below w.heap.size w wi from (B3.out.alloc B3.out.size _).grown hgrow (by have := B3.out.size; simp; omega) (fun q hq => (O3.out.lt q hq).1))
        clear hown hgrow z0 z1 hz0 hz1 hz2 hi
        go_wp2
        go_roundw
        case rel => exact ⟨k + 1, cp2, sd2, by omega, by go_num, by rw [HPN.out, List.length_append]; rfl, by rw [HPN.out, List.length_append]; exact HO2.out, B4.out⟩
        case measure => simp [intOf]; omega
    · obtain rfl : k = V := by omega
      have e : l.take k = l := List.take_of_length_le (by rw [HV.out]; exact Nat.le_refl _)
      have HL := hid (HLEN.out k)
      rw [e] at HO HL ⊢
      clear hown hB e
      go_wp2_with fail
      refine (mergeOk_any sd cp (pkR F l) _ (SpIn.own HO.out) (by have := HL.out; omega) H32.out).mono ?_
      rintro e w2 ⟨ad2, cap2, m, rfl, hm, hz, hb⟩
      have M2 := hid hm
      have Z2 := hid (own_base hz HB.out.size)
      have B2 := hid (belowCat HB.out hb)
      clear hm hz hb
      go_wp2
      go_ret
      exact ⟨ad2, cap2, m, rfl, M2.out, Z2.out, B2.out⟩
set_option maxHeartbeats 6400000 in
theorem pickS_any (ad : Option Addr) (cap : Nat) (l : List Rng) (na : Option Addr) (nl : List ByteArray) (nc : Nat) (pb : Nat) (w : World) (h : RgAt w ad l) (hp : w.heap[pb]? = some (.cells #[.slice na nl.length nc] 45 (0, 0))) (hs : StAt w na nl) (hnn : nl.length ≤ 1000000) (hn : l.length ≤ 1000001) (h32 : ∀ s ∈ pkR (fun r : Rng => memB r.d nl) l, s.1 < 4294967296 ∧ s.2 < 4294967296) :
    Calls Tryz.prog 45 #[.slice ad l.length cap, .func (.func 49) #[] #[.pointer (some ⟨pb, 0, none⟩)]] w fun e w' => ∃ ad2 cap2 m, e = .returned (.slice ad2 m.length cap2) ∧ MrgOk (pkR (fun r : Rng => memB r.d nl) l) m ∧ ZpR w' w.heap.size (.slice ad2 m.length cap2) m ∧ Below w.heap.size w w' := by
  have HX := hid h
  have H32 := hid h32
  have HP := hid hp
  have HASK := hid (fun (r : Rng) (hm : r ∈ l) (w' : World) (hb : Below w.heap.size w w') => show Calls Tryz.prog 49 #[.agg #[.int .u32 (r.a : Int), .int .u32 (r.b : Int), .string r.c, .string r.d, .string r.j, .bool r.n], .pointer (some ⟨pb, 0, none⟩)] w' fun e w2 => e = .returned (.tuple #[.agg #[.int .u32 (r.a : Int), .int .u32 (r.b : Int)], .bool ((fun r : Rng => memB r.d nl) r)]) ∧ Below w'.heap.size w' w2 from askS_any r.a r.b r.c r.d r.j r.n na nl nc pb w' ((hb.block pb (lt_of_heap HP.out)).trans HP.out) (hs.below hb) hnn)
  obtain ⟨i0, hi, hz0, hz1, hz2⟩ := info_parts infoSpan
  have HI := hid (And.intro hi (And.intro hz0 (And.intro hz1 hz2)))
  obtain ⟨V, hV⟩ : ∃ V, l.length = V := ⟨_, rfl⟩
  have HV := hid hV
  obtain ⟨F, hF⟩ : ∃ F, (fun r : Rng => memB r.d nl) = F := ⟨_, rfl⟩
  rw [hF] at H32 HASK ⊢
  have HLEN := hid (fun k => pkR_len F l k)
  rw [hV] at hn ⊢
  clear hi hz0 hz1 hz2 h h32 hV hF hp hs hnn
  go_enter Tryz.func45, Tryz.ntmps45
  go_wp2_with fail
  go_loopw [12, 5] (fun c sl wr => ∃ (k cp : Nat) (sd : Option Addr), k ≤ V ∧ c = .int .i64 (k : Int) ∧ sl = .slice sd (pkR F (l.take k)).length cp ∧ wr.ownsRow w.heap.size 47 2 (.slice sd (pkR F (l.take k)).length cp) (pkR F (l.take k)).length (zpC (pkR F (l.take k))) ∧ Below w.heap.size w wr) (fun c _ _ => V - (intOf c).toNat)
  case atStart => exact ⟨0, 0, none, Nat.zero_le _, rfl, rfl, World.ownsRow_nil _ _ _ _, Below.refl _ _⟩
  case round =>
    obtain ⟨k, cp, sd, hk, rfl, rfl, hown, hB⟩ := hrel
    have HB := hid hB
    have HO := hid hown
    by_cases hlt : k < V
    · have hkl : k < l.length := by rw [HV.out]; exact hlt
      obtain ⟨g, rfl, c0, c1, c2, c3, c4, c5⟩ := (HX.out.below hB) k hkl
      have HPS := hid (pkR_succ F l hkl)
      have HPL := hid (HLEN.out k)
      have HA := hid (fun w' hb => HASK.out l[k] (List.getElem_mem hkl) w' hb)
      obtain ⟨r, hr⟩ : ∃ r, l[k] = r := ⟨_, rfl⟩
      rw [hr] at c0 c1 c2 c3 c4 c5 HPS HA
      obtain ⟨a, b, sc, sd', sj, nw⟩ := r
      simp only at c0 c1 c2 c3 c4 c5 HPS HA
      have hib : k < 1000001 := by omega
      obtain ⟨A, hAe⟩ : ∃ A, pkR F (l.take k) = A := ⟨_, rfl⟩
      rw [hAe] at HO HPS HPL ⊢
      have hAL : A.length ≤ 1000001 := by have := HPL.out; omega
      have BA := hid (show Below w.heap.size w (wr.alloc (.cells #[.int .u32 (a : Int), .int .u32 (b : Int), .string sc, .string sd', .string sj, .bool nw] 49)) from HB.out.alloc HB.out.size _)
      have OA := hid (owns_below HO.out ((Below.refl wr.heap.size wr).alloc (Nat.le_refl _) (.cells #[.int .u32 (a : Int), .int .u32 (b : Int), .string sc, .string sd', .string sj, .bool nw] 49)))
      clear hown hB hr hk hAe hkl
      go_wp2_with fail
      refine (HA.out _ BA.out).mono ?_
      rintro e w2 ⟨rfl, hb2⟩
      have O2 := hid (owns_below OA.out hb2)
      have B2 := hid (belowCat BA.out hb2)
      clear hb2 OA BA HB HO HA c0 c1 c2 c3 c4 c5
      cases hf : F ⟨a, b, sc, sd', sj, nw⟩ with
      | false =>
        rw [hf] at HPS
        have HPN := hid (show pkR F (l.take (k + 1)) = A by rw [HPS.out]; simp)
        have O3 := hid (owns_below O2.out ((Below.refl w2.heap.size w2).alloc (Nat.le_refl _) (.cells #[.int .u32 (a : Int), .int .u32 (b : Int)] 47)))
        have B3 := hid (show Below w.heap.size w (w2.alloc (.cells #[.int .u32 (a : Int), .int .u32 (b : Int)] 47)) from B2.out.alloc B2.out.size _)
        go_wp2
        go_roundw
        case rel => exact ⟨k + 1, cp, sd, by omega, by go_num, by rw [HPN.out], by rw [HPN.out]; exact O3.out, B3.out⟩
        case measure => simp [intOf]; omega
      | true =>
        rw [hf] at HPS
        have HPN := hid (show pkR F (l.take (k + 1)) = A ++ [(a, b)] by rw [HPS.out]; simp)
        have O3 := hid (owns_below O2.out ((Below.refl w2.heap.size w2).alloc (Nat.le_refl _) (.cells #[.int .u32 (a : Int), .int .u32 (b : Int)] 47)))
        have B3 := hid (show Below w.heap.size w (w2.alloc (.cells #[.int .u32 (a : Int), .int .u32 (b : Int)] 47)) from B2.out.alloc B2.out.size _)
        have Z3 := hid (heap_alloc_at w2 (.cells #[.int .u32 (a : Int), .int .u32 (b : Int)] 47))
        clear O2 B2 hf
        go_upto_region 7 with fail
        obtain ⟨w3, hw3⟩ : ∃ y, w2.alloc (.cells #[.int .u32 (a : Int), .int .u32 (b : Int)] 47) = y := ⟨_, rfl⟩
        obtain ⟨N, hN⟩ : ∃ N, w2.heap.size = N := ⟨_, rfl⟩
        rw [hw3] at O3 B3 Z3
        rw [hN] at Z3
        rw [hw3, hN]
        clear hw3 hN
        have z0 := cell_of_heap (i := 0) Z3.out rfl
        have z1 := cell_of_heap (i := 1) Z3.out rfl
        obtain ⟨hi, hz0, hz1, hz2⟩ := HI.out
        go_wp2_with (at_builtin; refine wpList_append_own _ rfl (.tmp 23) (.tmp 25) 53 rfl w.heap.size 47 i0 _ 2 8 Tryz.underlying53 hi hz0 hz1 hz2 rfl (by decide) _ A.length (zpC A) rfl (O3.out.alloc _) ⟨w3.heap.size, 0, none⟩ 1 1 [.int .u32 (a : Int), .int .u32 (b : Int)] rfl rfl (World.news_of_block (heap_alloc_at _ _)) (by intro u hu; simp at hu; rcases hu with rfl | rfl <;> rfl) (by unfold maxLen; omega) (by omega) (by have := B3.out.size; simp; omega) ?_)
        intro v' wi hown hgrow _
        obtain ⟨sd2, cp2, rfl⟩ := owns_shape hown
        have HO2 := hid (show wi.ownsRow w.heap.size 47 2 (.slice sd2 (A.length + 1) cp2) (A.length + 1) (zpC (A ++ [(a, b)])) by rw [zpC_app]; exact hown)
        have B4 := hid (show Below w.heap.size w wi from (B3.out.alloc B3.out.size _).grown hgrow (by have := B3.out.size; simp; omega) (fun q hq => (O3.out.lt q hq).1))
        clear hown hgrow z0 z1 hz0 hz1 hz2 hi
        go_wp2
        go_roundw
        case rel => exact ⟨k + 1, cp2, sd2, by omega, by go_num, by rw [HPN.out, List.length_append]; rfl, by rw [HPN.out, List.length_append]; exact HO2.out, B4.out⟩
        case measure => simp [intOf]; omega
    · obtain rfl : k = V := by omega
      have e : l.take k = l := List.take_of_length_le (by rw [HV.out]; exact Nat.le_refl _)
      have HL := hid (HLEN.out k)
      rw [e] at HO HL ⊢
      clear hown hB e
      go_wp2_with fail
      refine (mergeOk_any sd cp (pkR F l) _ (SpIn.own HO.out) (by have := HL.out; omega) H32.out).mono ?_
      rintro e w2 ⟨ad2, cap2, m, rfl, hm, hz, hb⟩
      have M2 := hid hm
      have Z2 := hid (own_base hz HB.out.size)
      have B2 := hid (belowCat HB.out hb)
      clear hm hz hb
      go_wp2
      go_ret
      exact ⟨ad2, cap2, m, rfl, M2.out, Z2.out, B2.out⟩
set_option maxHeartbeats 6400000 in
theorem pickJ_any (ad : Option Addr) (cap : Nat) (l : List Rng) (ss : ByteArray) (pb : Nat) (w : World) (h : RgAt w ad l) (hp : w.heap[pb]? = some (.cells #[.string ss] 9 (0, 0))) (hj : ∀ r ∈ l, r.j.size = 1) (hn : l.length ≤ 1000001) (h32 : ∀ s ∈ pkR (jnF ss) l, s.1 < 4294967296 ∧ s.2 < 4294967296) :
    Calls Tryz.prog 45 #[.slice ad l.length cap, .func (.func 50) #[] #[.pointer (some ⟨pb, 0, none⟩)]] w fun e w' => ∃ ad2 cap2 m, e = .returned (.slice ad2 m.length cap2) ∧ MrgOk (pkR (jnF ss) l) m ∧ ZpR w' w.heap.size (.slice ad2 m.length cap2) m ∧ Below w.heap.size w w' := by
  have HX := hid h
  have H32 := hid h32
  have HP := hid hp
  have HASK := hid (fun (r : Rng) (hm : r ∈ l) (w' : World) (hb : Below w.heap.size w w') => show Calls Tryz.prog 50 #[.agg #[.int .u32 (r.a : Int), .int .u32 (r.b : Int), .string r.c, .string r.d, .string r.j, .bool r.n], .pointer (some ⟨pb, 0, none⟩)] w' fun e w2 => e = .returned (.tuple #[.agg #[.int .u32 (r.a : Int), .int .u32 (r.b : Int)], .bool (jnF ss r)]) ∧ Below w'.heap.size w' w2 from by
    obtain ⟨cj, hc⟩ := one_byte (hj r hm)
    have e : jnF ss r = ss.data.toList.contains cj := by unfold jnF; rw [hc]; simp
    rw [e, hc]
    exact askJ_any r.a r.b r.c r.d cj r.n ss pb w' ((hb.block pb (lt_of_heap HP.out)).trans HP.out))
  obtain ⟨i0, hi, hz0, hz1, hz2⟩ := info_parts infoSpan
  have HI := hid (And.intro hi (And.intro hz0 (And.intro hz1 hz2)))
  obtain ⟨V, hV⟩ : ∃ V, l.length = V := ⟨_, rfl⟩
  have HV := hid hV
  obtain ⟨F, hF⟩ : ∃ F, (jnF ss) = F := ⟨_, rfl⟩
  rw [hF] at H32 HASK ⊢
  have HLEN := hid (fun k => pkR_len F l k)
  rw [hV] at hn ⊢
  clear hi hz0 hz1 hz2 h h32 hV hF hp hj
  go_enter Tryz.func45, Tryz.ntmps45
  go_wp2_with fail
  go_loopw [12, 5] (fun c sl wr => ∃ (k cp : Nat) (sd : Option Addr), k ≤ V ∧ c = .int .i64 (k : Int) ∧ sl = .slice sd (pkR F (l.take k)).length cp ∧ wr.ownsRow w.heap.size 47 2 (.slice sd (pkR F (l.take k)).length cp) (pkR F (l.take k)).length (zpC (pkR F (l.take k))) ∧ Below w.heap.size w wr) (fun c _ _ => V - (intOf c).toNat)
  case atStart => exact ⟨0, 0, none, Nat.zero_le _, rfl, rfl, World.ownsRow_nil _ _ _ _, Below.refl _ _⟩
  case round =>
    obtain ⟨k, cp, sd, hk, rfl, rfl, hown, hB⟩ := hrel
    have HB := hid hB
    have HO := hid hown
    by_cases hlt : k < V
    · have hkl : k < l.length := by rw [HV.out]; exact hlt
      obtain ⟨g, rfl, c0, c1, c2, c3, c4, c5⟩ := (HX.out.below hB) k hkl
      have HPS := hid (pkR_succ F l hkl)
      have HPL := hid (HLEN.out k)
      have HA := hid (fun w' hb => HASK.out l[k] (List.getElem_mem hkl) w' hb)
      obtain ⟨r, hr⟩ : ∃ r, l[k] = r := ⟨_, rfl⟩
      rw [hr] at c0 c1 c2 c3 c4 c5 HPS HA
      obtain ⟨a, b, sc, sd', sj, nw⟩ := r
      simp only at c0 c1 c2 c3 c4 c5 HPS HA
      have hib : k < 1000001 := by omega
      obtain ⟨A, hAe⟩ : ∃ A, pkR F (l.take k) = A := ⟨_, rfl⟩
      rw [hAe] at HO HPS HPL ⊢
      have hAL : A.length ≤ 1000001 := by have := HPL.out; omega
      have BA := hid (show Below w.heap.size w (wr.alloc (.cells #[.int .u32 (a : Int), .int .u32 (b : Int), .string sc, .string sd', .string sj, .bool nw] 49)) from HB.out.alloc HB.out.size _)
      have OA := hid (owns_below HO.out ((Below.refl wr.heap.size wr).alloc (Nat.le_refl _) (.cells #[.int .u32 (a : Int), .int .u32 (b : Int), .string sc, .string sd', .string sj, .bool nw] 49)))
      clear hown hB hr hk hAe hkl
      go_wp2_with fail
      refine (HA.out _ BA.out).mono ?_
      rintro e w2 ⟨rfl, hb2⟩
      have O2 := hid (owns_below OA.out hb2)
      have B2 := hid (belowCat BA.out hb2)
      clear hb2 OA BA HB HO HA c0 c1 c2 c3 c4 c5
      cases hf : F ⟨a, b, sc, sd', sj, nw⟩ with
      | false =>
        rw [hf] at HPS
        have HPN := hid (show pkR F (l.take (k + 1)) = A by rw [HPS.out]; simp)
        have O3 := hid (owns_below O2.out ((Below.refl w2.heap.size w2).alloc (Nat.le_refl _) (.cells #[.int .u32 (a : Int), .int .u32 (b : Int)] 47)))
        have B3 := hid (show Below w.heap.size w (w2.alloc (.cells #[.int .u32 (a : Int), .int .u32 (b : Int)] 47)) from B2.out.alloc B2.out.size _)
        go_wp2
        go_roundw
        case rel => exact ⟨k + 1, cp, sd, by omega, by go_num, by rw [HPN.out], by rw [HPN.out]; exact O3.out, B3.out⟩
        case measure => simp [intOf]; omega
      | true =>
        rw [hf] at HPS
        have HPN := hid (show pkR F (l.take (k + 1)) = A ++ [(a, b)] by rw [HPS.out]; simp)
        have O3 := hid (owns_below O2.out ((Below.refl w2.heap.size w2).alloc (Nat.le_refl _) (.cells #[.int .u32 (a : Int), .int .u32 (b : Int)] 47)))
        have B3 := hid (show Below w.heap.size w (w2.alloc (.cells #[.int .u32 (a : Int), .int .u32 (b : Int)] 47)) from B2.out.alloc B2.out.size _)
        have Z3 := hid (heap_alloc_at w2 (.cells #[.int .u32 (a : Int), .int .u32 (b : Int)] 47))
        clear O2 B2 hf
        go_upto_region 7 with fail
        obtain ⟨w3, hw3⟩ : ∃ y, w2.alloc (.cells #[.int .u32 (a : Int), .int .u32 (b : Int)] 47) = y := ⟨_, rfl⟩
        obtain ⟨N, hN⟩ : ∃ N, w2.heap.size = N := ⟨_, rfl⟩
        rw [hw3] at O3 B3 Z3
        rw [hN] at Z3
        rw [hw3, hN]
        clear hw3 hN
        have z0 := cell_of_heap (i := 0) Z3.out rfl
        have z1 := cell_of_heap (i := 1) Z3.out rfl
        obtain ⟨hi, hz0, hz1, hz2⟩ := HI.out
        go_wp2_with (at_builtin; refine wpList_append_own _ rfl (.tmp 23) (.tmp 25) 53 rfl w.heap.size 47 i0 _ 2 8 Tryz.underlying53 hi hz0 hz1 hz2 rfl (by decide) _ A.length (zpC A) rfl (O3.out.alloc _) ⟨w3.heap.size, 0, none⟩ 1 1 [.int .u32 (a : Int), .int .u32 (b : Int)] rfl rfl (World.news_of_block (heap_alloc_at _ _)) (by intro u hu; simp at hu; rcases hu with rfl | rfl <;> rfl) (by unfold maxLen; omega) (by omega) (by have := B3.out.size; simp; omega) ?_)
        intro v' wi hown hgrow _
        obtain ⟨sd2, cp2, rfl⟩ := owns_shape hown
        have HO2 := hid (show wi.ownsRow w.heap.size 47 2 (.slice sd2 (A.length + 1) cp2) (A.length + 1) (zpC (A ++ [(a, b)])) by rw [zpC_app]; exact hown)
        have B4 := hid (show Below w.heap.size w wi from (B3.out.alloc B3.out.size _).grown hgrow (by have := B3.out.size; simp; omega) (fun q hq => (O3.out.lt q hq).1))
        clear hown hgrow z0 z1 hz0 hz1 hz2 hi
        go_wp2
        go_roundw
        case rel => exact ⟨k + 1, cp2, sd2, by omega, by go_num, by rw [HPN.out, List.length_append]; rfl, by rw [HPN.out, List.length_append]; exact HO2.out, B4.out⟩
        case measure => simp [intOf]; omega
    · obtain rfl : k = V := by omega
      have e : l.take k = l := List.take_of_length_le (by rw [HV.out]; exact Nat.le_refl _)
      have HL := hid (HLEN.out k)
      rw [e] at HO HL ⊢
      clear hown hB e
      go_wp2_with fail
      refine (mergeOk_any sd cp (pkR F l) _ (SpIn.own HO.out) (by have := HL.out; omega) H32.out).mono ?_
      rintro e w2 ⟨ad2, cap2, m, rfl, hm, hz, hb⟩
      have M2 := hid hm
      have Z2 := hid (own_base hz HB.out.size)
      have B2 := hid (belowCat HB.out hb)
      clear hm hz hb
      go_wp2
      go_ret
      exact ⟨ad2, cap2, m, rfl, M2.out, Z2.out, B2.out⟩
set_option maxHeartbeats 6400000 in
theorem pickT_any (ad : Option Addr) (cap : Nat) (l : List Nm) (ss : ByteArray) (pb : Nat) (w : World) (h : NmAt w ad l) (hp : w.heap[pb]? = some (.cells #[.string ss] 9 (0, 0))) (hn : l.length ≤ 1000001) (h32 : ∀ s ∈ pkN (fun r : Nm => eqB r.s ss) l, s.1 < 4294967296 ∧ s.2 < 4294967296) :
    Calls Tryz.prog 52 #[.slice ad l.length cap, .func (.func 53) #[] #[.pointer (some ⟨pb, 0, none⟩)]] w fun e w' => ∃ ad2 cap2 m, e = .returned (.slice ad2 m.length cap2) ∧ MrgOk (pkN (fun r : Nm => eqB r.s ss) l) m ∧ ZpR w' w.heap.size (.slice ad2 m.length cap2) m ∧ Below w.heap.size w w' := by
  have HX := hid h
  have H32 := hid h32
  have HP := hid hp
  have HASK := hid (fun (r : Nm) (hm : r ∈ l) (w' : World) (hb : Below w.heap.size w w') => show Calls Tryz.prog 53 #[.agg #[.string r.s, .int .u32 (r.a : Int), .int .u32 (r.b : Int)], .pointer (some ⟨pb, 0, none⟩)] w' fun e w2 => e = .returned (.tuple #[.agg #[.int .u32 (r.a : Int), .int .u32 (r.b : Int)], .bool ((fun r : Nm => eqB r.s ss) r)]) ∧ Below w'.heap.size w' w2 from askT_any r.s r.a r.b ss pb w' ((hb.block pb (lt_of_heap HP.out)).trans HP.out))
  obtain ⟨i0, hi, hz0, hz1, hz2⟩ := info_parts infoSpan
  have HI := hid (And.intro hi (And.intro hz0 (And.intro hz1 hz2)))
  obtain ⟨V, hV⟩ : ∃ V, l.length = V := ⟨_, rfl⟩
  have HV := hid hV
  obtain ⟨F, hF⟩ : ∃ F, (fun r : Nm => eqB r.s ss) = F := ⟨_, rfl⟩
  rw [hF] at H32 HASK ⊢
  have HLEN := hid (fun k => pkN_len F l k)
  rw [hV] at hn ⊢
  clear hi hz0 hz1 hz2 h h32 hV hF hp
  go_enter Tryz.func52, Tryz.ntmps52
  go_wp2_with fail
  go_loopw [12, 5] (fun c sl wr => ∃ (k cp : Nat) (sd : Option Addr), k ≤ V ∧ c = .int .i64 (k : Int) ∧ sl = .slice sd (pkN F (l.take k)).length cp ∧ wr.ownsRow w.heap.size 47 2 (.slice sd (pkN F (l.take k)).length cp) (pkN F (l.take k)).length (zpC (pkN F (l.take k))) ∧ Below w.heap.size w wr) (fun c _ _ => V - (intOf c).toNat)
  case atStart => exact ⟨0, 0, none, Nat.zero_le _, rfl, rfl, World.ownsRow_nil _ _ _ _, Below.refl _ _⟩
  case round =>
    obtain ⟨k, cp, sd, hk, rfl, rfl, hown, hB⟩ := hrel
    have HB := hid hB
    have HO := hid hown
    by_cases hlt : k < V
    · have hkl : k < l.length := by rw [HV.out]; exact hlt
      obtain ⟨g, rfl, c0, c1, c2⟩ := (HX.out.below hB) k hkl
      have HPS := hid (pkN_succ F l hkl)
      have HPL := hid (HLEN.out k)
      have HA := hid (fun w' hb => HASK.out l[k] (List.getElem_mem hkl) w' hb)
      obtain ⟨r, hr⟩ : ∃ r, l[k] = r := ⟨_, rfl⟩
      rw [hr] at c0 c1 c2 HPS HA
      obtain ⟨nm, a, b⟩ := r
      simp only at c0 c1 c2 HPS HA
      have hib : k < 1000001 := by omega
      obtain ⟨A, hAe⟩ : ∃ A, pkN F (l.take k) = A := ⟨_, rfl⟩
      rw [hAe] at HO HPS HPL ⊢
      have hAL : A.length ≤ 1000001 := by have := HPL.out; omega
      have BA := hid (show Below w.heap.size w (wr.alloc (.cells #[.string nm, .int .u32 (a : Int), .int .u32 (b : Int)] 110)) from HB.out.alloc HB.out.size _)
      have OA := hid (owns_below HO.out ((Below.refl wr.heap.size wr).alloc (Nat.le_refl _) (.cells #[.string nm, .int .u32 (a : Int), .int .u32 (b : Int)] 110)))
      clear hown hB hr hk hAe hkl
      go_wp2_with fail
      refine (HA.out _ BA.out).mono ?_
      rintro e w2 ⟨rfl, hb2⟩
      have O2 := hid (owns_below OA.out hb2)
      have B2 := hid (belowCat BA.out hb2)
      clear hb2 OA BA HB HO HA c0 c1 c2
      cases hf : F ⟨nm, a, b⟩ with
      | false =>
        rw [hf] at HPS
        have HPN := hid (show pkN F (l.take (k + 1)) = A by rw [HPS.out]; simp)
        have O3 := hid (owns_below O2.out ((Below.refl w2.heap.size w2).alloc (Nat.le_refl _) (.cells #[.int .u32 (a : Int), .int .u32 (b : Int)] 47)))
        have B3 := hid (show Below w.heap.size w (w2.alloc (.cells #[.int .u32 (a : Int), .int .u32 (b : Int)] 47)) from B2.out.alloc B2.out.size _)
        go_wp2
        go_roundw
        case rel => exact ⟨k + 1, cp, sd, by omega, by go_num, by rw [HPN.out], by rw [HPN.out]; exact O3.out, B3.out⟩
        case measure => simp [intOf]; omega
      | true =>
        rw [hf] at HPS
        have HPN := hid (show pkN F (l.take (k + 1)) = A ++ [(a, b)] by rw [HPS.out]; simp)
        have O3 := hid (owns_below O2.out ((Below.refl w2.heap.size w2).alloc (Nat.le_refl _) (.cells #[.int .u32 (a : Int), .int .u32 (b : Int)] 47)))
        have B3 := hid (show Below w.heap.size w (w2.alloc (.cells #[.int .u32 (a : Int), .int .u32 (b : Int)] 47)) from B2.out.alloc B2.out.size _)
        have Z3 := hid (heap_alloc_at w2 (.cells #[.int .u32 (a : Int), .int .u32 (b : Int)] 47))
        clear O2 B2 hf
        go_upto_region 7 with fail
        obtain ⟨w3, hw3⟩ : ∃ y, w2.alloc (.cells #[.int .u32 (a : Int), .int .u32 (b : Int)] 47) = y := ⟨_, rfl⟩
        obtain ⟨N, hN⟩ : ∃ N, w2.heap.size = N := ⟨_, rfl⟩
        rw [hw3] at O3 B3 Z3
        rw [hN] at Z3
        rw [hw3, hN]
        clear hw3 hN
        have z0 := cell_of_heap (i := 0) Z3.out rfl
        have z1 := cell_of_heap (i := 1) Z3.out rfl
        obtain ⟨hi, hz0, hz1, hz2⟩ := HI.out
        go_wp2_with (at_builtin; refine wpList_append_own _ rfl (.tmp 23) (.tmp 25) 53 rfl w.heap.size 47 i0 _ 2 8 Tryz.underlying53 hi hz0 hz1 hz2 rfl (by decide) _ A.length (zpC A) rfl (O3.out.alloc _) ⟨w3.heap.size, 0, none⟩ 1 1 [.int .u32 (a : Int), .int .u32 (b : Int)] rfl rfl (World.news_of_block (heap_alloc_at _ _)) (by intro u hu; simp at hu; rcases hu with rfl | rfl <;> rfl) (by unfold maxLen; omega) (by omega) (by have := B3.out.size; simp; omega) ?_)
        intro v' wi hown hgrow _
        obtain ⟨sd2, cp2, rfl⟩ := owns_shape hown
        have HO2 := hid (show wi.ownsRow w.heap.size 47 2 (.slice sd2 (A.length + 1) cp2) (A.length + 1) (zpC (A ++ [(a, b)])) by rw [zpC_app]; exact hown)
        have B4 := hid (show Below w.heap.size w wi from (B3.out.alloc B3.out.size _).grown hgrow (by have := B3.out.size; simp; omega) (fun q hq => (O3.out.lt q hq).1))
        clear hown hgrow z0 z1 hz0 hz1 hz2 hi
        go_wp2
        go_roundw
        case rel => exact ⟨k + 1, cp2, sd2, by omega, by go_num, by rw [HPN.out, List.length_append]; rfl, by rw [HPN.out, List.length_append]; exact HO2.out, B4.out⟩
        case measure => simp [intOf]; omega
    · obtain rfl : k = V := by omega
      have e : l.take k = l := List.take_of_length_le (by rw [HV.out]; exact Nat.le_refl _)
      have HL := hid (HLEN.out k)
      rw [e] at HO HL ⊢
      clear hown hB e
      go_wp2_with fail
      refine (mergeOk_any sd cp (pkN F l) _ (SpIn.own HO.out) (by have := HL.out; omega) H32.out).mono ?_
      rintro e w2 ⟨ad2, cap2, m, rfl, hm, hz, hb⟩
      have M2 := hid hm
      have Z2 := hid (own_base hz HB.out.size)
      have B2 := hid (belowCat HB.out hb)
      clear hm hz hb
      go_wp2
      go_ret
      exact ⟨ad2, cap2, m, rfl, M2.out, Z2.out, B2.out⟩
set_option maxHeartbeats 6400000 in
theorem pickL_any (ad : Option Addr) (cap : Nat) (l : List Dq) (w : World) (h : DpAt w ad l) (hn : l.length ≤ 1000001) (h32 : ∀ s ∈ pkD (fun x : Dq => x.d.c) l, s.1 < 4294967296 ∧ s.2 < 4294967296) :
    Calls Tryz.prog 54 #[.slice ad l.length cap, .func (.func 55) #[] #[]] w fun e w' => ∃ ad2 cap2 m, e = .returned (.slice ad2 m.length cap2) ∧ MrgOk (pkD (fun x : Dq => x.d.c) l) m ∧ ZpR w' w.heap.size (.slice ad2 m.length cap2) m ∧ Below w.heap.size w w' := by
  have HX := hid h
  have H32 := hid h32
  have HASK := hid (fun (x : Dq) (hm : x ∈ l) (w' : World) (hb : Below w.heap.size w w') => show Calls Tryz.prog 55 #[.agg #[.int .u32 (x.d.p : Int), .slice (some ⟨x.g, 0, none⟩) x.d.to.length x.cap, .bool x.d.c, .bool x.d.a]] w' fun e w2 => e = .returned (.tuple #[.agg #[.int .u32 (x.d.p : Int), .int .u32 (x.d.p : Int)], .bool ((fun x : Dq => x.d.c) x)]) ∧ Below w'.heap.size w' w2 from askL_any x.d.p x.g x.d.to.length x.cap x.d.c x.d.a w')
  obtain ⟨i0, hi, hz0, hz1, hz2⟩ := info_parts infoSpan
  have HI := hid (And.intro hi (And.intro hz0 (And.intro hz1 hz2)))
  obtain ⟨V, hV⟩ : ∃ V, l.length = V := ⟨_, rfl⟩
  have HV := hid hV
  obtain ⟨F, hF⟩ : ∃ F, (fun x : Dq => x.d.c) = F := ⟨_, rfl⟩
  rw [hF] at H32 HASK ⊢
  have HLEN := hid (fun k => pkD_len F l k)
  rw [hV] at hn ⊢
  clear hi hz0 hz1 hz2 h h32 hV hF
  go_enter Tryz.func54, Tryz.ntmps54
  go_wp2_with fail
  go_loopw [12, 5] (fun c sl wr => ∃ (k cp : Nat) (sd : Option Addr), k ≤ V ∧ c = .int .i64 (k : Int) ∧ sl = .slice sd (pkD F (l.take k)).length cp ∧ wr.ownsRow w.heap.size 47 2 (.slice sd (pkD F (l.take k)).length cp) (pkD F (l.take k)).length (zpC (pkD F (l.take k))) ∧ Below w.heap.size w wr) (fun c _ _ => V - (intOf c).toNat)
  case atStart => exact ⟨0, 0, none, Nat.zero_le _, rfl, rfl, World.ownsRow_nil _ _ _ _, Below.refl _ _⟩
  case round =>
    obtain ⟨k, cp, sd, hk, rfl, rfl, hown, hB⟩ := hrel
    have HB := hid hB
    have HO := hid hown
    by_cases hlt : k < V
    · have hkl : k < l.length := by rw [HV.out]; exact hlt
      obtain ⟨g, rfl, c0, c1, c2, c3⟩ := (HX.out.below hB) k hkl
      have HPS := hid (pkD_succ F l hkl)
      have HPL := hid (HLEN.out k)
      have HA := hid (fun w' hb => HASK.out l[k] (List.getElem_mem hkl) w' hb)
      obtain ⟨r, hr⟩ : ∃ r, l[k] = r := ⟨_, rfl⟩
      rw [hr] at c0 c1 c2 c3 HPS HA
      simp only [Dq.sl] at c0 c1 c2 c3
      obtain ⟨vg, hvg⟩ : ∃ v, r.g = v := ⟨_, rfl⟩
      obtain ⟨vn, hvn⟩ : ∃ v, r.d.to.length = v := ⟨_, rfl⟩
      obtain ⟨vc, hvc⟩ : ∃ v, r.cap = v := ⟨_, rfl⟩
      obtain ⟨p, hpp⟩ : ∃ v, r.d.p = v := ⟨_, rfl⟩
      obtain ⟨bc, hbc⟩ : ∃ v, r.d.c = v := ⟨_, rfl⟩
      obtain ⟨ba, hba⟩ : ∃ v, r.d.a = v := ⟨_, rfl⟩
      simp only [hvg, hvn, hvc, hpp, hbc, hba] at c0 c1 c2 c3 HPS HA
      clear hvg hvn hvc hpp hbc hba
      have hib : k < 1000001 := by omega
      obtain ⟨A, hAe⟩ : ∃ A, pkD F (l.take k) = A := ⟨_, rfl⟩
      rw [hAe] at HO HPS HPL ⊢
      have hAL : A.length ≤ 1000001 := by have := HPL.out; omega
      have BA := hid (show Below w.heap.size w (wr.alloc (.cells #[.int .u32 (p : Int), .slice (some ⟨vg, 0, none⟩) vn vc, .bool bc, .bool ba] 64)) from HB.out.alloc HB.out.size _)
      have OA := hid (owns_below HO.out ((Below.refl wr.heap.size wr).alloc (Nat.le_refl _) (.cells #[.int .u32 (p : Int), .slice (some ⟨vg, 0, none⟩) vn vc, .bool bc, .bool ba] 64)))
      clear hown hB hr hk hAe hkl
      go_wp2_with fail
      refine (HA.out _ BA.out).mono ?_
      rintro e w2 ⟨rfl, hb2⟩
      have O2 := hid (owns_below OA.out hb2)
      have B2 := hid (belowCat BA.out hb2)
      clear hb2 OA BA HB HO HA c0 c1 c2 c3
      cases hf : F r with
      | false =>
        rw [hf] at HPS
        have HPN := hid (show pkD F (l.take (k + 1)) = A by rw [HPS.out]; simp)
        have O3 := hid (owns_below O2.out ((Below.refl w2.heap.size w2).alloc (Nat.le_refl _) (.cells #[.int .u32 (p : Int), .int .u32 (p : Int)] 47)))
        have B3 := hid (show Below w.heap.size w (w2.alloc (.cells #[.int .u32 (p : Int), .int .u32 (p : Int)] 47)) from B2.out.alloc B2.out.size _)
        go_wp2
        go_roundw
        case rel => exact ⟨k + 1, cp, sd, by omega, by go_num, by rw [HPN.out], by rw [HPN.out]; exact O3.out, B3.out⟩
        case measure => simp [intOf]; omega
      | true =>
        rw [hf] at HPS
        have HPN := hid (show pkD F (l.take (k + 1)) = A ++ [(p, p)] by rw [HPS.out]; simp)
        have O3 := hid (owns_below O2.out ((Below.refl w2.heap.size w2).alloc (Nat.le_refl _) (.cells #[.int .u32 (p : Int), .int .u32 (p : Int)] 47)))
        have B3 := hid (show Below w.heap.size w (w2.alloc (.cells #[.int .u32 (p : Int), .int .u32 (p : Int)] 47)) from B2.out.alloc B2.out.size _)
        have Z3 := hid (heap_alloc_at w2 (.cells #[.int .u32 (p : Int), .int .u32 (p : Int)] 47))
        clear O2 B2 hf
        go_upto_region 7 with fail
        obtain ⟨w3, hw3⟩ : ∃ y, w2.alloc (.cells #[.int .u32 (p : Int), .int .u32 (p : Int)] 47) = y := ⟨_, rfl⟩
        obtain ⟨N, hN⟩ : ∃ N, w2.heap.size = N := ⟨_, rfl⟩
        rw [hw3] at O3 B3 Z3
        rw [hN] at Z3
        rw [hw3, hN]
        clear hw3 hN
        have z0 := cell_of_heap (i := 0) Z3.out rfl
        have z1 := cell_of_heap (i := 1) Z3.out rfl
        obtain ⟨hi, hz0, hz1, hz2⟩ := HI.out
        go_wp2_with (at_builtin; refine wpList_append_own _ rfl (.tmp 23) (.tmp 25) 53 rfl w.heap.size 47 i0 _ 2 8 Tryz.underlying53 hi hz0 hz1 hz2 rfl (by decide) _ A.length (zpC A) rfl (O3.out.alloc _) ⟨w3.heap.size, 0, none⟩ 1 1 [.int .u32 (p : Int), .int .u32 (p : Int)] rfl rfl (World.news_of_block (heap_alloc_at _ _)) (by intro u hu; simp at hu; rcases hu with rfl | rfl <;> rfl) (by unfold maxLen; omega) (by omega) (by have := B3.out.size; simp; omega) ?_)
        intro v' wi hown hgrow _
        obtain ⟨sd2, cp2, rfl⟩ := owns_shape hown
        have HO2 := hid (show wi.ownsRow w.heap.size 47 2 (.slice sd2 (A.length + 1) cp2) (A.length + 1) (zpC (A ++ [(p, p)])) by rw [zpC_app]; exact hown)
        have B4 := hid (show Below w.heap.size w wi from (B3.out.alloc B3.out.size _).grown hgrow (by have := B3.out.size; simp; omega) (fun q hq => (O3.out.lt q hq).1))
        clear hown hgrow z0 z1 hz0 hz1 hz2 hi
        go_wp2
        go_roundw
        case rel => exact ⟨k + 1, cp2, sd2, by omega, by go_num, by rw [HPN.out, List.length_append]; rfl, by rw [HPN.out, List.length_append]; exact HO2.out, B4.out⟩
        case measure => simp [intOf]; omega
    · obtain rfl : k = V := by omega
      have e : l.take k = l := List.take_of_length_le (by rw [HV.out]; exact Nat.le_refl _)
      have HL := hid (HLEN.out k)
      rw [e] at HO HL ⊢
      clear hown hB e
      go_wp2_with fail
      refine (mergeOk_any sd cp (pkD F l) _ (SpIn.own HO.out) (by have := HL.out; omega) H32.out).mono ?_
      rintro e w2 ⟨ad2, cap2, m, rfl, hm, hz, hb⟩
      have M2 := hid hm
      have Z2 := hid (own_base hz HB.out.size)
      have B2 := hid (belowCat HB.out hb)
      clear hm hz hb
      go_wp2
      go_ret
      exact ⟨ad2, cap2, m, rfl, M2.out, Z2.out, B2.out⟩
end Go.Proofs.YtgalmlelnolodaaGreatDoor
namespace Go.Proofs.YtgalmlelnolodaaGreatDoor
open Go.RowKit
set_option linter.unusedVariables false

/-- no range -/
def rgNone : Rng := ⟨0, 0, ⟨#[]⟩, ⟨#[]⟩, ⟨#[]⟩, false⟩
def rgHas (p : Nat) (r : Rng) : Bool := hasB (r.a, r.b) p
def rgGet (l : List Rng) (p : Nat) : Rng := (l.find? (rgHas p)).getD rgNone
def rgIn (l : List Rng) (p : Nat) : Bool := (l.find? (rgHas p)).isSome
abbrev rgV (r : Rng) : Value := .agg #[.int .u32 (r.a : Int), .int .u32 (r.b : Int), .string r.c, .string r.d, .string r.j, .bool r.n]
theorem find_hit {β : Type} {f : β → Bool} {l : List β} {k : Nat} (h : k < l.length) (h0 : (l.take k).find? f = none) (h1 : f l[k] = true) : l.find? f = some l[k] := by
  have e : l = l.take (k + 1) ++ l.drop (k + 1) := (List.take_append_drop _ _).symm
  rw [List.take_succ_eq_append_getElem h] at e
  have e2 : l.find? f = ((l.take k ++ [l[k]]) ++ l.drop (k + 1)).find? f := congrArg (fun x => x.find? f) e
  rw [e2, List.find?_append, List.find?_append, h0]
  simp [h1]
theorem find_miss {β : Type} {f : β → Bool} {l : List β} {k : Nat} (h : k < l.length) (h0 : (l.take k).find? f = none) (h1 : f l[k] = false) : (l.take (k + 1)).find? f = none := by
  rw [List.take_succ_eq_append_getElem h, List.find?_append, h0]
  simp [h1]
set_option maxHeartbeats 6400000 in
theorem rrange_any (s0 s1 s2 s3 s4 s5 : Sl3) (l : List Rng) (p : Nat) (w : World) (hl : s0.2.1 = l.length) (hs : RgAt w s0.1 l) (hn : l.length ≤ 1000001) :
    Calls Tryz.prog 17 #[.agg #[s0.v, s1.v, s2.v, s3.v, s4.v, s5.v], .int .u32 (p : Int)] w fun e w' => e = .returned (.tuple #[rgV (rgGet l p), .bool (rgIn l p)]) ∧ Below w.heap.size w w' := by
  obtain ⟨a0, n0, p0⟩ := s0
  obtain ⟨a1, n1, p1⟩ := s1
  obtain ⟨a2, n2, p2⟩ := s2
  obtain ⟨a3, n3, p3⟩ := s3
  obtain ⟨a4, n4, p4⟩ := s4
  obtain ⟨a5, n5, p5⟩ := s5
  simp only [Sl3.v]
  have hl2 : n0 = l.length := hl
  subst hl2
  have hBA := ((Below.refl w.heap.size w).alloc (Nat.le_refl _) (.cells #[.slice a0 l.length p0, .slice a1 n1 p1, .slice a2 n2 p2, .slice a3 n3 p3, .slice a4 n4 p4, .slice a5 n5 p5] 30)).alloc (by simp) (.cells #[.int .u32 0, .int .u32 0, .string ⟨#[]⟩, .string ⟨#[]⟩, .string ⟨#[]⟩, .bool false] 49)
  have HD := hid (RgAt.below hs hBA)
  have B1 := hid hBA
  have HA := hid (show ((w.alloc (.cells #[.slice a0 l.length p0, .slice a1 n1 p1, .slice a2 n2 p2, .slice a3 n3 p3, .slice a4 n4 p4, .slice a5 n5 p5] 30)).alloc (.cells #[.int .u32 0, .int .u32 0, .string ⟨#[]⟩, .string ⟨#[]⟩, .string ⟨#[]⟩, .bool false] 49)).heap[w.heap.size]? = some (.cells #[.slice a0 l.length p0, .slice a1 n1 p1, .slice a2 n2 p2, .slice a3 n3 p3, .slice a4 n4 p4, .slice a5 n5 p5] 30 (0, 0)) from by rw [heap_alloc_old _ _ _ (by simp)]; exact heap_alloc_at _ _)
  have HZ := hid (show ((w.alloc (.cells #[.slice a0 l.length p0, .slice a1 n1 p1, .slice a2 n2 p2, .slice a3 n3 p3, .slice a4 n4 p4, .slice a5 n5 p5] 30)).alloc (.cells #[.int .u32 0, .int .u32 0, .string ⟨#[]⟩, .string ⟨#[]⟩, .string ⟨#[]⟩, .bool false] 49)).heap[w.heap.size + 1]? = some (.cells #[.int .u32 0, .int .u32 0, .string ⟨#[]⟩, .string ⟨#[]⟩, .string ⟨#[]⟩, .bool false] 49 (0, 0)) from by
    have := heap_alloc_at (w.alloc (.cells #[.slice a0 l.length p0, .slice a1 n1 p1, .slice a2 n2 p2, .slice a3 n3 p3, .slice a4 n4 p4, .slice a5 n5 p5] 30)) (.cells #[.int .u32 0, .int .u32 0, .string ⟨#[]⟩, .string ⟨#[]⟩, .string ⟨#[]⟩, .bool false] 49); rw [World.size_alloc] at this; exact this)
  clear hs hBA hl
  obtain ⟨V, hV⟩ : ∃ V, l.length = V := ⟨_, rfl⟩
  have HV := hid hV
  rw [hV] at hn HA HZ B1 HD ⊢
  clear hV
  obtain ⟨G, hG⟩ : ∃ G, rgGet l p = G := ⟨_, rfl⟩
  obtain ⟨M, hM⟩ : ∃ M, rgIn l p = M := ⟨_, rfl⟩
  have HGE := hid hG
  have HME := hid hM
  rw [hG, hM]
  clear hG hM
  go_enter Tryz.func17, Tryz.ntmps17
  go_wp2_with fail
  generalize (w.alloc (.cells #[.slice a0 V p0, .slice a1 n1 p1, .slice a2 n2 p2, .slice a3 n3 p3, .slice a4 n4 p4, .slice a5 n5 p5] 30)).alloc (.cells #[.int .u32 0, .int .u32 0, .string ⟨#[]⟩, .string ⟨#[]⟩, .string ⟨#[]⟩, .bool false] 49) = w1 at *
  obtain ⟨N, hN⟩ : ∃ N, w.heap.size = N := ⟨_, rfl⟩
  have HN := hid hN
  rw [hN] at HA HZ ⊢
  clear hN
  go_loopw [6] (fun c wr => ∃ i : Nat, i ≤ V ∧ c = .int .i64 (i : Int) ∧ (l.take i).find? (rgHas p) = none ∧ Below w1.heap.size w1 wr) (fun c _ => V - (intOf c).toNat)
  case atStart => exact ⟨0, Nat.zero_le _, rfl, rfl, Below.refl _ _⟩
  case round =>
    obtain ⟨i, hi, rfl, hno, hB⟩ := hrel
    have HB := hid hB
    have HNO := hid hno
    have kd := cell_of_heap (i := 0) ((hB.block N (lt_of_heap HA.out)).trans HA.out) rfl
    clear hno
    by_cases hlt : i < V
    · have hil : i < l.length := by rw [HV.out]; exact hlt
      obtain ⟨g, rfl, c0, c1, c2, c3, c4, c5⟩ := (HD.out.below hB) i hil
      have HMISS := hid (fun h1 => find_miss hil HNO.out h1)
      have HHIT := hid (fun h1 => find_hit hil HNO.out h1)
      have HQ := hid (fun (w' : World) (hb : Below w1.heap.size w1 w') => (HD.out.below hb) i hil)
      obtain ⟨r, hr⟩ : ∃ r, l[i] = r := ⟨_, rfl⟩
      simp only [hr] at c0 c1 c2 c3 c4 c5 HMISS HHIT HQ
      obtain ⟨a, b, sc, sd', sj, nw⟩ := r
      simp only at c0 c1 c2 c3 c4 c5 HQ
      have hib : i < 1000001 := by omega
      have HH := hid (fun w' => has_any a b p w')
      have HRH := hid (show rgHas p ⟨a, b, sc, sd', sj, nw⟩ = hasB (a, b) p from rfl)
      obtain ⟨yes, hy⟩ : ∃ y, hasB (a, b) p = y := ⟨_, rfl⟩
      rw [hy] at HH HRH
      clear hB hr hi hil hy
      go_wp2_with fail
      refine (HH.out _).mono ?_
      rintro e w2 ⟨rfl, hb2⟩
      have C2 := hid (belowCat HB.out hb2)
      clear hb2 kd c0 c1 c2 c3 c4 c5 HH
      cases yes with
      | false =>
        have HPN := hid (HMISS.out HRH.out)
        clear HMISS HHIT HQ
        go_wp2
        go_roundw
        case rel => exact ⟨i + 1, by omega, by go_num, HPN.out, C2.out⟩
        case measure => simp [intOf]; omega
      | true =>
        have hf := HHIT.out HRH.out
        have HF := hid (show G = ⟨a, b, sc, sd', sj, nw⟩ ∧ M = true by rw [← HGE.out, ← HME.out]; unfold rgGet rgIn; rw [hf]; exact ⟨rfl, rfl⟩)
        have kd := cell_of_heap (i := 0) ((C2.out.block N (lt_of_heap HA.out)).trans HA.out) rfl
        obtain ⟨g2, hg2, c0, c1, c2, c3, c4, c5⟩ := HQ.out _ C2.out
        obtain rfl : g = g2 := by cases hg2; rfl
        have Z2 := hid ((C2.out.block (N + 1) (lt_of_heap HZ.out)).trans HZ.out)
        have B2 := hid (B1.out.trans (C2.out.mono B1.out.size))
        have z0 := frozen_of_heap (i := 0) Z2.out
        have z1 := frozen_of_heap (i := 1) Z2.out
        have z2 := frozen_of_heap (i := 2) Z2.out
        have z3 := frozen_of_heap (i := 3) Z2.out
        have z4 := frozen_of_heap (i := 4) Z2.out
        have z5 := frozen_of_heap (i := 5) Z2.out
        have y0 := cell_of_heap (i := 0) Z2.out rfl
        have y1 := cell_of_heap (i := 1) Z2.out rfl
        have y2 := cell_of_heap (i := 2) Z2.out rfl
        have y3 := cell_of_heap (i := 3) Z2.out rfl
        have y4 := cell_of_heap (i := 4) Z2.out rfl
        have y5 := cell_of_heap (i := 5) Z2.out rfl
        clear HMISS HHIT HQ hf hg2
        go_wp2
        have HXX := (heap_setCell_at _ _ 5 _ _ _ (.bool nw) (heap_setCell_at _ _ 4 _ _ _ (.string sj) (heap_setCell_at _ _ 3 _ _ _ (.string sd') (heap_setCell_at _ _ 2 _ _ _ (.string sc) (heap_setCell_at _ _ 1 _ _ _ (.int .u32 (b : Int)) (heap_setCell_at _ _ 0 _ _ _ (.int .u32 (a : Int)) Z2.out))))))
        have d0 := cell_of_heap (i := 0) HXX rfl
        have d1 := cell_of_heap (i := 1) HXX rfl
        have d2 := cell_of_heap (i := 2) HXX rfl
        have d3 := cell_of_heap (i := 3) HXX rfl
        have d4 := cell_of_heap (i := 4) HXX rfl
        have d5 := cell_of_heap (i := 5) HXX rfl
        have hle : w.heap.size ≤ N + 1 := by have := HN.out; omega
        have hbb := ((((((B2.out.setCell (p := ⟨N + 1, 0, none⟩) hle (.int .u32 (a : Int))).setCell (p := ⟨N + 1, 1, none⟩) hle (.int .u32 (b : Int))).setCell (p := ⟨N + 1, 2, none⟩) hle (.string sc)).setCell (p := ⟨N + 1, 3, none⟩) hle (.string sd')).setCell (p := ⟨N + 1, 4, none⟩) hle (.string sj)).setCell (p := ⟨N + 1, 5, none⟩) hle (.bool nw))
        exact bodyPost_ret (v := .tuple #[.agg #[.int .u32 (a : Int), .int .u32 (b : Int), .string sc, .string sd', .string sj, .bool nw], .bool true]) (by simp only [results, Tryz.results17]; simp [go_sem, d0, d1, d2, d3, d4, d5]) rfl ⟨by rw [HF.out.1, HF.out.2], hbb⟩
    · obtain rfl : i = V := by omega
      have e : l.take i = l := List.take_of_length_le (by rw [HV.out]; exact Nat.le_refl _)
      rw [e] at HNO
      have HF := hid (show G = rgNone ∧ M = false by rw [← HGE.out, ← HME.out]; unfold rgGet rgIn; rw [HNO.out]; exact ⟨rfl, rfl⟩)
      have Z2 := hid ((HB.out.block (N + 1) (lt_of_heap HZ.out)).trans HZ.out)
      have B2 := hid (B1.out.trans (HB.out.mono B1.out.size))
      have z0 := frozen_of_heap (i := 0) Z2.out
      have z1 := frozen_of_heap (i := 1) Z2.out
      have z2 := frozen_of_heap (i := 2) Z2.out
      have z3 := frozen_of_heap (i := 3) Z2.out
      have z4 := frozen_of_heap (i := 4) Z2.out
      have z5 := frozen_of_heap (i := 5) Z2.out
      have y0 := cell_of_heap (i := 0) Z2.out rfl
      have y1 := cell_of_heap (i := 1) Z2.out rfl
      have y2 := cell_of_heap (i := 2) Z2.out rfl
      have y3 := cell_of_heap (i := 3) Z2.out rfl
      have y4 := cell_of_heap (i := 4) Z2.out rfl
      have y5 := cell_of_heap (i := 5) Z2.out rfl
      clear hB
      go_wp2
      have HXX := (heap_setCell_at _ _ 5 _ _ _ (.bool false) (heap_setCell_at _ _ 4 _ _ _ (.string ⟨#[]⟩) (heap_setCell_at _ _ 3 _ _ _ (.string ⟨#[]⟩) (heap_setCell_at _ _ 2 _ _ _ (.string ⟨#[]⟩) (heap_setCell_at _ _ 1 _ _ _ (.int .u32 0) (heap_setCell_at _ _ 0 _ _ _ (.int .u32 0) Z2.out))))))
      have d0 := cell_of_heap (i := 0) HXX rfl
      have d1 := cell_of_heap (i := 1) HXX rfl
      have d2 := cell_of_heap (i := 2) HXX rfl
      have d3 := cell_of_heap (i := 3) HXX rfl
      have d4 := cell_of_heap (i := 4) HXX rfl
      have d5 := cell_of_heap (i := 5) HXX rfl
      have hle : w.heap.size ≤ N + 1 := by have := HN.out; omega
      have hbb := ((((((B2.out.setCell (p := ⟨N + 1, 0, none⟩) hle (.int .u32 0)).setCell (p := ⟨N + 1, 1, none⟩) hle (.int .u32 0)).setCell (p := ⟨N + 1, 2, none⟩) hle (.string ⟨#[]⟩)).setCell (p := ⟨N + 1, 3, none⟩) hle (.string ⟨#[]⟩)).setCell (p := ⟨N + 1, 4, none⟩) hle (.string ⟨#[]⟩)).setCell (p := ⟨N + 1, 5, none⟩) hle (.bool false))
      exact bodyPost_ret (v := .tuple #[.agg #[.int .u32 0, .int .u32 0, .string ⟨#[]⟩, .string ⟨#[]⟩, .string ⟨#[]⟩, .bool false], .bool false]) (by simp only [results, Tryz.results17]; simp [go_sem, d0, d1, d2, d3, d4, d5]) rfl ⟨by rw [HF.out.1, HF.out.2]; rfl, hbb⟩

set_option maxHeartbeats 6400000 in
theorem rset_any (s0 s1 s2 s3 s4 s5 : Sl3) (l : List Nm) (ss : ByteArray) (p : Nat) (w : World) (hl : s5.2.1 = l.length) (hs : NmAt w s5.1 l) (hn : l.length ≤ 1000001) :
    Calls Tryz.prog 26 #[.agg #[s0.v, s1.v, s2.v, s3.v, s4.v, s5.v], .string ss, .int .u32 (p : Int)] w fun e w' => e = .returned (.bool (l.find? fun r => eqB r.s ss && hasB (r.a, r.b) p).isSome) ∧ Below w.heap.size w w' := by
  obtain ⟨a0, n0, p0⟩ := s0
  obtain ⟨a1, n1, p1⟩ := s1
  obtain ⟨a2, n2, p2⟩ := s2
  obtain ⟨a3, n3, p3⟩ := s3
  obtain ⟨a4, n4, p4⟩ := s4
  obtain ⟨a5, n5, p5⟩ := s5
  simp only [Sl3.v]
  have hl2 : n5 = l.length := hl
  subst hl2
  have hBA := (Below.refl w.heap.size w).alloc (Nat.le_refl _) (.cells #[.slice a0 n0 p0, .slice a1 n1 p1, .slice a2 n2 p2, .slice a3 n3 p3, .slice a4 n4 p4, .slice a5 l.length p5] 30)
  have HD := hid (NmAt.below hs hBA)
  have B1 := hid hBA
  have HA := hid (heap_alloc_at w (.cells #[.slice a0 n0 p0, .slice a1 n1 p1, .slice a2 n2 p2, .slice a3 n3 p3, .slice a4 n4 p4, .slice a5 l.length p5] 30))
  clear hs hBA hl
  obtain ⟨V, hV⟩ : ∃ V, l.length = V := ⟨_, rfl⟩
  have HV := hid hV
  rw [hV] at hn HA B1 HD ⊢
  clear hV
  obtain ⟨F, hF⟩ : ∃ F, (fun r : Nm => eqB r.s ss && hasB (r.a, r.b) p) = F := ⟨_, rfl⟩
  have HFE := hid (fun (r : Nm) => show F r = (eqB r.s ss && hasB (r.a, r.b) p) from by rw [← hF])
  rw [hF]
  clear hF
  go_enter Tryz.func26, Tryz.ntmps26
  go_wp2_with fail
  generalize w.alloc (.cells #[.slice a0 n0 p0, .slice a1 n1 p1, .slice a2 n2 p2, .slice a3 n3 p3, .slice a4 n4 p4, .slice a5 V p5] 30) = w1 at *
  obtain ⟨N, hN⟩ : ∃ N, w.heap.size = N := ⟨_, rfl⟩
  have HN := hid hN
  rw [hN] at HA ⊢
  clear hN
  go_loopw [7] (fun c wr => ∃ i : Nat, i ≤ V ∧ c = .int .i64 (i : Int) ∧ (l.take i).find? F = none ∧ Below w1.heap.size w1 wr) (fun c _ => V - (intOf c).toNat)
  case atStart => exact ⟨0, Nat.zero_le _, rfl, rfl, Below.refl _ _⟩
  case round =>
    obtain ⟨i, hi, rfl, hno, hB⟩ := hrel
    have HB := hid hB
    have HNO := hid hno
    have kd := cell_of_heap (i := 5) ((hB.block N (lt_of_heap HA.out)).trans HA.out) rfl
    clear hno
    by_cases hlt : i < V
    · have hil : i < l.length := by rw [HV.out]; exact hlt
      obtain ⟨g, rfl, c0, c1, c2⟩ := (HD.out.below hB) i hil
      have HMISS := hid (fun h1 => find_miss hil HNO.out h1)
      have HHIT := hid (fun h1 => find_hit hil HNO.out h1)
      obtain ⟨r, hr⟩ : ∃ r, l[i] = r := ⟨_, rfl⟩
      simp only [hr] at c0 c1 c2 HMISS HHIT
      have HFR := hid (HFE.out r)
      obtain ⟨nm, a, b⟩ := r
      simp only at c0 c1 c2 HFR
      have hib : i < 1000001 := by omega
      have HH := hid (fun w' => has_any a b p w')
      obtain ⟨yes, hy⟩ : ∃ y, hasB (a, b) p = y := ⟨_, rfl⟩
      rw [hy] at HH HFR
      clear hB hr hi hil hy
      by_cases hnm : eqB nm ss = true
      · have HFY := hid (show F ⟨nm, a, b⟩ = yes by rw [HFR.out, hnm]; simp)
        have e1 : (nm.toList == ss.toList) = true := hnm
        clear hnm HFR HFE
        go_wp2_with fail
        refine (HH.out _).mono ?_
        rintro e w2 ⟨rfl, hb2⟩
        have C2 := hid (belowCat HB.out hb2)
        clear hb2 kd c0 c1 c2 HH
        cases yes with
        | false =>
          have HPN := hid (HMISS.out HFY.out)
          clear HMISS HHIT
          go_wp2
          go_roundw
          case rel => exact ⟨i + 1, by omega, by go_num, HPN.out, C2.out⟩
          case measure => simp [intOf]; omega
        | true =>
          have hf := hid (HHIT.out HFY.out)
          clear HMISS HHIT
          go_wp2
          go_ret
          exact ⟨by rw [hf.out]; rfl, B1.out.trans (C2.out.mono B1.out.size)⟩
      · have e1 : (nm.toList == ss.toList) = false := Bool.eq_false_iff.2 hnm
        have HPN := hid (HMISS.out (by rw [HFR.out, show eqB nm ss = false from e1]; rfl))
        clear HMISS HHIT HFR HFE hnm
        go_wp2
        go_roundw
        case rel => exact ⟨i + 1, by omega, by go_num, HPN.out, HB.out⟩
        case measure => simp [intOf]; omega
    · obtain rfl : i = V := by omega
      have e : l.take i = l := List.take_of_length_le (by rw [HV.out]; exact Nat.le_refl _)
      rw [e] at HNO
      clear hB
      go_wp2
      go_ret
      exact ⟨by rw [HNO.out]; rfl, B1.out.trans (HB.out.mono B1.out.size)⟩
end Go.Proofs.YtgalmlelnolodaaGreatDoor
namespace Go.Proofs.YtgalmlelnolodaaGreatDoor
open Go.RowKit
set_option linter.unusedVariables false

set_option maxHeartbeats 1600000 in
theorem mAssigned_any (g : Nat) (s0 s1 s2 s3 s4 s5 : Sl3) (l : List Rng) (al : Bool) (w : World) (h : w.heap[g]? = some (.cells #[s0.v, s1.v, s2.v, s3.v, s4.v, s5.v] 84 (0, 0))) (hl : s0.2.1 = l.length) (hs : RgAt w s0.1 l) (hn : l.length ≤ 1000001) (h32 : ∀ s ∈ pkR (fun r : Rng => al || !r.n) l, s.1 < 4294967296 ∧ s.2 < 4294967296) :
    Calls Tryz.prog 19 #[.pointer (some ⟨g, 0, none⟩), .bool al] w fun e w' => ∃ ad2 cap2 m, e = .returned (.slice ad2 m.length cap2) ∧ MrgOk (pkR (fun r : Rng => al || !r.n) l) m ∧ ZpR w' w.heap.size (.slice ad2 m.length cap2) m ∧ Below w.heap.size w w' := by
  have HS := hid hs
  have H32 := hid h32
  have H0 := hid h
  obtain ⟨a0, n0, p0⟩ := s0
  obtain ⟨a1, n1, p1⟩ := s1
  obtain ⟨a2, n2, p2⟩ := s2
  obtain ⟨a3, n3, p3⟩ := s3
  obtain ⟨a4, n4, p4⟩ := s4
  obtain ⟨a5, n5, p5⟩ := s5
  simp only [Sl3.v] at H0
  have hl2 : n0 = l.length := hl
  subst hl2
  simp only at HS
  have hfd : ∀ w : World, (Instr.field 84 (.agg #[.slice a0 l.length p0, .slice a1 n1 p1, .slice a2 n2 p2, .slice a3 n3 p3, .slice a4 n4 p4, .slice a5 n5 p5]) 0).run Tryz.prog w = .ok (.slice a0 l.length p0) w := fun _ => by kernel_rfl
  clear h hl hs h32
  have hBA := (Below.refl w.heap.size w).alloc (Nat.le_refl _) (.cells #[.bool al] 4)
  have HP := hid (heap_alloc_at w (.cells #[.bool al] 4))
  have H1 := hid ((hBA.block g (lt_of_heap H0.out)).trans H0.out)
  have S1 := hid (HS.out.below hBA)
  have B1 := hid hBA
  clear hBA
  go_enter Tryz.func19, Tryz.ntmps19
  go_wp2_with fail
  generalize w.alloc (.cells #[.bool al] 4) = w1 at *
  obtain ⟨N, hN⟩ : ∃ N, w.heap.size = N := ⟨_, rfl⟩
  have HN := hid hN
  rw [hN] at HP ⊢
  clear hN
  refine (tlines_any g (a0, l.length, p0) (a1, n1, p1) (a2, n2, p2) (a3, n3, p3) (a4, n4, p4) (a5, n5, p5) _ H1.out).mono ?_
  rintro e w2 ⟨rfl, hb⟩
  simp only [Sl3.v]
  have S2 := hid (S1.out.below hb)
  have B2 := hid (belowCat B1.out hb)
  have P2 := hid ((hb.block N (lt_of_heap HP.out)).trans HP.out)
  clear hb S1
  go_wp2_with fail
  clear hfd
  refine (pickA_any a0 p0 l al N w2 S2.out P2.out hn H32.out).mono ?_
  rintro e w3 ⟨ad2, cap2, m, rfl, hm, hz, hb⟩
  have M3 := hid hm
  have Z3 := hid (own_base hz B2.out.size)
  have B3 := hid (belowCat B2.out hb)
  clear hm hz hb
  go_wp2
  go_ret
  exact ⟨ad2, cap2, m, rfl, M3.out, Z3.out, B3.out⟩
set_option maxHeartbeats 1600000 in
theorem mCats_any (g : Nat) (s0 s1 s2 s3 s4 s5 : Sl3) (l : List Rng) (na : Option Addr) (nl : List ByteArray) (nc : Nat) (w : World) (h : w.heap[g]? = some (.cells #[s0.v, s1.v, s2.v, s3.v, s4.v, s5.v] 84 (0, 0))) (hl : s0.2.1 = l.length) (hs : RgAt w s0.1 l) (hst : StAt w na nl) (hnn : nl.length ≤ 1000000) (hn : l.length ≤ 1000001) (h32 : ∀ s ∈ pkR (fun r : Rng => memB r.c nl) l, s.1 < 4294967296 ∧ s.2 < 4294967296) :
    Calls Tryz.prog 20 #[.pointer (some ⟨g, 0, none⟩), .slice na nl.length nc] w fun e w' => ∃ ad2 cap2 m, e = .returned (.slice ad2 m.length cap2) ∧ MrgOk (pkR (fun r : Rng => memB r.c nl) l) m ∧ ZpR w' w.heap.size (.slice ad2 m.length cap2) m ∧ Below w.heap.size w w' := by
  have HS := hid hs
  have H32 := hid h32
  have H0 := hid h
  have Hhst := hid hst
  have Hhnn := hid hnn
  obtain ⟨a0, n0, p0⟩ := s0
  obtain ⟨a1, n1, p1⟩ := s1
  obtain ⟨a2, n2, p2⟩ := s2
  obtain ⟨a3, n3, p3⟩ := s3
  obtain ⟨a4, n4, p4⟩ := s4
  obtain ⟨a5, n5, p5⟩ := s5
  simp only [Sl3.v] at H0
  have hl2 : n0 = l.length := hl
  subst hl2
  simp only at HS
  have hfd : ∀ w : World, (Instr.field 84 (.agg #[.slice a0 l.length p0, .slice a1 n1 p1, .slice a2 n2 p2, .slice a3 n3 p3, .slice a4 n4 p4, .slice a5 n5 p5]) 0).run Tryz.prog w = .ok (.slice a0 l.length p0) w := fun _ => by kernel_rfl
  clear h hl hs h32 hst hnn
  have hBA := (Below.refl w.heap.size w).alloc (Nat.le_refl _) (.cells #[.slice na nl.length nc] 45)
  have HP := hid (heap_alloc_at w (.cells #[.slice na nl.length nc] 45))
  have H1 := hid ((hBA.block g (lt_of_heap H0.out)).trans H0.out)
  have S1 := hid (HS.out.below hBA)
  have B1 := hid hBA
  clear hBA
  go_enter Tryz.func20, Tryz.ntmps20
  go_wp2_with fail
  generalize w.alloc (.cells #[.slice na nl.length nc] 45) = w1 at *
  obtain ⟨N, hN⟩ : ∃ N, w.heap.size = N := ⟨_, rfl⟩
  have HN := hid hN
  rw [hN] at HP ⊢
  clear hN
  refine (tlines_any g (a0, l.length, p0) (a1, n1, p1) (a2, n2, p2) (a3, n3, p3) (a4, n4, p4) (a5, n5, p5) _ H1.out).mono ?_
  rintro e w2 ⟨rfl, hb⟩
  simp only [Sl3.v]
  have S2 := hid (S1.out.below hb)
  have B2 := hid (belowCat B1.out hb)
  have P2 := hid ((hb.block N (lt_of_heap HP.out)).trans HP.out)
  have Hst2 := hid (StAt.below Hhst.out (w' := w2) (by have := B2.out; exact this))
  clear hb S1
  go_wp2_with fail
  clear hfd
  refine (pickK_any a0 p0 l na nl nc N w2 S2.out P2.out Hst2.out Hhnn.out hn H32.out).mono ?_
  rintro e w3 ⟨ad2, cap2, m, rfl, hm, hz, hb⟩
  have M3 := hid hm
  have Z3 := hid (own_base hz B2.out.size)
  have B3 := hid (belowCat B2.out hb)
  clear hm hz hb
  go_wp2
  go_ret
  exact ⟨ad2, cap2, m, rfl, M3.out, Z3.out, B3.out⟩
set_option maxHeartbeats 1600000 in
theorem mSides_any (g : Nat) (s0 s1 s2 s3 s4 s5 : Sl3) (l : List Rng) (na : Option Addr) (nl : List ByteArray) (nc : Nat) (w : World) (h : w.heap[g]? = some (.cells #[s0.v, s1.v, s2.v, s3.v, s4.v, s5.v] 84 (0, 0))) (hl : s0.2.1 = l.length) (hs : RgAt w s0.1 l) (hst : StAt w na nl) (hnn : nl.length ≤ 1000000) (hn : l.length ≤ 1000001) (h32 : ∀ s ∈ pkR (fun r : Rng => memB r.d nl) l, s.1 < 4294967296 ∧ s.2 < 4294967296) :
    Calls Tryz.prog 22 #[.pointer (some ⟨g, 0, none⟩), .slice na nl.length nc] w fun e w' => ∃ ad2 cap2 m, e = .returned (.slice ad2 m.length cap2) ∧ MrgOk (pkR (fun r : Rng => memB r.d nl) l) m ∧ ZpR w' w.heap.size (.slice ad2 m.length cap2) m ∧ Below w.heap.size w w' := by
  have HS := hid hs
  have H32 := hid h32
  have H0 := hid h
  have Hhst := hid hst
  have Hhnn := hid hnn
  obtain ⟨a0, n0, p0⟩ := s0
  obtain ⟨a1, n1, p1⟩ := s1
  obtain ⟨a2, n2, p2⟩ := s2
  obtain ⟨a3, n3, p3⟩ := s3
  obtain ⟨a4, n4, p4⟩ := s4
  obtain ⟨a5, n5, p5⟩ := s5
  simp only [Sl3.v] at H0
  have hl2 : n0 = l.length := hl
  subst hl2
  simp only at HS
  have hfd : ∀ w : World, (Instr.field 84 (.agg #[.slice a0 l.length p0, .slice a1 n1 p1, .slice a2 n2 p2, .slice a3 n3 p3, .slice a4 n4 p4, .slice a5 n5 p5]) 0).run Tryz.prog w = .ok (.slice a0 l.length p0) w := fun _ => by kernel_rfl
  clear h hl hs h32 hst hnn
  have hBA := (Below.refl w.heap.size w).alloc (Nat.le_refl _) (.cells #[.slice na nl.length nc] 45)
  have HP := hid (heap_alloc_at w (.cells #[.slice na nl.length nc] 45))
  have H1 := hid ((hBA.block g (lt_of_heap H0.out)).trans H0.out)
  have S1 := hid (HS.out.below hBA)
  have B1 := hid hBA
  clear hBA
  go_enter Tryz.func22, Tryz.ntmps22
  go_wp2_with fail
  generalize w.alloc (.cells #[.slice na nl.length nc] 45) = w1 at *
  obtain ⟨N, hN⟩ : ∃ N, w.heap.size = N := ⟨_, rfl⟩
  have HN := hid hN
  rw [hN] at HP ⊢
  clear hN
  refine (tlines_any g (a0, l.length, p0) (a1, n1, p1) (a2, n2, p2) (a3, n3, p3) (a4, n4, p4) (a5, n5, p5) _ H1.out).mono ?_
  rintro e w2 ⟨rfl, hb⟩
  simp only [Sl3.v]
  have S2 := hid (S1.out.below hb)
  have B2 := hid (belowCat B1.out hb)
  have P2 := hid ((hb.block N (lt_of_heap HP.out)).trans HP.out)
  have Hst2 := hid (StAt.below Hhst.out (w' := w2) (by have := B2.out; exact this))
  clear hb S1
  go_wp2_with fail
  clear hfd
  refine (pickS_any a0 p0 l na nl nc N w2 S2.out P2.out Hst2.out Hhnn.out hn H32.out).mono ?_
  rintro e w3 ⟨ad2, cap2, m, rfl, hm, hz, hb⟩
  have M3 := hid hm
  have Z3 := hid (own_base hz B2.out.size)
  have B3 := hid (belowCat B2.out hb)
  clear hm hz hb
  go_wp2
  go_ret
  exact ⟨ad2, cap2, m, rfl, M3.out, Z3.out, B3.out⟩
set_option maxHeartbeats 1600000 in
theorem mJoins_any (g : Nat) (s0 s1 s2 s3 s4 s5 : Sl3) (l : List Rng) (ss : ByteArray) (w : World) (h : w.heap[g]? = some (.cells #[s0.v, s1.v, s2.v, s3.v, s4.v, s5.v] 84 (0, 0))) (hl : s0.2.1 = l.length) (hs : RgAt w s0.1 l) (hj : ∀ r ∈ l, r.j.size = 1) (hn : l.length ≤ 1000001) (h32 : ∀ s ∈ pkR (jnF ss) l, s.1 < 4294967296 ∧ s.2 < 4294967296) :
    Calls Tryz.prog 23 #[.pointer (some ⟨g, 0, none⟩), .string ss] w fun e w' => ∃ ad2 cap2 m, e = .returned (.slice ad2 m.length cap2) ∧ MrgOk (pkR (jnF ss) l) m ∧ ZpR w' w.heap.size (.slice ad2 m.length cap2) m ∧ Below w.heap.size w w' := by
  have HS := hid hs
  have H32 := hid h32
  have H0 := hid h
  have Hhj := hid hj
  obtain ⟨a0, n0, p0⟩ := s0
  obtain ⟨a1, n1, p1⟩ := s1
  obtain ⟨a2, n2, p2⟩ := s2
  obtain ⟨a3, n3, p3⟩ := s3
  obtain ⟨a4, n4, p4⟩ := s4
  obtain ⟨a5, n5, p5⟩ := s5
  simp only [Sl3.v] at H0
  have hl2 : n0 = l.length := hl
  subst hl2
  simp only at HS
  have hfd : ∀ w : World, (Instr.field 84 (.agg #[.slice a0 l.length p0, .slice a1 n1 p1, .slice a2 n2 p2, .slice a3 n3 p3, .slice a4 n4 p4, .slice a5 n5 p5]) 0).run Tryz.prog w = .ok (.slice a0 l.length p0) w := fun _ => by kernel_rfl
  clear h hl hs h32 hj
  have hBA := (Below.refl w.heap.size w).alloc (Nat.le_refl _) (.cells #[.string ss] 9)
  have HP := hid (heap_alloc_at w (.cells #[.string ss] 9))
  have H1 := hid ((hBA.block g (lt_of_heap H0.out)).trans H0.out)
  have S1 := hid (HS.out.below hBA)
  have B1 := hid hBA
  clear hBA
  go_enter Tryz.func23, Tryz.ntmps23
  go_wp2_with fail
  generalize w.alloc (.cells #[.string ss] 9) = w1 at *
  obtain ⟨N, hN⟩ : ∃ N, w.heap.size = N := ⟨_, rfl⟩
  have HN := hid hN
  rw [hN] at HP ⊢
  clear hN
  refine (tlines_any g (a0, l.length, p0) (a1, n1, p1) (a2, n2, p2) (a3, n3, p3) (a4, n4, p4) (a5, n5, p5) _ H1.out).mono ?_
  rintro e w2 ⟨rfl, hb⟩
  simp only [Sl3.v]
  have S2 := hid (S1.out.below hb)
  have B2 := hid (belowCat B1.out hb)
  have P2 := hid ((hb.block N (lt_of_heap HP.out)).trans HP.out)
  clear hb S1
  go_wp2_with fail
  clear hfd
  refine (pickJ_any a0 p0 l ss N w2 S2.out P2.out Hhj.out hn H32.out).mono ?_
  rintro e w3 ⟨ad2, cap2, m, rfl, hm, hz, hb⟩
  have M3 := hid hm
  have Z3 := hid (own_base hz B2.out.size)
  have B3 := hid (belowCat B2.out hb)
  clear hm hz hb
  go_wp2
  go_ret
  exact ⟨ad2, cap2, m, rfl, M3.out, Z3.out, B3.out⟩
set_option maxHeartbeats 1600000 in
theorem mSet_any (g : Nat) (s0 s1 s2 s3 s4 s5 : Sl3) (l : List Nm) (ss : ByteArray) (w : World) (h : w.heap[g]? = some (.cells #[s0.v, s1.v, s2.v, s3.v, s4.v, s5.v] 84 (0, 0))) (hl : s5.2.1 = l.length) (hs : NmAt w s5.1 l) (hn : l.length ≤ 1000001) (h32 : ∀ s ∈ pkN (fun r : Nm => eqB r.s ss) l, s.1 < 4294967296 ∧ s.2 < 4294967296) :
    Calls Tryz.prog 25 #[.pointer (some ⟨g, 0, none⟩), .string ss] w fun e w' => ∃ ad2 cap2 m, e = .returned (.slice ad2 m.length cap2) ∧ MrgOk (pkN (fun r : Nm => eqB r.s ss) l) m ∧ ZpR w' w.heap.size (.slice ad2 m.length cap2) m ∧ Below w.heap.size w w' := by
  have HS := hid hs
  have H32 := hid h32
  have H0 := hid h
  obtain ⟨a0, n0, p0⟩ := s0
  obtain ⟨a1, n1, p1⟩ := s1
  obtain ⟨a2, n2, p2⟩ := s2
  obtain ⟨a3, n3, p3⟩ := s3
  obtain ⟨a4, n4, p4⟩ := s4
  obtain ⟨a5, n5, p5⟩ := s5
  simp only [Sl3.v] at H0
  have hl2 : n5 = l.length := hl
  subst hl2
  simp only at HS
  have hfd : ∀ w : World, (Instr.field 84 (.agg #[.slice a0 n0 p0, .slice a1 n1 p1, .slice a2 n2 p2, .slice a3 n3 p3, .slice a4 n4 p4, .slice a5 l.length p5]) 5).run Tryz.prog w = .ok (.slice a5 l.length p5) w := fun _ => by kernel_rfl
  clear h hl hs h32
  have hBA := (Below.refl w.heap.size w).alloc (Nat.le_refl _) (.cells #[.string ss] 9)
  have HP := hid (heap_alloc_at w (.cells #[.string ss] 9))
  have H1 := hid ((hBA.block g (lt_of_heap H0.out)).trans H0.out)
  have S1 := hid (HS.out.below hBA)
  have B1 := hid hBA
  clear hBA
  go_enter Tryz.func25, Tryz.ntmps25
  go_wp2_with fail
  generalize w.alloc (.cells #[.string ss] 9) = w1 at *
  obtain ⟨N, hN⟩ : ∃ N, w.heap.size = N := ⟨_, rfl⟩
  have HN := hid hN
  rw [hN] at HP ⊢
  clear hN
  refine (tlines_any g (a0, n0, p0) (a1, n1, p1) (a2, n2, p2) (a3, n3, p3) (a4, n4, p4) (a5, l.length, p5) _ H1.out).mono ?_
  rintro e w2 ⟨rfl, hb⟩
  simp only [Sl3.v]
  have S2 := hid (S1.out.below hb)
  have B2 := hid (belowCat B1.out hb)
  have P2 := hid ((hb.block N (lt_of_heap HP.out)).trans HP.out)
  clear hb S1
  go_wp2_with fail
  clear hfd
  refine (pickT_any a5 p5 l ss N w2 S2.out P2.out hn H32.out).mono ?_
  rintro e w3 ⟨ad2, cap2, m, rfl, hm, hz, hb⟩
  have M3 := hid hm
  have Z3 := hid (own_base hz B2.out.size)
  have B3 := hid (belowCat B2.out hb)
  clear hm hz hb
  go_wp2
  go_ret
  exact ⟨ad2, cap2, m, rfl, M3.out, Z3.out, B3.out⟩
set_option maxHeartbeats 1600000 in
theorem mAlike_any (g : Nat) (s0 s1 s2 s3 s4 s5 : Sl3) (l : List Dq) (w : World) (h : w.heap[g]? = some (.cells #[s0.v, s1.v, s2.v, s3.v, s4.v, s5.v] 84 (0, 0))) (hl : s2.2.1 = l.length) (hs : DpAt w s2.1 l) (hn : l.length ≤ 1000001) (h32 : ∀ s ∈ pkD (fun x : Dq => x.d.c) l, s.1 < 4294967296 ∧ s.2 < 4294967296) :
    Calls Tryz.prog 27 #[.pointer (some ⟨g, 0, none⟩)] w fun e w' => ∃ ad2 cap2 m, e = .returned (.slice ad2 m.length cap2) ∧ MrgOk (pkD (fun x : Dq => x.d.c) l) m ∧ ZpR w' w.heap.size (.slice ad2 m.length cap2) m ∧ Below w.heap.size w w' := by
  have HS := hid hs
  have H32 := hid h32
  have H0 := hid h
  obtain ⟨a0, n0, p0⟩ := s0
  obtain ⟨a1, n1, p1⟩ := s1
  obtain ⟨a2, n2, p2⟩ := s2
  obtain ⟨a3, n3, p3⟩ := s3
  obtain ⟨a4, n4, p4⟩ := s4
  obtain ⟨a5, n5, p5⟩ := s5
  simp only [Sl3.v] at H0
  have hl2 : n2 = l.length := hl
  subst hl2
  simp only at HS
  have hfd : ∀ w : World, (Instr.field 84 (.agg #[.slice a0 n0 p0, .slice a1 n1 p1, .slice a2 l.length p2, .slice a3 n3 p3, .slice a4 n4 p4, .slice a5 n5 p5]) 2).run Tryz.prog w = .ok (.slice a2 l.length p2) w := fun _ => by kernel_rfl
  clear h hl hs h32
  have H1 := H0
  have S1 := HS
  have B1 := hid (Below.refl w.heap.size w)
  go_enter Tryz.func27, Tryz.ntmps27
  go_wp2_with fail
  refine (tlines_any g (a0, n0, p0) (a1, n1, p1) (a2, l.length, p2) (a3, n3, p3) (a4, n4, p4) (a5, n5, p5) _ H1.out).mono ?_
  rintro e w2 ⟨rfl, hb⟩
  simp only [Sl3.v]
  have S2 := hid (S1.out.below hb)
  have B2 := hid (belowCat B1.out hb)
  clear hb S1
  go_wp2_with fail
  clear hfd
  refine (pickL_any a2 p2 l w2 S2.out hn H32.out).mono ?_
  rintro e w3 ⟨ad2, cap2, m, rfl, hm, hz, hb⟩
  have M3 := hid hm
  have Z3 := hid (own_base hz B2.out.size)
  have B3 := hid (belowCat B2.out hb)
  clear hm hz hb
  go_wp2
  go_ret
  exact ⟨ad2, cap2, m, rfl, M3.out, Z3.out, B3.out⟩
end Go.Proofs.YtgalmlelnolodaaGreatDoor
namespace Go.Proofs.YtgalmlelnolodaaGreatDoor
open Go.RowKit
set_option linter.unusedVariables false

theorem pk_one {l : List Rng} (h : l.Pairwise fun p q => p.b < q.a) (f : Rng → Bool) (p : Nat) : inB (pkR f l) p = (rgIn l p && f (rgGet l p)) := by
  induction l with
  | nil => rfl
  | cons r t ih =>
    obtain ⟨h1, h2⟩ := List.pairwise_cons.1 h
    have e : inB (pkR f (r :: t)) p = ((f r && rgHas p r) || inB (pkR f t) p) := by
      unfold pkR inB
      rw [List.filter_cons]
      cases hf : f r
      · simp
      · simp [rgHas]
    rw [e, ih h2]
    cases hp : rgHas p r with
    | true =>
      have hn : t.find? (rgHas p) = none := by
        rw [List.find?_eq_none]
        intro q hq hc
        have := h1 q hq
        unfold rgHas hasB at hp hc
        simp only [Bool.and_eq_true, decide_eq_true_eq] at hp hc
        omega
      have e1 : rgIn (r :: t) p = true := by unfold rgIn; rw [List.find?_cons, hp]; rfl
      have e2 : rgGet (r :: t) p = r := by unfold rgGet; rw [List.find?_cons, hp]; rfl
      have e3 : rgIn t p = false := by unfold rgIn; rw [hn]; rfl
      rw [e1, e2, e3]; simp
    | false =>
      have e1 : rgIn (r :: t) p = rgIn t p := by unfold rgIn; rw [List.find?_cons, hp]
      have e2 : rgGet (r :: t) p = rgGet t p := by unfold rgGet; rw [List.find?_cons, hp]
      rw [e1, e2]; simp
theorem pk_nm (l : List Nm) (ss : ByteArray) (p : Nat) : inB (pkN (fun r : Nm => eqB r.s ss) l) p = (l.find? fun r => eqB r.s ss && hasB (r.a, r.b) p).isSome := by
  rw [Bool.eq_iff_iff, List.find?_isSome]
  unfold inB pkN
  rw [List.any_map, List.any_filter, List.any_eq_true]
  rfl
theorem pk_al {ds : List Dq} {p i : Nat} (hr : RisD ds) (hi : i < ds.length) (hp : ds[i].d.p = p) : inB (pkD (fun x : Dq => x.d.c) ds) p = ds[i].d.c := by
  rw [Bool.eq_iff_iff]
  unfold inB pkD
  rw [List.any_map, List.any_filter, List.any_eq_true]
  constructor
  · rintro ⟨x, hx, h⟩
    obtain ⟨j, hj, rfl⟩ := List.getElem_of_mem hx
    simp only [hasB, Function.comp_apply, Bool.and_eq_true, decide_eq_true_eq] at h
    have e : j = i := by
      rcases Nat.lt_trichotomy i j with h3 | h3 | h3
      · have := hr i j hi hj h3; omega
      · exact h3.symm
      · have := hr j i hj hi h3; omega
    subst e; exact h.1
  · intro h
    exact ⟨ds[i], List.getElem_mem hi, by simp [hasB, h, hp]⟩
theorem pk_al_no {ds : List Dq} {p : Nat} (h : ∀ x ∈ ds, okD true x = true → x.d.p ≠ p) : inB (pkD (fun x : Dq => x.d.c) ds) p = false := by
  unfold inB pkD
  rw [List.any_map, List.any_filter, List.any_eq_false]
  intro x hx hc
  simp only [hasB, Function.comp_apply, Bool.and_eq_true, decide_eq_true_eq] at hc
  exact h x hx (by unfold okD; simp) (by omega)
theorem pkD_L {ds : List Dq} {L : List Lt} (h : ds.map (fun x => dtE x.d) = L) : pkD (fun x : Dq => x.d.c) ds = (L.filter fun x => x.2.2.1).map fun x => (x.1, x.1) := by
  subst h
  unfold pkD
  rw [List.filter_map, List.map_map]
  rfl
theorem chL_32 : (chL.all fun d => Nat.blt d.1 4294967296) = true := by decide +kernel
theorem pkD_32 {ds : List Dq} (h : ds.map (fun x => dtE x.d) = chL) (f : Dq → Bool) : ∀ s ∈ pkD f ds, s.1 < 4294967296 ∧ s.2 < 4294967296 := by
  intro s hs
  unfold pkD at hs
  obtain ⟨x, hx, rfl⟩ := List.mem_map.1 hs
  have hm : dtE x.d ∈ chL := by rw [← h]; exact List.mem_map_of_mem (List.mem_filter.1 hx).1
  have := Nat.le_of_ble_eq_true (List.all_eq_true.1 chL_32 _ hm)
  exact ⟨this, this⟩
theorem pkR_32 {l : List Rng} (h : ∀ r ∈ l, r.a ≤ r.b ∧ r.b ≤ 1114111 ∧ r.j.size = 1) (f : Rng → Bool) : ∀ s ∈ pkR f l, s.1 < 4294967296 ∧ s.2 < 4294967296 := by
  intro s hs
  unfold pkR at hs
  obtain ⟨x, hx, rfl⟩ := List.mem_map.1 hs
  have := h x (List.mem_filter.1 hx).1
  exact ⟨by show x.a < _; omega, by show x.b < _; omega⟩
theorem pkN_32 {l : List Nm} (h : ∀ r ∈ l, r.a ≤ 1114111 ∧ r.b ≤ 1114111) (f : Nm → Bool) : ∀ s ∈ pkN f l, s.1 < 4294967296 ∧ s.2 < 4294967296 := by
  intro s hs
  unfold pkN at hs
  obtain ⟨x, hx, rfl⟩ := List.mem_map.1 hs
  have := h x (List.mem_filter.1 hx).1
  exact ⟨by show x.a < _; omega, by show x.b < _; omega⟩
theorem rg_mem {l : List Rng} {p : Nat} (h : rgIn l p = true) : rgGet l p ∈ l := by
  unfold rgIn at h
  unfold rgGet
  cases hf : l.find? (rgHas p) with
  | none => rw [hf] at h; cases h
  | some r => exact List.mem_of_find?_eq_some hf
/-- an answer: merged spans in memory, of which a point is or is none -/
def Gd (w : World) (p : Nat) (s : Sl3) (b : Bool) : Prop := ∃ (m : List Zp) (lo : Nat), s.2.1 = m.length ∧ ZpR w lo s.v m ∧ okS m = true ∧ (∀ t ∈ m, t.1 < 4294967296 ∧ t.2 < 4294967296) ∧ m.length ≤ 1000001 ∧ inB m p = b
theorem Gd.below {w w' : World} {p : Nat} {s : Sl3} {b : Bool} (h : Gd w p s b) (hb : Below w.heap.size w w') : Gd w' p s b := by
  obtain ⟨m, lo, h1, h2, h3⟩ := h
  exact ⟨m, lo, h1, owns_below h2 hb, h3⟩
theorem Gd.of_ {w : World} {p lo cap : Nat} {ad : Option Addr} {L m : List Zp} {b : Bool} (h : MrgOk L m) (hz : ZpR w lo (.slice ad m.length cap) m) (hl : L.length ≤ 1000001) (hb : inB L p = b) : Gd w p (ad, m.length, cap) b :=
  ⟨m, lo, rfl, hz, h.ok, h.w32, Nat.le_trans h.len hl, by rw [h.words]; exact hb⟩
theorem Gd.in_ {w : World} {p : Nat} {s : Sl3} {b : Bool} (h : Gd w p s b) : Calls Tryz.prog 28 #[s.v, .int .u32 (p : Int)] w fun e w' => e = .returned (.bool b) ∧ Below w.heap.size w w' := by
  obtain ⟨ad, n, c⟩ := s
  obtain ⟨m, lo, h1, h2, h3, h4, h5, h6⟩ := h
  have e : n = m.length := h1
  subst e
  subst h6
  exact in_any ad m c p w (ZpR.cells h2 rfl) (by omega)
theorem Gd.mg {w : World} {p : Nat} {s : Sl3} {b : Bool} (h : Gd w p s b) : Calls Tryz.prog 29 #[s.v] w fun e w' => e = .returned (.bool true) ∧ Below w.heap.size w w' := by
  obtain ⟨ad, n, c⟩ := s
  obtain ⟨m, lo, h1, h2, h3, h4, h5, h6⟩ := h
  have e : n = m.length := h1
  subst e
  exact merged_yes ad m m.length c lo w h2 rfl (by omega) h4 h3
theorem jnF_one {ss : ByteArray} {c : UInt8} {r : Rng} (h : r.j = ⟨#[c]⟩) : jnF ss r = ss.data.toList.contains c := by
  unfold jnF
  rw [h]
  simp only [List.all_cons, List.all_nil, Bool.and_true]
/-- what both hold in memory -/
structure SF (w : World) (g R V : Nat) (s0 s1 s3 s4 s5 t0 t1 t3 t4 t5 : Sl3) (ad ad2 na : Option Addr) (cap cap2 : Nat) (lr : List Rng) (ln : List Nm) (ds ds2 : List Dq) (nl : List ByteArray) : Prop where
  hg : w.heap[g]? = some (.cells #[t0.v, t1.v, .slice ad2 V cap2, t3.v, t4.v, t5.v] 84 (0, 0))
  hR : w.heap[R]? = some (.cells #[s0.v, s1.v, .slice ad V cap, s3.v, s4.v, s5.v] 30 (0, 0))
  sr : s0.2.1 = lr.length ∧ RgAt w s0.1 lr
  tr : t0.2.1 = lr.length ∧ RgAt w t0.1 lr
  sn : s5.2.1 = ln.length ∧ NmAt w s5.1 ln
  tn : t5.2.1 = ln.length ∧ NmAt w t5.1 ln
  d : DpAt w ad ds
  d2 : DpAt w ad2 ds2
  st : StAt w na nl
theorem SF.below {w w' : World} {g R V : Nat} {s0 s1 s3 s4 s5 t0 t1 t3 t4 t5 : Sl3} {ad ad2 na : Option Addr} {cap cap2 : Nat} {lr : List Rng} {ln : List Nm} {ds ds2 : List Dq} {nl : List ByteArray} (h : SF w g R V s0 s1 s3 s4 s5 t0 t1 t3 t4 t5 ad ad2 na cap cap2 lr ln ds ds2 nl) (hb : Below w.heap.size w w') : SF w' g R V s0 s1 s3 s4 s5 t0 t1 t3 t4 t5 ad ad2 na cap cap2 lr ln ds ds2 nl :=
  ⟨(hb.block g (lt_of_heap h.hg)).trans h.hg, (hb.block R (lt_of_heap h.hR)).trans h.hR, ⟨h.sr.1, h.sr.2.below hb⟩, ⟨h.tr.1, h.tr.2.below hb⟩, ⟨h.sn.1, h.sn.2.below hb⟩, ⟨h.tn.1, h.tn.2.below hb⟩, h.d.below hb, h.d2.below hb, h.st.below hb⟩
/-- what holds of them anywhere -/
structure SX (V : Nat) (lr : List Rng) (ln : List Nm) (ds ds2 : List Dq) : Prop where
  up : lr.Pairwise fun p q => p.b < q.a
  rb : ∀ r ∈ lr, r.a ≤ r.b ∧ r.b ≤ 1114111 ∧ r.j.size = 1
  nb : ∀ r ∈ ln, r.a ≤ 1114111 ∧ r.b ≤ 1114111
  rl : lr.length ≤ 1000001
  nl : ln.length ≤ 1000001
  ris : RisD ds
  lit : ds.map (fun x => dtE x.d) = chL
  lit2 : ds2.map (fun x => dtE x.d) = chL
  dl : ds.length = V
  dl2 : ds2.length = V
  vl : V ≤ 1000000
theorem pkR_lenF (f : Rng → Bool) (l : List Rng) : (pkR f l).length ≤ l.length := by
  have := pkR_len f l l.length
  rwa [List.take_length] at this
theorem pkN_lenF (f : Nm → Bool) (l : List Nm) : (pkN f l).length ≤ l.length := by
  have := pkN_len f l l.length
  rwa [List.take_length] at this
theorem pkD_lenF (f : Dq → Bool) (l : List Dq) : (pkD f l).length ≤ l.length := by
  have := pkD_len f l l.length
  rwa [List.take_length] at this
section
variable {w : World} {g R V : Nat} {s0 s1 s3 s4 s5 t0 t1 t3 t4 t5 : Sl3} {ad ad2 na : Option Addr} {cap cap2 : Nat} {lr : List Rng} {ln : List Nm} {ds ds2 : List Dq} {nl : List ByteArray}
theorem SF.assigned (h : SF w g R V s0 s1 s3 s4 s5 t0 t1 t3 t4 t5 ad ad2 na cap cap2 lr ln ds ds2 nl) (x : SX V lr ln ds ds2) (p : Nat) (al : Bool) :
    Calls Tryz.prog 19 #[.pointer (some ⟨g, 0, none⟩), .bool al] w fun e w' => ∃ a n c, e = .returned (.slice a n c) ∧ Gd w' p (a, n, c) (rgIn lr p && (al || !(rgGet lr p).n)) ∧ Below w.heap.size w w' := by
  refine (mAssigned_any g t0 t1 (ad2, V, cap2) t3 t4 t5 lr al w h.hg h.tr.1 h.tr.2 x.rl (pkR_32 x.rb _)).mono ?_
  rintro e w' ⟨a, c, m, rfl, h1, h2, h3⟩
  exact ⟨a, m.length, c, rfl, Gd.of_ h1 h2 (Nat.le_trans (pkR_lenF _ _) x.rl) (pk_one x.up _ p), h3⟩
theorem SF.cats (h : SF w g R V s0 s1 s3 s4 s5 t0 t1 t3 t4 t5 ad ad2 na cap cap2 lr ln ds ds2 nl) (x : SX V lr ln ds ds2) (p nc : Nat) (hn : nl.length ≤ 1000000) :
    Calls Tryz.prog 20 #[.pointer (some ⟨g, 0, none⟩), .slice na nl.length nc] w fun e w' => ∃ a n c, e = .returned (.slice a n c) ∧ Gd w' p (a, n, c) (rgIn lr p && memB (rgGet lr p).c nl) ∧ Below w.heap.size w w' := by
  refine (mCats_any g t0 t1 (ad2, V, cap2) t3 t4 t5 lr na nl nc w h.hg h.tr.1 h.tr.2 h.st hn x.rl (pkR_32 x.rb _)).mono ?_
  rintro e w' ⟨a, c, m, rfl, h1, h2, h3⟩
  exact ⟨a, m.length, c, rfl, Gd.of_ h1 h2 (Nat.le_trans (pkR_lenF _ _) x.rl) (pk_one x.up _ p), h3⟩
theorem SF.sides (h : SF w g R V s0 s1 s3 s4 s5 t0 t1 t3 t4 t5 ad ad2 na cap cap2 lr ln ds ds2 nl) (x : SX V lr ln ds ds2) (p nc : Nat) (hn : nl.length ≤ 1000000) :
    Calls Tryz.prog 22 #[.pointer (some ⟨g, 0, none⟩), .slice na nl.length nc] w fun e w' => ∃ a n c, e = .returned (.slice a n c) ∧ Gd w' p (a, n, c) (rgIn lr p && memB (rgGet lr p).d nl) ∧ Below w.heap.size w w' := by
  refine (mSides_any g t0 t1 (ad2, V, cap2) t3 t4 t5 lr na nl nc w h.hg h.tr.1 h.tr.2 h.st hn x.rl (pkR_32 x.rb _)).mono ?_
  rintro e w' ⟨a, c, m, rfl, h1, h2, h3⟩
  exact ⟨a, m.length, c, rfl, Gd.of_ h1 h2 (Nat.le_trans (pkR_lenF _ _) x.rl) (pk_one x.up _ p), h3⟩
theorem SF.joins (h : SF w g R V s0 s1 s3 s4 s5 t0 t1 t3 t4 t5 ad ad2 na cap cap2 lr ln ds ds2 nl) (x : SX V lr ln ds ds2) (p : Nat) (ss : ByteArray) :
    Calls Tryz.prog 23 #[.pointer (some ⟨g, 0, none⟩), .string ss] w fun e w' => ∃ a n c, e = .returned (.slice a n c) ∧ Gd w' p (a, n, c) (rgIn lr p && jnF ss (rgGet lr p)) ∧ Below w.heap.size w w' := by
  refine (mJoins_any g t0 t1 (ad2, V, cap2) t3 t4 t5 lr ss w h.hg h.tr.1 h.tr.2 (fun r hr => (x.rb r hr).2.2) x.rl (pkR_32 x.rb _)).mono ?_
  rintro e w' ⟨a, c, m, rfl, h1, h2, h3⟩
  exact ⟨a, m.length, c, rfl, Gd.of_ h1 h2 (Nat.le_trans (pkR_lenF _ _) x.rl) (pk_one x.up _ p), h3⟩
theorem SF.set_ (h : SF w g R V s0 s1 s3 s4 s5 t0 t1 t3 t4 t5 ad ad2 na cap cap2 lr ln ds ds2 nl) (x : SX V lr ln ds ds2) (p : Nat) (ss : ByteArray) :
    Calls Tryz.prog 25 #[.pointer (some ⟨g, 0, none⟩), .string ss] w fun e w' => ∃ a n c, e = .returned (.slice a n c) ∧ Gd w' p (a, n, c) (ln.find? fun r => eqB r.s ss && hasB (r.a, r.b) p).isSome ∧ Below w.heap.size w w' := by
  refine (mSet_any g t0 t1 (ad2, V, cap2) t3 t4 t5 ln ss w h.hg h.tn.1 h.tn.2 x.nl (pkN_32 x.nb _)).mono ?_
  rintro e w' ⟨a, c, m, rfl, h1, h2, h3⟩
  exact ⟨a, m.length, c, rfl, Gd.of_ h1 h2 (Nat.le_trans (pkN_lenF _ _) x.nl) (pk_nm _ _ _), h3⟩
theorem SF.alike (h : SF w g R V s0 s1 s3 s4 s5 t0 t1 t3 t4 t5 ad ad2 na cap cap2 lr ln ds ds2 nl) (x : SX V lr ln ds ds2) (p : Nat) (b : Bool) (hb : inB (pkD (fun x : Dq => x.d.c) ds) p = b) :
    Calls Tryz.prog 27 #[.pointer (some ⟨g, 0, none⟩)] w fun e w' => ∃ a n c, e = .returned (.slice a n c) ∧ Gd w' p (a, n, c) b ∧ Below w.heap.size w w' := by
  refine (mAlike_any g t0 t1 (ad2, V, cap2) t3 t4 t5 ds2 w h.hg x.dl2.symm h.d2 (by have h1 := x.dl2; have h2 := x.vl; omega) (pkD_32 x.lit2 _)).mono ?_
  rintro e w' ⟨a, c, m, rfl, h1, h2, h3⟩
  refine ⟨a, m.length, c, rfl, Gd.of_ h1 h2 (Nat.le_trans (pkD_lenF _ _) (by have h1 := x.dl2; have h2 := x.vl; omega)) ?_, h3⟩
  rw [pkD_L x.lit2, ← pkD_L x.lit]
  exact hb
theorem SF.range (h : SF w g R V s0 s1 s3 s4 s5 t0 t1 t3 t4 t5 ad ad2 na cap cap2 lr ln ds ds2 nl) (x : SX V lr ln ds ds2) (p : Nat) :
    Calls Tryz.prog 17 #[.agg #[s0.v, s1.v, .slice ad V cap, s3.v, s4.v, s5.v], .int .u32 (p : Int)] w fun e w' => e = .returned (.tuple #[rgV (rgGet lr p), .bool (rgIn lr p)]) ∧ Below w.heap.size w w' :=
  rrange_any s0 s1 (ad, V, cap) s3 s4 s5 lr p w h.sr.1 h.sr.2 x.rl
theorem SF.rset (h : SF w g R V s0 s1 s3 s4 s5 t0 t1 t3 t4 t5 ad ad2 na cap cap2 lr ln ds ds2 nl) (x : SX V lr ln ds ds2) (p : Nat) (ss : ByteArray) :
    Calls Tryz.prog 26 #[.agg #[s0.v, s1.v, .slice ad V cap, s3.v, s4.v, s5.v], .string ss, .int .u32 (p : Int)] w fun e w' => e = .returned (.bool (ln.find? fun r => eqB r.s ss && hasB (r.a, r.b) p).isSome) ∧ Below w.heap.size w w' :=
  rset_any s0 s1 (ad, V, cap) s3 s4 s5 ln ss p w h.sn.1 h.sn.2 x.nl
/-- the line of a point, and whether it is by likeness -/
def LnS (ds : List Dq) (p : Nat) (e : Ending) : Prop := (∃ i, ∃ hi : i < ds.length, e = .returned (.int .i64 (i : Int)) ∧ inB (pkD (fun x : Dq => x.d.c) ds) p = ds[i].d.c) ∨ (e = .returned (.int .i64 (-1)) ∧ inB (pkD (fun x : Dq => x.d.c) ds) p = false)
theorem SF.line (h : SF w g R V s0 s1 s3 s4 s5 t0 t1 t3 t4 t5 ad ad2 na cap cap2 lr ln ds ds2 nl) (x : SX V lr ln ds ds2) (p : Nat) :
    Calls Tryz.prog 18 #[.agg #[s0.v, s1.v, .slice ad V cap, s3.v, s4.v, s5.v], .int .u32 (p : Int), .bool true] w fun e w' => LnS ds p e ∧ Below w.heap.size w w' := by
  have hq := line_any s0 s1 s3 s4 s5 ad cap p ds true w h.d (by have h1 := x.dl; have h2 := x.vl; omega)
  rw [x.dl] at hq
  refine hq.mono ?_
  rintro e w' ⟨h1, h2⟩
  refine ⟨?_, h2⟩
  rcases h1 with ⟨i, hi, hp, _, rfl⟩ | ⟨hn, rfl⟩
  · exact Or.inl ⟨i, hi, rfl, pk_al x.ris hi hp⟩
  · exact Or.inr ⟨rfl, pk_al_no hn⟩
end
/-- a value, or none; a line's number, or -1 -/
def vOpt (b : Bool) (v : Value) : Value := if b = true then v else undef
theorem vOpt_t (v : Value) : vOpt true v = v := rfl
theorem vOpt_f (v : Value) : vOpt false v = undef := rfl
def dnI (b : Bool) (i : Nat) : Int := if b = true then (i : Int) else -1
theorem dnI_t (i : Nat) : dnI true i = (i : Int) := rfl
theorem dnI_f (i : Nat) : dnI false i = -1 := rfl
theorem ln_one {w : World} {ad : Option Addr} {ds : List Dq} {p : Nat} {e : Ending} (h : LnS ds p e) (hd : DpAt w ad ds) : ∃ (DN dc : Bool) (i gd : Nat), e = .returned (.int .i64 (dnI DN i)) ∧ (DN = true → i < ds.length ∧ ad = some ⟨gd, 0, none⟩ ∧ w.cell? ⟨gd, i * 4 + 2, none⟩ = some (.bool dc)) ∧ inB (pkD (fun x : Dq => x.d.c) ds) p = (DN && dc) := by
  rcases h with ⟨i, hi, rfl, hq⟩ | ⟨rfl, hq⟩
  · obtain ⟨gd, h0, _, _, hc, _⟩ := hd i hi
    exact ⟨true, ds[i].d.c, i, gd, rfl, fun _ => ⟨hi, h0, hc⟩, by rw [hq]; rfl⟩
  · exact ⟨false, false, 0, 0, rfl, fun h => (by cases h), by rw [hq]; rfl⟩
/-- a guarded call that leaves the world as it is: its value, or none -/
theorem call_maybe {P : Program} {ops : Array Oper} {Q : Exit → Act → World → Prop} {md : Region.Mode} {S : World → Prop} {i : Nat} {o : Oper} {d : Option Tmp} {v : Value} {fuel : Nat} {listed : Array Bool} {a : Act} {w : World} (b : Bool)
    (ho : ops[i]? = some o) (hd : o.dst = d) (hr : Region.ready md ops listed = [i]) (hw : Region.wanted o (yielded ops a.tmps) = b) (hS : S w)
    (hyes : b = true → ∀ K' : Act → World → Prop, K' (a.put d v) w → Oper.wp P o a w K' Q)
    (h : wpAnyH P md ops Q S fuel (listed.setIfInBounds i true) (a.put d (vOpt b v)) w) : wpAnyH P md ops Q S (fuel + 1) listed a w := by
  subst hd
  refine wpAnyH_ready hr (by simp) (AllReadyH.cons ho (fun K' hK => ?_) AllReadyH.nil)
  rw [hw]
  cases b with
  | true =>
    rw [vOpt_t] at h
    rw [if_pos rfl]
    exact hyes rfl K' (hK.out _ _ hS (fun _ => h))
  | false =>
    rw [vOpt_f] at h
    rw [if_neg (by decide)]
    exact hK.out _ _ hS (fun _ => h)
section
variable {H : Type} {enc : TypeId × Value → H}
open Go.WideShapes Go.ChangeAt Go.ChangeShapes
theorem read_strs {W : World} {ad : Option Addr} {len cap : Nat} {d : DataW H} {p : List MemPlace} (h : DataW.Trod enc Tryz.prog W 0 (fun _ => true) true 45 (.slice ad len cap) d p) :
    ∃ l : List ByteArray, l.length = len ∧ StAt W ad l := by
  obtain ⟨fuel, hf⟩ := h
  rcases Deep.open_slice Tryz.underlying45 hf with ⟨hcs, _⟩ | ⟨a, len', cap', m, n, D, Pl, hcs, _, hlc, _, hm, _, hel⟩
  · simp [Value.cells] at hcs
    obtain ⟨rfl, rfl, rfl⟩ := hcs
    exact ⟨[], rfl, fun k hk => absurd hk (Nat.not_lt_zero k)⟩
  · simp [Value.cells] at hcs
    obtain ⟨rfl, rfl, rfl⟩ := hcs
    simp only [if_true] at hm
    subst hm
    have hc : Tryz.prog.cellsOf 9 = 1 := by kernel_rfl
    rw [hc] at hel
    have hex : ∀ i, i < len → ∃ t : ByteArray, W.cell? (a.add i) = some (.string t) := by
      intro i hi
      obtain ⟨cs', h1, h2⟩ := hel i (by omega)
      obtain ⟨t, rfl, _, _⟩ := DataW.trod_string Tryz.underlying9 h2
      have hE := cells_each h1 0 (by decide)
      have e0 : (a.add (i * 1)).add 0 = a.add i := by rw [Nat.mul_one]; simp [Addr.add]
      rw [e0] at hE
      exact ⟨t, hE⟩
    obtain ⟨f, hf⟩ := @Deep.choose_lt ByteArray ⟨⟨#[]⟩⟩ len _ hex
    refine ⟨(List.range len).map f, by simp, fun k hk => ⟨a, rfl, ?_⟩⟩
    simp only [List.getElem_map, List.getElem_range]
    exact hf k (by simpa using hk)
end
end Go.Proofs.YtgalmlelnolodaaGreatDoor
