/- Contracts of package ct's log, read again: Blind and Released, over this seat's translation. Conditions: the log has at most a million events. -/
import Derived.Test.YteiienkneojleaaCtN
namespace Go.Proofs.Yteiienkneojleaa
open Go.RowKit

structure Ev where
  k : Int
  i : Int
  v : Int
def ecells : List Ev → List Value
  | [] => []
  | e :: l => .int .i64 e.k :: .int .i64 e.i :: .int .u32 e.v :: ecells l
theorem ecells_len (l : List Ev) : (ecells l).length = l.length * 3 := by
  induction l with
  | nil => rfl
  | cons e l ih => simp [ecells, ih]; omega
theorem ecells_one (l : List Ev) : ∀ u ∈ ecells l, u.oneCell' = true := by
  induction l with
  | nil => intro u hu; cases hu
  | cons e l ih =>
    intro u hu
    simp only [ecells, List.mem_cons] at hu
    rcases hu with rfl | rfl | rfl | hu
    · rfl
    · rfl
    · rfl
    · exact ih u hu
theorem ecells_snoc (l : List Ev) (e : Ev) : ecells (l ++ [e]) = ecells l ++ ev e.k e.i e.v := by
  induction l with
  | nil => rfl
  | cons x l ih => simp [ecells, ih]
theorem ecells_at (l : List Ev) (j : Nat) (h : j < l.length) : (ecells l)[j * 3]? = some (.int .i64 l[j].k) ∧ (ecells l)[j * 3 + 1]? = some (.int .i64 l[j].i) ∧ (ecells l)[j * 3 + 2]? = some (.int .u32 l[j].v) := by
  induction l generalizing j with
  | nil => simp at h
  | cons e l ih =>
    cases j with
    | zero => exact ⟨rfl, rfl, rfl⟩
    | succ j =>
      have := ih j (by simpa using h)
      have e1 : (j + 1) * 3 = j * 3 + 3 := by omega
      simp only [e1, ecells, List.getElem_cons_succ]
      exact this

theorem owns_block {w : World} {base : Nat} {e : TypeId} {size : Nat} {v : Value} {n : Nat} {xs : List Value} (h : w.ownsRow base e size v n xs) (hn : 0 < n) :
    ∃ g cap, v = .slice (some ⟨g, 0, none⟩) n cap ∧ base ≤ g ∧ ∀ j u, xs[j]? = some u → w.cell? ⟨g, j, none⟩ = some u := by
  rcases h.2 with ⟨_, h0⟩ | ⟨g, cap, cur, rfl, hb, hg, h1, h2, h3, h4⟩
  · omega
  · refine ⟨g, cap, rfl, hb, fun j u hj => ?_⟩
    have : cur[j]? = some u := by
      rw [← h4, List.getElem?_take] at hj
      split at hj
      · simpa using hj
      · cases hj
    exact cell_of_heap hg this

/-- the values that were told -/
def toldE : List Ev → List Int
  | [] => []
  | e :: l => if e.k == 3 then e.v :: toldE l else toldE l
theorem toldE_append (l m : List Ev) : toldE (l ++ m) = toldE l ++ toldE m := by
  induction l with
  | nil => rfl
  | cons e l ih => simp only [List.cons_append, toldE, ih]; split <;> simp
def toldK (l : List Ev) (k : Nat) : List Int := toldE (l.take k)
theorem toldK_yes (l : List Ev) (k : Nat) (h : k < l.length) (hk : (l[k].k == 3) = true) : toldK l (k + 1) = toldK l k ++ [l[k].v] := by
  unfold toldK; rw [List.take_succ_eq_append_getElem h, toldE_append]; simp [toldE, hk]
theorem toldK_no (l : List Ev) (k : Nat) (h : k < l.length) (hk : (l[k].k == 3) = false) : toldK l (k + 1) = toldK l k := by
  unfold toldK; rw [List.take_succ_eq_append_getElem h, toldE_append]; simp [toldE, hk]
theorem toldE_len (l : List Ev) : (toldE l).length ≤ l.length := by
  induction l with
  | nil => exact Nat.le_refl _
  | cons e l ih => simp only [toldE]; split <;> simp <;> omega
theorem toldK_len (l : List Ev) (k : Nat) : (toldK l k).length ≤ k := Nat.le_trans (toldE_len _) (by simp; omega)
abbrev u32s (l : List Int) : List Value := l.map fun x => .int .u32 x

theorem Try.infoU32 : (Try.prog.info? 22).map (fun i => (i.zero, i.size, i.bytes)) = some (some (.int .u32 0), 1, 4) := by kernel_rfl

set_option maxHeartbeats 1600000 in
theorem released_any (g : Nat) (ob : Option Nat) (es : List Ev) (w : World) (h : LogAt w g ob es.length (ecells es)) (hn : es.length ≤ 1000000) :
    Calls Try.prog 39 #[.pointer (some ⟨g, 0, none⟩)] w fun e w' => ∃ ad cap, e = .returned (.slice ad (toldE es).length cap) ∧ w'.ownsRow w.heap.size 22 1 (.slice ad (toldE es).length cap) (toldE es).length (u32s (toldE es)) ∧ Below w.heap.size w w' := by
  obtain ⟨v, h2, h3, h4⟩ := h
  obtain ⟨ad, cap, rfl⟩ := owns_shape h4
  have hc := cell_of_heap h2 (i := 0) rfl
  have hcl : ∀ k (hk : k < es.length), ∃ g2, ad = some ⟨g2, 0, none⟩ ∧ ∀ j u, (ecells es)[j]? = some u → w.cell? ⟨g2, j, none⟩ = some u := by
    intro k hk
    obtain ⟨g2, cap2, hv, _, hcells⟩ := owns_block h4 (by omega)
    cases hv
    exact ⟨g2, rfl, hcells⟩
  obtain ⟨i0, hi, hz0, hz1, hz2⟩ := info_parts Try.infoU32
  clear h2 h3 h4
  go_enter Try.func39, Try.ntmps39
  go_wp2
  go_loopw [3, 13] (fun s i wr => ∃ (k : Nat) (sd : Option Addr) (sc : Nat), k ≤ es.length ∧ i = .int .i64 k ∧ s = .slice sd (toldK es k).length sc ∧ wr.ownsRow w.heap.size 22 1 (.slice sd (toldK es k).length sc) (toldK es k).length (u32s (toldK es k)) ∧ Below w.heap.size w wr) (fun _ i _ => es.length - (intOf i).toNat)
  case atStart => exact ⟨0, none, 0, Nat.zero_le _, rfl, rfl, World.ownsRow_nil _ _ _ _, Below.refl _ _⟩
  case round =>
    obtain ⟨k, sd, sc, hk, rfl, rfl, hown, hB⟩ := hrel
    by_cases hlt : k < es.length
    · obtain ⟨g2, rfl, hcells⟩ := hcl k hlt
      obtain ⟨c0, c1, c2⟩ := ecells_at es k hlt
      replace c0 := cell_later hB (hcells _ _ c0)
      replace c1 := cell_later hB (hcells _ _ c1)
      replace c2 := cell_later hB (hcells _ _ c2)
      have hsz := hB.size
      clear hcl hcells
      have HTL := toldK_len es k
      cases hq : (es[k].k == 3)
      · have HT : Hid (_) := toldK_no es k hlt hq
        have HO : Hid (_) := hown
        clear hown
        go_wp2
        go_roundw
        case rel => exact ⟨k + 1, sd, sc, by omega, by go_num, by rw [HT.out], by rw [HT.out]; exact World.ownsRow.alloc HO.out _, chainB (by repeat (first | exact Below.refl _ _ | refine blw_alloc ?_ | refine blw_drew ?_ | assumption)) hB⟩
        case measure => simp [intOf]; omega
      · have HT : Hid (_) := toldK_yes es k hlt hq
        have HR : Hid (∀ g, (Value.slice sd (toldK es k).length sc).ownBlock = some g → w.heap.size ≤ g) := fun g hg => (hown.lt g hg).1
        obtain ⟨e, he⟩ : ∃ e, e = es[k] := ⟨_, rfl⟩
        rw [← he] at c0 c1 c2 hq
        have HO : Hid (((wr.alloc (.cells #[.int .i64 e.k, .int .i64 e.i, .int .u32 e.v] 51)).alloc (.cells #[.int .u32 e.v] 22)).ownsRow w.heap.size 22 1 (.slice sd (toldK es k).length sc) (toldK es k).length (u32s (toldK es k))) := (hown.alloc _).alloc _
        have HN : Hid (∀ j u, [Value.int .u32 e.v][j]? = some u → ((wr.alloc (.cells #[.int .i64 e.k, .int .i64 e.i, .int .u32 e.v] 51)).alloc (.cells #[.int .u32 e.v] 22)).cell? ((⟨wr.heap.size + 1, 0, none⟩ : Addr).add j) = some u) := by
          have h := World.news_of_block (heap_alloc_at (wr.alloc (.cells #[.int .i64 e.k, .int .i64 e.i, .int .u32 e.v] 51)) (.cells #[.int .u32 e.v] 22))
          unfold Hid; intro j u hj; have h2 := h j u (by simpa using hj); simpa using h2
        have HE : Hid (_) := he
        clear hown he
        go_wp2_with (at_builtin; refine wpList_append_own _ rfl (.tmp 20) (.tmp 23) 46 rfl w.heap.size 22 i0 _ 1 4 Try.underlying46 hi hz0 hz1 hz2 rfl (by decide) (.slice sd (toldK es k).length sc) (toldK es k).length (u32s (toldK es k)) rfl HO.out ⟨wr.heap.size + 1, 0, none⟩ 1 1 [.int .u32 e.v] rfl rfl HN.out (by intro u hu; simp at hu; subst hu; rfl) (by unfold maxLen; omega) (by omega) (by simp; omega) ?_; intro s' w2 hown' hgrow _)
        obtain ⟨sd', sc', rfl⟩ := owns_shape hown'
        have hB2 : Below w.heap.size w w2 := (hB.trans (by refine Below.mono ?_ hsz; exact (by repeat (first | exact Below.refl _ _ | refine blw_alloc ?_ | refine blw_drew ?_ | assumption)))).grown hgrow (by simp; omega) HR.out
        have HT2 : toldK es (k + 1) = toldK es k ++ [e.v] := by rw [HE.out]; exact HT.out
        have HL2 : (toldK es (k + 1)).length = (toldK es k).length + 1 := by rw [HT2]; simp
        have HO2 : Hid (w2.ownsRow w.heap.size 22 1 (.slice sd' (toldK es (k + 1)).length sc') (toldK es (k + 1)).length (u32s (toldK es (k + 1)))) := by
          unfold Hid; rw [HL2, HT2]; simpa using hown'
        have HL3 : Hid (_) := HL2
        clear hown' HT2 HL2
        go_roundw
        case rel => exact ⟨k + 1, sd', sc', by omega, by go_num, by rw [HL3.out], HO2.out, hB2⟩
        case measure => simp [intOf]; omega
    · have e : k = es.length := by omega
      subst e
      have HE : Hid (toldK es es.length = toldE es) := by unfold Hid toldK; rw [List.take_of_length_le (Nat.le_refl _)]
      have HO : Hid (_) := hown
      clear hown hcl
      go_wp2
      go_ret
      rw [← HE.out]
      exact ⟨sd, sc, rfl, HO.out, hB⟩

def blindE (e : Ev) : Ev := if e.k == 3 then ⟨e.k, e.i, 0⟩ else e
theorem blindE_yes (e : Ev) (h : (e.k == 3) = true) : blindE e = ⟨e.k, e.i, 0⟩ := by simp [blindE, h]
theorem blindE_no (e : Ev) (h : (e.k == 3) = false) : blindE e = e := by simp [blindE, h]
def blindK (l : List Ev) (k : Nat) : List Ev := (l.take k).map blindE ++ l.drop k
theorem blindK_len (l : List Ev) (k : Nat) (h : k ≤ l.length) : (blindK l k).length = l.length := by simp [blindK]; omega
theorem blindK_at (l : List Ev) (k : Nat) (h : k < l.length) (h2 : k < (blindK l k).length) : (blindK l k)[k] = l[k] := by
  simp only [blindK]
  rw [List.getElem_append_right (by simp; omega)]
  simp [List.getElem_drop]
  congr 1; omega
theorem blindK_succ (l : List Ev) (k : Nat) (h : k < l.length) : blindK l (k + 1) = (blindK l k).set k (blindE l[k]) := by
  unfold blindK
  rw [List.take_succ_eq_append_getElem h, List.drop_eq_getElem_cons h, List.set_append]
  have : ¬ k < (List.map blindE (List.take k l)).length := by simp; omega
  rw [if_neg this]
  have e : k - (List.map blindE (List.take k l)).length = 0 := by simp; omega
  rw [e, List.map_append, List.append_assoc]; rfl
theorem ecells_set (l : List Ev) (k : Nat) (h : k < l.length) (x : Int) : ecells (l.set k ⟨l[k].k, l[k].i, x⟩) = (ecells l).set (k * 3 + 2) (.int .u32 x) := by
  induction l generalizing k with
  | nil => simp at h
  | cons e l ih =>
    cases k with
    | zero => rfl
    | succ k =>
      have := ih k (by simpa using h)
      have e1 : (k + 1) * 3 + 2 = k * 3 + 2 + 3 := by omega
      simp only [List.set_cons_succ, ecells, e1, List.getElem_cons_succ]
      rw [this]
theorem owns_set {w : World} {base : Nat} {e : TypeId} {size g n cap j : Nat} {xs : List Value} {u : Value} (h : w.ownsRow base e size (.slice (some ⟨g, 0, none⟩) n cap) n xs) :
    (w.setCell ⟨g, j, none⟩ u).ownsRow base e size (.slice (some ⟨g, 0, none⟩) n cap) n (xs.set j u) := by
  obtain ⟨hl, hr⟩ := h
  rcases hr with ⟨hx, _⟩ | ⟨g', cap', cur, hx, hb, hg, h1, h2, h3, h4⟩
  · cases hx
  · cases hx
    refine ⟨by simp [hl], Or.inr ⟨g, cap, cur.setIfInBounds j u, rfl, hb, heap_setCell_at _ _ _ _ _ _ _ hg, h1, h2, by simp [h3], ?_⟩⟩
    rw [Array.toList_setIfInBounds, ← h4, List.take_set]
theorem owns_frozen {w : World} {base : Nat} {e : TypeId} {size g n cap j : Nat} {xs : List Value} (h : w.ownsRow base e size (.slice (some ⟨g, 0, none⟩) n cap) n xs) : w.frozen? ⟨g, j, none⟩ = false := by
  obtain ⟨hl, hr⟩ := h
  rcases hr with ⟨hx, _⟩ | ⟨g', cap', cur, hx, hb, hg, h1, h2, h3, h4⟩
  · cases hx
  · cases hx; exact frozen_of_heap hg

set_option maxHeartbeats 1600000 in
theorem blind_any (g : Nat) (ob : Option Nat) (es : List Ev) (w : World) (h : LogAt w g ob es.length (ecells es)) (hn : es.length ≤ 1000000) :
    Calls Try.prog 38 #[.pointer (some ⟨g, 0, none⟩)] w fun e w' => ∃ ad cap, e = .returned (.slice ad es.length cap) ∧ w'.ownsRow w.heap.size 51 3 (.slice ad es.length cap) es.length (ecells (es.map blindE)) ∧ Below w.heap.size w w' := by
  have HL : Hid (LogAt w g ob es.length (ecells es)) := h
  clear h
  go_enter Try.func38, Try.ntmps38
  go_wp2_with fail
  refine (events_any g ob es.length (ecells es) _ HL.out (ecells_one es) hn).mono ?_
  rintro e w1 ⟨v', rfl, hown, hB⟩
  obtain ⟨ad, cap, rfl⟩ := owns_shape hown
  have HO1 : Hid (w1.ownsRow w.heap.size 51 3 (.slice ad es.length cap) es.length (ecells es)) := hown
  clear hown
  go_wp2
  go_loopw [9] (fun i wr => ∃ (k : Nat), k ≤ es.length ∧ i = .int .i64 k ∧ wr.ownsRow w.heap.size 51 3 (.slice ad es.length cap) es.length (ecells (blindK es k)) ∧ Below w.heap.size w wr) (fun i _ => es.length - (intOf i).toNat)
  case atStart => exact ⟨0, Nat.zero_le _, rfl, HO1.out, hB⟩
  case round =>
    obtain ⟨k, hk, rfl, hown, hBr⟩ := hrel
    clear HO1 HL
    by_cases hlt : k < es.length
    · obtain ⟨g2, cap2, hv, hbase, hcells⟩ := owns_block hown (by omega)
      cases hv
      have hbl := blindK_len es k hk
      obtain ⟨c0, c1, c2⟩ := ecells_at (blindK es k) k (by omega)
      rw [blindK_at es k hlt] at c0 c1 c2
      replace c0 := hcells _ _ c0
      replace c1 := hcells _ _ c1
      replace c2 := hcells _ _ c2
      have hf2 := owns_frozen (j := k * 3 + 2) hown
      have HS : Hid (blindK es (k + 1) = (blindK es k).set k (blindE es[k])) := blindK_succ es k hlt
      have HO : Hid (wr.ownsRow w.heap.size 51 3 (.slice (some ⟨g2, 0, none⟩) es.length cap) es.length (ecells (blindK es k))) := hown
      have HX : Hid (ecells ((blindK es k).set k ⟨es[k].k, es[k].i, 0⟩) = (ecells (blindK es k)).set (k * 3 + 2) (.int .u32 0)) := by
        have := ecells_set (blindK es k) k (by omega) 0
        rw [blindK_at es k hlt] at this; exact this
      have HBS : Hid ((blindK es k).set k es[k] = blindK es k) := by
        unfold Hid; conv => lhs; rw [← blindK_at es k hlt (by omega)]
        exact List.set_getElem_self _
      clear hown hcells hbl
      cases hq : (es[k].k == 3)
      · have HE : Hid (_) := blindE_no _ hq
        go_wp2
        go_roundw
        case rel => exact ⟨k + 1, by omega, by go_num, by rw [HS.out, HE.out, HBS.out]; exact HO.out, hBr⟩
        case measure => simp [intOf]; omega
      · have HE : Hid (_) := blindE_yes _ hq
        go_wp2
        go_roundw
        case rel => exact ⟨k + 1, by omega, by go_num, by rw [HS.out, HE.out, HX.out]; exact owns_set HO.out, hBr.setCell (by simpa using hbase) _⟩
        case measure => simp [intOf]; omega
    · have e : k = es.length := by omega
      subst e
      have HE : Hid (blindK es es.length = es.map blindE) := by unfold Hid blindK; simp
      have HO : Hid (_) := hown
      clear hown
      go_wp2
      go_ret
      rw [← HE.out]
      exact ⟨ad, cap, rfl, HO.out, hBr⟩
end Go.Proofs.Yteiienkneojleaa
