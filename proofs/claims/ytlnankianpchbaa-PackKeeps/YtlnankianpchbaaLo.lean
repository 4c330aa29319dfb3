/- Contracts of package ct's log, read again: Blind and Released, over this seat's translation. Conditions: the log has at most a thousand million events. -/
import Derived.Test.YtlnankianpchbaaLn
namespace Go.Proofs.Ytlnankianpchbaa
open Go.RowKit

structure Ev where
  k : Int
  i : Int
  v : Int
def ecells : List Ev → List Value
  | [] => []
  | e :: l => .int .i64 e.k :: .int .i64 e.i :: .int .u32 e.v :: ecells l
theorem ecells_len (l : List Ev) : (ecells l).length = l.length * 3 := by
  induction l with
  | nil => rfl
  | cons e l ih => simp [ecells, ih]; omega
theorem ecells_one (l : List Ev) : ∀ u ∈ ecells l, u.oneCell' = true := by
  induction l with
  | nil => intro u hu; cases hu
  | cons e l ih =>
    intro u hu
    simp only [ecells, List.mem_cons] at hu
    rcases hu with rfl | rfl | rfl | hu
    · rfl
    · rfl
    · rfl
    · exact ih u hu
theorem ecells_snoc (l : List Ev) (e : Ev) : ecells (l ++ [e]) = ecells l ++ ev e.k e.i e.v := by
  induction l with
  | nil => rfl
  | cons x l ih => simp [ecells, ih]
theorem ecells_at (l : List Ev) (j : Nat) (h : j < l.length) : (ecells l)[j * 3]? = some (.int .i64 l[j].k) ∧ (ecells l)[j * 3 + 1]? = some (.int .i64 l[j].i) ∧ (ecells l)[j * 3 + 2]? = some (.int .u32 l[j].v) := by
  induction l generalizing j with
  | nil => simp at h
  | cons e l ih =>
    cases j with
    | zero => exact ⟨rfl, rfl, rfl⟩
    | succ j =>
      have := ih j (by simpa using h)
      have e1 : (j + 1) * 3 = j * 3 + 3 := by omega
      simp only [e1, ecells, List.getElem_cons_succ]
      exact this

theorem owns_block {w : World} {base : Nat} {e : TypeId} {size : Nat} {v : Value} {n : Nat} {xs : List Value} (h : w.ownsRow base e size v n xs) (hn : 0 < n) :
    ∃ g cap, v = .slice (some ⟨g, 0, none⟩) n cap ∧ base ≤ g ∧ ∀ j u, xs[j]? = some u → w.cell? ⟨g, j, none⟩ = some u := by
  rcases h.2 with ⟨_, h0⟩ | ⟨g, cap, cur, rfl, hb, hg, h1, h2, h3, h4⟩
  · omega
  · refine ⟨g, cap, rfl, hb, fun j u hj => ?_⟩
    have : cur[j]? = some u := by
      rw [← h4, List.getElem?_take] at hj
      split at hj
      · simpa using hj
      · cases hj
    exact cell_of_heap hg this

/-- the values that were told -/
def toldE : List Ev → List Int
  | [] => []
  | e :: l => if e.k == 3 then e.v :: toldE l else toldE l
theorem toldE_append (l m : List Ev) : toldE (l ++ m) = toldE l ++ toldE m := by
  induction l with
  | nil => rfl
  | cons e l ih => simp only [List.cons_append, toldE, ih]; split <;> simp
def toldK (l : List Ev) (k : Nat) : List Int := toldE (l.take k)
theorem toldK_yes (l : List Ev) (k : Nat) (h : k < l.length) (hk : (l[k].k == 3) = true) : toldK l (k + 1) = toldK l k ++ [l[k].v] := by
  unfold toldK; rw [List.take_succ_eq_append_getElem h, toldE_append]; simp [toldE, hk]
theorem toldK_no (l : List Ev) (k : Nat) (h : k < l.length) (hk : (l[k].k == 3) = false) : toldK l (k + 1) = toldK l k := by
  unfold toldK; rw [List.take_succ_eq_append_getElem h, toldE_append]; simp [toldE, hk]
theorem toldE_len (l : List Ev) : (toldE l).length ≤ l.length := by
  induction l with
  | nil => exact Nat.le_refl _
  | cons e l ih => simp only [toldE]; split <;> simp <;> omega
theorem toldK_len (l : List Ev) (k : Nat) : (toldK l k).length ≤ k := Nat.le_trans (toldE_len _) (by simp; omega)
abbrev u32s (l : List Int) : List Value := l.map fun x => .int .u32 x

theorem Try.infoU32 : (Try.prog.info? 31).map (fun i => (i.zero, i.size, i.bytes)) = some (some (.int .u32 0), 1, 4) := by kernel_rfl

def blindE (e : Ev) : Ev := if e.k == 3 then ⟨e.k, e.i, 0⟩ else e
theorem blindE_yes (e : Ev) (h : (e.k == 3) = true) : blindE e = ⟨e.k, e.i, 0⟩ := by simp [blindE, h]
theorem blindE_no (e : Ev) (h : (e.k == 3) = false) : blindE e = e := by simp [blindE, h]
def blindK (l : List Ev) (k : Nat) : List Ev := (l.take k).map blindE ++ l.drop k
theorem blindK_len (l : List Ev) (k : Nat) (h : k ≤ l.length) : (blindK l k).length = l.length := by simp [blindK]; omega
theorem blindK_at (l : List Ev) (k : Nat) (h : k < l.length) (h2 : k < (blindK l k).length) : (blindK l k)[k] = l[k] := by
  simp only [blindK]
  rw [List.getElem_append_right (by simp; omega)]
  simp [List.getElem_drop]
  congr 1; omega
theorem blindK_succ (l : List Ev) (k : Nat) (h : k < l.length) : blindK l (k + 1) = (blindK l k).set k (blindE l[k]) := by
  unfold blindK
  rw [List.take_succ_eq_append_getElem h, List.drop_eq_getElem_cons h, List.set_append]
  have : ¬ k < (List.map blindE (List.take k l)).length := by simp; omega
  rw [if_neg this]
  have e : k - (List.map blindE (List.take k l)).length = 0 := by simp; omega
  rw [e, List.map_append, List.append_assoc]; rfl
theorem ecells_set (l : List Ev) (k : Nat) (h : k < l.length) (x : Int) : ecells (l.set k ⟨l[k].k, l[k].i, x⟩) = (ecells l).set (k * 3 + 2) (.int .u32 x) := by
  induction l generalizing k with
  | nil => simp at h
  | cons e l ih =>
    cases k with
    | zero => rfl
    | succ k =>
      have := ih k (by simpa using h)
      have e1 : (k + 1) * 3 + 2 = k * 3 + 2 + 3 := by omega
      simp only [List.set_cons_succ, ecells, e1, List.getElem_cons_succ]
      rw [this]
theorem owns_set {w : World} {base : Nat} {e : TypeId} {size g n cap j : Nat} {xs : List Value} {u : Value} (h : w.ownsRow base e size (.slice (some ⟨g, 0, none⟩) n cap) n xs) :
    (w.setCell ⟨g, j, none⟩ u).ownsRow base e size (.slice (some ⟨g, 0, none⟩) n cap) n (xs.set j u) := by
  obtain ⟨hl, hr⟩ := h
  rcases hr with ⟨hx, _⟩ | ⟨g', cap', cur, hx, hb, hg, h1, h2, h3, h4⟩
  · cases hx
  · cases hx
    refine ⟨by simp [hl], Or.inr ⟨g, cap, cur.setIfInBounds j u, rfl, hb, heap_setCell_at _ _ _ _ _ _ _ hg, h1, h2, by simp [h3], ?_⟩⟩
    rw [Array.toList_setIfInBounds, ← h4, List.take_set]
theorem owns_frozen {w : World} {base : Nat} {e : TypeId} {size g n cap j : Nat} {xs : List Value} (h : w.ownsRow base e size (.slice (some ⟨g, 0, none⟩) n cap) n xs) : w.frozen? ⟨g, j, none⟩ = false := by
  obtain ⟨hl, hr⟩ := h
  rcases hr with ⟨hx, _⟩ | ⟨g', cap', cur, hx, hb, hg, h1, h2, h3, h4⟩
  · cases hx
  · cases hx; exact frozen_of_heap hg

set_option maxHeartbeats 1600000 in
theorem blind_any (g : Nat) (ob : Option Nat) (es : List Ev) (w : World) (h : LogAt w g ob es.length (ecells es)) (hn : es.length ≤ 1000000000) :
    Calls Try.prog 14 #[.pointer (some ⟨g, 0, none⟩)] w fun e w' => ∃ ad cap, e = .returned (.slice ad es.length cap) ∧ w'.ownsRow w.heap.size 40 3 (.slice ad es.length cap) es.length (ecells (es.map blindE)) ∧ Below w.heap.size w w' := by
  have HL : Hid (LogAt w g ob es.length (ecells es)) := h
  clear h
  go_enter Try.func14, Try.ntmps14
  go_wp2_with fail
  refine (events_any g ob es.length (ecells es) _ HL.out (ecells_one es) hn).mono ?_
  rintro e w1 ⟨v', rfl, hown, hB⟩
  obtain ⟨ad, cap, rfl⟩ := owns_shape hown
  have HO1 : Hid (w1.ownsRow w.heap.size 40 3 (.slice ad es.length cap) es.length (ecells es)) := hown
  clear hown
  go_wp2
  go_loopw [9] (fun i wr => ∃ (k : Nat), k ≤ es.length ∧ i = .int .i64 k ∧ wr.ownsRow w.heap.size 40 3 (.slice ad es.length cap) es.length (ecells (blindK es k)) ∧ Below w.heap.size w wr) (fun i _ => es.length - (intOf i).toNat)
  case atStart => exact ⟨0, Nat.zero_le _, rfl, HO1.out, hB⟩
  case round =>
    obtain ⟨k, hk, rfl, hown, hBr⟩ := hrel
    clear HO1 HL
    by_cases hlt : k < es.length
    · obtain ⟨g2, cap2, hv, hbase, hcells⟩ := owns_block hown (by omega)
      cases hv
      have hbl := blindK_len es k hk
      obtain ⟨c0, c1, c2⟩ := ecells_at (blindK es k) k (by omega)
      rw [blindK_at es k hlt] at c0 c1 c2
      replace c0 := hcells _ _ c0
      replace c1 := hcells _ _ c1
      replace c2 := hcells _ _ c2
      have hf2 := owns_frozen (j := k * 3 + 2) hown
      have HS : Hid (blindK es (k + 1) = (blindK es k).set k (blindE es[k])) := blindK_succ es k hlt
      have HO : Hid (wr.ownsRow w.heap.size 40 3 (.slice (some ⟨g2, 0, none⟩) es.length cap) es.length (ecells (blindK es k))) := hown
      have HX : Hid (ecells ((blindK es k).set k ⟨es[k].k, es[k].i, 0⟩) = (ecells (blindK es k)).set (k * 3 + 2) (.int .u32 0)) := by
        have := ecells_set (blindK es k) k (by omega) 0
        rw [blindK_at es k hlt] at this; exact this
      have HBS : Hid ((blindK es k).set k es[k] = blindK es k) := by
        unfold Hid; conv => lhs; rw [← blindK_at es k hlt (by omega)]
        exact List.set_getElem_self _
      clear hown hcells hbl
      cases hq : (es[k].k == 3)
      · have HE : Hid (_) := blindE_no _ hq
        go_wp2
        go_roundw
        case rel => exact ⟨k + 1, by omega, by go_num, by rw [HS.out, HE.out, HBS.out]; exact HO.out, hBr⟩
        case measure => simp [intOf]; omega
      · have HE : Hid (_) := blindE_yes _ hq
        go_wp2
        go_roundw
        case rel => exact ⟨k + 1, by omega, by go_num, by rw [HS.out, HE.out, HX.out]; exact owns_set HO.out, hBr.setCell (by simpa using hbase) _⟩
        case measure => simp [intOf]; omega
    · have e : k = es.length := by omega
      subst e
      have HE : Hid (blindK es es.length = es.map blindE) := by unfold Hid blindK; simp
      have HO : Hid (_) := hown
      clear hown
      go_wp2
      go_ret
      rw [← HE.out]
      exact ⟨ad, cap, rfl, HO.out, hBr⟩
theorem row_block {w : World} {base : Nat} {e : TypeId} {size : Nat} {v : Value} {n : Nat} {xs : List Value} (h : w.ownsRow base e size v n xs) {x : Nat} (hx : v.ownBlock = some x) : ∃ cs, w.heap[x]? = some (.cells cs e (0, 0)) := by
  rcases h.2 with ⟨rfl, _⟩ | ⟨g, cap, cur, rfl, hb, hg, _⟩
  · cases hx
  · have : g = x := by simpa [Value.ownBlock] using hx
    subst this; exact ⟨cur, hg⟩
theorem log_block {w : World} {g : Nat} {ob : Option Nat} {n : Nat} {xs : List Value} (h : LogAt w g ob n xs) : (∃ cs, w.heap[g]? = some (.cells cs 71 (0, 0))) ∧ ∀ x, ob = some x → ∃ cs, w.heap[x]? = some (.cells cs 40 (0, 0)) := by
  obtain ⟨v, h1, h2, h3⟩ := h
  exact ⟨⟨_, h1⟩, fun x hx => row_block h3 (h2.trans hx)⟩
theorem types_apart {w : World} {x y : Nat} {c d : Array Value} {s t : TypeId} (h : w.heap[x]? = some (.cells c s (0, 0))) (k : w.heap[y]? = some (.cells d t (0, 0))) (hne : s ≠ t) : x ≠ y := by
  intro e; subst e; rw [h] at k; cases k; exact hne rfl

end Go.Proofs.Ytlnankianpchbaa
