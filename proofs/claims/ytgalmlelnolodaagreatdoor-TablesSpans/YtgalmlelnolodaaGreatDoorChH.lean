/- The contracts of package chart's classOf and lines, over this seat's translation; rows of strings; a variable that a drawn region makes and fills. Conditions: a text's size; what the library's variables hold is some number, some errors. -/
import Derived.Test.YtgalmlelnolodaaGreatDoorChG
import Derived.Test.YtgalmlelnolodaaGreatDoorIv
import Derived.Deep.CutRange
import Derived.Lib.AtoiErrMem
namespace Go.Proofs.YtgalmlelnolodaaGreatDoor
open Go.RowKit
set_option linter.unusedVariables false

/-- a row of strings in memory -/
def Strs (w : World) (ad : Option Addr) (l : List ByteArray) : Prop := ∀ j, j < l.length → ∃ x, ad = some x ∧ w.cell? (x.add j) = some (.string (wd l j))
theorem Strs.below {w w' : World} {ad : Option Addr} {l : List ByteArray} (h : Strs w ad l) (hb : Below w.heap.size w w') : Strs w' ad l := fun j hj => by
  obtain ⟨x, h1, h2⟩ := h j hj
  exact ⟨x, h1, cell_later hb h2⟩
theorem strs_block {w : World} {g : Nat} {l : List ByteArray} {t : TypeId} (h : w.heap[g]? = some (.cells (l.map Value.string).toArray t (0, 0))) : Strs w (some ⟨g, 0, none⟩) l := fun j hj => by
  refine ⟨_, rfl, ?_⟩
  rw [add_plain]
  refine cell_of_heap h ?_
  unfold wd
  rw [List.getElem?_toArray, List.getElem?_map, List.getElem?_eq_getElem hj, List.getD_eq_getElem?_getD, List.getElem?_eq_getElem hj]
  rfl
theorem strs_some {w : World} {ad : Option Addr} {l : List ByteArray} (h : Strs w ad l) (hl : 0 < l.length) : ∃ x, ad = some x ∧ ∀ j, j < l.length → w.cell? (x.add j) = some (.string (wd l j)) := by
  obtain ⟨x, h1, _⟩ := h 0 hl
  refine ⟨x, h1, fun j hj => ?_⟩
  obtain ⟨y, h2, h3⟩ := h j hj
  rw [h1] at h2
  cases h2
  exact h3

open Go.Lib in
set_option maxHeartbeats 1600000 in
theorem classOf_any (s : ByteArray) (w : World) (v : Vr w) (hs : s.size ≤ 4000000000) :
    Calls Tryz.prog 94 #[.string s] w fun e w' => e = ptR (clV (bs s)) ∧ Below w.heap.size w w' := by
  cases hp : parseUintB 32 s.data.toList with
  | ok u =>
    obtain ⟨g0, hc⟩ := clV_ok hp
    have hu : u ≤ 4294967295 := by
      have := hp
      unfold parseUintB at this
      split at this
      · cases this
      · have := parseUintM_le 4294967295 _ _ _ (Nat.zero_le _) this
        exact this
    have hb0 : (bs s).getD 0 0 = s[0].toNat := bs_at g0
    rw [hc]
    have HC := hid (Tryz.strconv_ParseUint_10_at32_ok s (by omega) u hp w)
    clear hp hc
    by_cases h0 : (bs s).getD 0 0 = 48
    · rw [if_neg (fun x => x.1 h0)]
      have hx0 : (((s[0].toNat : Nat) : Int) == 48) = true := by rw [← hb0, h0]; rfl
      clear hb0 h0
      go_enter Tryz.func94, Tryz.ntmps94
      go_wp2_with fail
      refine HC.out.mono ?_
      rintro e w1 ⟨rfl, hw⟩
      have HB := hid (show Below w.heap.size w w1 from by rcases hw with rfl | rfl; exact Below.refl _ _; exact bytesWorld_below _ _ _)
      clear hw
      go_wp2
      exact bodyPost_ret (v := .tuple #[.int .u32 0, .bool false]) (by simp [results, Tryz.results94, go_sem]) rfl ⟨rfl, HB.out⟩
    · have hne : s[0].toNat ≠ 48 := fun e => h0 (hb0.trans e)
      have hx0 : (((s[0].toNat : Nat) : Int) == 48) = false := by simp; omega
      by_cases h254 : u ≤ 254
      · rw [if_pos ⟨h0, h254⟩]
        clear hb0 h0 hne
        go_enter Tryz.func94, Tryz.ntmps94
        go_wp2_with fail
        refine HC.out.mono ?_
        rintro e w1 ⟨rfl, hw⟩
        have HB := hid (show Below w.heap.size w w1 from by rcases hw with rfl | rfl; exact Below.refl _ _; exact bytesWorld_below _ _ _)
        clear hw
        go_wp2
        exact bodyPost_ret (v := .tuple #[.int .u32 (u : Int), .bool true]) (by simp [results, Tryz.results94, go_sem]) rfl ⟨rfl, HB.out⟩
      · rw [if_neg (fun x => h254 x.2)]
        clear hb0 h0 hne
        go_enter Tryz.func94, Tryz.ntmps94
        go_wp2_with fail
        refine HC.out.mono ?_
        rintro e w1 ⟨rfl, hw⟩
        have HB := hid (show Below w.heap.size w w1 from by rcases hw with rfl | rfl; exact Below.refl _ _; exact bytesWorld_below _ _ _)
        clear hw
        go_wp2
        exact bodyPost_ret (v := .tuple #[.int .u32 0, .bool false]) (by simp [results, Tryz.results94, go_sem]) rfl ⟨rfl, HB.out⟩
  | «syntax» =>
    rw [clV_bad (fun u e => by rw [hp] at e; cases e)]
    obtain ⟨ev, h1, h2⟩ := v.es
    have HC := hid (Tryz.strconv_ParseUint_10_at32_syntax s (by omega) hp ev w h1 h2)
    clear hp h1 h2
    go_enter Tryz.func94, Tryz.ntmps94
    go_wp2_with fail
    refine HC.out.mono ?_
    rintro e w1 ⟨N, rfl, _, _, hB⟩
    have HB := hid hB
    clear hB
    go_wp2
    exact bodyPost_ret (v := .tuple #[.int .u32 0, .bool false]) (by simp [results, Tryz.results94, go_sem]) rfl ⟨rfl, HB.out⟩
  | range =>
    rw [clV_bad (fun u e => by rw [hp] at e; cases e)]
    obtain ⟨ev, h1, h2⟩ := v.er
    have HC := hid (Tryz.strconv_ParseUint_10_at32_range s (by omega) hp ev w h1 h2)
    clear hp h1 h2
    go_enter Tryz.func94, Tryz.ntmps94
    go_wp2_with fail
    refine HC.out.mono ?_
    rintro e w1 ⟨N, rfl, _, _, hB⟩
    have HB := hid hB
    clear hB
    go_wp2
    exact bodyPost_ret (v := .tuple #[.int .u32 0, .bool false]) (by simp [results, Tryz.results94, go_sem]) rfl ⟨rfl, HB.out⟩
set_option maxHeartbeats 800000 in
theorem lines_any (s : ByteArray) (w : World) (v : Vr w) (hs : s.size ≤ 4000000000) :
    Calls Tryz.prog 86 #[.string s] w fun e w' => (∃ ad, e = .returned (.slice ad (lnV s).length (lnV s).length) ∧ Strs w' ad (lnV s)) ∧ Below w.heap.size w w' := by
  by_cases h0 : s.size = 0
  · have e1 : s.toList.isEmpty = true := by rw [Lib.toList_data]; have := Lib.size_eq s; rw [List.isEmpty_iff]; exact List.length_eq_zero_iff.1 (by omega)
    have e2 : lnV s = [] := by unfold lnV; rw [if_pos h0]
    rw [e2]
    clear h0 e2
    go_enter Tryz.func86, Tryz.ntmps86
    go_wp2
    go_ret
    exact ⟨⟨none, rfl, fun j hj => by simp at hj⟩, Below.refl _ _⟩
  · have e1 : s.toList.isEmpty = false := by rw [Lib.toList_data]; have := Lib.size_eq s; rw [List.isEmpty_eq_false_iff]; intro e; rw [e] at this; simp at this; exact h0 (by rw [this]; rfl)
    have e2 : lnV s = splS 10 s := by unfold lnV; rw [if_neg h0]
    rw [e2]
    have HS := hid (split_any s 10 w v hs)
    clear h0 e2
    go_enter Tryz.func86, Tryz.ntmps86
    go_wp2_with fail
    refine HS.out.mono ?_
    rintro e w1 ⟨rfl, rfl⟩
    go_wp2
    go_ret
    exact ⟨⟨_, rfl, strs_block (heap_alloc_at _ _)⟩, (Below.refl _ _).alloc (Nat.le_refl _) _⟩
/-- a variable that a region makes, and perhaps has filled -/
def OwnC (w0 w : World) (b c : Bool) (p : Value) (cs0 cs1 : Array Value) (t : TypeId) : Prop := b = true → ∃ z, p = .pointer (some ⟨z, 0, none⟩) ∧ w0.heap.size ≤ z ∧ w.heap[z]? = some (.cells (if c then cs1 else cs0) t (0, 0))
theorem OwnC.below {w0 w w' : World} {b c : Bool} {p : Value} {cs0 cs1 : Array Value} {t : TypeId} (h : OwnC w0 w b c p cs0 cs1 t) (hB : Below w.heap.size w w') : OwnC w0 w' b c p cs0 cs1 t := fun hb => by
  obtain ⟨z, h1, h2, h3⟩ := h hb
  exact ⟨z, h1, h2, (hB.block z (lt_of_heap h3)).trans h3⟩
theorem OwnC.new {w0 w : World} {cs0 cs1 : Array Value} {t : TypeId} (hB : Below w0.heap.size w0 w) : OwnC w0 (w.alloc (.cells cs0 t (0, 0))) true false (.pointer (some ⟨w.heap.size, 0, none⟩)) cs0 cs1 t := fun _ =>
  ⟨_, rfl, hB.size, heap_alloc_at _ _⟩
theorem OwnC.none {w0 w : World} {c : Bool} {p : Value} {cs0 cs1 : Array Value} {t : TypeId} : OwnC w0 w false c p cs0 cs1 t := fun h => by cases h
theorem blw_drew {a w : World} (h : Below a.heap.size a w) : Below a.heap.size a w.drew := ⟨h.os, h.tape, h.output, h.size, h.block⟩
theorem set3 {w : World} {g : Nat} {u v x a b c : Value} {t : TypeId} (h : w.heap[g]? = some (.cells #[u, v, x] t (0, 0))) : (((w.setCell ⟨g, 0, none⟩ a).setCell ⟨g, 1, none⟩ b).setCell ⟨g, 2, none⟩ c).heap[g]? = some (.cells #[a, b, c] t (0, 0)) :=
  heap_setCell_at _ _ 2 _ _ _ c (heap_setCell_at _ _ 1 _ _ _ b (heap_setCell_at _ _ 0 _ _ _ a h))
theorem set6 {w : World} {g : Nat} {u0 u1 u2 u3 u4 u5 a b c d e f : Value} {t : TypeId} (h : w.heap[g]? = some (.cells #[u0, u1, u2, u3, u4, u5] t (0, 0))) :
    ((((((w.setCell ⟨g, 0, none⟩ a).setCell ⟨g, 1, none⟩ b).setCell ⟨g, 2, none⟩ c).setCell ⟨g, 3, none⟩ d).setCell ⟨g, 4, none⟩ e).setCell ⟨g, 5, none⟩ f).heap[g]? = some (.cells #[a, b, c, d, e, f] t (0, 0)) :=
  heap_setCell_at _ _ 5 _ _ _ f (heap_setCell_at _ _ 4 _ _ _ e (heap_setCell_at _ _ 3 _ _ _ d (heap_setCell_at _ _ 2 _ _ _ c (heap_setCell_at _ _ 1 _ _ _ b (heap_setCell_at _ _ 0 _ _ _ a h)))))
end Go.Proofs.YtgalmlelnolodaaGreatDoor
