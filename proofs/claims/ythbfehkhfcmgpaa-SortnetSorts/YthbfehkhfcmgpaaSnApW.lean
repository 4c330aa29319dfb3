/- The walk of SortnetApplies: words gone through any pairs are the document's, and what was handed in stays. No conditions. -/
import Derived.Test.YthbfehkhfcmgpaaSnD
namespace Go.Proofs.Ythbfehkhfcmgpaa
open Go.RowKit

theorem owns_us {w : World} {base n cap : Nat} {ad : Option Addr} {l : List Nat} (h : w.ownsRow base 29 1 (.slice ad n cap) n (us l)) (hn : n = l.length) : Us w ad l ∧ (ad = none → cap = 0 ∧ l.length = 0) := by
  refine ⟨fun k hk => ?_, fun hne => ?_⟩
  · obtain ⟨g, rfl, _, _, hc⟩ := owns_cell h (by omega)
    exact ⟨_, rfl, by rw [add_plain]; exact hc _ _ (us_at l k hk)⟩
  · rcases h.2 with ⟨hv, h0⟩ | ⟨g, cap', cur, hv, _⟩
    · cases hv; exact ⟨rfl, by omega⟩
    · cases hv; cases hne

set_option maxHeartbeats 1600000 in
theorem applies_at (pd : Option Addr) (pc : Nat) (ps : List (Int × Int)) (ad : Option Addr) (cap : Nat) (l : List Nat) (w : World) (hp : Prs w pd ps) (hpb : ∀ p ∈ ps, -9223372036854775808 ≤ p.1 ∧ p.1 < 9223372036854775808 ∧ -9223372036854775808 ≤ p.2 ∧ p.2 < 9223372036854775808)
    (h : Us w ad l) (h0 : ad = none → cap = 0 ∧ l.length = 0) (hl : ∀ x ∈ l, x < 4294967296) (hpx : ps.length < 9223372036854775808) (hlx : l.length < 9223372036854775808) :
    Calls Try.prog 4 #[.slice pd ps.length pc, .slice ad l.length cap] w fun e w' => e = .returned (.bool true) ∧ Below w.heap.size w w' := by
  by_cases c1 : 60 < ps.length
  · go_enter Try.func4, Try.ntmps4
    go_wp2_with (go_at_call 7; refine (awake_any _).mono ?_; rintro e w1 ⟨rfl, hB1⟩)
    go_ret
    exact ⟨rfl, hB1⟩
  · by_cases c2 : 60 < l.length
    · go_enter Try.func4, Try.ntmps4
      go_wp2_with (go_at_call 7; refine (awake_any _).mono ?_; rintro e w1 ⟨rfl, hB1⟩)
      go_ret
      exact ⟨rfl, hB1⟩
    · have HP := hid hp
      have HPB := hid hpb
      have HU := hid h
      have HH := hid h0
      have HL := hid hl
      have HTL := hid (thruI_len ps l)
      clear hp hpb h h0 hl hpx hlx
      go_enter Try.func4, Try.ntmps4
      go_wp2_with fail
      refine (awake_any _).mono ?_
      rintro e w1 ⟨rfl, hB1⟩
      have HB1 := hid hB1
      have HC0 : Hid ((w1.alloc (.cells #[] 29)).ownsRow w1.heap.size 29 1 (.slice (some ⟨w1.heap.size, 0, none⟩) 0 0) 0 []) := World.ownsRow_made w1 #[] 0 (Nat.le_refl _) (by decide) rfl
      have HUS := hid (HU.out.below (hB1.trans ((Below.refl _ w1).alloc hB1.size (.cells #[] 29))))
      clear hB1
      go_wp2_with (at_builtin; refine wpList_append_u32 _ rfl (.tmp 19) (.tmp 20) rfl w1.heap.size w1.heap.size rfl HC0.out ad cap l rfl HH.out HUS.out (by omega) (by simp) ?_; intro ad1 cap1 w2 hown hgrow; have HO2 := hid hown; have HG := hid hgrow; clear hown hgrow)
      have HB2 := hid (show Below w1.heap.size w1 w2 from ((Below.refl _ _).alloc (Nat.le_refl _) _).grown HG.out (by simp) (by intro k hk; cases hk; exact Nat.le_refl _))
      have HBw := hid (chainB HB2.out HB1.out)
      clear HG HC0 HUS HB1 HB2
      refine (apply_any pd pc ps ad cap l _ (HP.out.below HBw.out) HPB.out (HU.out.below HBw.out) HH.out HL.out (by omega) (by omega)).mono ?_
      rintro e w3 ⟨ad3, cap3, rfl, hown, hB3⟩
      have HO3 := hid hown
      have HB3 := hid hB3
      have HBw3 := hid (chainB hB3 HBw.out)
      have HO23 := hid (owns_below HO2.out hB3)
      clear hown hB3
      go_wp2_with fail
      refine (through_any pd pc ps ad1 cap1 l _ (HP.out.below HBw3.out) HPB.out (owns_us HO23.out rfl).1 (owns_us HO23.out rfl).2 HL.out (by omega) (by omega)).mono ?_
      rintro e w4 ⟨ad4, cap4, rfl, hown, hB4⟩
      have HO4 := hid hown
      have HBw4 := hid (chainB hB4 HBw3.out)
      have HO24 := hid (owns_below HO23.out hB4)
      have HO34 := hid (owns_below HO3.out hB4)
      clear hown hB4 HO2 HO3 HO23 HBw HBw3 HB3
      go_wp2_with fail
      go_loopw [35] (fun i wr => ∃ k : Nat, k ≤ l.length ∧ i = .int .i64 (k : Int) ∧ Below w4.heap.size w4 wr) (fun i _ => l.length - (intOf i).toNat)
      case atStart => exact ⟨0, Nat.zero_le _, rfl, Below.refl _ _⟩
      case round =>
        obtain ⟨k, hk, rfl, hBr⟩ := hrel
        have HBr := hid hBr
        by_cases hlt : k < l.length
        · have hlt2 : k < (thruI l ps).length := by rw [HTL.out]; exact hlt
          obtain ⟨x, rfl, cx⟩ := (HU.out.below (chainB hBr HBw4.out)) k hlt
          obtain ⟨x1, rfl, cx1⟩ := ((owns_us HO24.out rfl).1.below hBr) k hlt
          obtain ⟨x3, rfl, cx3⟩ := ((owns_us HO34.out HTL.out.symm).1.below hBr) k hlt2
          obtain ⟨x4, rfl, cx4⟩ := ((owns_us HO4.out HTL.out.symm).1.below hBr) k hlt2
          clear hBr
          generalize l[k] = A at *
          generalize (thruI l ps)[k] = B at *
          go_wp2_with fail
          go_quiet (fail)
          go_wp2
          go_roundw
          case rel => exact ⟨k + 1, by omega, by go_num, belowDN HBr.out _⟩
          case measure => simp [intOf]; omega
        · have e : k = l.length := by omega
          subst e
          clear hBr
          go_wp2
          go_ret
          exact ⟨rfl, chainB HBr.out HBw4.out⟩

section
variable {H : Type} {enc : TypeId × Value → H}
theorem two_of {α : Type} {l : List α} (h : l.length = 2) : ∃ a b, l = [a, b] := by
  match l, h with
  | [a, b], _ => exact ⟨a, b, rfl⟩
/-- one pair, read -/
theorem read_pair {W : World} {base : Nat} {held : Bool} {fuel : Nat} {cs : List Value} {x : DataW H × List MemPlace}
    (h : DataW.trod enc Try.prog W base (fun _ => true) held fuel 26 cs = some x) : ∃ p : Int × Int, cs = [.int .i64 p.1, .int .i64 p.2] ∧ -9223372036854775808 ≤ p.1 ∧ p.1 < 9223372036854775808 ∧ -9223372036854775808 ≤ p.2 ∧ p.2 < 9223372036854775808 := by
  have hu : Try.prog.underlying 26 = some (.array 2 3) := by kernel_rfl
  obtain ⟨xs, n, _, _, hl, hx, hf⟩ := DataW.trod_array hu h
  have hc : Try.prog.cellsOf 26 = 2 := by kernel_rfl
  have c3 : Try.prog.cellsOf 3 = 1 := by kernel_rfl
  rw [hc] at hl
  obtain ⟨y0, y1, rfl⟩ : ∃ a b, cs = [a, b] := two_of hl
  obtain ⟨z0, z1, rfl⟩ : ∃ a b, xs = [a, b] := two_of hx
  have g0 := hf 0 (by decide)
  have g1 := hf 1 (by decide)
  rw [c3] at g0 g1
  obtain ⟨a, e0, _, wa⟩ := DataW.trod_int Try.underlying3 (g0.trans rfl)
  obtain ⟨b, e1, _, wb⟩ := DataW.trod_int Try.underlying3 (g1.trans rfl)
  simp at e0 e1
  subst e0 e1
  have ba := wf_i64 wa
  have bb := wf_i64 wb
  exact ⟨(a, b), rfl, ba.1, ba.2, bb.1, bb.2⟩
def PairsAt (w : World) (ad : Option Addr) (len : Nat) : Prop := ∃ ps : List (Int × Int), ps.length = len ∧ Prs w ad ps ∧ (∀ p ∈ ps, -9223372036854775808 ≤ p.1 ∧ p.1 < 9223372036854775808 ∧ -9223372036854775808 ≤ p.2 ∧ p.2 < 9223372036854775808) ∧ len < 9223372036854775808
theorem list_of {α : Type} {Q : Nat → α → Prop} : ∀ n, (∀ i, i < n → ∃ t, Q i t) → ∃ l : List α, l.length = n ∧ ∀ i (h : i < l.length), Q i l[i]
  | 0, _ => ⟨[], rfl, fun i h => by simp at h⟩
  | n + 1, h => by
    obtain ⟨l, hl, hq⟩ := list_of n (fun i hi => h i (by omega))
    obtain ⟨t, ht⟩ := h n (by omega)
    refine ⟨l ++ [t], by simp [hl], fun i hi => ?_⟩
    rw [List.length_append] at hi
    by_cases hlt : i < l.length
    · rw [List.getElem_append_left hlt]; exact hq i hlt
    · have e : i = l.length := by simp at hi; omega
      subst e
      rw [List.getElem_append_right (Nat.le_refl _)]
      simp only [Nat.sub_self, List.getElem_cons_zero]
      rw [hl]; exact ht
theorem read_sortnetApplies {W : World} {ad : Option Addr} {len cap : Nat} {d : DataW H} {p : List MemPlace} (h : DataW.Trod enc Try.prog W 0 (fun _ => true) true 24 (.slice ad len cap) d p) : PairsAt W ad len := by
  obtain ⟨fuel, hf⟩ := h
  rcases Deep.open_slice Try.underlying24 hf with ⟨hcs, _⟩ | ⟨a, len', cap', m, n, D, Pl, hcs, _, hlc, hmx, hm, _, hel⟩
  · simp [Value.cells] at hcs
    obtain ⟨rfl, rfl, rfl⟩ := hcs
    refine ⟨[], rfl, ?_, ?_, by omega⟩
    · intro k hk; cases hk
    · intro t ht; cases ht
  · simp [Value.cells] at hcs
    obtain ⟨rfl, rfl, rfl⟩ := hcs
    simp only [if_true] at hm
    subst hm
    have hc : Try.prog.cellsOf 26 = 2 := by kernel_rfl
    rw [hc] at hel
    obtain ⟨ps, hl, hq⟩ := list_of (α := Int × Int) (Q := fun i p => W.cell? (a.add (i * 2)) = some (.int .i64 p.1) ∧ W.cell? ⟨(a.add (i * 2)).block, (a.add (i * 2)).off + 1, none⟩ = some (.int .i64 p.2) ∧ -9223372036854775808 ≤ p.1 ∧ p.1 < 9223372036854775808 ∧ -9223372036854775808 ≤ p.2 ∧ p.2 < 9223372036854775808) len (fun i hi => by
      obtain ⟨cs', h1, h2⟩ := hel i (by omega)
      obtain ⟨p, rfl, hb⟩ := read_pair h2
      have hE := cells_each h1
      exact ⟨p, hE 0 (by decide), hE 1 (by decide), hb⟩)
    refine ⟨ps, hl, fun k hk => ⟨a, rfl, (hq k hk).1, (hq k hk).2.1⟩, fun p hp => ?_, by unfold maxLen at hmx; omega⟩
    obtain ⟨k, hk, rfl⟩ := List.getElem_of_mem hp
    exact (hq k hk).2.2
end
theorem applies_walk (pd : Option Addr) (plen pc : Nat) (ad : Option Addr) (len cap : Nat) (zs : List Int) (w : World) (hp : PairsAt w pd plen) (h : IsRow .u32 w ad len cap zs) :
    Calls Try.prog 4 #[.slice pd plen pc, .slice ad len cap] w fun e w' => e = .returned (.bool true) ∧ Below w.heap.size w w' := by
  obtain ⟨ps, rfl, hp1, hp2, hp3⟩ := hp
  have hcap : cap ≤ maxLen := by
    rcases h with ⟨_, _, rfl, _⟩ | ⟨x, _, _, h2, _⟩
    · exact Nat.zero_le _
    · exact h2
  obtain ⟨l, rfl, hw, hu, h0, hc⟩ := isRow_us h
  exact applies_at pd pc ps ad cap l w hp1 hp2 hu h0 hw hp3 (by unfold maxLen at hcap; omega)
end Go.Proofs.Ythbfehkhfcmgpaa
