/- slices.Clone of decompositions, slices.BinarySearchFunc with package tables' function, over this seat's translation. Conditions: at most 10^9 lines, whose points rise. -/
import Derived.Test.YtgalmlelnolodaaGreatDoorTdA
import Derived.Test.YtgalmlelnolodaaGreatDoorTbM
import Derived.Test.YtgalmlelnolodaaGreatDoorIv
namespace Go.Proofs.YtgalmlelnolodaaGreatDoor
open Go.RowKit
set_option linter.unusedVariables false

theorem cell_block_ltD {w : World} {a : Addr} {v : Value} (h : w.cell? a = some v) : a.block < w.heap.size := by
  rcases Nat.lt_or_ge a.block w.heap.size with hlt | hge
  · exact hlt
  · simp [World.cell?, Array.getElem?_eq_none hge] at h
/-- decompositions that came in: nil, or in memory -/
def DpIn (w : World) (ad : Option Addr) (l : List Dq) (c : Nat) : Prop := (ad = none ∧ l = [] ∧ c = 0) ∨ ∃ x, ad = some x ∧ ∀ j u, (dqC l)[j]? = some u → w.cell? (x.add j) = some u
set_option maxHeartbeats 800000 in
theorem cloneD_any (ad : Option Addr) (cap : Nat) (l : List Dq) (w : World) (h : DpIn w ad l cap) (hn : l.length ≤ 1000000000) :
    Calls Tryz.prog 81 #[.slice ad l.length cap] w fun e w' => ∃ ad' cap', e = .returned (.slice ad' l.length cap') ∧ w'.ownsRow w.heap.size 64 4 (.slice ad' l.length cap') l.length (dqC l) ∧ Below w.heap.size w w' := by
  have qT : ∀ (w : World) (a : Option Addr) (n c n' c' : Nat), (binOp .eql 26 (.slice a n c) (.slice none n' c')).run Tryz.prog w = .ok (.bool a.isNone) w := fun w a n c n' c' => Lib.run_eql_slice_nil w _ _ a n c n' c' Tryz.underlying26
  rcases h with ⟨rfl, rfl, rfl⟩ | ⟨x, rfl, hx⟩
  · go_enter Tryz.func81, Tryz.ntmps81
    go_wp2
    go_ret
    exact ⟨none, 0, rfl, World.ownsRow_nil _ _ _ _, Below.refl _ _⟩
  · obtain ⟨i0, hi, hz0, hz1, hz2⟩ := info_parts infoDecomp
    have HC0 : Hid ((w.alloc (.cells #[] 64)).ownsRow w.heap.size 64 4 (.slice (some ⟨w.heap.size, 0, none⟩) 0 0) 0 []) := World.ownsRow_made w #[] 0 (Nat.le_refl _) (by decide) rfl
    have HC1 : Hid (∀ j u, (dqC l)[j]? = some u → (w.alloc (.cells #[] 64)).cell? (x.add j) = some u) := fun j u hj => by
      have hc := hx j u hj
      exact cell_below ((Below.refl _ w).alloc (Nat.le_refl _) _) hc (cell_block_ltD hc)
    have hlen := dqC_len l
    have h1 := dqC_one l
    clear hx
    generalize dqC l = xs at *
    generalize l.length = n at *
    go_enter Tryz.func81, Tryz.ntmps81
    go_wp2_with (at_builtin; refine wpList_append_own _ rfl (.tmp 5) (.tmp 6) 26 rfl w.heap.size 64 i0 _ 4 40 Tryz.underlying26 hi hz0 hz1 hz2 rfl (by decide) _ 0 [] rfl HC0.out x n cap xs rfl hlen HC1.out h1 (by unfold maxLen; omega) (by omega) (by simp) ?_)
    intro v' w1 hown hgrow _
    obtain ⟨ad', cap', rfl⟩ := owns_shape hown
    have HO := hid hown
    clear h1 hi hz0 hz1 hz2 qT hown
    go_wp2
    go_ret
    exact ⟨_, _, rfl, HO.out, ((Below.refl _ _).alloc (Nat.le_refl _) _).grown hgrow (by simp) (by intro k hk; simp [Value.ownBlock] at hk; omega)⟩

set_option maxHeartbeats 800000 in
theorem cmpD_any (x : Dq) (p : Nat) (w : World) :
    Calls Tryz.prog 103 #[.agg #[.int .u32 (x.d.p : Int), x.sl, .bool x.d.c, .bool x.d.a], .int .u32 (p : Int)] w fun e w' => e = .returned (.int .i64 (Go.Lib.compareInt (x.d.p : Int) (p : Int))) ∧ Below w.heap.size w w' := by
  obtain ⟨⟨dp, dto, dc, da⟩, dg, dcap⟩ := x
  go_enter Tryz.func103, Tryz.ntmps103
  go_wp2_with fail
  refine (cmp32_any dp p _).mono ?_
  rintro e w1 ⟨rfl, hw⟩
  subst hw
  go_wp2
  go_ret
  exact ⟨rfl, (Below.refl _ _).alloc (Nat.le_refl _) _⟩
/-- decompositions in one block, or none -/
def DpAt (w : World) (ad : Option Addr) (l : List Dq) : Prop := ∀ k (hk : k < l.length), ∃ g, ad = some ⟨g, 0, none⟩ ∧ w.cell? ⟨g, k * 4, none⟩ = some (.int .u32 ((l[k].d.p : Nat) : Int)) ∧ w.cell? ⟨g, k * 4 + 1, none⟩ = some l[k].sl ∧ w.cell? ⟨g, k * 4 + 2, none⟩ = some (.bool l[k].d.c) ∧ w.cell? ⟨g, k * 4 + 3, none⟩ = some (.bool l[k].d.a)
theorem DpAt.below {w w' : World} {ad : Option Addr} {l : List Dq} (h : DpAt w ad l) (hb : Below w.heap.size w w') : DpAt w' ad l := fun k hk => by
  obtain ⟨g, h0, h1, h2, h3, h4⟩ := h k hk
  exact ⟨g, h0, cell_below hb h1 (lt_of_cell h1), cell_below hb h2 (lt_of_cell h2), cell_below hb h3 (lt_of_cell h3), cell_below hb h4 (lt_of_cell h4)⟩
theorem dpAt_own {w : World} {base cap : Nat} {ad : Option Addr} {l : List Dq} (h : w.ownsRow base 64 4 (.slice ad l.length cap) l.length (dqC l)) : DpAt w ad l := fun k hk => by
  obtain ⟨g, tl, h1, _, h2, _⟩ := blkD_of h (by omega) rfl
  exact ⟨g, h1, h2.cell hk⟩
/-- points rise -/
def RisD (l : List Dq) : Prop := ∀ i j (hi : i < l.length) (hj : j < l.length), i < j → l[i].d.p < l[j].d.p
set_option maxHeartbeats 3200000 in
theorem searchD_any (ad : Option Addr) (cap p : Nat) (l : List Dq) (w : World) (h : DpAt w ad l) (hr : RisD l) (hn : l.length ≤ 1000000000) :
    Calls Tryz.prog 102 #[.slice ad l.length cap, .int .u32 (p : Int), .func (.func 103) #[] #[]] w fun e w' => ((∃ i, ∃ hi : i < l.length, l[i].d.p = p ∧ e = .returned (.tuple #[.int .i64 (i : Int), .bool true])) ∨ ((∀ x ∈ l, x.d.p ≠ p) ∧ ∃ i : Nat, e = .returned (.tuple #[.int .i64 (i : Int), .bool false]))) ∧ Below w.heap.size w w' := by
  have HH := hid h
  have HR := hid hr
  clear h hr
  go_enter Tryz.func102, Tryz.ntmps102
  go_wp2_with fail
  go_loopw [9, 10] (fun ci cj wr => ∃ i j : Nat, i ≤ j ∧ j ≤ l.length ∧ ci = .int .i64 (i : Int) ∧ cj = .int .i64 (j : Int) ∧ (∀ k (hk : k < l.length), k < i → l[k].d.p < p) ∧ (∀ k (hk : k < l.length), j ≤ k → p ≤ l[k].d.p) ∧ Below w.heap.size w wr) (fun ci cj _ => (intOf cj).toNat - (intOf ci).toNat)
  case atStart => exact ⟨0, l.length, Nat.zero_le _, Nat.le_refl _, rfl, rfl, fun k _ h => absurd h (Nat.not_lt_zero k), fun k hk h => absurd hk (by omega), Below.refl _ _⟩
  case round =>
    obtain ⟨i, j, hij, hj, rfl, rfl, hlo, hhi, hB⟩ := hrel
    have HB := hid hB
    have HLo := hid hlo
    have HHi := hid hhi
    clear hlo hhi
    by_cases hlt : i < j
    · obtain ⟨m, hm⟩ : ∃ m, (i + j) / 2 = m := ⟨_, rfl⟩
      have hml : m < l.length := by omega
      have hm1 : i ≤ m ∧ m < j := by omega
      obtain ⟨g, rfl, c0, c1, c2, c3⟩ := (HH.out.below hB) m hml
      have HC := hid (fun w1 => cmpD_any l[m] p w1)
      have HS1 := hid (fun (e : l[m].d.p < p) => show ∀ k (hk : k < l.length), k < m + 1 → l[k].d.p < p from fun k hk h => by
        by_cases ek : k = m
        · subst ek; exact e
        · exact Nat.lt_trans (HR.out k m hk hml (by omega)) e)
      have HS2 := hid (fun (e : p ≤ l[m].d.p) => show ∀ k (hk : k < l.length), m ≤ k → p ≤ l[k].d.p from fun k hk h => by
        by_cases ek : k = m
        · subst ek; exact e
        · exact Nat.le_of_lt (Nat.lt_of_le_of_lt e (HR.out m k hml hk (by omega))))
      obtain ⟨x, hx⟩ : ∃ x, l[m] = x := ⟨_, rfl⟩
      rw [hx] at c0 c1 c2 c3 HC HS1 HS2
      clear hB hx
      go_upto_region 5 with fail
      rw [show ((i : Int) + (j : Int)) / 2 = (m : Int) by omega]
      have hwm : IntKind.i64.wrap (m : Int) = (m : Int) := by rw [IntKind.wrap_i64]; omega
      have hwm1 : IntKind.i64.wrap ((m : Int) + 1) = (m : Int) + 1 := by rw [IntKind.wrap_i64]; omega
      go_wp2_with fail
      refine (HC.out _).mono ?_
      rintro e w2 ⟨rfl, hB2⟩
      have B2 := hid (HB.out.trans (hB2.mono HB.out.size))
      clear hB2 c0 c1 c2 c3 HC HB
      by_cases hlt2 : x.d.p < p
      · have e : Go.Lib.compareInt (x.d.p : Int) (p : Int) = -1 := by unfold Go.Lib.compareInt; rw [if_pos (by omega)]
        have HS := hid (HS1.out hlt2)
        rw [e]
        clear e hlt2 HS1 HS2
        go_wp2
        go_roundw
        case rel => exact ⟨m + 1, j, by omega, hj, by go_num, rfl, HS.out, HHi.out, B2.out⟩
        case measure => simp [intOf]; omega
      · have e : ¬ Go.Lib.compareInt (x.d.p : Int) (p : Int) < 0 := by
          unfold Go.Lib.compareInt; rw [if_neg (by omega)]; split <;> omega
        have HS := hid (HS2.out (by omega))
        obtain ⟨C, hC⟩ : ∃ C, Go.Lib.compareInt (x.d.p : Int) (p : Int) = C := ⟨_, rfl⟩
        rw [hC] at e ⊢
        clear hlt2 HS1 HS2 hC
        go_wp2
        go_roundw
        case rel => exact ⟨i, m, by omega, by omega, rfl, rfl, HLo.out, HS.out, B2.out⟩
        case measure => simp [intOf]; omega
    · obtain rfl : i = j := by omega
      by_cases hil : i < l.length
      · obtain ⟨g, rfl, c0, c1, c2, c3⟩ := (HH.out.below hB) i hil
        have HC := hid (fun w1 => cmpD_any l[i] p w1)
        have HN := hid (fun (e : l[i].d.p ≠ p) => show ∀ x ∈ l, x.d.p ≠ p from fun x hx => by
          obtain ⟨k, hk, rfl⟩ := List.getElem_of_mem hx
          rcases Nat.lt_trichotomy k i with h | h | h
          · have := HLo.out k hk h; omega
          · subst h; exact e
          · have := HR.out i k hil hk h
            have := HHi.out i hil (Nat.le_refl _)
            omega)
        obtain ⟨x, hx⟩ : ∃ x, l[i] = x := ⟨_, rfl⟩
        have HX := hid hx
        rw [hx] at c0 c1 c2 c3 HC HN
        clear hB hx HLo HHi
        go_wp2_with fail
        refine (HC.out _).mono ?_
        rintro e w2 ⟨rfl, hB2⟩
        have B2 := hid (HB.out.trans (hB2.mono HB.out.size))
        clear hB2 c0 c1 c2 c3 HC HB
        by_cases he : x.d.p = p
        · have e : Go.Lib.compareInt (x.d.p : Int) (p : Int) = 0 := by unfold Go.Lib.compareInt; rw [if_neg (by omega)]; split <;> omega
          rw [e]
          clear e
          go_wp2
          exact bodyPost_ret (v := .tuple #[.int .i64 (i : Int), .bool true]) (by simp [results, Tryz.results102, go_sem]) rfl ⟨Or.inl ⟨i, hil, by rw [HX.out]; exact he, rfl⟩, B2.out⟩
        · have e : ¬ Go.Lib.compareInt (x.d.p : Int) (p : Int) = 0 := by
            unfold Go.Lib.compareInt
            split
            · omega
            · split <;> omega
          have HN2 := hid (HN.out he)
          obtain ⟨C, hC⟩ : ∃ C, Go.Lib.compareInt (x.d.p : Int) (p : Int) = C := ⟨_, rfl⟩
          rw [hC] at e ⊢
          have eb : (C == 0) = false := by simpa using e
          clear hC he
          go_wp2
          exact bodyPost_ret (v := .tuple #[.int .i64 (i : Int), .bool false]) (by simp [results, Tryz.results102, go_sem]) rfl ⟨Or.inr ⟨HN2.out, i, rfl⟩, B2.out⟩
      · have HN := hid (show ∀ x ∈ l, x.d.p ≠ p from fun x hx => by
          obtain ⟨k, hk, rfl⟩ := List.getElem_of_mem hx
          have := HLo.out k hk (by omega)
          omega)
        clear HLo HHi hB
        go_wp2
        exact bodyPost_ret (v := .tuple #[.int .i64 (i : Int), .bool false]) (by simp [results, Tryz.results102, go_sem]) rfl ⟨Or.inr ⟨HN.out, i, rfl⟩, HB.out⟩
end Go.Proofs.YtgalmlelnolodaaGreatDoor
