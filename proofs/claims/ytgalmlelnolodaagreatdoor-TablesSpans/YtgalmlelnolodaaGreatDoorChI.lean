/- The contract of package chart's rangeOf, over this seat's translation. Conditions: the words' sizes; what the library's variables hold is some number, some errors. -/
import Derived.Test.YtgalmlelnolodaaGreatDoorChH
namespace Go.Proofs.YtgalmlelnolodaaGreatDoor
open Go.RowKit
set_option linter.unusedVariables false

/-- what a line's reading answers: its value, or a zero value -/
def itR (z : Array Value) (f : It → Array Value) (o : Option It) : Ending := .returned (.tuple #[.agg (match o with | some i => f i | none => z), .bool o.isSome])
/-- on the way of a line's reading: the words, the result's variable -/
structure Rg (w0 : World) (x : Nat) (ws : List ByteArray) (Z : Array Value) (T : TypeId) (w : World) : Prop where
  bel : Below w0.heap.size w0 w
  row : ∀ j, j < ws.length → w.cell? ⟨x, j, none⟩ = some (.string (wd ws j))
  res : w.heap[w0.heap.size]? = some (.cells Z T (0, 0))
  vr : Vr w
  xb : 0 < ws.length → x < w0.heap.size
variable {w0 w w' : World} {x : Nat} {ws : List ByteArray} {Z : Array Value} {T : TypeId}
theorem Rg.below (r : Rg w0 x ws Z T w) (hb : Below w.heap.size w w') : Rg w0 x ws Z T w' :=
  ⟨belowCat r.bel hb, fun j hj => cell_later hb (r.row j hj), (hb.block _ (lt_of_heap r.res)).trans r.res, r.vr.below hb, r.xb⟩
theorem Rg.drew (r : Rg w0 x ws Z T w) : Rg w0 x ws Z T w.drew := r.below ((Below.refl _ w).drew)
theorem cell_blk {w : World} {p : Addr} {v : Value} (h : w.cell? p = some v) : p.block < w.heap.size := by
  rcases Nat.lt_or_ge p.block w.heap.size with hlt | hge
  · exact hlt
  · simp [World.cell?, Array.getElem?_eq_none hge] at h
theorem Rg.start (v : Vr w) (hx : ∀ j, j < ws.length → w.cell? ⟨x, j, none⟩ = some (.string (wd ws j))) : Rg w x ws Z T (w.alloc (.cells Z T (0, 0))) :=
  ⟨(Below.refl _ _).alloc (Nat.le_refl _) _, fun j hj => cell_later ((Below.refl _ _).alloc (Nat.le_refl _) _) (hx j hj), heap_alloc_at _ _, v.alloc _, fun h => by exact cell_blk (hx 0 h)⟩
theorem cell_ne {w : World} {p q : Addr} {v u : Value} (h : w.cell? p = some v) (hn : p.block ≠ q.block) : (w.setCell q u).cell? p = some v :=
  (World.cell?_of_block (Below.heap_setCell w q u p.block hn)).trans h
theorem Rg.rows (r : Rg w0 x ws Z T w) {j : Nat} (hj : j < ws.length) {u : Value} {i : Nat} : (w.setCell ⟨w0.heap.size, i, none⟩ u).cell? ⟨x, j, none⟩ = some (.string (wd ws j)) :=
  cell_ne (r.row j hj) (Nat.ne_of_lt (r.xb (by omega)))
theorem cell_ne3 {w : World} {p : Addr} {v a b c : Value} {g : Nat} (h : w.cell? p = some v) (hn : p.block ≠ g) : (((w.setCell ⟨g, 0, none⟩ a).setCell ⟨g, 1, none⟩ b).setCell ⟨g, 2, none⟩ c).cell? p = some v :=
  cell_ne (cell_ne (cell_ne h hn) hn) hn
theorem cell_ne6 {w : World} {p : Addr} {v a b c d e f : Value} {g : Nat} (h : w.cell? p = some v) (hn : p.block ≠ g) :
    ((((((w.setCell ⟨g, 0, none⟩ a).setCell ⟨g, 1, none⟩ b).setCell ⟨g, 2, none⟩ c).setCell ⟨g, 3, none⟩ d).setCell ⟨g, 4, none⟩ e).setCell ⟨g, 5, none⟩ f).cell? p = some v :=
  cell_ne (cell_ne (cell_ne (cell_ne3 h hn) hn) hn) hn
abbrev rgZ : Array Value := #[.int .u32 0, .int .u32 0, .string ⟨#[]⟩, .string ⟨#[]⟩, .string ⟨#[]⟩, .bool false]
def rgC (i : It) : Array Value := (.int .u32 (i.a : Int) :: .int .u32 (i.b : Int) :: i.r).toArray
theorem rgOf_no6 {ws : List ByteArray} (h : ws.length ≠ 6) : rgOf ws = none := by unfold rgOf; rw [if_neg h]
theorem rgOf_6 {ws : List ByteArray} (h : ws.length = 6) : rgOf ws = (spV (bs (wd ws 0)) (bs (wd ws 1))).bind fun p => if (ctV (bs (wd ws 2)) && nmV 3 (bs (wd ws 3)) && jnV (wd ws 4) && edV (wd ws 5)) = true then some ⟨p.1, p.2, [.string (wd ws 2), .string (wd ws 3), .string (wd ws 4), .bool ((wd ws 5).toList == [110, 101, 119])]⟩ else none := by
  unfold rgOf
  rw [if_pos h]
  cases spV (bs (wd ws 0)) (bs (wd ws 1)) <;> rfl
set_option maxHeartbeats 3200000 in
theorem rangeOf_any (x : Nat) (ws : List ByteArray) (cap : Nat) (w : World) (v : Vr w) (hx : ∀ j, j < ws.length → w.cell? ⟨x, j, none⟩ = some (.string (wd ws j))) (hz : ∀ j, (wd ws j).size ≤ 4000000000) (hl : ws.length ≤ 4000000000) :
    Calls Tryz.prog 63 #[.slice (some ⟨x, 0, none⟩) ws.length cap] w fun e w' => e = itR rgZ rgC (rgOf ws) ∧ Below w.heap.size w w' := by
  have R0 := hid (Rg.start (Z := rgZ) (T := 49) v hx)
  by_cases hN : ws.length = 6
  · have hE := rgOf_6 hN
    obtain ⟨O, hO⟩ : ∃ O, spV (bs (wd ws 0)) (bs (wd ws 1)) = O := ⟨_, rfl⟩
    obtain ⟨a, ha⟩ : ∃ a, (O.getD (0, 0)).1 = a := ⟨_, rfl⟩
    obtain ⟨b, hb⟩ : ∃ b, (O.getD (0, 0)).2 = b := ⟨_, rfl⟩
    obtain ⟨k, hk⟩ : ∃ k, O.isSome = k := ⟨_, rfl⟩
    have HSP := hid (show ∀ w, Calls Tryz.prog 88 #[.string (wd ws 0), .string (wd ws 1)] w fun e w' => e = .returned (.tuple #[.agg #[.int .u32 (a : Int), .int .u32 (b : Int)], .bool k]) ∧ Below w.heap.size w w' from fun w => (spanOf_any _ _ w (hz 0) (hz 1)).mono fun e w' h => ⟨by rw [h.1, hO, ← ha, ← hb, ← hk], h.2⟩)
    have HOE := hid (show O = if k = true then some (a, b) else none by cases O with | none => subst hk; rfl | some p => subst hk ha hb; rfl)
    obtain ⟨B2, hB2⟩ : ∃ B, ctV (bs (wd ws 2)) = B := ⟨_, rfl⟩
    obtain ⟨B3, hB3⟩ : ∃ B, nmV 3 (bs (wd ws 3)) = B := ⟨_, rfl⟩
    obtain ⟨B4, hB4⟩ : ∃ B, jnV (wd ws 4) = B := ⟨_, rfl⟩
    obtain ⟨B5, hB5⟩ : ∃ B, edV (wd ws 5) = B := ⟨_, rfl⟩
    rw [hO, HOE.out, hB2, hB3, hB4, hB5] at hE
    have HE := hid hE
    have H2 := hid hB2
    have H3 := hid hB3
    have H4 := hid hB4
    have H5 := hid hB5
    have HZ := hid hz
    have n0 : 0 < ws.length := by omega
    have m0 : (0 : Int) < (ws.length : Int) := by omega
    have n1 : 1 < ws.length := by omega
    have m1 : (1 : Int) < (ws.length : Int) := by omega
    have n2 : 2 < ws.length := by omega
    have m2 : (2 : Int) < (ws.length : Int) := by omega
    have n3 : 3 < ws.length := by omega
    have m3 : (3 : Int) < (ws.length : Int) := by omega
    have n4 : 4 < ws.length := by omega
    have m4 : (4 : Int) < (ws.length : Int) := by omega
    have n5 : 5 < ws.length := by omega
    have m5 : (5 : Int) < (ws.length : Int) := by omega
    have eN : ((ws.length : Int) != 6) = false := by simp [hN]
    clear hE hO hB2 hB3 hB4 hB5 hz hN hx v ha hb hk HOE
    rw [HE.out]
    go_enter Tryz.func63, Tryz.ntmps63
    go_upto_region 3 with fail
    obtain ⟨W, hW⟩ : ∃ W, w.alloc (.cells rgZ 49) = W := ⟨_, rfl⟩
    rw [hW] at R0
    simp only [rgZ] at hW
    rw [hW]
    clear hW
    have KB := hid (show ∀ w', Below W.heap.size W w' → w'.cell? ⟨x, 0, none⟩ = some (.string (wd ws 0)) ∧ w'.cell? ⟨x, 1, none⟩ = some (.string (wd ws 1)) from fun w' hb => ⟨cell_later hb (R0.out.row 0 n0), cell_later hb (R0.out.row 1 n1)⟩)
    go_cut [4, 5] from 6 to 68 (fun p o wx => o = .bool k ∧ ∃ z, p = .pointer (some ⟨z, 0, none⟩) ∧ W.heap.size ≤ z ∧ wx.heap[z]? = some (.cells #[.int .u32 (a : Int), .int .u32 (b : Int)] 47 (0, 0)) ∧ Below W.heap.size W wx)
    case first =>
      refine wp_region_held_drew (S := (fun w' => w'.cell? ⟨x, 0, none⟩ = some (.string (wd ws 0)) ∧ w'.cell? ⟨x, 1, none⟩ = some (.string (wd ws 1)))) (by kernel_rfl) (KB.out _ (blw_drew (Below.refl _ _))) (fun hHeld => ?_)
      refine tk_at (i := 0) (d := some 11) (v := ?_) rfl rfl (by kernel_rfl) (by kernel_rfl) (by kernel_rfl) (fun _ _ _ h => h) (Or.inl ⟨by rfl, ?_⟩) (by assumption) ?_
      rotate_left
      · (intro w hSw; (try dsimp only at hSw); go_simp; try (with_reducible rfl))
      simp only [Act.put, List.setIfInBounds_toArray, List.set_cons_zero, List.set_cons_succ]
      refine tk_at (i := 1) (d := some 12) (v := ?_) rfl rfl (by kernel_rfl) (by kernel_rfl) (by kernel_rfl) (fun _ _ _ h => h) (Or.inl ⟨by rfl, ?_⟩) (by assumption) ?_
      rotate_left
      · (intro w hSw; (try dsimp only at hSw); go_simp; try (with_reducible rfl))
      simp only [Act.put, List.setIfInBounds_toArray, List.set_cons_zero, List.set_cons_succ]
      refine tk_at (i := 2) (d := some 13) (v := ?_) rfl rfl (by kernel_rfl) (by kernel_rfl) (by kernel_rfl) (fun _ _ _ h => h) (Or.inl ⟨by rfl, ?_⟩) (by assumption) ?_
      rotate_left
      · (intro w hSw; (try dsimp only at hSw); go_simp; try (with_reducible rfl))
      simp only [Act.put, List.setIfInBounds_toArray, List.set_cons_zero, List.set_cons_succ]
      refine tk_at (i := 3) (d := some 14) (v := ?_) rfl rfl (by kernel_rfl) (by kernel_rfl) (by kernel_rfl) (fun _ _ _ h => h) (Or.inl ⟨by rfl, ?_⟩) (by assumption) ?_
      rotate_left
      · (intro w hSw; (try dsimp only at hSw); go_simp; try (with_reducible rfl))
      simp only [Act.put, List.setIfInBounds_toArray, List.set_cons_zero, List.set_cons_succ]
      refine tk_at (i := 4) (d := some 15) (v := ?_) rfl rfl (by kernel_rfl) (by kernel_rfl) (by kernel_rfl) (fun _ _ _ h => h) (Or.inl ⟨by rfl, ?_⟩) (by assumption) ?_
      rotate_left
      · (intro w hSw; (try dsimp only at hSw); go_simp; try (with_reducible rfl))
      simp only [Act.put, List.setIfInBounds_toArray, List.set_cons_zero, List.set_cons_succ]
      refine tk_at (i := 5) (d := some 16) (v := ?_) rfl rfl (by kernel_rfl) (by kernel_rfl) (by kernel_rfl) (fun _ _ _ h => h) (Or.inl ⟨by rfl, ?_⟩) (by assumption) ?_
      rotate_left
      · (intro w hSw; (try dsimp only at hSw); go_simp; try (with_reducible rfl))
      simp only [Act.put, List.setIfInBounds_toArray, List.set_cons_zero, List.set_cons_succ]
      clear hHeld
      clear n0 m0 n1 m1 n2 m2 n3 m3 n4 m4 n5 m5 eN hl
      refine wpAnyH_inv0 (fun aC0 lsC aC wC => ∃ (b6 b7 b8 b9 b10 b11 b12 : Bool) (pp x6 x7 x8 x9 x12 : Value), lsC = #[true, true, true, true, true, true, b6, b7, b8, b9, b10, b11, b12] ∧ aC = { aC0 with tmps := ((((((aC0.tmps.setIfInBounds 17 x6).setIfInBounds 10 x7).setIfInBounds 18 x8).setIfInBounds 19 x9).setIfInBounds 5 x12).setIfInBounds 4 pp) } ∧ (b6 = true → x6 = .tuple #[.agg #[.int .u32 (a : Int), .int .u32 (b : Int)], .bool k]) ∧ (b7 = true → x7 = .tuple #[.agg #[.int .u32 (a : Int), .int .u32 (b : Int)], .bool k]) ∧ (b8 = true → x8 = .agg #[.int .u32 (a : Int), .int .u32 (b : Int)]) ∧ (b9 = true → x9 = .bool k) ∧ (b12 = true → x12 = .bool k) ∧ Below W.heap.size W wC ∧ OwnC W wC b10 b11 pp #[.int .u32 0, .int .u32 0] #[.int .u32 (a : Int), .int .u32 (b : Int)] 47 ∧ (b10 || !b11) = true) ?_ _ _ _ (by decide +kernel) (fun aS => ⟨false, false, false, false, false, false, false, aS.tmps.getD 4 undef, aS.tmps.getD 17 undef, aS.tmps.getD 10 undef, aS.tmps.getD 18 undef, aS.tmps.getD 19 undef, aS.tmps.getD 5 undef, by kernel_rfl, by simp only [set_self], fun h => (by cases h), fun h => (by cases h), fun h => (by cases h), fun h => (by cases h), fun h => (by cases h), blw_drew (Below.refl _ _), OwnC.none, rfl⟩)
      intro lsC aC wC ⟨b6, b7, b8, b9, b10, b11, b12, pp, x6, x7, x8, x9, x12, hl, ha, hx6, hx7, hx8, hx9, hx12, hBw, hpp, hcc⟩
      subst hl ha
      have Hx6 := hid hx6
      have Hx7 := hid hx7
      have Hx8 := hid hx8
      have Hx9 := hid hx9
      have Hx12 := hid hx12
      have HBW := hid hBw
      have HPP := hid hpp
      have HCC := hid hcc
      clear hx6 hx7 hx8 hx9 hx12 hBw hpp hcc
      simp only [List.setIfInBounds_toArray, List.set_cons_zero, List.set_cons_succ]
      refine ⟨fun hr => ?_, fun i hi => ?_⟩
      · have hall : (b6 && b7 && b8 && b9 && b10 && b11 && b12) = true := by
          clear Hx6 Hx7 Hx8 Hx9 Hx12 HBW HPP HCC
          revert b6 b7 b8 b9 b10 b11 b12
          decide +kernel
        simp only [Bool.and_eq_true] at hall
        obtain ⟨⟨⟨⟨⟨⟨rfl, rfl⟩, rfl⟩, rfl⟩, rfl⟩, rfl⟩, rfl⟩ := hall
        obtain ⟨z, rfl, hz1, hz2⟩ := HPP.out rfl
        obtain rfl := Hx6.out rfl
        obtain rfl := Hx7.out rfl
        obtain rfl := Hx8.out rfl
        obtain rfl := Hx9.out rfl
        obtain rfl := Hx12.out rfl
        have HR := hid (And.intro hz1 (And.intro hz2 HBW.out))
        clear hz1 hz2 Hx6 Hx7 Hx8 Hx9 Hx12 HBW HPP HCC hr
        (try dsimp only)
        go_wp2_with fail
        go_meet
        case rel => exact ⟨rfl, z, rfl, HR.out.1, HR.out.2.1, HR.out.2.2⟩
      · have hcase : (i = 6 ∧ b6 = false) ∨ (i = 7 ∧ b7 = false ∧ b6 = true) ∨ (i = 8 ∧ b8 = false ∧ b7 = true) ∨ (i = 9 ∧ b9 = false ∧ b7 = true) ∨ (i = 12 ∧ b12 = false ∧ b9 = true ∧ b11 = true) ∨ (i = 10 ∧ b10 = false) ∨ (i = 11 ∧ b11 = false ∧ b10 = true ∧ b8 = true) := by
          refine of_decide_eq_true ((List.all_eq_true (p := fun i => decide ((i = 6 ∧ b6 = false) ∨ (i = 7 ∧ b7 = false ∧ b6 = true) ∨ (i = 8 ∧ b8 = false ∧ b7 = true) ∨ (i = 9 ∧ b9 = false ∧ b7 = true) ∨ (i = 12 ∧ b12 = false ∧ b9 = true ∧ b11 = true) ∨ (i = 10 ∧ b10 = false) ∨ (i = 11 ∧ b11 = false ∧ b10 = true ∧ b8 = true)))).1 ?_ i hi)
          clear Hx6 Hx7 Hx8 Hx9 Hx12 HBW HPP HCC hi
          revert b6 b7 b8 b9 b10 b11 b12
          decide +kernel
        clear hi
        rcases hcase with ⟨rfl, rfl⟩ | ⟨rfl, rfl, rfl⟩ | ⟨rfl, rfl, rfl⟩ | ⟨rfl, rfl, rfl⟩ | ⟨rfl, rfl, rfl, rfl⟩ | ⟨rfl, rfl⟩ | ⟨rfl, rfl, rfl, rfl⟩
        · refine wpOp_shut rfl (fun K hK => ?_)
          go_simp
          refine (HSP.out _).mono ?_
          rintro e wa ⟨rfl, hBa⟩
          have HBa := hid hBa
          clear hBa
          go_wp2_with fail
          have hB3 := belowCat HBW.out HBa.out
          exact hK.out _ _ ⟨KB.out _ hB3, true, b7, b8, b9, b10, b11, b12, _, _, _, _, _, _, by kernel_rfl, rfl, fun _ => rfl, Hx7.out, Hx8.out, Hx9.out, Hx12.out, hB3, HPP.out.below HBa.out, HCC.out⟩
        · obtain rfl := Hx6.out rfl
          refine wpOp_shut rfl (fun K hK => ?_)
          go_simp
          go_wp2_with fail
          exact hK.out _ _ ⟨KB.out _ HBW.out, true, true, b8, b9, b10, b11, b12, _, _, _, _, _, _, by kernel_rfl, rfl, fun _ => rfl, fun _ => rfl, Hx8.out, Hx9.out, Hx12.out, HBW.out, HPP.out, HCC.out⟩
        · obtain rfl := Hx7.out rfl
          refine wpOp_shut rfl (fun K hK => ?_)
          go_simp
          go_wp2_with fail
          exact hK.out _ _ ⟨KB.out _ HBW.out, b6, true, true, b9, b10, b11, b12, _, _, _, _, _, _, by kernel_rfl, rfl, Hx6.out, fun _ => rfl, fun _ => rfl, Hx9.out, Hx12.out, HBW.out, HPP.out, HCC.out⟩
        · obtain rfl := Hx7.out rfl
          refine wpOp_shut rfl (fun K hK => ?_)
          go_simp
          go_wp2_with fail
          exact hK.out _ _ ⟨KB.out _ HBW.out, b6, true, b8, true, b10, b11, b12, _, _, _, _, _, _, by kernel_rfl, rfl, Hx6.out, fun _ => rfl, Hx8.out, fun _ => rfl, Hx12.out, HBW.out, HPP.out, HCC.out⟩
        · obtain rfl := Hx9.out rfl
          refine wpOp_shut rfl (fun K hK => ?_)
          go_simp
          go_wp2_with fail
          exact hK.out _ _ ⟨KB.out _ HBW.out, b6, b7, b8, true, b10, true, true, _, _, _, _, _, _, by kernel_rfl, rfl, Hx6.out, Hx7.out, Hx8.out, fun _ => rfl, fun _ => rfl, HBW.out, HPP.out, HCC.out⟩
        · obtain rfl : b11 = false := by have := HCC.out; revert this; cases b11 <;> simp
          refine wpOp_shut rfl (fun K hK => ?_)
          go_simp
          go_wp2_with fail
          have hBa := (Below.refl wC.heap.size wC).alloc (Nat.le_refl _) (.cells #[.int .u32 0, .int .u32 0] 47 (0, 0))
          have hB3 := belowCat HBW.out hBa
          exact hK.out _ _ ⟨KB.out _ hB3, b6, b7, b8, b9, true, false, b12, _, _, _, _, _, _, by kernel_rfl, rfl, Hx6.out, Hx7.out, Hx8.out, Hx9.out, Hx12.out, hB3, OwnC.new HBW.out, rfl⟩
        · obtain ⟨z, rfl, hz1, hz2⟩ := HPP.out rfl
          obtain rfl := Hx8.out rfl
          have c0 := cell_of_heap (i := 0) hz2 rfl
          have c1 := cell_of_heap (i := 1) hz2 rfl
          have g0 := frozen_of_heap (i := 0) hz2
          have g1 := frozen_of_heap (i := 1) hz2
          have HZ := hid (And.intro hz1 hz2)
          clear hz1 hz2
          refine wpOp_shut rfl (fun K hK => ?_)
          go_simp
          go_wp2_with fail
          exact hK.out _ _ ⟨KB.out _ ((HBW.out.setCell (p := ⟨z, 0, none⟩) HZ.out.1 _).setCell (p := ⟨z, 1, none⟩) HZ.out.1 _), b6, b7, true, b9, true, true, b12, _, _, _, _, _, _, by kernel_rfl, rfl, Hx6.out, Hx7.out, fun _ => rfl, Hx9.out, Hx12.out, ((HBW.out.setCell (p := ⟨z, 0, none⟩) HZ.out.1 _).setCell (p := ⟨z, 1, none⟩) HZ.out.1 _), fun _ => ⟨z, rfl, HZ.out.1, set2 HZ.out.2⟩, rfl⟩
    case rest =>
      obtain ⟨rfl, z, rfl, hz1, hz2, hB⟩ := hcut
      have R1 := hid (R0.out.below hB)
      have HZB := hid (And.intro hz2 (show z ≠ w.heap.size from fun e => by have := lt_of_heap R0.out.res; omega))
      clear hz1 hz2 hB KB R0
      cases k with
      | false =>
        have k0 : wc.cell? ⟨w.heap.size, 0, none⟩ = some (.int .u32 0) := cell_of_heap R1.out.res rfl
        have k1 : wc.cell? ⟨w.heap.size, 1, none⟩ = some (.int .u32 0) := cell_of_heap R1.out.res rfl
        have k2 : wc.cell? ⟨w.heap.size, 2, none⟩ = some (.string ⟨#[]⟩) := cell_of_heap R1.out.res rfl
        have k3 : wc.cell? ⟨w.heap.size, 3, none⟩ = some (.string ⟨#[]⟩) := cell_of_heap R1.out.res rfl
        have k4 : wc.cell? ⟨w.heap.size, 4, none⟩ = some (.string ⟨#[]⟩) := cell_of_heap R1.out.res rfl
        have k5 : wc.cell? ⟨w.heap.size, 5, none⟩ = some (.bool false) := cell_of_heap R1.out.res rfl
        have f0 := frozen_of_heap (i := 0) R1.out.res
        have f1 := frozen_of_heap (i := 1) R1.out.res
        have f2 := frozen_of_heap (i := 2) R1.out.res
        have f3 := frozen_of_heap (i := 3) R1.out.res
        have f4 := frozen_of_heap (i := 4) R1.out.res
        have f5 := frozen_of_heap (i := 5) R1.out.res
        go_wp2
        have dd := set6 (a := .int .u32 0) (b := .int .u32 0) (c := .string ⟨#[]⟩) (d := .string ⟨#[]⟩) (e := .string ⟨#[]⟩) (f := .bool false) R1.out.res
        have d0 : ((((((wc.setCell ⟨w.heap.size, 0, none⟩ (.int .u32 0)).setCell ⟨w.heap.size, 1, none⟩ (.int .u32 0)).setCell ⟨w.heap.size, 2, none⟩ (.string ⟨#[]⟩)).setCell ⟨w.heap.size, 3, none⟩ (.string ⟨#[]⟩)).setCell ⟨w.heap.size, 4, none⟩ (.string ⟨#[]⟩)).setCell ⟨w.heap.size, 5, none⟩ (.bool false)).cell? ⟨w.heap.size, 0, none⟩ = some (.int .u32 0) := cell_of_heap dd rfl
        have d1 : ((((((wc.setCell ⟨w.heap.size, 0, none⟩ (.int .u32 0)).setCell ⟨w.heap.size, 1, none⟩ (.int .u32 0)).setCell ⟨w.heap.size, 2, none⟩ (.string ⟨#[]⟩)).setCell ⟨w.heap.size, 3, none⟩ (.string ⟨#[]⟩)).setCell ⟨w.heap.size, 4, none⟩ (.string ⟨#[]⟩)).setCell ⟨w.heap.size, 5, none⟩ (.bool false)).cell? ⟨w.heap.size, 1, none⟩ = some (.int .u32 0) := cell_of_heap dd rfl
        have d2 : ((((((wc.setCell ⟨w.heap.size, 0, none⟩ (.int .u32 0)).setCell ⟨w.heap.size, 1, none⟩ (.int .u32 0)).setCell ⟨w.heap.size, 2, none⟩ (.string ⟨#[]⟩)).setCell ⟨w.heap.size, 3, none⟩ (.string ⟨#[]⟩)).setCell ⟨w.heap.size, 4, none⟩ (.string ⟨#[]⟩)).setCell ⟨w.heap.size, 5, none⟩ (.bool false)).cell? ⟨w.heap.size, 2, none⟩ = some (.string ⟨#[]⟩) := cell_of_heap dd rfl
        have d3 : ((((((wc.setCell ⟨w.heap.size, 0, none⟩ (.int .u32 0)).setCell ⟨w.heap.size, 1, none⟩ (.int .u32 0)).setCell ⟨w.heap.size, 2, none⟩ (.string ⟨#[]⟩)).setCell ⟨w.heap.size, 3, none⟩ (.string ⟨#[]⟩)).setCell ⟨w.heap.size, 4, none⟩ (.string ⟨#[]⟩)).setCell ⟨w.heap.size, 5, none⟩ (.bool false)).cell? ⟨w.heap.size, 3, none⟩ = some (.string ⟨#[]⟩) := cell_of_heap dd rfl
        have d4 : ((((((wc.setCell ⟨w.heap.size, 0, none⟩ (.int .u32 0)).setCell ⟨w.heap.size, 1, none⟩ (.int .u32 0)).setCell ⟨w.heap.size, 2, none⟩ (.string ⟨#[]⟩)).setCell ⟨w.heap.size, 3, none⟩ (.string ⟨#[]⟩)).setCell ⟨w.heap.size, 4, none⟩ (.string ⟨#[]⟩)).setCell ⟨w.heap.size, 5, none⟩ (.bool false)).cell? ⟨w.heap.size, 4, none⟩ = some (.string ⟨#[]⟩) := cell_of_heap dd rfl
        have d5 : ((((((wc.setCell ⟨w.heap.size, 0, none⟩ (.int .u32 0)).setCell ⟨w.heap.size, 1, none⟩ (.int .u32 0)).setCell ⟨w.heap.size, 2, none⟩ (.string ⟨#[]⟩)).setCell ⟨w.heap.size, 3, none⟩ (.string ⟨#[]⟩)).setCell ⟨w.heap.size, 4, none⟩ (.string ⟨#[]⟩)).setCell ⟨w.heap.size, 5, none⟩ (.bool false)).cell? ⟨w.heap.size, 5, none⟩ = some (.bool false) := cell_of_heap dd rfl
        exact bodyPost_ret (v := .tuple #[.agg #[.int .u32 0, .int .u32 0, .string ⟨#[]⟩, .string ⟨#[]⟩, .string ⟨#[]⟩, .bool false], .bool false]) (by simp only [results, Tryz.results63]; simp [go_sem, d0, d1, d2, d3, d4, d5]) rfl ⟨rfl, ((((((R1.out.bel.setCell (p := ⟨w.heap.size, 0, none⟩) (Nat.le_refl _) _).setCell (p := ⟨w.heap.size, 1, none⟩) (Nat.le_refl _) _).setCell (p := ⟨w.heap.size, 2, none⟩) (Nat.le_refl _) _).setCell (p := ⟨w.heap.size, 3, none⟩) (Nat.le_refl _) _).setCell (p := ⟨w.heap.size, 4, none⟩) (Nat.le_refl _) _).setCell (p := ⟨w.heap.size, 5, none⟩) (Nat.le_refl _) _)⟩
      | true =>
        have c2 := R1.out.row 2 n2
        go_wp2_with fail
        refine (isCategory_any (wd ws 2) _ (HZ.out 2)).mono ?_
        rintro e w' ⟨rfl, hw⟩
        subst w'
        rw [H2.out]
        cases B2 with
        | false =>
          have k0 : wc.cell? ⟨w.heap.size, 0, none⟩ = some (.int .u32 0) := cell_of_heap R1.out.res rfl
          have k1 : wc.cell? ⟨w.heap.size, 1, none⟩ = some (.int .u32 0) := cell_of_heap R1.out.res rfl
          have k2 : wc.cell? ⟨w.heap.size, 2, none⟩ = some (.string ⟨#[]⟩) := cell_of_heap R1.out.res rfl
          have k3 : wc.cell? ⟨w.heap.size, 3, none⟩ = some (.string ⟨#[]⟩) := cell_of_heap R1.out.res rfl
          have k4 : wc.cell? ⟨w.heap.size, 4, none⟩ = some (.string ⟨#[]⟩) := cell_of_heap R1.out.res rfl
          have k5 : wc.cell? ⟨w.heap.size, 5, none⟩ = some (.bool false) := cell_of_heap R1.out.res rfl
          have f0 := frozen_of_heap (i := 0) R1.out.res
          have f1 := frozen_of_heap (i := 1) R1.out.res
          have f2 := frozen_of_heap (i := 2) R1.out.res
          have f3 := frozen_of_heap (i := 3) R1.out.res
          have f4 := frozen_of_heap (i := 4) R1.out.res
          have f5 := frozen_of_heap (i := 5) R1.out.res
          go_wp2
          have dd := set6 (a := .int .u32 0) (b := .int .u32 0) (c := .string ⟨#[]⟩) (d := .string ⟨#[]⟩) (e := .string ⟨#[]⟩) (f := .bool false) R1.out.res
          have d0 : ((((((wc.setCell ⟨w.heap.size, 0, none⟩ (.int .u32 0)).setCell ⟨w.heap.size, 1, none⟩ (.int .u32 0)).setCell ⟨w.heap.size, 2, none⟩ (.string ⟨#[]⟩)).setCell ⟨w.heap.size, 3, none⟩ (.string ⟨#[]⟩)).setCell ⟨w.heap.size, 4, none⟩ (.string ⟨#[]⟩)).setCell ⟨w.heap.size, 5, none⟩ (.bool false)).cell? ⟨w.heap.size, 0, none⟩ = some (.int .u32 0) := cell_of_heap dd rfl
          have d1 : ((((((wc.setCell ⟨w.heap.size, 0, none⟩ (.int .u32 0)).setCell ⟨w.heap.size, 1, none⟩ (.int .u32 0)).setCell ⟨w.heap.size, 2, none⟩ (.string ⟨#[]⟩)).setCell ⟨w.heap.size, 3, none⟩ (.string ⟨#[]⟩)).setCell ⟨w.heap.size, 4, none⟩ (.string ⟨#[]⟩)).setCell ⟨w.heap.size, 5, none⟩ (.bool false)).cell? ⟨w.heap.size, 1, none⟩ = some (.int .u32 0) := cell_of_heap dd rfl
          have d2 : ((((((wc.setCell ⟨w.heap.size, 0, none⟩ (.int .u32 0)).setCell ⟨w.heap.size, 1, none⟩ (.int .u32 0)).setCell ⟨w.heap.size, 2, none⟩ (.string ⟨#[]⟩)).setCell ⟨w.heap.size, 3, none⟩ (.string ⟨#[]⟩)).setCell ⟨w.heap.size, 4, none⟩ (.string ⟨#[]⟩)).setCell ⟨w.heap.size, 5, none⟩ (.bool false)).cell? ⟨w.heap.size, 2, none⟩ = some (.string ⟨#[]⟩) := cell_of_heap dd rfl
          have d3 : ((((((wc.setCell ⟨w.heap.size, 0, none⟩ (.int .u32 0)).setCell ⟨w.heap.size, 1, none⟩ (.int .u32 0)).setCell ⟨w.heap.size, 2, none⟩ (.string ⟨#[]⟩)).setCell ⟨w.heap.size, 3, none⟩ (.string ⟨#[]⟩)).setCell ⟨w.heap.size, 4, none⟩ (.string ⟨#[]⟩)).setCell ⟨w.heap.size, 5, none⟩ (.bool false)).cell? ⟨w.heap.size, 3, none⟩ = some (.string ⟨#[]⟩) := cell_of_heap dd rfl
          have d4 : ((((((wc.setCell ⟨w.heap.size, 0, none⟩ (.int .u32 0)).setCell ⟨w.heap.size, 1, none⟩ (.int .u32 0)).setCell ⟨w.heap.size, 2, none⟩ (.string ⟨#[]⟩)).setCell ⟨w.heap.size, 3, none⟩ (.string ⟨#[]⟩)).setCell ⟨w.heap.size, 4, none⟩ (.string ⟨#[]⟩)).setCell ⟨w.heap.size, 5, none⟩ (.bool false)).cell? ⟨w.heap.size, 4, none⟩ = some (.string ⟨#[]⟩) := cell_of_heap dd rfl
          have d5 : ((((((wc.setCell ⟨w.heap.size, 0, none⟩ (.int .u32 0)).setCell ⟨w.heap.size, 1, none⟩ (.int .u32 0)).setCell ⟨w.heap.size, 2, none⟩ (.string ⟨#[]⟩)).setCell ⟨w.heap.size, 3, none⟩ (.string ⟨#[]⟩)).setCell ⟨w.heap.size, 4, none⟩ (.string ⟨#[]⟩)).setCell ⟨w.heap.size, 5, none⟩ (.bool false)).cell? ⟨w.heap.size, 5, none⟩ = some (.bool false) := cell_of_heap dd rfl
          exact bodyPost_ret (v := .tuple #[.agg #[.int .u32 0, .int .u32 0, .string ⟨#[]⟩, .string ⟨#[]⟩, .string ⟨#[]⟩, .bool false], .bool false]) (by simp only [results, Tryz.results63]; simp [go_sem, d0, d1, d2, d3, d4, d5]) rfl ⟨rfl, ((((((R1.out.bel.setCell (p := ⟨w.heap.size, 0, none⟩) (Nat.le_refl _) _).setCell (p := ⟨w.heap.size, 1, none⟩) (Nat.le_refl _) _).setCell (p := ⟨w.heap.size, 2, none⟩) (Nat.le_refl _) _).setCell (p := ⟨w.heap.size, 3, none⟩) (Nat.le_refl _) _).setCell (p := ⟨w.heap.size, 4, none⟩) (Nat.le_refl _) _).setCell (p := ⟨w.heap.size, 5, none⟩) (Nat.le_refl _) _)⟩
        | true =>
          have c3 := R1.out.row 3 n3
          go_wp2_with fail
          refine (isName_any (wd ws 3) 3 _ (HZ.out 3) (by decide)).mono ?_
          rintro e w' ⟨rfl, hw⟩
          subst w'
          rw [H3.out]
          cases B3 with
          | false =>
            have k0 : wc.cell? ⟨w.heap.size, 0, none⟩ = some (.int .u32 0) := cell_of_heap R1.out.res rfl
            have k1 : wc.cell? ⟨w.heap.size, 1, none⟩ = some (.int .u32 0) := cell_of_heap R1.out.res rfl
            have k2 : wc.cell? ⟨w.heap.size, 2, none⟩ = some (.string ⟨#[]⟩) := cell_of_heap R1.out.res rfl
            have k3 : wc.cell? ⟨w.heap.size, 3, none⟩ = some (.string ⟨#[]⟩) := cell_of_heap R1.out.res rfl
            have k4 : wc.cell? ⟨w.heap.size, 4, none⟩ = some (.string ⟨#[]⟩) := cell_of_heap R1.out.res rfl
            have k5 : wc.cell? ⟨w.heap.size, 5, none⟩ = some (.bool false) := cell_of_heap R1.out.res rfl
            have f0 := frozen_of_heap (i := 0) R1.out.res
            have f1 := frozen_of_heap (i := 1) R1.out.res
            have f2 := frozen_of_heap (i := 2) R1.out.res
            have f3 := frozen_of_heap (i := 3) R1.out.res
            have f4 := frozen_of_heap (i := 4) R1.out.res
            have f5 := frozen_of_heap (i := 5) R1.out.res
            go_wp2
            have dd := set6 (a := .int .u32 0) (b := .int .u32 0) (c := .string ⟨#[]⟩) (d := .string ⟨#[]⟩) (e := .string ⟨#[]⟩) (f := .bool false) R1.out.res
            have d0 : ((((((wc.setCell ⟨w.heap.size, 0, none⟩ (.int .u32 0)).setCell ⟨w.heap.size, 1, none⟩ (.int .u32 0)).setCell ⟨w.heap.size, 2, none⟩ (.string ⟨#[]⟩)).setCell ⟨w.heap.size, 3, none⟩ (.string ⟨#[]⟩)).setCell ⟨w.heap.size, 4, none⟩ (.string ⟨#[]⟩)).setCell ⟨w.heap.size, 5, none⟩ (.bool false)).cell? ⟨w.heap.size, 0, none⟩ = some (.int .u32 0) := cell_of_heap dd rfl
            have d1 : ((((((wc.setCell ⟨w.heap.size, 0, none⟩ (.int .u32 0)).setCell ⟨w.heap.size, 1, none⟩ (.int .u32 0)).setCell ⟨w.heap.size, 2, none⟩ (.string ⟨#[]⟩)).setCell ⟨w.heap.size, 3, none⟩ (.string ⟨#[]⟩)).setCell ⟨w.heap.size, 4, none⟩ (.string ⟨#[]⟩)).setCell ⟨w.heap.size, 5, none⟩ (.bool false)).cell? ⟨w.heap.size, 1, none⟩ = some (.int .u32 0) := cell_of_heap dd rfl
            have d2 : ((((((wc.setCell ⟨w.heap.size, 0, none⟩ (.int .u32 0)).setCell ⟨w.heap.size, 1, none⟩ (.int .u32 0)).setCell ⟨w.heap.size, 2, none⟩ (.string ⟨#[]⟩)).setCell ⟨w.heap.size, 3, none⟩ (.string ⟨#[]⟩)).setCell ⟨w.heap.size, 4, none⟩ (.string ⟨#[]⟩)).setCell ⟨w.heap.size, 5, none⟩ (.bool false)).cell? ⟨w.heap.size, 2, none⟩ = some (.string ⟨#[]⟩) := cell_of_heap dd rfl
            have d3 : ((((((wc.setCell ⟨w.heap.size, 0, none⟩ (.int .u32 0)).setCell ⟨w.heap.size, 1, none⟩ (.int .u32 0)).setCell ⟨w.heap.size, 2, none⟩ (.string ⟨#[]⟩)).setCell ⟨w.heap.size, 3, none⟩ (.string ⟨#[]⟩)).setCell ⟨w.heap.size, 4, none⟩ (.string ⟨#[]⟩)).setCell ⟨w.heap.size, 5, none⟩ (.bool false)).cell? ⟨w.heap.size, 3, none⟩ = some (.string ⟨#[]⟩) := cell_of_heap dd rfl
            have d4 : ((((((wc.setCell ⟨w.heap.size, 0, none⟩ (.int .u32 0)).setCell ⟨w.heap.size, 1, none⟩ (.int .u32 0)).setCell ⟨w.heap.size, 2, none⟩ (.string ⟨#[]⟩)).setCell ⟨w.heap.size, 3, none⟩ (.string ⟨#[]⟩)).setCell ⟨w.heap.size, 4, none⟩ (.string ⟨#[]⟩)).setCell ⟨w.heap.size, 5, none⟩ (.bool false)).cell? ⟨w.heap.size, 4, none⟩ = some (.string ⟨#[]⟩) := cell_of_heap dd rfl
            have d5 : ((((((wc.setCell ⟨w.heap.size, 0, none⟩ (.int .u32 0)).setCell ⟨w.heap.size, 1, none⟩ (.int .u32 0)).setCell ⟨w.heap.size, 2, none⟩ (.string ⟨#[]⟩)).setCell ⟨w.heap.size, 3, none⟩ (.string ⟨#[]⟩)).setCell ⟨w.heap.size, 4, none⟩ (.string ⟨#[]⟩)).setCell ⟨w.heap.size, 5, none⟩ (.bool false)).cell? ⟨w.heap.size, 5, none⟩ = some (.bool false) := cell_of_heap dd rfl
            exact bodyPost_ret (v := .tuple #[.agg #[.int .u32 0, .int .u32 0, .string ⟨#[]⟩, .string ⟨#[]⟩, .string ⟨#[]⟩, .bool false], .bool false]) (by simp only [results, Tryz.results63]; simp [go_sem, d0, d1, d2, d3, d4, d5]) rfl ⟨by simp [itR], ((((((R1.out.bel.setCell (p := ⟨w.heap.size, 0, none⟩) (Nat.le_refl _) _).setCell (p := ⟨w.heap.size, 1, none⟩) (Nat.le_refl _) _).setCell (p := ⟨w.heap.size, 2, none⟩) (Nat.le_refl _) _).setCell (p := ⟨w.heap.size, 3, none⟩) (Nat.le_refl _) _).setCell (p := ⟨w.heap.size, 4, none⟩) (Nat.le_refl _) _).setCell (p := ⟨w.heap.size, 5, none⟩) (Nat.le_refl _) _)⟩
          | true =>
            have c4 := R1.out.row 4 n4
            go_wp2_with fail
            refine (isJoin_any (wd ws 4) _ R1.out.vr (HZ.out 4)).mono ?_
            rintro e w' ⟨rfl, hw⟩
            subst w'
            rw [H4.out]
            cases B4 with
            | false =>
              have k0 : wc.cell? ⟨w.heap.size, 0, none⟩ = some (.int .u32 0) := cell_of_heap R1.out.res rfl
              have k1 : wc.cell? ⟨w.heap.size, 1, none⟩ = some (.int .u32 0) := cell_of_heap R1.out.res rfl
              have k2 : wc.cell? ⟨w.heap.size, 2, none⟩ = some (.string ⟨#[]⟩) := cell_of_heap R1.out.res rfl
              have k3 : wc.cell? ⟨w.heap.size, 3, none⟩ = some (.string ⟨#[]⟩) := cell_of_heap R1.out.res rfl
              have k4 : wc.cell? ⟨w.heap.size, 4, none⟩ = some (.string ⟨#[]⟩) := cell_of_heap R1.out.res rfl
              have k5 : wc.cell? ⟨w.heap.size, 5, none⟩ = some (.bool false) := cell_of_heap R1.out.res rfl
              have f0 := frozen_of_heap (i := 0) R1.out.res
              have f1 := frozen_of_heap (i := 1) R1.out.res
              have f2 := frozen_of_heap (i := 2) R1.out.res
              have f3 := frozen_of_heap (i := 3) R1.out.res
              have f4 := frozen_of_heap (i := 4) R1.out.res
              have f5 := frozen_of_heap (i := 5) R1.out.res
              go_wp2
              have dd := set6 (a := .int .u32 0) (b := .int .u32 0) (c := .string ⟨#[]⟩) (d := .string ⟨#[]⟩) (e := .string ⟨#[]⟩) (f := .bool false) R1.out.res
              have d0 : ((((((wc.setCell ⟨w.heap.size, 0, none⟩ (.int .u32 0)).setCell ⟨w.heap.size, 1, none⟩ (.int .u32 0)).setCell ⟨w.heap.size, 2, none⟩ (.string ⟨#[]⟩)).setCell ⟨w.heap.size, 3, none⟩ (.string ⟨#[]⟩)).setCell ⟨w.heap.size, 4, none⟩ (.string ⟨#[]⟩)).setCell ⟨w.heap.size, 5, none⟩ (.bool false)).cell? ⟨w.heap.size, 0, none⟩ = some (.int .u32 0) := cell_of_heap dd rfl
              have d1 : ((((((wc.setCell ⟨w.heap.size, 0, none⟩ (.int .u32 0)).setCell ⟨w.heap.size, 1, none⟩ (.int .u32 0)).setCell ⟨w.heap.size, 2, none⟩ (.string ⟨#[]⟩)).setCell ⟨w.heap.size, 3, none⟩ (.string ⟨#[]⟩)).setCell ⟨w.heap.size, 4, none⟩ (.string ⟨#[]⟩)).setCell ⟨w.heap.size, 5, none⟩ (.bool false)).cell? ⟨w.heap.size, 1, none⟩ = some (.int .u32 0) := cell_of_heap dd rfl
              have d2 : ((((((wc.setCell ⟨w.heap.size, 0, none⟩ (.int .u32 0)).setCell ⟨w.heap.size, 1, none⟩ (.int .u32 0)).setCell ⟨w.heap.size, 2, none⟩ (.string ⟨#[]⟩)).setCell ⟨w.heap.size, 3, none⟩ (.string ⟨#[]⟩)).setCell ⟨w.heap.size, 4, none⟩ (.string ⟨#[]⟩)).setCell ⟨w.heap.size, 5, none⟩ (.bool false)).cell? ⟨w.heap.size, 2, none⟩ = some (.string ⟨#[]⟩) := cell_of_heap dd rfl
              have d3 : ((((((wc.setCell ⟨w.heap.size, 0, none⟩ (.int .u32 0)).setCell ⟨w.heap.size, 1, none⟩ (.int .u32 0)).setCell ⟨w.heap.size, 2, none⟩ (.string ⟨#[]⟩)).setCell ⟨w.heap.size, 3, none⟩ (.string ⟨#[]⟩)).setCell ⟨w.heap.size, 4, none⟩ (.string ⟨#[]⟩)).setCell ⟨w.heap.size, 5, none⟩ (.bool false)).cell? ⟨w.heap.size, 3, none⟩ = some (.string ⟨#[]⟩) := cell_of_heap dd rfl
              have d4 : ((((((wc.setCell ⟨w.heap.size, 0, none⟩ (.int .u32 0)).setCell ⟨w.heap.size, 1, none⟩ (.int .u32 0)).setCell ⟨w.heap.size, 2, none⟩ (.string ⟨#[]⟩)).setCell ⟨w.heap.size, 3, none⟩ (.string ⟨#[]⟩)).setCell ⟨w.heap.size, 4, none⟩ (.string ⟨#[]⟩)).setCell ⟨w.heap.size, 5, none⟩ (.bool false)).cell? ⟨w.heap.size, 4, none⟩ = some (.string ⟨#[]⟩) := cell_of_heap dd rfl
              have d5 : ((((((wc.setCell ⟨w.heap.size, 0, none⟩ (.int .u32 0)).setCell ⟨w.heap.size, 1, none⟩ (.int .u32 0)).setCell ⟨w.heap.size, 2, none⟩ (.string ⟨#[]⟩)).setCell ⟨w.heap.size, 3, none⟩ (.string ⟨#[]⟩)).setCell ⟨w.heap.size, 4, none⟩ (.string ⟨#[]⟩)).setCell ⟨w.heap.size, 5, none⟩ (.bool false)).cell? ⟨w.heap.size, 5, none⟩ = some (.bool false) := cell_of_heap dd rfl
              exact bodyPost_ret (v := .tuple #[.agg #[.int .u32 0, .int .u32 0, .string ⟨#[]⟩, .string ⟨#[]⟩, .string ⟨#[]⟩, .bool false], .bool false]) (by simp only [results, Tryz.results63]; simp [go_sem, d0, d1, d2, d3, d4, d5]) rfl ⟨by simp [itR], ((((((R1.out.bel.setCell (p := ⟨w.heap.size, 0, none⟩) (Nat.le_refl _) _).setCell (p := ⟨w.heap.size, 1, none⟩) (Nat.le_refl _) _).setCell (p := ⟨w.heap.size, 2, none⟩) (Nat.le_refl _) _).setCell (p := ⟨w.heap.size, 3, none⟩) (Nat.le_refl _) _).setCell (p := ⟨w.heap.size, 4, none⟩) (Nat.le_refl _) _).setCell (p := ⟨w.heap.size, 5, none⟩) (Nat.le_refl _) _)⟩
            | true =>
              have c5 := R1.out.row 5 n5
              go_wp2_with fail
              refine (isEdition_any (wd ws 5) _).mono ?_
              rintro e w' ⟨rfl, hw⟩
              subst w'
              rw [H5.out]
              cases B5 with
              | false =>
                have k0 : wc.cell? ⟨w.heap.size, 0, none⟩ = some (.int .u32 0) := cell_of_heap R1.out.res rfl
                have k1 : wc.cell? ⟨w.heap.size, 1, none⟩ = some (.int .u32 0) := cell_of_heap R1.out.res rfl
                have k2 : wc.cell? ⟨w.heap.size, 2, none⟩ = some (.string ⟨#[]⟩) := cell_of_heap R1.out.res rfl
                have k3 : wc.cell? ⟨w.heap.size, 3, none⟩ = some (.string ⟨#[]⟩) := cell_of_heap R1.out.res rfl
                have k4 : wc.cell? ⟨w.heap.size, 4, none⟩ = some (.string ⟨#[]⟩) := cell_of_heap R1.out.res rfl
                have k5 : wc.cell? ⟨w.heap.size, 5, none⟩ = some (.bool false) := cell_of_heap R1.out.res rfl
                have f0 := frozen_of_heap (i := 0) R1.out.res
                have f1 := frozen_of_heap (i := 1) R1.out.res
                have f2 := frozen_of_heap (i := 2) R1.out.res
                have f3 := frozen_of_heap (i := 3) R1.out.res
                have f4 := frozen_of_heap (i := 4) R1.out.res
                have f5 := frozen_of_heap (i := 5) R1.out.res
                go_wp2
                have dd := set6 (a := .int .u32 0) (b := .int .u32 0) (c := .string ⟨#[]⟩) (d := .string ⟨#[]⟩) (e := .string ⟨#[]⟩) (f := .bool false) R1.out.res
                have d0 : ((((((wc.setCell ⟨w.heap.size, 0, none⟩ (.int .u32 0)).setCell ⟨w.heap.size, 1, none⟩ (.int .u32 0)).setCell ⟨w.heap.size, 2, none⟩ (.string ⟨#[]⟩)).setCell ⟨w.heap.size, 3, none⟩ (.string ⟨#[]⟩)).setCell ⟨w.heap.size, 4, none⟩ (.string ⟨#[]⟩)).setCell ⟨w.heap.size, 5, none⟩ (.bool false)).cell? ⟨w.heap.size, 0, none⟩ = some (.int .u32 0) := cell_of_heap dd rfl
                have d1 : ((((((wc.setCell ⟨w.heap.size, 0, none⟩ (.int .u32 0)).setCell ⟨w.heap.size, 1, none⟩ (.int .u32 0)).setCell ⟨w.heap.size, 2, none⟩ (.string ⟨#[]⟩)).setCell ⟨w.heap.size, 3, none⟩ (.string ⟨#[]⟩)).setCell ⟨w.heap.size, 4, none⟩ (.string ⟨#[]⟩)).setCell ⟨w.heap.size, 5, none⟩ (.bool false)).cell? ⟨w.heap.size, 1, none⟩ = some (.int .u32 0) := cell_of_heap dd rfl
                have d2 : ((((((wc.setCell ⟨w.heap.size, 0, none⟩ (.int .u32 0)).setCell ⟨w.heap.size, 1, none⟩ (.int .u32 0)).setCell ⟨w.heap.size, 2, none⟩ (.string ⟨#[]⟩)).setCell ⟨w.heap.size, 3, none⟩ (.string ⟨#[]⟩)).setCell ⟨w.heap.size, 4, none⟩ (.string ⟨#[]⟩)).setCell ⟨w.heap.size, 5, none⟩ (.bool false)).cell? ⟨w.heap.size, 2, none⟩ = some (.string ⟨#[]⟩) := cell_of_heap dd rfl
                have d3 : ((((((wc.setCell ⟨w.heap.size, 0, none⟩ (.int .u32 0)).setCell ⟨w.heap.size, 1, none⟩ (.int .u32 0)).setCell ⟨w.heap.size, 2, none⟩ (.string ⟨#[]⟩)).setCell ⟨w.heap.size, 3, none⟩ (.string ⟨#[]⟩)).setCell ⟨w.heap.size, 4, none⟩ (.string ⟨#[]⟩)).setCell ⟨w.heap.size, 5, none⟩ (.bool false)).cell? ⟨w.heap.size, 3, none⟩ = some (.string ⟨#[]⟩) := cell_of_heap dd rfl
                have d4 : ((((((wc.setCell ⟨w.heap.size, 0, none⟩ (.int .u32 0)).setCell ⟨w.heap.size, 1, none⟩ (.int .u32 0)).setCell ⟨w.heap.size, 2, none⟩ (.string ⟨#[]⟩)).setCell ⟨w.heap.size, 3, none⟩ (.string ⟨#[]⟩)).setCell ⟨w.heap.size, 4, none⟩ (.string ⟨#[]⟩)).setCell ⟨w.heap.size, 5, none⟩ (.bool false)).cell? ⟨w.heap.size, 4, none⟩ = some (.string ⟨#[]⟩) := cell_of_heap dd rfl
                have d5 : ((((((wc.setCell ⟨w.heap.size, 0, none⟩ (.int .u32 0)).setCell ⟨w.heap.size, 1, none⟩ (.int .u32 0)).setCell ⟨w.heap.size, 2, none⟩ (.string ⟨#[]⟩)).setCell ⟨w.heap.size, 3, none⟩ (.string ⟨#[]⟩)).setCell ⟨w.heap.size, 4, none⟩ (.string ⟨#[]⟩)).setCell ⟨w.heap.size, 5, none⟩ (.bool false)).cell? ⟨w.heap.size, 5, none⟩ = some (.bool false) := cell_of_heap dd rfl
                exact bodyPost_ret (v := .tuple #[.agg #[.int .u32 0, .int .u32 0, .string ⟨#[]⟩, .string ⟨#[]⟩, .string ⟨#[]⟩, .bool false], .bool false]) (by simp only [results, Tryz.results63]; simp [go_sem, d0, d1, d2, d3, d4, d5]) rfl ⟨by simp [itR], ((((((R1.out.bel.setCell (p := ⟨w.heap.size, 0, none⟩) (Nat.le_refl _) _).setCell (p := ⟨w.heap.size, 1, none⟩) (Nat.le_refl _) _).setCell (p := ⟨w.heap.size, 2, none⟩) (Nat.le_refl _) _).setCell (p := ⟨w.heap.size, 3, none⟩) (Nat.le_refl _) _).setCell (p := ⟨w.heap.size, 4, none⟩) (Nat.le_refl _) _).setCell (p := ⟨w.heap.size, 5, none⟩) (Nat.le_refl _) _)⟩
              | true =>
                clear c2 c3 c4 c5
                have KS := hid (show ∀ w', Below wc.heap.size wc w' → (fun w' => w'.cell? ⟨x, 2, none⟩ = some (.string (wd ws 2)) ∧ w'.cell? ⟨x, 3, none⟩ = some (.string (wd ws 3)) ∧ w'.cell? ⟨x, 4, none⟩ = some (.string (wd ws 4)) ∧ w'.cell? ⟨x, 5, none⟩ = some (.string (wd ws 5)) ∧ w'.cell? ⟨z, 0, none⟩ = some (.int .u32 (a : Int)) ∧ w'.cell? ⟨z, 1, none⟩ = some (.int .u32 (b : Int))) w' from fun w' hb => ⟨cell_later hb (R1.out.row 2 n2), cell_later hb (R1.out.row 3 n3), cell_later hb (R1.out.row 4 n4), cell_later hb (R1.out.row 5 n5), cell_later hb (cell_of_heap HZB.out.1 rfl), cell_later hb (cell_of_heap HZB.out.1 rfl)⟩)
                go_upto_region 6 with fail
                refine wp_region_held_drew (S := (fun w' => w'.cell? ⟨x, 2, none⟩ = some (.string (wd ws 2)) ∧ w'.cell? ⟨x, 3, none⟩ = some (.string (wd ws 3)) ∧ w'.cell? ⟨x, 4, none⟩ = some (.string (wd ws 4)) ∧ w'.cell? ⟨x, 5, none⟩ = some (.string (wd ws 5)) ∧ w'.cell? ⟨z, 0, none⟩ = some (.int .u32 (a : Int)) ∧ w'.cell? ⟨z, 1, none⟩ = some (.int .u32 (b : Int)))) (by kernel_rfl) (KS.out _ (blw_drew (Below.refl _ _))) (fun hHeld => ?_)
                refine tk_at (i := 0) (d := some 51) (v := ?_) rfl rfl (by kernel_rfl) (by kernel_rfl) (by kernel_rfl) (fun _ _ _ h => h) (Or.inl ⟨by rfl, ?_⟩) (by assumption) ?_
                rotate_left
                · (intro w hSw; (try dsimp only at hSw); go_simp; try (with_reducible rfl))
                simp only [Act.put, List.setIfInBounds_toArray, List.set_cons_zero, List.set_cons_succ]
                refine tk_at (i := 1) (d := some 52) (v := ?_) rfl rfl (by kernel_rfl) (by kernel_rfl) (by kernel_rfl) (fun _ _ _ h => h) (Or.inl ⟨by rfl, ?_⟩) (by assumption) ?_
                rotate_left
                · (intro w hSw; (try dsimp only at hSw); go_simp; try (with_reducible rfl))
                simp only [Act.put, List.setIfInBounds_toArray, List.set_cons_zero, List.set_cons_succ]
                refine tk_at (i := 2) (d := some 53) (v := ?_) rfl rfl (by kernel_rfl) (by kernel_rfl) (by kernel_rfl) (fun _ _ _ h => h) (Or.inl ⟨by rfl, ?_⟩) (by assumption) ?_
                rotate_left
                · (intro w hSw; (try dsimp only at hSw); go_simp; try (with_reducible rfl))
                simp only [Act.put, List.setIfInBounds_toArray, List.set_cons_zero, List.set_cons_succ]
                refine tk_at (i := 3) (d := some 54) (v := ?_) rfl rfl (by kernel_rfl) (by kernel_rfl) (by kernel_rfl) (fun _ _ _ h => h) (Or.inl ⟨by rfl, ?_⟩) (by assumption) ?_
                rotate_left
                · (intro w hSw; (try dsimp only at hSw); go_simp; try (with_reducible rfl))
                simp only [Act.put, List.setIfInBounds_toArray, List.set_cons_zero, List.set_cons_succ]
                refine tk_at (i := 5) (d := some 56) (v := ?_) rfl rfl (by kernel_rfl) (by kernel_rfl) (by kernel_rfl) (fun _ _ _ h => h) (Or.inl ⟨by rfl, ?_⟩) (by assumption) ?_
                rotate_left
                · (intro w hSw; (try dsimp only at hSw); go_simp; try (with_reducible rfl))
                simp only [Act.put, List.setIfInBounds_toArray, List.set_cons_zero, List.set_cons_succ]
                refine tk_at (i := 6) (d := some 57) (v := ?_) rfl rfl (by kernel_rfl) (by kernel_rfl) (by kernel_rfl) (fun _ _ _ h => h) (Or.inl ⟨by rfl, ?_⟩) (by assumption) ?_
                rotate_left
                · (intro w hSw; (try dsimp only at hSw); go_simp; try (with_reducible rfl))
                simp only [Act.put, List.setIfInBounds_toArray, List.set_cons_zero, List.set_cons_succ]
                refine tk_at (i := 7) (d := some 58) (v := ?_) rfl rfl (by kernel_rfl) (by kernel_rfl) (by kernel_rfl) (fun _ _ _ h => h) (Or.inl ⟨by rfl, ?_⟩) (by assumption) ?_
                rotate_left
                · (intro w hSw; (try dsimp only at hSw); go_simp; try (with_reducible rfl))
                simp only [Act.put, List.setIfInBounds_toArray, List.set_cons_zero, List.set_cons_succ]
                refine tk_at (i := 9) (d := some 60) (v := ?_) rfl rfl (by kernel_rfl) (by kernel_rfl) (by kernel_rfl) (fun _ _ _ h => h) (Or.inl ⟨by rfl, ?_⟩) (by assumption) ?_
                rotate_left
                · (intro w hSw; (try dsimp only at hSw); go_simp; try (with_reducible rfl))
                simp only [Act.put, List.setIfInBounds_toArray, List.set_cons_zero, List.set_cons_succ]
                refine tk_at (i := 10) (d := some 61) (v := ?_) rfl rfl (by kernel_rfl) (by kernel_rfl) (by kernel_rfl) (fun _ _ _ h => h) (Or.inl ⟨by rfl, ?_⟩) (by assumption) ?_
                rotate_left
                · (intro w hSw; (try dsimp only at hSw); go_simp; try (with_reducible rfl))
                simp only [Act.put, List.setIfInBounds_toArray, List.set_cons_zero, List.set_cons_succ]
                refine tk_at (i := 11) (d := some 62) (v := ?_) rfl rfl (by kernel_rfl) (by kernel_rfl) (by kernel_rfl) (fun _ _ _ h => h) (Or.inl ⟨by rfl, ?_⟩) (by assumption) ?_
                rotate_left
                · (intro w hSw; (try dsimp only at hSw); go_simp; try (with_reducible rfl))
                simp only [Act.put, List.setIfInBounds_toArray, List.set_cons_zero, List.set_cons_succ]
                refine tk_at (i := 13) (d := some 64) (v := ?_) rfl rfl (by kernel_rfl) (by kernel_rfl) (by kernel_rfl) (fun _ _ _ h => h) (Or.inl ⟨by rfl, ?_⟩) (by assumption) ?_
                rotate_left
                · (intro w hSw; (try dsimp only at hSw); go_simp; try (with_reducible rfl))
                simp only [Act.put, List.setIfInBounds_toArray, List.set_cons_zero, List.set_cons_succ]
                refine tk_at (i := 14) (d := some 65) (v := ?_) rfl rfl (by kernel_rfl) (by kernel_rfl) (by kernel_rfl) (fun _ _ _ h => h) (Or.inl ⟨by rfl, ?_⟩) (by assumption) ?_
                rotate_left
                · (intro w hSw; (try dsimp only at hSw); go_simp; try (with_reducible rfl))
                simp only [Act.put, List.setIfInBounds_toArray, List.set_cons_zero, List.set_cons_succ]
                refine tk_at (i := 15) (d := some 66) (v := ?_) rfl rfl (by kernel_rfl) (by kernel_rfl) (by kernel_rfl) (fun _ _ _ h => h) (Or.inl ⟨by rfl, ?_⟩) (by assumption) ?_
                rotate_left
                · (intro w hSw; (try dsimp only at hSw); go_simp; try (with_reducible rfl))
                simp only [Act.put, List.setIfInBounds_toArray, List.set_cons_zero, List.set_cons_succ]
                refine tk_at (i := 16) (d := some 67) (v := ?_) rfl rfl (by kernel_rfl) (by kernel_rfl) (by kernel_rfl) (fun _ _ _ h => h) (Or.inl ⟨by rfl, ?_⟩) (by assumption) ?_
                rotate_left
                · (intro w hSw; (try dsimp only at hSw); go_simp; try (with_reducible rfl))
                simp only [Act.put, List.setIfInBounds_toArray, List.set_cons_zero, List.set_cons_succ]
                refine wpAnyH_ready (rs := [4]) (by kernel_rfl) (by simp) ?_
                refine AllReadyH.cons rfl (fun K hK => ?_) AllReadyH.nil
                go_simp
                refine (clone_any (wd ws 2) _ (HZ.out 2)).mono ?_
                rintro e w2 ⟨rfl, hBd⟩
                have D2 := hid (belowCat (blw_drew (Below.refl _ _)) hBd)
                clear hBd
                go_wp2_with fail
                refine hK.out _ _ (KS.out _ D2.out) (fun hHeld => ?_)
                clear hK K
                try simp only [Act.put, List.setIfInBounds_toArray, List.set_cons_zero, List.set_cons_succ]
                refine wpAnyH_ready (rs := [8]) (by kernel_rfl) (by simp) ?_
                refine AllReadyH.cons rfl (fun K hK => ?_) AllReadyH.nil
                go_simp
                refine (clone_any (wd ws 3) _ (HZ.out 3)).mono ?_
                rintro e w3 ⟨rfl, hBd⟩
                have D3 := hid (belowCat D2.out hBd)
                clear hBd
                go_wp2_with fail
                refine hK.out _ _ (KS.out _ D3.out) (fun hHeld => ?_)
                clear hK K
                try simp only [Act.put, List.setIfInBounds_toArray, List.set_cons_zero, List.set_cons_succ]
                refine wpAnyH_ready (rs := [12]) (by kernel_rfl) (by simp) ?_
                refine AllReadyH.cons rfl (fun K hK => ?_) AllReadyH.nil
                go_simp
                refine (clone_any (wd ws 4) _ (HZ.out 4)).mono ?_
                rintro e w4 ⟨rfl, hBd⟩
                have D4 := hid (belowCat D3.out hBd)
                clear hBd
                have R4 := hid (R1.out.below D4.out)
                have k0 : w4.cell? ⟨w.heap.size, 0, none⟩ = some (.int .u32 0) := cell_of_heap R4.out.res rfl
                have k1 : w4.cell? ⟨w.heap.size, 1, none⟩ = some (.int .u32 0) := cell_of_heap R4.out.res rfl
                have k2 : w4.cell? ⟨w.heap.size, 2, none⟩ = some (.string ⟨#[]⟩) := cell_of_heap R4.out.res rfl
                have k3 : w4.cell? ⟨w.heap.size, 3, none⟩ = some (.string ⟨#[]⟩) := cell_of_heap R4.out.res rfl
                have k4 : w4.cell? ⟨w.heap.size, 4, none⟩ = some (.string ⟨#[]⟩) := cell_of_heap R4.out.res rfl
                have k5 : w4.cell? ⟨w.heap.size, 5, none⟩ = some (.bool false) := cell_of_heap R4.out.res rfl
                have f0 := frozen_of_heap (i := 0) R4.out.res
                have f1 := frozen_of_heap (i := 1) R4.out.res
                have f2 := frozen_of_heap (i := 2) R4.out.res
                have f3 := frozen_of_heap (i := 3) R4.out.res
                have f4 := frozen_of_heap (i := 4) R4.out.res
                have f5 := frozen_of_heap (i := 5) R4.out.res
                go_wp2_with fail
                refine hK.out _ _ (KS.out _ D4.out) (fun hHeld => ?_)
                clear hK K
                try simp only [Act.put, List.setIfInBounds_toArray, List.set_cons_zero, List.set_cons_succ]
                refine wpAnyH_ready (rs := [17]) (by kernel_rfl) (by simp) ?_
                refine AllReadyH.cons rfl (fun K hK => ?_) AllReadyH.nil
                go_simp
                go_wp2_with fail
                refine hK.out _ _ (KS.out _ D4.out) (fun hHeld => ?_)
                clear hK K
                try simp only [Act.put, List.setIfInBounds_toArray, List.set_cons_zero, List.set_cons_succ]
                refine wpAnyH_ready (rs := [18]) (by kernel_rfl) (by simp) ?_
                refine AllReadyH.cons rfl (fun K hK => ?_) AllReadyH.nil
                go_simp
                go_wp2_with fail
                refine hK.out _ _ (⟨cell_ne6 (KS.out _ D4.out).1 (show x ≠ w.heap.size from Nat.ne_of_lt (R1.out.xb n0)), cell_ne6 (KS.out _ D4.out).2.1 (show x ≠ w.heap.size from Nat.ne_of_lt (R1.out.xb n0)), cell_ne6 (KS.out _ D4.out).2.2.1 (show x ≠ w.heap.size from Nat.ne_of_lt (R1.out.xb n0)), cell_ne6 (KS.out _ D4.out).2.2.2.1 (show x ≠ w.heap.size from Nat.ne_of_lt (R1.out.xb n0)), cell_ne6 (KS.out _ D4.out).2.2.2.2.1 HZB.out.2, cell_ne6 (KS.out _ D4.out).2.2.2.2.2 HZB.out.2⟩) (fun hHeld => ?_)
                clear hK K
                try simp only [Act.put, List.setIfInBounds_toArray, List.set_cons_zero, List.set_cons_succ]
                refine wpAnyH_ready (rs := [19]) (by kernel_rfl) (by simp) ?_
                refine AllReadyH.cons rfl (fun K hK => ?_) AllReadyH.nil
                go_simp
                go_wp2_with fail
                refine hK.out _ _ (⟨cell_ne6 (KS.out _ D4.out).1 (show x ≠ w.heap.size from Nat.ne_of_lt (R1.out.xb n0)), cell_ne6 (KS.out _ D4.out).2.1 (show x ≠ w.heap.size from Nat.ne_of_lt (R1.out.xb n0)), cell_ne6 (KS.out _ D4.out).2.2.1 (show x ≠ w.heap.size from Nat.ne_of_lt (R1.out.xb n0)), cell_ne6 (KS.out _ D4.out).2.2.2.1 (show x ≠ w.heap.size from Nat.ne_of_lt (R1.out.xb n0)), cell_ne6 (KS.out _ D4.out).2.2.2.2.1 HZB.out.2, cell_ne6 (KS.out _ D4.out).2.2.2.2.2 HZB.out.2⟩) (fun hHeld => ?_)
                clear hK K
                try simp only [Act.put, List.setIfInBounds_toArray, List.set_cons_zero, List.set_cons_succ]
                refine wpAnyH_done (by kernel_rfl) ?_ _
                clear hHeld
                clear k0 f0 k1 f1 k2 f2 k3 f3 k4 f4 k5 f5
                go_wp2
                have dd := set6 (a := .int .u32 (a : Int)) (b := .int .u32 (b : Int)) (c := .string (wd ws 2)) (d := .string (wd ws 3)) (e := .string (wd ws 4)) (f := .bool ((wd ws 5).toList == [110, 101, 119])) R4.out.res
                have d0 : ((((((w4.setCell ⟨w.heap.size, 0, none⟩ (.int .u32 (a : Int))).setCell ⟨w.heap.size, 1, none⟩ (.int .u32 (b : Int))).setCell ⟨w.heap.size, 2, none⟩ (.string (wd ws 2))).setCell ⟨w.heap.size, 3, none⟩ (.string (wd ws 3))).setCell ⟨w.heap.size, 4, none⟩ (.string (wd ws 4))).setCell ⟨w.heap.size, 5, none⟩ (.bool ((wd ws 5).toList == [110, 101, 119]))).cell? ⟨w.heap.size, 0, none⟩ = some (.int .u32 (a : Int)) := cell_of_heap dd rfl
                have d1 : ((((((w4.setCell ⟨w.heap.size, 0, none⟩ (.int .u32 (a : Int))).setCell ⟨w.heap.size, 1, none⟩ (.int .u32 (b : Int))).setCell ⟨w.heap.size, 2, none⟩ (.string (wd ws 2))).setCell ⟨w.heap.size, 3, none⟩ (.string (wd ws 3))).setCell ⟨w.heap.size, 4, none⟩ (.string (wd ws 4))).setCell ⟨w.heap.size, 5, none⟩ (.bool ((wd ws 5).toList == [110, 101, 119]))).cell? ⟨w.heap.size, 1, none⟩ = some (.int .u32 (b : Int)) := cell_of_heap dd rfl
                have d2 : ((((((w4.setCell ⟨w.heap.size, 0, none⟩ (.int .u32 (a : Int))).setCell ⟨w.heap.size, 1, none⟩ (.int .u32 (b : Int))).setCell ⟨w.heap.size, 2, none⟩ (.string (wd ws 2))).setCell ⟨w.heap.size, 3, none⟩ (.string (wd ws 3))).setCell ⟨w.heap.size, 4, none⟩ (.string (wd ws 4))).setCell ⟨w.heap.size, 5, none⟩ (.bool ((wd ws 5).toList == [110, 101, 119]))).cell? ⟨w.heap.size, 2, none⟩ = some (.string (wd ws 2)) := cell_of_heap dd rfl
                have d3 : ((((((w4.setCell ⟨w.heap.size, 0, none⟩ (.int .u32 (a : Int))).setCell ⟨w.heap.size, 1, none⟩ (.int .u32 (b : Int))).setCell ⟨w.heap.size, 2, none⟩ (.string (wd ws 2))).setCell ⟨w.heap.size, 3, none⟩ (.string (wd ws 3))).setCell ⟨w.heap.size, 4, none⟩ (.string (wd ws 4))).setCell ⟨w.heap.size, 5, none⟩ (.bool ((wd ws 5).toList == [110, 101, 119]))).cell? ⟨w.heap.size, 3, none⟩ = some (.string (wd ws 3)) := cell_of_heap dd rfl
                have d4 : ((((((w4.setCell ⟨w.heap.size, 0, none⟩ (.int .u32 (a : Int))).setCell ⟨w.heap.size, 1, none⟩ (.int .u32 (b : Int))).setCell ⟨w.heap.size, 2, none⟩ (.string (wd ws 2))).setCell ⟨w.heap.size, 3, none⟩ (.string (wd ws 3))).setCell ⟨w.heap.size, 4, none⟩ (.string (wd ws 4))).setCell ⟨w.heap.size, 5, none⟩ (.bool ((wd ws 5).toList == [110, 101, 119]))).cell? ⟨w.heap.size, 4, none⟩ = some (.string (wd ws 4)) := cell_of_heap dd rfl
                have d5 : ((((((w4.setCell ⟨w.heap.size, 0, none⟩ (.int .u32 (a : Int))).setCell ⟨w.heap.size, 1, none⟩ (.int .u32 (b : Int))).setCell ⟨w.heap.size, 2, none⟩ (.string (wd ws 2))).setCell ⟨w.heap.size, 3, none⟩ (.string (wd ws 3))).setCell ⟨w.heap.size, 4, none⟩ (.string (wd ws 4))).setCell ⟨w.heap.size, 5, none⟩ (.bool ((wd ws 5).toList == [110, 101, 119]))).cell? ⟨w.heap.size, 5, none⟩ = some (.bool ((wd ws 5).toList == [110, 101, 119])) := cell_of_heap dd rfl
                exact bodyPost_ret (v := .tuple #[.agg #[.int .u32 (a : Int), .int .u32 (b : Int), .string (wd ws 2), .string (wd ws 3), .string (wd ws 4), .bool ((wd ws 5).toList == [110, 101, 119])], .bool true]) (by simp only [results, Tryz.results63]; simp [go_sem, d0, d1, d2, d3, d4, d5]) rfl ⟨rfl, ((((((R4.out.bel.setCell (p := ⟨w.heap.size, 0, none⟩) (Nat.le_refl _) _).setCell (p := ⟨w.heap.size, 1, none⟩) (Nat.le_refl _) _).setCell (p := ⟨w.heap.size, 2, none⟩) (Nat.le_refl _) _).setCell (p := ⟨w.heap.size, 3, none⟩) (Nat.le_refl _) _).setCell (p := ⟨w.heap.size, 4, none⟩) (Nat.le_refl _) _).setCell (p := ⟨w.heap.size, 5, none⟩) (Nat.le_refl _) _)⟩
  · rw [rgOf_no6 hN]
    have eN : ((ws.length : Int) == 6) = false := by simp; omega
    clear hN hx
    have c0 : (w.alloc (.cells rgZ 49)).cell? ⟨w.heap.size, 0, none⟩ = some (.int .u32 0) := cell_of_heap R0.out.res rfl
    have c1 : (w.alloc (.cells rgZ 49)).cell? ⟨w.heap.size, 1, none⟩ = some (.int .u32 0) := cell_of_heap R0.out.res rfl
    have c2 : (w.alloc (.cells rgZ 49)).cell? ⟨w.heap.size, 2, none⟩ = some (.string ⟨#[]⟩) := cell_of_heap R0.out.res rfl
    have c3 : (w.alloc (.cells rgZ 49)).cell? ⟨w.heap.size, 3, none⟩ = some (.string ⟨#[]⟩) := cell_of_heap R0.out.res rfl
    have c4 : (w.alloc (.cells rgZ 49)).cell? ⟨w.heap.size, 4, none⟩ = some (.string ⟨#[]⟩) := cell_of_heap R0.out.res rfl
    have c5 : (w.alloc (.cells rgZ 49)).cell? ⟨w.heap.size, 5, none⟩ = some (.bool false) := cell_of_heap R0.out.res rfl
    have K := hid ((And.intro c0 (And.intro c1 (And.intro c2 (And.intro c3 (And.intro c4 c5))))))
    clear c0 c1 c2 c3 c4 c5
    go_enter Tryz.func63, Tryz.ntmps63
    go_wp2
    obtain ⟨c0, c1, c2, c3, c4, c5⟩ := K.out
    exact bodyPost_ret (v := .tuple #[.agg rgZ, .bool false]) (by simp only [results, Tryz.results63]; simp [go_sem, c0, c1, c2, c3, c4, c5]) rfl ⟨rfl, R0.out.bel⟩
end Go.Proofs.YtgalmlelnolodaaGreatDoor
