/- Package chart's decompOf, over this seat's translation. Conditions: words' sizes; what the library's variables hold is some number, some errors. -/
import Derived.Test.YtgalmlelnolodaaGreatDoorChMb
import Derived.BigQuiet
namespace Go.Proofs.YtgalmlelnolodaaGreatDoor
open Go.RowKit
set_option linter.unusedVariables false

abbrev dcZ : Array Value := #[.int .u32 0, .slice none 0 0, .bool false, .bool false]
abbrev dcA (d : Dt) (v : Value) : Array Value := #[.int .u32 (d.p : Int), v, .bool d.c, .bool d.a]
/-- what decompOf answers -/
def dcR (o : Option Dt) (lo : Nat) (w' : World) (e : Ending) : Prop := match o with
  | none => e = .returned (.tuple #[.agg dcZ, .bool false])
  | some d => ∃ g cap, e = .returned (.tuple #[.agg (dcA d (.slice (some ⟨g, 0, none⟩) d.to.length cap)), .bool true]) ∧ lo ≤ g ∧ U32B w' g d.to
theorem set4 {w : World} {g : Nat} {u0 u1 u2 u3 a b c d : Value} {t : TypeId} (h : w.heap[g]? = some (.cells #[u0, u1, u2, u3] t (0, 0))) : ((((w.setCell ⟨g, 0, none⟩ a).setCell ⟨g, 1, none⟩ b).setCell ⟨g, 2, none⟩ c).setCell ⟨g, 3, none⟩ d).heap[g]? = some (.cells #[a, b, c, d] t (0, 0)) :=
  heap_setCell_at _ _ 3 _ _ _ d (heap_setCell_at _ _ 2 _ _ _ c (heap_setCell_at _ _ 1 _ _ _ b (heap_setCell_at _ _ 0 _ _ _ a h)))
theorem blw_set4 {w0 w : World} {g : Nat} {a b c d : Value} (h : Below w0.heap.size w0 w) (hg : w0.heap.size ≤ g) : Below w0.heap.size w0 ((((w.setCell ⟨g, 0, none⟩ a).setCell ⟨g, 1, none⟩ b).setCell ⟨g, 2, none⟩ c).setCell ⟨g, 3, none⟩ d) :=
  (((h.setCell (p := ⟨g, 0, none⟩) hg _).setCell (p := ⟨g, 1, none⟩) hg _).setCell (p := ⟨g, 2, none⟩) hg _).setCell (p := ⟨g, 3, none⟩) hg _

theorem dcR_none {o : Option Dt} {lo : Nat} {w' : World} (h : o = none) : dcR o lo w' (.returned (.tuple #[.agg dcZ, .bool false])) := by subst h; rfl
theorem dcR_some {o : Option Dt} {lo g cap : Nat} {w' : World} {d : Dt} {v : Value} (h : o = some d) (hv : v = .tuple #[.agg (dcA d (.slice (some ⟨g, 0, none⟩) d.to.length cap)), .bool true]) (h1 : lo ≤ g) (h2 : U32B w' g d.to) : dcR o lo w' (.returned v) := by subst h hv; exact ⟨g, cap, rfl, h1, h2⟩

set_option maxHeartbeats 6400000 in
theorem decompOf_any (x : Nat) (ws : List ByteArray) (w : World) (v : Vr w) (hx : ∀ j, j < ws.length → w.cell? ⟨x, j, none⟩ = some (.string (wd ws j))) (hz : ∀ j, (wd ws j).size ≤ 4000000000) (hl : ws.length ≤ 4000000000) :
    Calls Tryz.prog 69 #[.slice (some ⟨x, 0, none⟩) ws.length ws.length] w fun e w' => dcR (dcOf ws) w.heap.size w' e ∧ Below w.heap.size w w' := by
  have R0 := hid (Rg.start (Z := dcZ) (T := 64) v hx)
  have HZ := hid hz
  by_cases h3 : ws.length < 3
  · rw [dcOf_few h3]
    have h3i : (ws.length : Int) < 3 := by omega
    clear hx v h3 hz hl
    go_enter Tryz.func69, Tryz.ntmps69
    go_upto_region 1 with fail
    obtain ⟨W, hW⟩ : ∃ W, w.alloc (.cells dcZ 64) = W := ⟨_, rfl⟩
    rw [hW] at R0
    simp only [dcZ] at hW
    rw [hW]
    clear hW
    have k0 : W.cell? ⟨w.heap.size, 0, none⟩ = some (.int .u32 0) := cell_of_heap R0.out.res rfl
    have k1 : W.cell? ⟨w.heap.size, 1, none⟩ = some (.slice none 0 0) := cell_of_heap R0.out.res rfl
    have k2 : W.cell? ⟨w.heap.size, 2, none⟩ = some (.bool false) := cell_of_heap R0.out.res rfl
    have k3 : W.cell? ⟨w.heap.size, 3, none⟩ = some (.bool false) := cell_of_heap R0.out.res rfl
    have f0 := frozen_of_heap (i := 0) R0.out.res
    have f1 := frozen_of_heap (i := 1) R0.out.res
    have f2 := frozen_of_heap (i := 2) R0.out.res
    have f3 := frozen_of_heap (i := 3) R0.out.res
    go_wp2
    have dd := set4 (a := .int .u32 0) (b := .slice none 0 0) (c := .bool false) (d := .bool false) R0.out.res
    have d0 : (((((W.setCell ⟨w.heap.size, 0, none⟩ (.int .u32 0)).setCell ⟨w.heap.size, 1, none⟩ (.slice none 0 0)).setCell ⟨w.heap.size, 2, none⟩ (.bool false)).setCell ⟨w.heap.size, 3, none⟩ (.bool false))).cell? ⟨w.heap.size, 0, none⟩ = some (.int .u32 0) := cell_of_heap dd rfl
    have d1 : (((((W.setCell ⟨w.heap.size, 0, none⟩ (.int .u32 0)).setCell ⟨w.heap.size, 1, none⟩ (.slice none 0 0)).setCell ⟨w.heap.size, 2, none⟩ (.bool false)).setCell ⟨w.heap.size, 3, none⟩ (.bool false))).cell? ⟨w.heap.size, 1, none⟩ = some (.slice none 0 0) := cell_of_heap dd rfl
    have d2 : (((((W.setCell ⟨w.heap.size, 0, none⟩ (.int .u32 0)).setCell ⟨w.heap.size, 1, none⟩ (.slice none 0 0)).setCell ⟨w.heap.size, 2, none⟩ (.bool false)).setCell ⟨w.heap.size, 3, none⟩ (.bool false))).cell? ⟨w.heap.size, 2, none⟩ = some (.bool false) := cell_of_heap dd rfl
    have d3 : (((((W.setCell ⟨w.heap.size, 0, none⟩ (.int .u32 0)).setCell ⟨w.heap.size, 1, none⟩ (.slice none 0 0)).setCell ⟨w.heap.size, 2, none⟩ (.bool false)).setCell ⟨w.heap.size, 3, none⟩ (.bool false))).cell? ⟨w.heap.size, 3, none⟩ = some (.bool false) := cell_of_heap dd rfl
    exact bodyPost_ret (v := .tuple #[.agg #[.int .u32 0, .slice none 0 0, .bool false, .bool false], .bool false]) (by simp only [results, Tryz.results69]; simp [go_sem, d0, d1, d2, d3]) rfl ⟨dcR_none rfl, blw_set4 R0.out.bel (Nat.le_refl _)⟩
  · have h3i : ((ws.length : Int) < 3) = False := eq_false (by omega)
    have n0 : 0 < ws.length := by omega
    have m0 : (0 : Int) < (ws.length : Int) := by omega
    have n1 : 1 < ws.length := by omega
    have m1 : (1 : Int) < (ws.length : Int) := by omega
    have m2 : (2 : Int) < (ws.length : Int) := by omega
    have n2 : 2 < ws.length := by omega
    have hE := dcOf_in (w := ws) (by omega)
    obtain ⟨P, hP⟩ : ∃ P, ptV (bs (wd ws 0)) = P := ⟨_, rfl⟩
    obtain ⟨Q, hQ⟩ : ∃ Q, pvV (ws.drop 2) = Q := ⟨_, rfl⟩
    obtain ⟨G, hG⟩ : ∃ G, sgV (wd ws 1) = G := ⟨_, rfl⟩
    rw [hP, hQ, hG] at hE
    obtain ⟨p, hp⟩ : ∃ p, P.getD 0 = p := ⟨_, rfl⟩
    obtain ⟨u1, hu1⟩ : ∃ u, P.isSome = u := ⟨_, rfl⟩
    have HPO := hid (show ∀ w, Calls Tryz.prog 95 #[.string (wd ws 0)] w fun e w' => e = .returned (.tuple #[.int .u32 (p : Int), .bool u1]) ∧ Below w.heap.size w w' from fun w => by rw [← hp, ← hu1, ← hP]; exact pointOf_any _ w (hz 0))
    have hPE : P = if u1 = true then some p else none := by cases P with | none => subst hu1; rfl | some p => subst hu1 hp; rfl
    have hp6 : p ≤ 1114111 := by cases P with | none => subst hp; exact Nat.zero_le _ | some q => subst hp; exact ptV_le hP
    rw [hPE] at hE
    have HSG := hid (show ∀ w, Calls Tryz.prog 97 #[.string (wd ws 1)] w fun e w' => e = .returned (.bool G) ∧ w' = w from fun w => by rw [← hG]; exact isSign_any _ w)
    have HPS := hid (show ∀ (w1 : World), (∀ j, j < ws.length → w1.cell? ⟨x, j, none⟩ = some (.string (wd ws j))) → x < w1.heap.size → Calls Tryz.prog 96 #[.slice (some ⟨x, 2, none⟩) (ws.length - 2) (ws.length - 2)] w1 fun e w' => psR Q w1.heap.size w' e ∧ Below w1.heap.size w1 w' from fun w1 hw1 hxb => by
      have := pointsOf_any ⟨x, 2, none⟩ (ws.drop 2) (ws.length - 2) w1 (fun j hj => by
        rw [List.length_drop] at hj
        have := hw1 (2 + j) (by omega)
        rw [show (⟨x, 2, none⟩ : Addr).add j = ⟨x, 2 + j, none⟩ by unfold Addr.add; split <;> simp_all, this]
        unfold wd
        rw [List.getD_eq_getElem?_getD, List.getD_eq_getElem?_getD, List.getElem?_drop]) hxb (fun j => by
        have := hz (2 + j)
        unfold wd at this ⊢
        rw [List.getD_eq_getElem?_getD] at this ⊢
        rw [List.getElem?_drop]
        exact this)
      rw [List.length_drop, hQ] at this
      exact this)
    have HE := hid hE
    clear hE hP hQ hG hz hx v h3 hp hu1 hPE
    rw [HE.out]
    go_enter Tryz.func69, Tryz.ntmps69
    go_upto_region 3 with fail
    obtain ⟨W, hW⟩ : ∃ W, w.alloc (.cells dcZ 64) = W := ⟨_, rfl⟩
    rw [hW] at R0
    simp only [dcZ] at hW
    rw [hW]
    clear hW
    have c0 := R0.out.row 0 n0
    go_wp2_with fail
    refine (HPO.out _).mono ?_
    rintro e w1 ⟨rfl, hB⟩
    have R1 := hid (R0.out.below hB)
    have HW1 := hid R1.out.bel.size
    clear hB R0 c0
    go_wp2_with fail
    refine (HPS.out _ R1.out.row (Nat.lt_of_lt_of_le (R1.out.xb n0) R1.out.bel.size)).mono ?_
    rintro e w2 ⟨hq, hB⟩
    have R2 := hid (R1.out.below hB)
    clear hB R1
    obtain ⟨tv, u2, rfl, hu2, htv⟩ : ∃ tv u2, e = .returned (.tuple #[tv, .bool u2]) ∧ u2 = Q.isSome ∧ ∀ l, Q = some l → ∃ g cap, tv = .slice (some ⟨g, 0, none⟩) l.length cap ∧ w1.heap.size ≤ g ∧ U32B w2 g l := by
      cases Q with
      | none => exact ⟨_, _, hq, rfl, fun l h => by cases h⟩
      | some l =>
        obtain ⟨g, cap, h1, h2, h3⟩ := hq
        exact ⟨_, _, h1, rfl, fun l h => by cases h; exact ⟨g, cap, rfl, h2, h3⟩⟩
    have HU2 := hid hu2
    have HTV := hid htv
    clear hq hu2 htv
    cases u1 with
    | false =>
      have k0 : w2.cell? ⟨w.heap.size, 0, none⟩ = some (.int .u32 0) := cell_of_heap R2.out.res rfl
      have k1 : w2.cell? ⟨w.heap.size, 1, none⟩ = some (.slice none 0 0) := cell_of_heap R2.out.res rfl
      have k2 : w2.cell? ⟨w.heap.size, 2, none⟩ = some (.bool false) := cell_of_heap R2.out.res rfl
      have k3 : w2.cell? ⟨w.heap.size, 3, none⟩ = some (.bool false) := cell_of_heap R2.out.res rfl
      have f0 := frozen_of_heap (i := 0) R2.out.res
      have f1 := frozen_of_heap (i := 1) R2.out.res
      have f2 := frozen_of_heap (i := 2) R2.out.res
      have f3 := frozen_of_heap (i := 3) R2.out.res
      go_wp2
      have dd := set4 (a := .int .u32 0) (b := .slice none 0 0) (c := .bool false) (d := .bool false) R2.out.res
      have d0 : (((((w2.setCell ⟨w.heap.size, 0, none⟩ (.int .u32 0)).setCell ⟨w.heap.size, 1, none⟩ (.slice none 0 0)).setCell ⟨w.heap.size, 2, none⟩ (.bool false)).setCell ⟨w.heap.size, 3, none⟩ (.bool false))).cell? ⟨w.heap.size, 0, none⟩ = some (.int .u32 0) := cell_of_heap dd rfl
      have d1 : (((((w2.setCell ⟨w.heap.size, 0, none⟩ (.int .u32 0)).setCell ⟨w.heap.size, 1, none⟩ (.slice none 0 0)).setCell ⟨w.heap.size, 2, none⟩ (.bool false)).setCell ⟨w.heap.size, 3, none⟩ (.bool false))).cell? ⟨w.heap.size, 1, none⟩ = some (.slice none 0 0) := cell_of_heap dd rfl
      have d2 : (((((w2.setCell ⟨w.heap.size, 0, none⟩ (.int .u32 0)).setCell ⟨w.heap.size, 1, none⟩ (.slice none 0 0)).setCell ⟨w.heap.size, 2, none⟩ (.bool false)).setCell ⟨w.heap.size, 3, none⟩ (.bool false))).cell? ⟨w.heap.size, 2, none⟩ = some (.bool false) := cell_of_heap dd rfl
      have d3 : (((((w2.setCell ⟨w.heap.size, 0, none⟩ (.int .u32 0)).setCell ⟨w.heap.size, 1, none⟩ (.slice none 0 0)).setCell ⟨w.heap.size, 2, none⟩ (.bool false)).setCell ⟨w.heap.size, 3, none⟩ (.bool false))).cell? ⟨w.heap.size, 3, none⟩ = some (.bool false) := cell_of_heap dd rfl
      exact bodyPost_ret (v := .tuple #[.agg #[.int .u32 0, .slice none 0 0, .bool false, .bool false], .bool false]) (by simp only [results, Tryz.results69]; simp [go_sem, d0, d1, d2, d3]) rfl ⟨dcR_none rfl, blw_set4 R2.out.bel (Nat.le_refl _)⟩
    | true =>
      cases u2 with
      | false =>
        obtain rfl : Q = none := by have := HU2.out; cases Q with | none => rfl | some l => cases this
        have k0 : w2.cell? ⟨w.heap.size, 0, none⟩ = some (.int .u32 0) := cell_of_heap R2.out.res rfl
        have k1 : w2.cell? ⟨w.heap.size, 1, none⟩ = some (.slice none 0 0) := cell_of_heap R2.out.res rfl
        have k2 : w2.cell? ⟨w.heap.size, 2, none⟩ = some (.bool false) := cell_of_heap R2.out.res rfl
        have k3 : w2.cell? ⟨w.heap.size, 3, none⟩ = some (.bool false) := cell_of_heap R2.out.res rfl
        have f0 := frozen_of_heap (i := 0) R2.out.res
        have f1 := frozen_of_heap (i := 1) R2.out.res
        have f2 := frozen_of_heap (i := 2) R2.out.res
        have f3 := frozen_of_heap (i := 3) R2.out.res
        go_wp2
        have dd := set4 (a := .int .u32 0) (b := .slice none 0 0) (c := .bool false) (d := .bool false) R2.out.res
        have d0 : (((((w2.setCell ⟨w.heap.size, 0, none⟩ (.int .u32 0)).setCell ⟨w.heap.size, 1, none⟩ (.slice none 0 0)).setCell ⟨w.heap.size, 2, none⟩ (.bool false)).setCell ⟨w.heap.size, 3, none⟩ (.bool false))).cell? ⟨w.heap.size, 0, none⟩ = some (.int .u32 0) := cell_of_heap dd rfl
        have d1 : (((((w2.setCell ⟨w.heap.size, 0, none⟩ (.int .u32 0)).setCell ⟨w.heap.size, 1, none⟩ (.slice none 0 0)).setCell ⟨w.heap.size, 2, none⟩ (.bool false)).setCell ⟨w.heap.size, 3, none⟩ (.bool false))).cell? ⟨w.heap.size, 1, none⟩ = some (.slice none 0 0) := cell_of_heap dd rfl
        have d2 : (((((w2.setCell ⟨w.heap.size, 0, none⟩ (.int .u32 0)).setCell ⟨w.heap.size, 1, none⟩ (.slice none 0 0)).setCell ⟨w.heap.size, 2, none⟩ (.bool false)).setCell ⟨w.heap.size, 3, none⟩ (.bool false))).cell? ⟨w.heap.size, 2, none⟩ = some (.bool false) := cell_of_heap dd rfl
        have d3 : (((((w2.setCell ⟨w.heap.size, 0, none⟩ (.int .u32 0)).setCell ⟨w.heap.size, 1, none⟩ (.slice none 0 0)).setCell ⟨w.heap.size, 2, none⟩ (.bool false)).setCell ⟨w.heap.size, 3, none⟩ (.bool false))).cell? ⟨w.heap.size, 3, none⟩ = some (.bool false) := cell_of_heap dd rfl
        exact bodyPost_ret (v := .tuple #[.agg #[.int .u32 0, .slice none 0 0, .bool false, .bool false], .bool false]) (by simp only [results, Tryz.results69]; simp [go_sem, d0, d1, d2, d3]) rfl ⟨dcR_none rfl, blw_set4 R2.out.bel (Nat.le_refl _)⟩
      | true =>
        obtain ⟨l, rfl⟩ : ∃ l, Q = some l := by have := HU2.out; cases Q with | none => cases this | some l => exact ⟨l, rfl⟩
        obtain ⟨g, cap, rfl, hg1, hg2⟩ := HTV.out l rfl
        have HG := hid (And.intro hg1 hg2)
        have c1 := R2.out.row 1 n1
        clear hg1 hg2
        go_wp2_with fail
        refine (HSG.out _).mono ?_
        rintro e w' ⟨rfl, hw⟩
        subst w'
        cases G with
        | false =>
          have k0 : w2.cell? ⟨w.heap.size, 0, none⟩ = some (.int .u32 0) := cell_of_heap R2.out.res rfl
          have k1 : w2.cell? ⟨w.heap.size, 1, none⟩ = some (.slice none 0 0) := cell_of_heap R2.out.res rfl
          have k2 : w2.cell? ⟨w.heap.size, 2, none⟩ = some (.bool false) := cell_of_heap R2.out.res rfl
          have k3 : w2.cell? ⟨w.heap.size, 3, none⟩ = some (.bool false) := cell_of_heap R2.out.res rfl
          have f0 := frozen_of_heap (i := 0) R2.out.res
          have f1 := frozen_of_heap (i := 1) R2.out.res
          have f2 := frozen_of_heap (i := 2) R2.out.res
          have f3 := frozen_of_heap (i := 3) R2.out.res
          go_wp2
          have dd := set4 (a := .int .u32 0) (b := .slice none 0 0) (c := .bool false) (d := .bool false) R2.out.res
          have d0 : (((((w2.setCell ⟨w.heap.size, 0, none⟩ (.int .u32 0)).setCell ⟨w.heap.size, 1, none⟩ (.slice none 0 0)).setCell ⟨w.heap.size, 2, none⟩ (.bool false)).setCell ⟨w.heap.size, 3, none⟩ (.bool false))).cell? ⟨w.heap.size, 0, none⟩ = some (.int .u32 0) := cell_of_heap dd rfl
          have d1 : (((((w2.setCell ⟨w.heap.size, 0, none⟩ (.int .u32 0)).setCell ⟨w.heap.size, 1, none⟩ (.slice none 0 0)).setCell ⟨w.heap.size, 2, none⟩ (.bool false)).setCell ⟨w.heap.size, 3, none⟩ (.bool false))).cell? ⟨w.heap.size, 1, none⟩ = some (.slice none 0 0) := cell_of_heap dd rfl
          have d2 : (((((w2.setCell ⟨w.heap.size, 0, none⟩ (.int .u32 0)).setCell ⟨w.heap.size, 1, none⟩ (.slice none 0 0)).setCell ⟨w.heap.size, 2, none⟩ (.bool false)).setCell ⟨w.heap.size, 3, none⟩ (.bool false))).cell? ⟨w.heap.size, 2, none⟩ = some (.bool false) := cell_of_heap dd rfl
          have d3 : (((((w2.setCell ⟨w.heap.size, 0, none⟩ (.int .u32 0)).setCell ⟨w.heap.size, 1, none⟩ (.slice none 0 0)).setCell ⟨w.heap.size, 2, none⟩ (.bool false)).setCell ⟨w.heap.size, 3, none⟩ (.bool false))).cell? ⟨w.heap.size, 3, none⟩ = some (.bool false) := cell_of_heap dd rfl
          exact bodyPost_ret (v := .tuple #[.agg #[.int .u32 0, .slice none 0 0, .bool false, .bool false], .bool false]) (by simp only [results, Tryz.results69]; simp [go_sem, d0, d1, d2, d3]) rfl ⟨dcR_none rfl, blw_set4 R2.out.bel (Nat.le_refl _)⟩
        | true =>
          have R3 := hid R2.out.drew
          have HG3 := hid (show U32B w2.drew g l from HG.out.2)
          have HXN := hid (show x ≠ w.heap.size from Nat.ne_of_lt (R2.out.xb n0))
          have KS := hid (show (fun w' => w'.cell? ⟨x, 1, none⟩ = some (.string (wd ws 1))) w2.drew from R3.out.row 1 n1)
          clear c1
          have k0 : w2.drew.cell? ⟨w.heap.size, 0, none⟩ = some (.int .u32 0) := cell_of_heap R3.out.res rfl
          have k1 : w2.drew.cell? ⟨w.heap.size, 1, none⟩ = some (.slice none 0 0) := cell_of_heap R3.out.res rfl
          have k2 : w2.drew.cell? ⟨w.heap.size, 2, none⟩ = some (.bool false) := cell_of_heap R3.out.res rfl
          have k3 : w2.drew.cell? ⟨w.heap.size, 3, none⟩ = some (.bool false) := cell_of_heap R3.out.res rfl
          have f0 := frozen_of_heap (i := 0) R3.out.res
          have f1 := frozen_of_heap (i := 1) R3.out.res
          have f2 := frozen_of_heap (i := 2) R3.out.res
          have f3 := frozen_of_heap (i := 3) R3.out.res
          go_upto_region 7 with fail
          refine wp_region_held_drew (S := (fun w' => w'.cell? ⟨x, 1, none⟩ = some (.string (wd ws 1)))) (by kernel_rfl) (KS.out) (fun hHeld => ?_)
          obtain ⟨w3, hw3⟩ : ∃ y, w2.drew = y := ⟨_, rfl⟩
          rw [hw3] at R3 KS k0 k1 k2 k3 f0 f1 f2 f3 HG3 hHeld ⊢
          clear hw3
          refine tk_at (i := 0) (d := some 39) (v := ?_) rfl rfl (by kernel_rfl) (by kernel_rfl) (by kernel_rfl) (fun _ _ _ h => h) (Or.inl ⟨by rfl, ?_⟩) (by assumption) ?_
          rotate_left
          · (intro w hSw; (try dsimp only at hSw); go_simp; try (with_reducible rfl))
          simp only [Act.put, List.setIfInBounds_toArray, List.set_cons_zero, List.set_cons_succ]
          refine tk_at (i := 1) (d := some 40) (v := ?_) rfl rfl (by kernel_rfl) (by kernel_rfl) (by kernel_rfl) (fun _ _ _ h => h) (Or.inl ⟨by rfl, ?_⟩) (by assumption) ?_
          rotate_left
          · (intro w hSw; (try dsimp only at hSw); go_simp; try (with_reducible rfl))
          simp only [Act.put, List.setIfInBounds_toArray, List.set_cons_zero, List.set_cons_succ]
          refine tk_at (i := 2) (d := some 41) (v := ?_) rfl rfl (by kernel_rfl) (by kernel_rfl) (by kernel_rfl) (fun _ _ _ h => h) (Or.inl ⟨by rfl, ?_⟩) (by assumption) ?_
          rotate_left
          · (intro w hSw; (try dsimp only at hSw); go_simp; try (with_reducible rfl))
          simp only [Act.put, List.setIfInBounds_toArray, List.set_cons_zero, List.set_cons_succ]
          refine tk_at (i := 3) (d := some 42) (v := ?_) rfl rfl (by kernel_rfl) (by kernel_rfl) (by kernel_rfl) (fun _ _ _ h => h) (Or.inl ⟨by rfl, ?_⟩) (by assumption) ?_
          rotate_left
          · (intro w hSw; (try dsimp only at hSw); go_simp; try (with_reducible rfl))
          simp only [Act.put, List.setIfInBounds_toArray, List.set_cons_zero, List.set_cons_succ]
          refine tk_at (i := 4) (d := some 43) (v := ?_) rfl rfl (by kernel_rfl) (by kernel_rfl) (by kernel_rfl) (fun _ _ _ h => h) (Or.inl ⟨by rfl, ?_⟩) (by assumption) ?_
          rotate_left
          · (intro w hSw; (try dsimp only at hSw); go_simp; try (with_reducible rfl))
          simp only [Act.put, List.setIfInBounds_toArray, List.set_cons_zero, List.set_cons_succ]
          refine tk_at (i := 5) (d := some 44) (v := ?_) rfl rfl (by kernel_rfl) (by kernel_rfl) (by kernel_rfl) (fun _ _ _ h => h) (Or.inl ⟨by rfl, ?_⟩) (by assumption) ?_
          rotate_left
          · (intro w hSw; (try dsimp only at hSw); go_simp; try (with_reducible rfl))
          simp only [Act.put, List.setIfInBounds_toArray, List.set_cons_zero, List.set_cons_succ]
          refine tk_at (i := 6) (d := some 45) (v := ?_) rfl rfl (by kernel_rfl) (by kernel_rfl) (by kernel_rfl) (fun _ _ _ h => h) (Or.inl ⟨by rfl, ?_⟩) (by assumption) ?_
          rotate_left
          · (intro w hSw; (try dsimp only at hSw); go_simp; try (with_reducible rfl))
          simp only [Act.put, List.setIfInBounds_toArray, List.set_cons_zero, List.set_cons_succ]
          refine tk_at (i := 7) (d := some 46) (v := ?_) rfl rfl (by kernel_rfl) (by kernel_rfl) (by kernel_rfl) (fun _ _ _ h => h) (Or.inl ⟨by rfl, ?_⟩) (by assumption) ?_
          rotate_left
          · (intro w hSw; (try dsimp only at hSw); go_simp; try (with_reducible rfl))
          simp only [Act.put, List.setIfInBounds_toArray, List.set_cons_zero, List.set_cons_succ]
          refine tk_at (i := 8) (d := some 47) (v := ?_) rfl rfl (by kernel_rfl) (by kernel_rfl) (by kernel_rfl) (fun _ _ _ h => h) (Or.inl ⟨by rfl, ?_⟩) (by assumption) ?_
          rotate_left
          · (intro w hSw; (try dsimp only at hSw); go_simp; try (with_reducible rfl))
          simp only [Act.put, List.setIfInBounds_toArray, List.set_cons_zero, List.set_cons_succ]
          refine tk_at (i := 9) (d := some 48) (v := ?_) rfl rfl (by kernel_rfl) (by kernel_rfl) (by kernel_rfl) (fun _ _ _ h => h) (Or.inl ⟨by rfl, ?_⟩) (by assumption) ?_
          rotate_left
          · (intro w hSw; (try dsimp only at hSw); go_simp; try (with_reducible rfl))
          simp only [Act.put, List.setIfInBounds_toArray, List.set_cons_zero, List.set_cons_succ]
          refine tk_at (i := 10) (d := some 49) (v := ?_) rfl rfl (by kernel_rfl) (by kernel_rfl) (by kernel_rfl) (fun _ _ _ h => h) (Or.inl ⟨by rfl, ?_⟩) (by assumption) ?_
          rotate_left
          · (intro w hSw; (try dsimp only at hSw); go_simp; try (with_reducible rfl))
          simp only [Act.put, List.setIfInBounds_toArray, List.set_cons_zero, List.set_cons_succ]
          refine wpAnyH_ready (rs := [11]) (by kernel_rfl) (by simp) ?_
          refine AllReadyH.cons rfl (fun K hK => ?_) AllReadyH.nil
          go_simp
          go_wp2_with fail
          refine hK.out _ _ (cell_ne (q := ⟨w.heap.size, 3, none⟩) (cell_ne3 KS.out HXN.out) HXN.out) (fun hHeld => ?_)
          clear hK K
          try simp only [Act.put, List.setIfInBounds_toArray, List.set_cons_zero, List.set_cons_succ]
          refine wpAnyH_ready (rs := [12]) (by kernel_rfl) (by simp) ?_
          refine AllReadyH.cons rfl (fun K hK => ?_) AllReadyH.nil
          go_simp
          go_wp2_with fail
          refine hK.out _ _ (cell_ne (q := ⟨w.heap.size, 3, none⟩) (cell_ne3 KS.out HXN.out) HXN.out) (fun hHeld => ?_)
          clear hK K
          try simp only [Act.put, List.setIfInBounds_toArray, List.set_cons_zero, List.set_cons_succ]
          refine wpAnyH_done (by kernel_rfl) ?_ _
          clear hHeld
          clear k0 k1 k2 k3 f0 f1 f2 f3
          go_wp2
          have dd := set4 (a := .int .u32 (p : Int)) (b := .slice (some ⟨g, 0, none⟩) l.length cap) (c := .bool ((wd ws 1).toList == [126])) (d := .bool ((wd ws 1).toList == [33])) R3.out.res
          have d0 : ((((w3.setCell ⟨w.heap.size, 0, none⟩ (.int .u32 (p : Int))).setCell ⟨w.heap.size, 1, none⟩ (.slice (some ⟨g, 0, none⟩) l.length cap)).setCell ⟨w.heap.size, 2, none⟩ (.bool ((wd ws 1).toList == [126]))).setCell ⟨w.heap.size, 3, none⟩ (.bool ((wd ws 1).toList == [33]))).cell? ⟨w.heap.size, 0, none⟩ = some (.int .u32 (p : Int)) := cell_of_heap dd rfl
          have d1 : ((((w3.setCell ⟨w.heap.size, 0, none⟩ (.int .u32 (p : Int))).setCell ⟨w.heap.size, 1, none⟩ (.slice (some ⟨g, 0, none⟩) l.length cap)).setCell ⟨w.heap.size, 2, none⟩ (.bool ((wd ws 1).toList == [126]))).setCell ⟨w.heap.size, 3, none⟩ (.bool ((wd ws 1).toList == [33]))).cell? ⟨w.heap.size, 1, none⟩ = some (.slice (some ⟨g, 0, none⟩) l.length cap) := cell_of_heap dd rfl
          have d2 : ((((w3.setCell ⟨w.heap.size, 0, none⟩ (.int .u32 (p : Int))).setCell ⟨w.heap.size, 1, none⟩ (.slice (some ⟨g, 0, none⟩) l.length cap)).setCell ⟨w.heap.size, 2, none⟩ (.bool ((wd ws 1).toList == [126]))).setCell ⟨w.heap.size, 3, none⟩ (.bool ((wd ws 1).toList == [33]))).cell? ⟨w.heap.size, 2, none⟩ = some (.bool ((wd ws 1).toList == [126])) := cell_of_heap dd rfl
          have d3 : ((((w3.setCell ⟨w.heap.size, 0, none⟩ (.int .u32 (p : Int))).setCell ⟨w.heap.size, 1, none⟩ (.slice (some ⟨g, 0, none⟩) l.length cap)).setCell ⟨w.heap.size, 2, none⟩ (.bool ((wd ws 1).toList == [126]))).setCell ⟨w.heap.size, 3, none⟩ (.bool ((wd ws 1).toList == [33]))).cell? ⟨w.heap.size, 3, none⟩ = some (.bool ((wd ws 1).toList == [33])) := cell_of_heap dd rfl
          have HGK := hid (show U32B ((((w3.setCell ⟨w.heap.size, 0, none⟩ (.int .u32 (p : Int))).setCell ⟨w.heap.size, 1, none⟩ (.slice (some ⟨g, 0, none⟩) l.length cap)).setCell ⟨w.heap.size, 2, none⟩ (.bool ((wd ws 1).toList == [126]))).setCell ⟨w.heap.size, 3, none⟩ (.bool ((wd ws 1).toList == [33]))) g l from HG3.out.keep fun cs h => by
            have hn : g ≠ w.heap.size := fun e => by have h1 := R3.out.res; rw [← e, h] at h1; cases h1
            exact (Below.heap_setCell _ _ _ g hn).trans ((Below.heap_setCell _ _ _ g hn).trans ((Below.heap_setCell _ _ _ g hn).trans ((Below.heap_setCell _ _ _ g hn).trans h))))
          exact bodyPost_ret (v := .tuple #[.agg #[.int .u32 (p : Int), .slice (some ⟨g, 0, none⟩) l.length cap, .bool ((wd ws 1).toList == [126]), .bool ((wd ws 1).toList == [33])], .bool true]) (by simp only [results, Tryz.results69]; simp [go_sem, d0, d1, d2, d3]) rfl ⟨dcR_some rfl rfl (Nat.le_trans HW1.out HG.out.1) HGK.out, blw_set4 R3.out.bel (Nat.le_refl _)⟩
end Go.Proofs.YtgalmlelnolodaaGreatDoor
