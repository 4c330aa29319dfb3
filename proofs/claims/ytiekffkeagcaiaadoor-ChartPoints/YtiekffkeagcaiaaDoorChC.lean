/- The contracts of package chart's spanOf and the document's span, over this seat's translation. Conditions: none but a word's size. -/
import Derived.Test.YtiekffkeagcaiaaDoorChB
namespace Go.Proofs.YtiekffkeagcaiaaDoor
open Go.RowKit

abbrev spA (x y : Nat) : Value := .agg #[.int .u32 (x : Int), .int .u32 (y : Int)]
abbrev spR (o : Option (Nat × Nat)) : Ending := .returned (.tuple #[spA (o.getD (0, 0)).1 (o.getD (0, 0)).2, .bool o.isSome])
theorem blw_alloc {a w : World} {o : Obj} (h : Below a.heap.size a w) : Below a.heap.size a (w.alloc o) := h.alloc h.size o
theorem set2 {w : World} {g : Nat} {u v a b : Value} {t : TypeId} (h : w.heap[g]? = some (.cells #[u, v] t (0, 0))) : ((w.setCell ⟨g, 0, none⟩ a).setCell ⟨g, 1, none⟩ b).heap[g]? = some (.cells #[a, b] t (0, 0)) :=
  heap_setCell_at _ _ 1 _ _ _ b (heap_setCell_at _ _ 0 _ _ _ a h)
set_option maxHeartbeats 1600000 in
theorem spanOf_any (s t : ByteArray) (w : World) (hs : s.size ≤ 4000000000) (ht : t.size ≤ 4000000000) :
    Calls Tryd.prog 29 #[.string s, .string t] w fun e w' => e = spR (spV (bs s) (bs t)) ∧ Below w.heap.size w w' := by
  unfold spV
  obtain ⟨P, hP⟩ : ∃ P, ptV (bs s) = P := ⟨_, rfl⟩
  obtain ⟨Q, hQ⟩ : ∃ Q, ptV (bs t) = Q := ⟨_, rfl⟩
  rw [hP, hQ]
  have HP := hid hP
  have HQ := hid hQ
  have BB := hid (show Below w.heap.size w (w.alloc (.cells #[.int .u32 0, .int .u32 0] 38)) from (Below.refl _ _).alloc (Nat.le_refl _) _)
  have X0 := hid (heap_alloc_at w (.cells #[.int .u32 0, .int .u32 0] 38))
  cases P with
  | none =>
    rw [spO_l]
    clear hP hQ
    go_enter Tryd.func29, Tryd.ntmps29
    go_wp2_with fail
    refine (pointOf_any s _ hs).mono ?_
    rintro e w1 ⟨rfl, hB1⟩
    rw [HP.out]
    have B1 := hid (BB.out.trans (hB1.mono BB.out.size))
    have X1 := hid ((hB1.block _ (lt_of_heap X0.out)).trans X0.out)
    clear hB1
    go_wp2_with fail
    refine (pointOf_any t _ ht).mono ?_
    rintro e w2 ⟨rfl, hB2⟩
    rw [HQ.out]
    have B2 := hid (B1.out.trans (hB2.mono B1.out.size))
    have X2 := hid ((hB2.block _ (lt_of_heap X1.out)).trans X1.out)
    have k0 : w2.cell? ⟨w.heap.size, 0, none⟩ = some (.int .u32 0) := cell_of_heap X2.out rfl
    have k1 : w2.cell? ⟨w.heap.size, 1, none⟩ = some (.int .u32 0) := cell_of_heap X2.out rfl
    have f0 := frozen_of_heap (i := 0) X2.out
    have f1 := frozen_of_heap (i := 1) X2.out
    clear hB2
    go_wp2
    have d := set2 (a := .int .u32 0) (b := .int .u32 0) X2.out
    have d0 : ((w2.setCell ⟨w.heap.size, 0, none⟩ (.int .u32 0)).setCell ⟨w.heap.size, 1, none⟩ (.int .u32 0)).cell? ⟨w.heap.size, 0, none⟩ = some (.int .u32 0) := cell_of_heap d rfl
    have d1 : ((w2.setCell ⟨w.heap.size, 0, none⟩ (.int .u32 0)).setCell ⟨w.heap.size, 1, none⟩ (.int .u32 0)).cell? ⟨w.heap.size, 1, none⟩ = some (.int .u32 0) := cell_of_heap d rfl
    exact bodyPost_ret (v := .tuple #[.agg #[.int .u32 0, .int .u32 0], .bool false]) (by simp only [results, Tryd.results29]; simp [go_sem, d0, d1]) rfl ⟨rfl, (B2.out.setCell (p := ⟨w.heap.size, 0, none⟩) (Nat.le_refl _) _).setCell (p := ⟨w.heap.size, 1, none⟩) (Nat.le_refl _) _⟩
  | some x =>
    have hx := ptV_le hP
    cases Q with
    | none =>
      rw [spO_r]
      clear hP hQ
      go_enter Tryd.func29, Tryd.ntmps29
      go_wp2_with fail
      refine (pointOf_any s _ hs).mono ?_
      rintro e w1 ⟨rfl, hB1⟩
      rw [HP.out]
      have B1 := hid (BB.out.trans (hB1.mono BB.out.size))
      have X1 := hid ((hB1.block _ (lt_of_heap X0.out)).trans X0.out)
      clear hB1
      go_wp2_with fail
      refine (pointOf_any t _ ht).mono ?_
      rintro e w2 ⟨rfl, hB2⟩
      rw [HQ.out]
      have B2 := hid (B1.out.trans (hB2.mono B1.out.size))
      have X2 := hid ((hB2.block _ (lt_of_heap X1.out)).trans X1.out)
      have k0 : w2.cell? ⟨w.heap.size, 0, none⟩ = some (.int .u32 0) := cell_of_heap X2.out rfl
      have k1 : w2.cell? ⟨w.heap.size, 1, none⟩ = some (.int .u32 0) := cell_of_heap X2.out rfl
      have f0 := frozen_of_heap (i := 0) X2.out
      have f1 := frozen_of_heap (i := 1) X2.out
      clear hB2
      go_wp2
      have d := set2 (a := .int .u32 0) (b := .int .u32 0) X2.out
      have d0 : ((w2.setCell ⟨w.heap.size, 0, none⟩ (.int .u32 0)).setCell ⟨w.heap.size, 1, none⟩ (.int .u32 0)).cell? ⟨w.heap.size, 0, none⟩ = some (.int .u32 0) := cell_of_heap d rfl
      have d1 : ((w2.setCell ⟨w.heap.size, 0, none⟩ (.int .u32 0)).setCell ⟨w.heap.size, 1, none⟩ (.int .u32 0)).cell? ⟨w.heap.size, 1, none⟩ = some (.int .u32 0) := cell_of_heap d rfl
      exact bodyPost_ret (v := .tuple #[.agg #[.int .u32 0, .int .u32 0], .bool false]) (by simp only [results, Tryd.results29]; simp [go_sem, d0, d1]) rfl ⟨rfl, (B2.out.setCell (p := ⟨w.heap.size, 0, none⟩) (Nat.le_refl _) _).setCell (p := ⟨w.heap.size, 1, none⟩) (Nat.le_refl _) _⟩
    | some y =>
      have hy := ptV_le hQ
      clear hP hQ
      by_cases hxy : x ≤ y
      · rw [spO_yes hxy]
        go_enter Tryd.func29, Tryd.ntmps29
        go_wp2_with fail
        refine (pointOf_any s _ hs).mono ?_
        rintro e w1 ⟨rfl, hB1⟩
        rw [HP.out]
        have B1 := hid (BB.out.trans (hB1.mono BB.out.size))
        have X1 := hid ((hB1.block _ (lt_of_heap X0.out)).trans X0.out)
        clear hB1
        go_wp2_with fail
        refine (pointOf_any t _ ht).mono ?_
        rintro e w2 ⟨rfl, hB2⟩
        rw [HQ.out]
        have B2 := hid (B1.out.trans (hB2.mono B1.out.size))
        have X2 := hid ((hB2.block _ (lt_of_heap X1.out)).trans X1.out)
        have k0 : w2.cell? ⟨w.heap.size, 0, none⟩ = some (.int .u32 0) := cell_of_heap X2.out rfl
        have k1 : w2.cell? ⟨w.heap.size, 1, none⟩ = some (.int .u32 0) := cell_of_heap X2.out rfl
        have f0 := frozen_of_heap (i := 0) X2.out
        have f1 := frozen_of_heap (i := 1) X2.out
        clear hB2
        go_wp2
        have d := set2 (a := .int .u32 (x : Int)) (b := .int .u32 (y : Int)) X2.out
        have d0 : ((w2.setCell ⟨w.heap.size, 0, none⟩ (.int .u32 (x : Int))).setCell ⟨w.heap.size, 1, none⟩ (.int .u32 (y : Int))).cell? ⟨w.heap.size, 0, none⟩ = some (.int .u32 (x : Int)) := cell_of_heap d rfl
        have d1 : ((w2.setCell ⟨w.heap.size, 0, none⟩ (.int .u32 (x : Int))).setCell ⟨w.heap.size, 1, none⟩ (.int .u32 (y : Int))).cell? ⟨w.heap.size, 1, none⟩ = some (.int .u32 (y : Int)) := cell_of_heap d rfl
        exact bodyPost_ret (v := .tuple #[.agg #[.int .u32 (x : Int), .int .u32 (y : Int)], .bool true]) (by simp only [results, Tryd.results29]; simp [go_sem, d0, d1]) rfl ⟨rfl, (B2.out.setCell (p := ⟨w.heap.size, 0, none⟩) (Nat.le_refl _) _).setCell (p := ⟨w.heap.size, 1, none⟩) (Nat.le_refl _) _⟩
      · rw [spO_no hxy]
        go_enter Tryd.func29, Tryd.ntmps29
        go_wp2_with fail
        refine (pointOf_any s _ hs).mono ?_
        rintro e w1 ⟨rfl, hB1⟩
        rw [HP.out]
        have B1 := hid (BB.out.trans (hB1.mono BB.out.size))
        have X1 := hid ((hB1.block _ (lt_of_heap X0.out)).trans X0.out)
        clear hB1
        go_wp2_with fail
        refine (pointOf_any t _ ht).mono ?_
        rintro e w2 ⟨rfl, hB2⟩
        rw [HQ.out]
        have B2 := hid (B1.out.trans (hB2.mono B1.out.size))
        have X2 := hid ((hB2.block _ (lt_of_heap X1.out)).trans X1.out)
        have k0 : w2.cell? ⟨w.heap.size, 0, none⟩ = some (.int .u32 0) := cell_of_heap X2.out rfl
        have k1 : w2.cell? ⟨w.heap.size, 1, none⟩ = some (.int .u32 0) := cell_of_heap X2.out rfl
        have f0 := frozen_of_heap (i := 0) X2.out
        have f1 := frozen_of_heap (i := 1) X2.out
        clear hB2
        go_wp2
        have d := set2 (a := .int .u32 0) (b := .int .u32 0) X2.out
        have d0 : ((w2.setCell ⟨w.heap.size, 0, none⟩ (.int .u32 0)).setCell ⟨w.heap.size, 1, none⟩ (.int .u32 0)).cell? ⟨w.heap.size, 0, none⟩ = some (.int .u32 0) := cell_of_heap d rfl
        have d1 : ((w2.setCell ⟨w.heap.size, 0, none⟩ (.int .u32 0)).setCell ⟨w.heap.size, 1, none⟩ (.int .u32 0)).cell? ⟨w.heap.size, 1, none⟩ = some (.int .u32 0) := cell_of_heap d rfl
        exact bodyPost_ret (v := .tuple #[.agg #[.int .u32 0, .int .u32 0], .bool false]) (by simp only [results, Tryd.results29]; simp [go_sem, d0, d1]) rfl ⟨rfl, (B2.out.setCell (p := ⟨w.heap.size, 0, none⟩) (Nat.le_refl _) _).setCell (p := ⟨w.heap.size, 1, none⟩) (Nat.le_refl _) _⟩
end Go.Proofs.YtiekffkeagcaiaaDoor
