/- The contracts of package chart's spanOf and the document's span, over this seat's translation. Conditions: none but a word's size. The contracts of package chart's isCategory, isName, isEdition, isSign, and of the document's all and number, over this seat's translation. Conditions: none but a word's size. The contract of the document's number, over this seat's translation. Conditions: none but a word's size. Numbers of decimal digits, as the library reads them and as charts do; the letters of joins. Plain facts. The contracts of package chart's isJoin, classOf and lines, and of the library's Clone and Split at one byte, over this seat's translation. Conditions: a text's size; what the library's variables hold is some number, some errors. -/
import Derived.Test.YtgalmlelnolodaaGreatDoorChB
import Derived.Lib.ParseIntB
import Derived.Test.YtgalmlelnolodaaGreatDoorShL
import Derived.Shelf.Pu.Clone
namespace Go.Proofs.YtgalmlelnolodaaGreatDoor
open Go.RowKit

abbrev spA (x y : Nat) : Value := .agg #[.int .u32 (x : Int), .int .u32 (y : Int)]
abbrev spR (o : Option (Nat × Nat)) : Ending := .returned (.tuple #[spA (o.getD (0, 0)).1 (o.getD (0, 0)).2, .bool o.isSome])
theorem blw_alloc {a w : World} {o : Obj} (h : Below a.heap.size a w) : Below a.heap.size a (w.alloc o) := h.alloc h.size o
theorem set2 {w : World} {g : Nat} {u v a b : Value} {t : TypeId} (h : w.heap[g]? = some (.cells #[u, v] t (0, 0))) : ((w.setCell ⟨g, 0, none⟩ a).setCell ⟨g, 1, none⟩ b).heap[g]? = some (.cells #[a, b] t (0, 0)) :=
  heap_setCell_at _ _ 1 _ _ _ b (heap_setCell_at _ _ 0 _ _ _ a h)
set_option maxHeartbeats 1600000 in
theorem spanOf_any (s t : ByteArray) (w : World) (hs : s.size ≤ 4000000000) (ht : t.size ≤ 4000000000) :
    Calls Tryz.prog 88 #[.string s, .string t] w fun e w' => e = spR (spV (bs s) (bs t)) ∧ Below w.heap.size w w' := by
  unfold spV
  obtain ⟨P, hP⟩ : ∃ P, ptV (bs s) = P := ⟨_, rfl⟩
  obtain ⟨Q, hQ⟩ : ∃ Q, ptV (bs t) = Q := ⟨_, rfl⟩
  rw [hP, hQ]
  have HP := hid hP
  have HQ := hid hQ
  have BB := hid (show Below w.heap.size w (w.alloc (.cells #[.int .u32 0, .int .u32 0] 47)) from (Below.refl _ _).alloc (Nat.le_refl _) _)
  have X0 := hid (heap_alloc_at w (.cells #[.int .u32 0, .int .u32 0] 47))
  cases P with
  | none =>
    rw [spO_l]
    clear hP hQ
    go_enter Tryz.func88, Tryz.ntmps88
    go_wp2_with fail
    refine (pointOf_any s _ hs).mono ?_
    rintro e w1 ⟨rfl, hB1⟩
    rw [HP.out]
    have B1 := hid (BB.out.trans (hB1.mono BB.out.size))
    have X1 := hid ((hB1.block _ (lt_of_heap X0.out)).trans X0.out)
    clear hB1
    go_wp2_with fail
    refine (pointOf_any t _ ht).mono ?_
    rintro e w2 ⟨rfl, hB2⟩
    rw [HQ.out]
    have B2 := hid (B1.out.trans (hB2.mono B1.out.size))
    have X2 := hid ((hB2.block _ (lt_of_heap X1.out)).trans X1.out)
    have k0 : w2.cell? ⟨w.heap.size, 0, none⟩ = some (.int .u32 0) := cell_of_heap X2.out rfl
    have k1 : w2.cell? ⟨w.heap.size, 1, none⟩ = some (.int .u32 0) := cell_of_heap X2.out rfl
    have f0 := frozen_of_heap (i := 0) X2.out
    have f1 := frozen_of_heap (i := 1) X2.out
    clear hB2
    go_wp2
    have d := set2 (a := .int .u32 0) (b := .int .u32 0) X2.out
    have d0 : ((w2.setCell ⟨w.heap.size, 0, none⟩ (.int .u32 0)).setCell ⟨w.heap.size, 1, none⟩ (.int .u32 0)).cell? ⟨w.heap.size, 0, none⟩ = some (.int .u32 0) := cell_of_heap d rfl
    have d1 : ((w2.setCell ⟨w.heap.size, 0, none⟩ (.int .u32 0)).setCell ⟨w.heap.size, 1, none⟩ (.int .u32 0)).cell? ⟨w.heap.size, 1, none⟩ = some (.int .u32 0) := cell_of_heap d rfl
    exact bodyPost_ret (v := .tuple #[.agg #[.int .u32 0, .int .u32 0], .bool false]) (by simp only [results, Tryz.results88]; simp [go_sem, d0, d1]) rfl ⟨rfl, (B2.out.setCell (p := ⟨w.heap.size, 0, none⟩) (Nat.le_refl _) _).setCell (p := ⟨w.heap.size, 1, none⟩) (Nat.le_refl _) _⟩
  | some x =>
    have hx := ptV_le hP
    cases Q with
    | none =>
      rw [spO_r]
      clear hP hQ
      go_enter Tryz.func88, Tryz.ntmps88
      go_wp2_with fail
      refine (pointOf_any s _ hs).mono ?_
      rintro e w1 ⟨rfl, hB1⟩
      rw [HP.out]
      have B1 := hid (BB.out.trans (hB1.mono BB.out.size))
      have X1 := hid ((hB1.block _ (lt_of_heap X0.out)).trans X0.out)
      clear hB1
      go_wp2_with fail
      refine (pointOf_any t _ ht).mono ?_
      rintro e w2 ⟨rfl, hB2⟩
      rw [HQ.out]
      have B2 := hid (B1.out.trans (hB2.mono B1.out.size))
      have X2 := hid ((hB2.block _ (lt_of_heap X1.out)).trans X1.out)
      have k0 : w2.cell? ⟨w.heap.size, 0, none⟩ = some (.int .u32 0) := cell_of_heap X2.out rfl
      have k1 : w2.cell? ⟨w.heap.size, 1, none⟩ = some (.int .u32 0) := cell_of_heap X2.out rfl
      have f0 := frozen_of_heap (i := 0) X2.out
      have f1 := frozen_of_heap (i := 1) X2.out
      clear hB2
      go_wp2
      have d := set2 (a := .int .u32 0) (b := .int .u32 0) X2.out
      have d0 : ((w2.setCell ⟨w.heap.size, 0, none⟩ (.int .u32 0)).setCell ⟨w.heap.size, 1, none⟩ (.int .u32 0)).cell? ⟨w.heap.size, 0, none⟩ = some (.int .u32 0) := cell_of_heap d rfl
      have d1 : ((w2.setCell ⟨w.heap.size, 0, none⟩ (.int .u32 0)).setCell ⟨w.heap.size, 1, none⟩ (.int .u32 0)).cell? ⟨w.heap.size, 1, none⟩ = some (.int .u32 0) := cell_of_heap d rfl
      exact bodyPost_ret (v := .tuple #[.agg #[.int .u32 0, .int .u32 0], .bool false]) (by simp only [results, Tryz.results88]; simp [go_sem, d0, d1]) rfl ⟨rfl, (B2.out.setCell (p := ⟨w.heap.size, 0, none⟩) (Nat.le_refl _) _).setCell (p := ⟨w.heap.size, 1, none⟩) (Nat.le_refl _) _⟩
    | some y =>
      have hy := ptV_le hQ
      clear hP hQ
      by_cases hxy : x ≤ y
      · rw [spO_yes hxy]
        go_enter Tryz.func88, Tryz.ntmps88
        go_wp2_with fail
        refine (pointOf_any s _ hs).mono ?_
        rintro e w1 ⟨rfl, hB1⟩
        rw [HP.out]
        have B1 := hid (BB.out.trans (hB1.mono BB.out.size))
        have X1 := hid ((hB1.block _ (lt_of_heap X0.out)).trans X0.out)
        clear hB1
        go_wp2_with fail
        refine (pointOf_any t _ ht).mono ?_
        rintro e w2 ⟨rfl, hB2⟩
        rw [HQ.out]
        have B2 := hid (B1.out.trans (hB2.mono B1.out.size))
        have X2 := hid ((hB2.block _ (lt_of_heap X1.out)).trans X1.out)
        have k0 : w2.cell? ⟨w.heap.size, 0, none⟩ = some (.int .u32 0) := cell_of_heap X2.out rfl
        have k1 : w2.cell? ⟨w.heap.size, 1, none⟩ = some (.int .u32 0) := cell_of_heap X2.out rfl
        have f0 := frozen_of_heap (i := 0) X2.out
        have f1 := frozen_of_heap (i := 1) X2.out
        clear hB2
        go_wp2
        have d := set2 (a := .int .u32 (x : Int)) (b := .int .u32 (y : Int)) X2.out
        have d0 : ((w2.setCell ⟨w.heap.size, 0, none⟩ (.int .u32 (x : Int))).setCell ⟨w.heap.size, 1, none⟩ (.int .u32 (y : Int))).cell? ⟨w.heap.size, 0, none⟩ = some (.int .u32 (x : Int)) := cell_of_heap d rfl
        have d1 : ((w2.setCell ⟨w.heap.size, 0, none⟩ (.int .u32 (x : Int))).setCell ⟨w.heap.size, 1, none⟩ (.int .u32 (y : Int))).cell? ⟨w.heap.size, 1, none⟩ = some (.int .u32 (y : Int)) := cell_of_heap d rfl
        exact bodyPost_ret (v := .tuple #[.agg #[.int .u32 (x : Int), .int .u32 (y : Int)], .bool true]) (by simp only [results, Tryz.results88]; simp [go_sem, d0, d1]) rfl ⟨rfl, (B2.out.setCell (p := ⟨w.heap.size, 0, none⟩) (Nat.le_refl _) _).setCell (p := ⟨w.heap.size, 1, none⟩) (Nat.le_refl _) _⟩
      · rw [spO_no hxy]
        go_enter Tryz.func88, Tryz.ntmps88
        go_wp2_with fail
        refine (pointOf_any s _ hs).mono ?_
        rintro e w1 ⟨rfl, hB1⟩
        rw [HP.out]
        have B1 := hid (BB.out.trans (hB1.mono BB.out.size))
        have X1 := hid ((hB1.block _ (lt_of_heap X0.out)).trans X0.out)
        clear hB1
        go_wp2_with fail
        refine (pointOf_any t _ ht).mono ?_
        rintro e w2 ⟨rfl, hB2⟩
        rw [HQ.out]
        have B2 := hid (B1.out.trans (hB2.mono B1.out.size))
        have X2 := hid ((hB2.block _ (lt_of_heap X1.out)).trans X1.out)
        have k0 : w2.cell? ⟨w.heap.size, 0, none⟩ = some (.int .u32 0) := cell_of_heap X2.out rfl
        have k1 : w2.cell? ⟨w.heap.size, 1, none⟩ = some (.int .u32 0) := cell_of_heap X2.out rfl
        have f0 := frozen_of_heap (i := 0) X2.out
        have f1 := frozen_of_heap (i := 1) X2.out
        clear hB2
        go_wp2
        have d := set2 (a := .int .u32 0) (b := .int .u32 0) X2.out
        have d0 : ((w2.setCell ⟨w.heap.size, 0, none⟩ (.int .u32 0)).setCell ⟨w.heap.size, 1, none⟩ (.int .u32 0)).cell? ⟨w.heap.size, 0, none⟩ = some (.int .u32 0) := cell_of_heap d rfl
        have d1 : ((w2.setCell ⟨w.heap.size, 0, none⟩ (.int .u32 0)).setCell ⟨w.heap.size, 1, none⟩ (.int .u32 0)).cell? ⟨w.heap.size, 1, none⟩ = some (.int .u32 0) := cell_of_heap d rfl
        exact bodyPost_ret (v := .tuple #[.agg #[.int .u32 0, .int .u32 0], .bool false]) (by simp only [results, Tryz.results88]; simp [go_sem, d0, d1]) rfl ⟨rfl, (B2.out.setCell (p := ⟨w.heap.size, 0, none⟩) (Nat.le_refl _) _).setCell (p := ⟨w.heap.size, 1, none⟩) (Nat.le_refl _) _⟩
set_option maxHeartbeats 1600000 in
theorem rspan_any (s t : ByteArray) (w : World) (hs : s.size ≤ 4000000000) (ht : t.size ≤ 4000000000) :
    Calls Tryz.prog 58 #[.string s, .string t] w fun e w' => e = spR (spV (bs s) (bs t)) ∧ Below w.heap.size w w' := by
  unfold spV
  obtain ⟨P, hP⟩ : ∃ P, ptV (bs s) = P := ⟨_, rfl⟩
  obtain ⟨Q, hQ⟩ : ∃ Q, ptV (bs t) = Q := ⟨_, rfl⟩
  rw [hP, hQ]
  have HP := hid hP
  have HQ := hid hQ
  have BB := hid (show Below w.heap.size w (w.alloc (.cells #[.int .u32 0, .int .u32 0] 47)) from (Below.refl _ _).alloc (Nat.le_refl _) _)
  have X0 := hid (heap_alloc_at w (.cells #[.int .u32 0, .int .u32 0] 47))
  cases P with
  | none =>
    rw [spO_l]
    clear hP hQ
    go_enter Tryz.func58, Tryz.ntmps58
    go_wp2_with fail
    refine (rpoint_any s _ hs).mono ?_
    rintro e w1 ⟨rfl, hB1⟩
    rw [HP.out, show ptI none = -1 from rfl]
    have B1 := hid (BB.out.trans (hB1.mono BB.out.size))
    have X1 := hid ((hB1.block _ (lt_of_heap X0.out)).trans X0.out)
    clear hB1
    go_wp2_with fail
    refine (rpoint_any t _ ht).mono ?_
    rintro e w2 ⟨rfl, hB2⟩
    rw [HQ.out]
    have B2 := hid (B1.out.trans (hB2.mono B1.out.size))
    have X2 := hid ((hB2.block _ (lt_of_heap X1.out)).trans X1.out)
    have k0 : w2.cell? ⟨w.heap.size, 0, none⟩ = some (.int .u32 0) := cell_of_heap X2.out rfl
    have k1 : w2.cell? ⟨w.heap.size, 1, none⟩ = some (.int .u32 0) := cell_of_heap X2.out rfl
    have f0 := frozen_of_heap (i := 0) X2.out
    have f1 := frozen_of_heap (i := 1) X2.out
    clear hB2
    go_wp2
    have d := set2 (a := .int .u32 0) (b := .int .u32 0) X2.out
    have d0 : ((w2.setCell ⟨w.heap.size, 0, none⟩ (.int .u32 0)).setCell ⟨w.heap.size, 1, none⟩ (.int .u32 0)).cell? ⟨w.heap.size, 0, none⟩ = some (.int .u32 0) := cell_of_heap d rfl
    have d1 : ((w2.setCell ⟨w.heap.size, 0, none⟩ (.int .u32 0)).setCell ⟨w.heap.size, 1, none⟩ (.int .u32 0)).cell? ⟨w.heap.size, 1, none⟩ = some (.int .u32 0) := cell_of_heap d rfl
    exact bodyPost_ret (v := .tuple #[.agg #[.int .u32 0, .int .u32 0], .bool false]) (by simp only [results, Tryz.results58]; simp [go_sem, d0, d1]) rfl ⟨rfl, (B2.out.setCell (p := ⟨w.heap.size, 0, none⟩) (Nat.le_refl _) _).setCell (p := ⟨w.heap.size, 1, none⟩) (Nat.le_refl _) _⟩
  | some x =>
    have hx := ptV_le hP
    cases Q with
    | none =>
      rw [spO_r]
      clear hP hQ
      go_enter Tryz.func58, Tryz.ntmps58
      go_wp2_with fail
      refine (rpoint_any s _ hs).mono ?_
      rintro e w1 ⟨rfl, hB1⟩
      rw [HP.out, show ptI (some x) = (x : Int) from rfl]
      have B1 := hid (BB.out.trans (hB1.mono BB.out.size))
      have X1 := hid ((hB1.block _ (lt_of_heap X0.out)).trans X0.out)
      clear hB1
      go_wp2_with fail
      refine (rpoint_any t _ ht).mono ?_
      rintro e w2 ⟨rfl, hB2⟩
      rw [HQ.out, show ptI none = -1 from rfl]
      have B2 := hid (B1.out.trans (hB2.mono B1.out.size))
      have X2 := hid ((hB2.block _ (lt_of_heap X1.out)).trans X1.out)
      have k0 : w2.cell? ⟨w.heap.size, 0, none⟩ = some (.int .u32 0) := cell_of_heap X2.out rfl
      have k1 : w2.cell? ⟨w.heap.size, 1, none⟩ = some (.int .u32 0) := cell_of_heap X2.out rfl
      have f0 := frozen_of_heap (i := 0) X2.out
      have f1 := frozen_of_heap (i := 1) X2.out
      clear hB2
      go_wp2
      have d := set2 (a := .int .u32 0) (b := .int .u32 0) X2.out
      have d0 : ((w2.setCell ⟨w.heap.size, 0, none⟩ (.int .u32 0)).setCell ⟨w.heap.size, 1, none⟩ (.int .u32 0)).cell? ⟨w.heap.size, 0, none⟩ = some (.int .u32 0) := cell_of_heap d rfl
      have d1 : ((w2.setCell ⟨w.heap.size, 0, none⟩ (.int .u32 0)).setCell ⟨w.heap.size, 1, none⟩ (.int .u32 0)).cell? ⟨w.heap.size, 1, none⟩ = some (.int .u32 0) := cell_of_heap d rfl
      exact bodyPost_ret (v := .tuple #[.agg #[.int .u32 0, .int .u32 0], .bool false]) (by simp only [results, Tryz.results58]; simp [go_sem, d0, d1]) rfl ⟨rfl, (B2.out.setCell (p := ⟨w.heap.size, 0, none⟩) (Nat.le_refl _) _).setCell (p := ⟨w.heap.size, 1, none⟩) (Nat.le_refl _) _⟩
    | some y =>
      have hy := ptV_le hQ
      clear hP hQ
      by_cases hxy : x ≤ y
      · rw [spO_yes hxy]
        go_enter Tryz.func58, Tryz.ntmps58
        go_wp2_with fail
        refine (rpoint_any s _ hs).mono ?_
        rintro e w1 ⟨rfl, hB1⟩
        rw [HP.out, show ptI (some x) = (x : Int) from rfl]
        have B1 := hid (BB.out.trans (hB1.mono BB.out.size))
        have X1 := hid ((hB1.block _ (lt_of_heap X0.out)).trans X0.out)
        clear hB1
        go_wp2_with fail
        refine (rpoint_any t _ ht).mono ?_
        rintro e w2 ⟨rfl, hB2⟩
        rw [HQ.out, show ptI (some y) = (y : Int) from rfl]
        have B2 := hid (B1.out.trans (hB2.mono B1.out.size))
        have X2 := hid ((hB2.block _ (lt_of_heap X1.out)).trans X1.out)
        have k0 : w2.cell? ⟨w.heap.size, 0, none⟩ = some (.int .u32 0) := cell_of_heap X2.out rfl
        have k1 : w2.cell? ⟨w.heap.size, 1, none⟩ = some (.int .u32 0) := cell_of_heap X2.out rfl
        have f0 := frozen_of_heap (i := 0) X2.out
        have f1 := frozen_of_heap (i := 1) X2.out
        clear hB2
        go_wp2
        have d := set2 (a := .int .u32 (x : Int)) (b := .int .u32 (y : Int)) X2.out
        have d0 : ((w2.setCell ⟨w.heap.size, 0, none⟩ (.int .u32 (x : Int))).setCell ⟨w.heap.size, 1, none⟩ (.int .u32 (y : Int))).cell? ⟨w.heap.size, 0, none⟩ = some (.int .u32 (x : Int)) := cell_of_heap d rfl
        have d1 : ((w2.setCell ⟨w.heap.size, 0, none⟩ (.int .u32 (x : Int))).setCell ⟨w.heap.size, 1, none⟩ (.int .u32 (y : Int))).cell? ⟨w.heap.size, 1, none⟩ = some (.int .u32 (y : Int)) := cell_of_heap d rfl
        exact bodyPost_ret (v := .tuple #[.agg #[.int .u32 (x : Int), .int .u32 (y : Int)], .bool true]) (by simp only [results, Tryz.results58]; simp [go_sem, d0, d1]) rfl ⟨rfl, (B2.out.setCell (p := ⟨w.heap.size, 0, none⟩) (Nat.le_refl _) _).setCell (p := ⟨w.heap.size, 1, none⟩) (Nat.le_refl _) _⟩
      · rw [spO_no hxy]
        go_enter Tryz.func58, Tryz.ntmps58
        go_wp2_with fail
        refine (rpoint_any s _ hs).mono ?_
        rintro e w1 ⟨rfl, hB1⟩
        rw [HP.out, show ptI (some x) = (x : Int) from rfl]
        have B1 := hid (BB.out.trans (hB1.mono BB.out.size))
        have X1 := hid ((hB1.block _ (lt_of_heap X0.out)).trans X0.out)
        clear hB1
        go_wp2_with fail
        refine (rpoint_any t _ ht).mono ?_
        rintro e w2 ⟨rfl, hB2⟩
        rw [HQ.out, show ptI (some y) = (y : Int) from rfl]
        have B2 := hid (B1.out.trans (hB2.mono B1.out.size))
        have X2 := hid ((hB2.block _ (lt_of_heap X1.out)).trans X1.out)
        have k0 : w2.cell? ⟨w.heap.size, 0, none⟩ = some (.int .u32 0) := cell_of_heap X2.out rfl
        have k1 : w2.cell? ⟨w.heap.size, 1, none⟩ = some (.int .u32 0) := cell_of_heap X2.out rfl
        have f0 := frozen_of_heap (i := 0) X2.out
        have f1 := frozen_of_heap (i := 1) X2.out
        clear hB2
        go_wp2
        have d := set2 (a := .int .u32 0) (b := .int .u32 0) X2.out
        have d0 : ((w2.setCell ⟨w.heap.size, 0, none⟩ (.int .u32 0)).setCell ⟨w.heap.size, 1, none⟩ (.int .u32 0)).cell? ⟨w.heap.size, 0, none⟩ = some (.int .u32 0) := cell_of_heap d rfl
        have d1 : ((w2.setCell ⟨w.heap.size, 0, none⟩ (.int .u32 0)).setCell ⟨w.heap.size, 1, none⟩ (.int .u32 0)).cell? ⟨w.heap.size, 1, none⟩ = some (.int .u32 0) := cell_of_heap d rfl
        exact bodyPost_ret (v := .tuple #[.agg #[.int .u32 0, .int .u32 0], .bool false]) (by simp only [results, Tryz.results58]; simp [go_sem, d0, d1]) rfl ⟨rfl, (B2.out.setCell (p := ⟨w.heap.size, 0, none⟩) (Nat.le_refl _) _).setCell (p := ⟨w.heap.size, 1, none⟩) (Nat.le_refl _) _⟩
end Go.Proofs.YtgalmlelnolodaaGreatDoor
namespace Go.Proofs.YtgalmlelnolodaaGreatDoor
open Go.RowKit
set_option linter.unusedVariables false

theorem ctV_bytes {s : ByteArray} (h2 : s.size = 2) (g0 : 0 < s.size) (g1 : 1 < s.size) (a b : Nat) (ha : s[0].toNat = a) (hb : s[1].toNat = b) : ctV (bs s) = (isU a && isL b) := by
  have e0 : (bs s).getD 0 0 = a := (bs_at (by omega)).trans ha
  have e1 : (bs s).getD 1 0 = b := (bs_at (by omega)).trans hb
  unfold ctV isU isL
  rw [bs_len, e0, e1, ← Bool.decide_and]
  exact decide_eq_decide.2 (by omega)
theorem ctV_no {s : ByteArray} (h2 : s.size ≠ 2) : ctV (bs s) = false := by
  unfold ctV; rw [bs_len]; exact decide_eq_false (by omega)
set_option maxHeartbeats 1600000 in
theorem isCategory_any (s : ByteArray) (w : World) (hs : s.size ≤ 4000000000) :
    Calls Tryz.prog 89 #[.string s] w fun e w' => e = .returned (.bool (ctV (bs s))) ∧ w' = w := by
  by_cases h2 : s.size = 2
  · have g0 : 0 < s.size := by omega
    have g1 : 1 < s.size := by omega
    obtain ⟨a, ha⟩ : ∃ a, s[0].toNat = a := ⟨_, rfl⟩
    obtain ⟨b, hb⟩ : ∃ b, s[1].toNat = b := ⟨_, rfl⟩
    have ha8 : a < 256 := by rw [← ha]; exact s[0].toNat_lt
    have hb8 : b < 256 := by rw [← hb]; exact s[1].toNat_lt
    rw [ctV_bytes h2 g0 g1 a b ha hb]
    have e2 : ((s.size : Int) == 2) = true := by simp [h2]
    clear h2
    cases hu : isU a
    · have HU := hid hu
      clear hu
      go_enter Tryz.func89, Tryz.ntmps89
      go_wp2_with fail
      refine (capital_any a _ ha8).mono ?_
      rintro e w' ⟨rfl, hw⟩
      subst w'
      rw [HU.out]
      go_wp2
      go_ret
      exact ⟨rfl, rfl⟩
    · have HU := hid hu
      clear hu
      go_enter Tryz.func89, Tryz.ntmps89
      go_wp2_with fail
      refine (capital_any a _ ha8).mono ?_
      rintro e w' ⟨rfl, hw⟩
      subst w'
      rw [HU.out]
      go_wp2_with fail
      refine (small_any b _ hb8).mono ?_
      rintro e w' ⟨rfl, hw⟩
      subst w'
      go_wp2
      go_ret
      exact ⟨rfl, rfl⟩
  · rw [ctV_no h2]
    have e2 : ((s.size : Int) == 2) = false := by simp; omega
    clear h2
    go_enter Tryz.func89, Tryz.ntmps89
    go_wp2
    go_ret
    exact ⟨rfl, rfl⟩
/-- so far all bytes are between lo and hi -/
def alK (lo hi : Nat) (l : List Nat) (k : Nat) : Bool := (l.take k).all fun b => decide (lo ≤ b ∧ b ≤ hi)
theorem alK_step {lo hi : Nat} {l : List Nat} {k : Nat} (hk : k < l.length) (h : alK lo hi l k = true) (hx : lo ≤ l.getD k 0 ∧ l.getD k 0 ≤ hi) : alK lo hi l (k + 1) = true := by
  unfold alK at *
  rw [List.take_add_one, List.all_append, h, List.getElem?_eq_getElem hk]
  rw [List.getD_eq_getElem?_getD, List.getElem?_eq_getElem hk] at hx
  simpa using hx
theorem alV_no {lo hi : Nat} {l : List Nat} {k : Nat} (hk : k < l.length) (hx : ¬ (lo ≤ l.getD k 0 ∧ l.getD k 0 ≤ hi)) : alV lo hi l = false := by
  unfold alV
  rw [List.getD_eq_getElem?_getD, List.getElem?_eq_getElem hk] at hx
  rw [List.all_eq_false]
  exact ⟨l[k], List.getElem_mem hk, by simpa using hx⟩
theorem alK_all {lo hi : Nat} {l : List Nat} (h : alK lo hi l l.length = true) : alV lo hi l = true := by unfold alK at h; rw [List.take_length] at h; exact h
set_option maxHeartbeats 1600000 in
theorem isName_any (s : ByteArray) (m : Nat) (w : World) (hs : s.size ≤ 4000000000) (hm : m ≤ 100) :
    Calls Tryz.prog 90 #[.string s, .int .i64 (m : Int)] w fun e w' => e = .returned (.bool (nmV m (bs s))) ∧ w' = w := by
  by_cases h1 : s.size < 1
  · rw [show nmV m (bs s) = false by unfold nmV; rw [bs_len, decide_eq_false (by omega), Bool.false_and]]
    go_enter Tryz.func90, Tryz.ntmps90
    go_wp2
    go_ret
    exact ⟨rfl, rfl⟩
  by_cases h2 : m < s.size
  · rw [show nmV m (bs s) = false by unfold nmV; rw [bs_len, decide_eq_false (by omega), Bool.false_and]]
    go_enter Tryz.func90, Tryz.ntmps90
    go_wp2
    go_ret
    exact ⟨rfl, rfl⟩
  have hE : nmV m (bs s) = alV 65 90 (bs s) := by unfold nmV; rw [bs_len, decide_eq_true (by omega), Bool.true_and]
  rw [hE]
  obtain ⟨T, hT⟩ : ∃ T, alV 65 90 (bs s) = T := ⟨_, rfl⟩
  rw [hT]
  have HT := hid hT
  have h2' : ¬ (m : Int) < (s.size : Int) := by omega
  clear hE hT
  go_enter Tryz.func90, Tryz.ntmps90
  go_wp2_with fail
  go_loopw [17] (fun c wr => ∃ k : Nat, k ≤ s.size ∧ c = .int .i64 (k : Int) ∧ alK 65 90 (bs s) k = true ∧ wr = w) (fun c _ => s.size - (intOf c).toNat)
  case atStart => exact ⟨0, Nat.zero_le _, rfl, rfl, rfl⟩
  case round =>
    obtain ⟨k, hk, rfl, hp, rfl⟩ := hrel
    have HP := hid hp
    by_cases hlt : k < s.size
    · have hxk := bs_at hlt
      have hx8 : (s[k]).toNat < 256 := (s[k]).toNat_lt
      obtain ⟨x, hx⟩ : ∃ x, (s[k]).toNat = x := ⟨_, rfl⟩
      rw [hx] at hxk hx8
      have hkl : k < (bs s).length := by rw [bs_len]; exact hlt
      have HXK := hid hxk
      have HKL := hid hkl
      clear hp hxk hkl
      cases hd : isU x with
      | false =>
        have HD := hid hd
        clear hd
        go_wp2_with fail
        refine (capital_any x _ hx8).mono ?_
        rintro e w' ⟨rfl, hw⟩
        subst w'
        rw [HD.out]
        go_wp2
        go_ret
        exact ⟨retB (by rw [← HT.out, alV_no HKL.out (by rw [HXK.out]; exact of_decide_eq_false HD.out)]), rfl⟩
      | true =>
        have HD := hid hd
        clear hd
        go_wp2_with fail
        refine (capital_any x _ hx8).mono ?_
        rintro e w' ⟨rfl, hw⟩
        subst w'
        rw [HD.out]
        go_wp2
        go_roundw
        case rel => exact ⟨k + 1, by omega, by go_num, alK_step HKL.out HP.out (by rw [HXK.out]; exact of_decide_eq_true HD.out), trivial⟩
        case measure => simp [intOf]; omega
    · have hke : k = s.size := by omega
      subst hke
      clear hp
      go_wp2
      go_ret
      exact ⟨retB (by rw [← HT.out, alK_all (by rw [bs_len]; exact HP.out)]), rfl⟩
set_option maxHeartbeats 1600000 in
theorem isEdition_any (s : ByteArray) (w : World) :
    Calls Tryz.prog 92 #[.string s] w fun e w' => e = .returned (.bool (edV s)) ∧ w' = w := by
  by_cases h1 : s.toList = [111, 108, 100]
  · rw [show edV s = true by unfold edV; rw [h1]; rfl]
    go_enter Tryz.func92, Tryz.ntmps92
    go_wp2
    go_ret
    exact ⟨rfl, rfl⟩
  · unfold edV
    go_enter Tryz.func92, Tryz.ntmps92
    go_wp2
    go_ret
    exact ⟨rfl, rfl⟩
set_option maxHeartbeats 1600000 in
theorem isSign_any (s : ByteArray) (w : World) :
    Calls Tryz.prog 97 #[.string s] w fun e w' => e = .returned (.bool (sgV s)) ∧ w' = w := by
  by_cases h1 : s.toList = [61]
  · rw [show sgV s = true by unfold sgV; rw [h1]; rfl]
    go_enter Tryz.func97, Tryz.ntmps97
    go_wp2
    go_ret
    exact ⟨rfl, rfl⟩
  · by_cases h2 : s.toList = [33]
    · rw [show sgV s = true by unfold sgV; rw [h2]; rfl]
      go_enter Tryz.func97, Tryz.ntmps97
      go_wp2
      go_ret
      exact ⟨rfl, rfl⟩
    · unfold sgV
      go_enter Tryz.func97, Tryz.ntmps97
      go_wp2
      go_ret
      exact ⟨rfl, rfl⟩
set_option maxHeartbeats 1600000 in
theorem all_any (s : ByteArray) (lo hi a b : Nat) (w : World) (hs : s.size ≤ 4000000000) (h1 : lo < 256) (h2 : hi < 256) (ha : a ≤ 100) (hb : b ≤ 100) :
    Calls Tryz.prog 59 #[.string s, .int .u8 (lo : Int), .int .u8 (hi : Int), .int .i64 (a : Int), .int .i64 (b : Int)] w fun e w' => e = .returned (.bool (alV lo hi (bs s) && decide (a ≤ s.size ∧ s.size ≤ b))) ∧ w' = w := by
  obtain ⟨T, hT⟩ : ∃ T, alV lo hi (bs s) = T := ⟨_, rfl⟩
  rw [hT]
  have HT := hid hT
  clear hT
  go_enter Tryz.func59, Tryz.ntmps59
  go_wp2_with fail
  go_loopw [11] (fun c wr => ∃ k : Nat, k ≤ s.size ∧ c = .int .i64 (k : Int) ∧ alK lo hi (bs s) k = true ∧ wr = w) (fun c _ => s.size - (intOf c).toNat)
  case atStart => exact ⟨0, Nat.zero_le _, rfl, rfl, rfl⟩
  case round =>
    obtain ⟨k, hk, rfl, hp, rfl⟩ := hrel
    have HP := hid hp
    by_cases hlt : k < s.size
    · have hxk := bs_at hlt
      have hx8 : (s[k]).toNat < 256 := (s[k]).toNat_lt
      obtain ⟨x, hx⟩ : ∃ x, (s[k]).toNat = x := ⟨_, rfl⟩
      rw [hx] at hxk hx8
      have hkl : k < (bs s).length := by rw [bs_len]; exact hlt
      have HXK := hid hxk
      have HKL := hid hkl
      clear hp hxk hkl
      by_cases hd : x < lo
      · go_wp2
        go_ret
        exact ⟨retB (by rw [← HT.out, alV_no HKL.out (by rw [HXK.out]; omega)]; rfl), rfl⟩
      · by_cases hd2 : hi < x
        · go_wp2
          go_ret
          exact ⟨retB (by rw [← HT.out, alV_no HKL.out (by rw [HXK.out]; omega)]; rfl), rfl⟩
        · go_wp2
          go_roundw
          case rel => exact ⟨k + 1, by omega, by go_num, alK_step HKL.out HP.out (by rw [HXK.out]; omega), trivial⟩
          case measure => simp [intOf]; omega
    · have hke : k = s.size := by omega
      subst hke
      have HT1 := hid (show T = true by rw [← HT.out, alK_all (by rw [bs_len]; exact HP.out)])
      clear hp
      by_cases g1 : a ≤ s.size
      · go_wp2
        go_ret
        exact ⟨retB (by rw [HT1.out, Bool.true_and]; exact decide_eq_decide.2 (by omega)), rfl⟩
      · go_wp2
        go_ret
        exact ⟨retB (by rw [HT1.out, Bool.true_and]; exact (decide_eq_false (by omega)).symm), rfl⟩
end Go.Proofs.YtgalmlelnolodaaGreatDoor
namespace Go.Proofs.YtgalmlelnolodaaGreatDoor
open Go.RowKit
set_option linter.unusedVariables false

theorem alV_at {lo hi : Nat} {l : List Nat} (h : alV lo hi l = true) {k : Nat} (hk : k < l.length) : lo ≤ l.getD k 0 ∧ l.getD k 0 ≤ hi := by
  unfold alV at h
  rw [List.all_eq_true] at h
  rw [List.getD_eq_getElem?_getD, List.getElem?_eq_getElem hk]
  simpa using h l[k] (List.getElem_mem hk)
theorem dcV_lt {l : List Nat} (h : alV 48 57 l = true) : ∀ k, k ≤ l.length → dcV l k < 10 ^ k := by
  intro k
  induction k with
  | zero => intro _; show (0 : Nat) < 10 ^ 0; decide
  | succ k ih =>
    intro hk
    have h1 := ih (by omega)
    have h2 := alV_at h (k := k) (by omega)
    rw [dcV, Nat.pow_succ]
    omega
theorem clV_no {s : ByteArray} (h : ¬ ((1 ≤ s.size ∧ s.size ≤ 3) ∧ alV 48 57 (bs s) = true ∧ (bs s).getD 0 0 ≠ 48)) : clV (bs s) = none := by
  unfold clV
  rw [bs_len, if_neg (fun x => h ⟨x.1, x.2.1, x.2.2.1⟩)]
theorem clV_in {s : ByteArray} (h1 : 1 ≤ s.size ∧ s.size ≤ 3) (h2 : alV 48 57 (bs s) = true) (h3 : (bs s).getD 0 0 ≠ 48) : clV (bs s) = if dcV (bs s) s.size ≤ 254 then some (dcV (bs s) s.size) else none := by
  unfold clV
  rw [bs_len]
  by_cases h : dcV (bs s) s.size ≤ 254
  · rw [if_pos ⟨h1, h2, h3, h⟩, if_pos h]
  · rw [if_neg (fun x => h x.2.2.2), if_neg h]
set_option maxHeartbeats 1600000 in
theorem number_any (s : ByteArray) (w : World) (hs : s.size ≤ 4000000000) :
    Calls Tryz.prog 60 #[.string s] w fun e w' => e = .returned (.int .i64 (((clV (bs s)).getD 0 : Nat) : Int)) ∧ w' = w := by
  have HA := hid (all_any s 48 57 1 3 w hs (by decide) (by decide) (by decide) (by decide))
  by_cases h1 : (alV 48 57 (bs s) && decide (1 ≤ s.size ∧ s.size ≤ 3)) = true
  · rw [h1] at HA
    have ha : alV 48 57 (bs s) = true := by cases hv : alV 48 57 (bs s); rw [hv] at h1; cases h1; rfl
    have hz : 1 ≤ s.size ∧ s.size ≤ 3 := by rw [ha, Bool.true_and] at h1; exact of_decide_eq_true h1
    have g0 : 0 < s.size := by omega
    have hb0 : (bs s).getD 0 0 = s[0].toNat := bs_at g0
    by_cases h0 : (bs s).getD 0 0 = 48
    · rw [clV_no (fun x => x.2.2 h0)]
      have hx0 : (((s[0].toNat : Nat) : Int) == 48) = true := by rw [← hb0, h0]; rfl
      clear h1 ha hz hb0 h0
      go_enter Tryz.func60, Tryz.ntmps60
      go_wp2_with fail
      refine HA.out.mono ?_
      rintro e w' ⟨rfl, hw⟩
      subst w'
      go_wp2
      go_ret
      exact ⟨rfl, rfl⟩
    · have hx0 : (((s[0].toNat : Nat) : Int) == 48) = false := by
        have hne : s[0].toNat ≠ 48 := fun e => h0 (hb0.trans e)
        simp
        omega
      have HC := hid (clV_in hz ha h0)
      obtain ⟨T, hT⟩ : ∃ T, clV (bs s) = T := ⟨_, rfl⟩
      rw [hT] at HC
      rw [hT]
      have HAL := hid ha
      have hz3 := hz.2
      have HLT := hid (fun k (hk : k ≤ s.size) => dcV_lt ha k (by rw [bs_len]; exact hk))
      clear h1 ha hz hb0 h0 hT
      go_enter Tryz.func60, Tryz.ntmps60
      go_wp2_with fail
      refine HA.out.mono ?_
      rintro e w' ⟨rfl, hw⟩
      subst w'
      go_wp2_with fail
      go_loopw [4, 3] (fun c v wr => ∃ k p : Nat, k ≤ s.size ∧ c = .int .i64 (k : Int) ∧ v = .int .i64 (p : Int) ∧ dcV (bs s) k = p ∧ wr = w) (fun c _ _ => s.size - (intOf c).toNat)
      case atStart => exact ⟨0, 0, Nat.zero_le _, rfl, rfl, rfl, rfl⟩
      case round =>
        obtain ⟨k, p, hk, rfl, rfl, hp, rfl⟩ := hrel
        have HP := hid hp
        have hp3 : p < 1000 := by
          have := HLT.out k hk
          rw [hp] at this
          have h10 : 10 ^ k ≤ 10 ^ 3 := Nat.pow_le_pow_right (by decide) (by omega)
          omega
        by_cases hlt : k < s.size
        · have hxk := bs_at hlt
          obtain ⟨x, hx⟩ : ∃ x, (s[k]).toNat = x := ⟨_, rfl⟩
          rw [hx] at hxk
          have hxr := alV_at HAL.out (k := k) (by rw [bs_len]; exact hlt)
          rw [hxk] at hxr
          obtain ⟨hx1, hx2⟩ := hxr
          have HN := hid (show dcV (bs s) (k + 1) = p * 10 + (x - 48) by rw [dcV, hp, hxk])
          clear hp hxk
          go_wp2
          go_roundw
          case rel => exact ⟨k + 1, p * 10 + (x - 48), by omega, by go_num, by go_num, HN.out, trivial⟩
          case measure => simp [intOf]; omega
        · have hke : k = s.size := by omega
          subst hke
          rw [HP.out] at HC
          clear hp
          by_cases h254 : p ≤ 254
          · have HT := hid (show T = some p by rw [HC.out, if_pos h254])
            go_wp2
            go_ret
            exact ⟨retI (by rw [HT.out]; rfl), rfl⟩
          · have HT := hid (show T = none by rw [HC.out, if_neg h254])
            go_wp2
            go_ret
            exact ⟨retI (by rw [HT.out]; rfl), rfl⟩
  · have e1 : (alV 48 57 (bs s) && decide (1 ≤ s.size ∧ s.size ≤ 3)) = false := by simpa using h1
    rw [e1] at HA
    rw [clV_no (fun x => h1 (by rw [x.2.1, Bool.true_and]; exact decide_eq_true x.1))]
    clear h1 e1
    go_enter Tryz.func60, Tryz.ntmps60
    go_wp2_with fail
    refine HA.out.mono ?_
    rintro e w' ⟨rfl, hw⟩
    subst w'
    go_wp2
    go_ret
    exact ⟨rfl, rfl⟩
end Go.Proofs.YtgalmlelnolodaaGreatDoor
namespace Go.Proofs.YtgalmlelnolodaaGreatDoor
open Go.RowKit
set_option linter.unusedVariables false

def dv (acc : Nat) (l : List UInt8) : Nat := l.foldl (fun a c => a * 10 + (c.toNat - 48)) acc
theorem dv_nil (acc : Nat) : dv acc [] = acc := rfl
theorem dv_cons (acc : Nat) (c : UInt8) (r : List UInt8) : dv acc (c :: r) = dv (acc * 10 + (c.toNat - 48)) r := by unfold dv; rw [List.foldl_cons]
theorem dv_ge (l : List UInt8) : ∀ acc, acc * 10 ^ l.length ≤ dv acc l := by
  induction l with
  | nil => intro acc; rw [dv_nil]; simp
  | cons c r ih =>
    intro acc
    have := ih (acc * 10 + (c.toNat - 48))
    rw [dv_cons, List.length_cons, Nat.pow_succ]
    refine Nat.le_trans ?_ this
    have e : acc * (10 ^ r.length * 10) = acc * 10 * 10 ^ r.length := by rw [Nat.mul_comm (10 ^ r.length) 10, Nat.mul_assoc]
    rw [e, Nat.add_mul]
    exact Nat.le_add_right _ _
theorem dv_le_acc (l : List UInt8) (acc : Nat) : acc ≤ dv acc l := by
  have h := dv_ge l acc
  have : acc * 1 ≤ acc * 10 ^ l.length := Nat.mul_le_mul_left _ (Nat.pow_pos (by decide))
  omega
theorem dv_foldl (l : List UInt8) : ∀ acc, dv acc l = (l.map (·.toNat)).foldl (fun a b => a * 10 + (b - 48)) acc := by
  induction l with
  | nil => intro acc; rfl
  | cons c r ih => intro acc; rw [dv_cons, ih]; rfl
theorem dcV_foldl (l : List Nat) (k : Nat) (hk : k ≤ l.length) : dcV l k = (l.take k).foldl (fun a b => a * 10 + (b - 48)) 0 := by
  induction k with
  | zero => rfl
  | succ k ih =>
    rw [dcV, ih (by omega), List.take_add_one, List.foldl_append, List.getElem?_eq_getElem (by omega), List.getD_eq_getElem?_getD, List.getElem?_eq_getElem (by omega)]
    rfl
theorem dcV_dv (s : ByteArray) : dcV (bs s) s.size = dv 0 s.data.toList := by
  rw [dv_foldl, dcV_foldl _ _ (by rw [bs_len]; exact Nat.le_refl _), ← bs_len, List.take_length]
  rfl
open Go.Lib in
theorem uint_ok {M : Nat} : ∀ {l : List UInt8} {acc u : Nat}, parseUintM M acc l = .ok u → (∀ c ∈ l, 48 ≤ c.toNat ∧ c.toNat ≤ 57) ∧ u = dv acc l := by
  intro l
  induction l with
  | nil => intro acc u h; unfold parseUintM at h; cases h; exact ⟨fun c hc => by simp at hc, rfl⟩
  | cons c r ih =>
    intro acc u h
    unfold parseUintM at h
    split at h
    · rename_i hc
      split at h
      · cases h
      · split at h
        · cases h
        · obtain ⟨h1, h2⟩ := ih h
          refine ⟨fun x hx => ?_, h2⟩
          rcases List.mem_cons.1 hx with rfl | hx
          · exact hc
          · exact h1 x hx
    · cases h
open Go.Lib in
theorem uint_yes {M : Nat} (hM : M ≤ 1000000000000) : ∀ {l : List UInt8} {acc : Nat}, (∀ c ∈ l, 48 ≤ c.toNat ∧ c.toNat ≤ 57) → dv acc l ≤ M → parseUintM M acc l = .ok (dv acc l) := by
  intro l
  induction l with
  | nil => intro acc _ _; unfold parseUintM; rfl
  | cons c r ih =>
    intro acc hc hd
    have h1 := hc c List.mem_cons_self
    have h2 := dv_le_acc r (acc * 10 + (c.toNat - 48))
    rw [dv_cons] at hd
    unfold parseUintM
    rw [if_pos h1, if_neg (by omega), if_neg (by omega), ih (fun x hx => hc x (List.mem_cons_of_mem _ hx)) hd]
    rfl
theorem alV_mem {s : ByteArray} : alV 48 57 (bs s) = true ↔ ∀ c ∈ s.data.toList, 48 ≤ c.toNat ∧ c.toNat ≤ 57 := by
  unfold alV bs
  rw [List.all_eq_true]
  simp
theorem head_bs {s : ByteArray} {c : UInt8} {r : List UInt8} (h : s.data.toList = c :: r) : (bs s).getD 0 0 = c.toNat := by
  unfold bs; rw [h]; rfl
open Go.Lib in
/-- what the library reads, and a class -/
theorem clV_ok {s : ByteArray} {u : Nat} (h : parseUintB 32 s.data.toList = .ok u) : 0 < s.size ∧ clV (bs s) = if (bs s).getD 0 0 ≠ 48 ∧ u ≤ 254 then some u else none := by
  unfold parseUintB at h
  split at h
  · cases h
  · rename_i hne
    obtain ⟨h1, h2⟩ := uint_ok h
    have hl := Lib.size_eq s
    have hpos : 0 < s.size := by rw [hl]; exact List.length_pos_iff.2 hne
    refine ⟨hpos, ?_⟩
    have ha := alV_mem.2 h1
    by_cases h0 : (bs s).getD 0 0 = 48
    · rw [clV_no (fun x => x.2.2 h0), if_neg (fun x => x.1 h0)]
    · have hlen : u ≤ 254 → s.size ≤ 3 := fun hu => by
        rcases Nat.lt_or_ge 3 s.size with h4 | h4
        · exfalso
          obtain ⟨c, r, hcr⟩ : ∃ c r, s.data.toList = c :: r := by
            cases hs : s.data.toList with
            | nil => exact absurd hs hne
            | cons c r => exact ⟨c, r, rfl⟩
          have hc := h1 c (by rw [hcr]; exact List.mem_cons_self)
          have hc0 : c.toNat ≠ 48 := fun e => h0 ((head_bs hcr).trans e)
          have hg := dv_ge r (0 * 10 + (c.toNat - 48))
          rw [hcr, dv_cons] at h2
          have hr : 3 ≤ r.length := by rw [hl, hcr, List.length_cons] at h4; omega
          have hp : 10 ^ 3 ≤ 10 ^ r.length := Nat.pow_le_pow_right (by decide) hr
          have hm : 1 * 10 ^ r.length ≤ (0 * 10 + (c.toNat - 48)) * 10 ^ r.length := Nat.mul_le_mul_right _ (by omega)
          omega
        · exact h4
      by_cases hu : u ≤ 254
      · rw [if_pos ⟨h0, hu⟩, clV_in ⟨hpos, hlen hu⟩ ha h0, dcV_dv, ← h2, if_pos hu]
      · rw [if_neg (fun x => hu x.2)]
        by_cases h3 : s.size ≤ 3
        · rw [clV_in ⟨hpos, h3⟩ ha h0, dcV_dv, ← h2, if_neg hu]
        · rw [clV_no (fun x => h3 x.1.2)]
open Go.Lib in
theorem clV_bad {s : ByteArray} (h : ∀ u, parseUintB 32 s.data.toList ≠ .ok u) : clV (bs s) = none := by
  by_cases hc : (1 ≤ s.size ∧ s.size ≤ 3) ∧ alV 48 57 (bs s) = true ∧ (bs s).getD 0 0 ≠ 48
  · obtain ⟨h1, h2, h3⟩ := hc
    rw [clV_in h1 h2 h3]
    by_cases h4 : dcV (bs s) s.size ≤ 254
    · exfalso
      refine h (dv 0 s.data.toList) ?_
      unfold parseUintB
      have hl := Lib.size_eq s
      rw [if_neg (fun e => by rw [e] at hl; have h0 : s.size = 0 := hl; omega)]
      exact uint_yes (M := 2 ^ 32 - 1) (by decide) (alV_mem.1 h2) (by rw [← dcV_dv]; exact Nat.le_trans h4 (by decide))
    · rw [if_neg h4]
  · exact clV_no hc
open Go.Lib in
theorem joins : ∀ n : Fin 256, contains [85, 68, 82, 76, 67, 84] [UInt8.ofNat n.val] = ([UInt8.ofNat n.val] == [85] || [UInt8.ofNat n.val] == [68] || [UInt8.ofNat n.val] == [82] || [UInt8.ofNat n.val] == [76] || [UInt8.ofNat n.val] == [67] || [UInt8.ofNat n.val] == [84]) := by decide +kernel
open Go.Lib in
theorem jnV_one {s : ByteArray} (h : s.size = 1) : jnV s = contains [85, 68, 82, 76, 67, 84] s.data.toList := by
  have hl := Lib.size_eq s
  obtain ⟨c, hc⟩ : ∃ c, s.data.toList = [c] := List.length_eq_one_iff.1 (by omega)
  have e : UInt8.ofNat c.toNat = c := by simp
  have := joins ⟨c.toNat, c.toNat_lt⟩
  simp only [e] at this
  unfold jnV
  rw [Lib.toList_data, hc]
  exact this.symm
theorem jnV_no {s : ByteArray} (h : s.size ≠ 1) : jnV s = false := by
  have hl := Lib.size_eq s
  have : ∀ x : UInt8, (s.toList == [x]) = false := fun x => by
    rw [Lib.toList_data]
    simp
    intro e
    rw [e] at hl
    simp at hl
    omega
  unfold jnV
  simp only [this, Bool.or_self]
end Go.Proofs.YtgalmlelnolodaaGreatDoor
namespace Go.Proofs.YtgalmlelnolodaaGreatDoor
open Go.RowKit
set_option linter.unusedVariables false

/-- what the library's own variables hold: some number, some errors -/
structure Vr (w : World) : Prop where
  m : ∃ m, w.cell? ⟨0, 0, none⟩ = some (.int .i64 m)
  es : ∃ ev, w.cell? ⟨1, 0, none⟩ = some ev ∧ (ev = .nilIface ∨ ∃ te pe, ev = .iface te pe)
  er : ∃ ev, w.cell? ⟨2, 0, none⟩ = some ev ∧ (ev = .nilIface ∨ ∃ te pe, ev = .iface te pe)
theorem Vr.below {w w' : World} (v : Vr w) (h : Below w.heap.size w w') : Vr w' := by
  obtain ⟨⟨m, hm⟩, ⟨e1, h1, k1⟩, ⟨e2, h2, k2⟩⟩ := v
  exact ⟨⟨m, cell_later h hm⟩, ⟨e1, cell_later h h1, k1⟩, ⟨e2, cell_later h h2, k2⟩⟩
theorem Vr.alloc {w : World} (v : Vr w) (o : Obj) : Vr (w.alloc o) := v.below ((Below.refl _ _).alloc (Nat.le_refl _) o)
theorem Vr.later {w w' : World} {B : Nat} (v : Vr w) (hB : w.heap.size ≤ B) (h : Below B w w') : Vr w' := v.below (h.mono hB)

theorem sclone_any (s : ByteArray) (w : World) (hs : s.size ≤ 4000000000) :
    Calls Tryz.prog 108 #[.string s] w fun e w' => e = .returned (.string s) ∧ Below w.heap.size w w' :=
  AnyPu.stringslite_Clone ({ Tryz.laysPu14 with } : LaysPu.n25 Tryz.prog Tryz.laysPu14_ren) s w (by omega)
set_option maxHeartbeats 800000 in
theorem clone_any (s : ByteArray) (w : World) (hs : s.size ≤ 4000000000) :
    Calls Tryz.prog 93 #[.string s] w fun e w' => e = .returned (.string s) ∧ Below w.heap.size w w' := by
  go_enter Tryz.func93, Tryz.ntmps93
  go_wp2_with fail
  refine (sclone_any s _ hs).mono ?_
  rintro e w1 ⟨rfl, hB⟩
  have HB := hid hB
  clear hB
  go_wp2
  go_ret
  exact ⟨rfl, HB.out⟩
/-- a string of one byte -/
abbrev one (c : UInt8) : ByteArray := ⟨#[c]⟩
theorem split_any (s : ByteArray) (c : UInt8) (w : World) (v : Vr w) (hs : s.size ≤ 4000000000) :
    Calls Tryz.prog 87 #[.string s, .string (one c)] w fun e w' =>
      e = .returned (.slice (some ⟨w.heap.size, 0, none⟩) (splS c s).length (splS c s).length) ∧ w' = w.alloc (.cells ((splS c s).map Value.string).toArray 9) := by
  obtain ⟨m, hm⟩ := v.m
  refine (Tryz.strings_Split s (one c) m w (by omega) hm (Nat.le_refl 1)).mono ?_
  rintro e w' ⟨rfl, rfl⟩
  rw [countB_splS, splitB_splS]
  exact ⟨rfl, rfl⟩
set_option maxHeartbeats 800000 in
theorem isJoin_any (s : ByteArray) (w : World) (v : Vr w) (hs : s.size ≤ 4000000000) :
    Calls Tryz.prog 91 #[.string s] w fun e w' => e = .returned (.bool (jnV s)) ∧ w' = w := by
  by_cases h1 : s.size = 1
  · rw [jnV_one h1]
    have e1 : ((s.size : Int) == 1) = true := by simp [h1]
    obtain ⟨m, hm⟩ := v.m
    have HC := hid (Tryz.strings_Contains ⟨#[85, 68, 82, 76, 67, 84]⟩ s m w (by decide) hm)
    clear h1 v hm
    go_enter Tryz.func91, Tryz.ntmps91
    go_wp2_with fail
    refine HC.out.mono ?_
    rintro e w' ⟨rfl, hw⟩
    subst w'
    go_wp2
    go_ret
    exact ⟨rfl, rfl⟩
  · rw [jnV_no h1]
    have e1 : ((s.size : Int) == 1) = false := by simp; omega
    clear h1
    go_enter Tryz.func91, Tryz.ntmps91
    go_wp2
    go_ret
    exact ⟨rfl, rfl⟩
end Go.Proofs.YtgalmlelnolodaaGreatDoor
