/- The contract of package pack's Pack where it refuses, over this seat's translation. Conditions: at most 20 lanes, in a slice apart from the arena. -/
import Derived.Test.YtjcnkigadlmpgaaDoorPkF
import Derived.Laws.AppendOwnNone
namespace Go.Proofs.YtjcnkigadlmpgaaDoor
open Go.RowKit

theorem Tryd.infoInt : (Tryd.prog.info? 3).map (fun i => (i.zero, i.size, i.bytes)) = some (some (.int .i64 0), 1, 8) := by kernel_rfl
/-- append of a slice that may be nil -/
theorem wpList_append_opt {P : Program} {w : World} {ops : Array Oper} {rest : List Oper} {o : Oper} {a : Go.Act} {Q : Exit → Go.Act → World → Prop} (hgd : o.guard = none) (s x : Operand) (t : TypeId)
    (ho : o.op = .call { callee := .builtin .append, args := #[s, x], argTypes := #[t, t] })
    (base : Nat) (e : TypeId) (i : TypeInfo) (z : Value) (size bytes : Nat) (ht : P.underlying t = some (.slice e)) (hi : P.info? e = some i) (hz : i.zero = some z)
    (hsize : i.size = size) (hby : i.bytes = bytes) (hzs : z.cells.size = size) (hsz : 0 < size)
    (v : Value) (n : Nat) (xs : List Value) (hs : a.eval s = v) (hown : w.ownsRow base e size v n xs)
    (ad : Option Addr) (m c : Nat) (news : List Value) (hx : a.eval x = .slice ad m c)
    (hd : (ad = none ∧ m = 0 ∧ c = 0 ∧ news = []) ∨ ∃ q, ad = some q ∧ news.length = m * size ∧ ∀ j u, news[j]? = some u → w.cell? (q.add j) = some u) (h1 : ∀ u ∈ news, u.oneCell' = true)
    (h63 : n + m ≤ maxLen) (hbytes : (n + m) * bytes ≤ 140737488355328) (hbase : base ≤ w.heap.size)
    (h : ∀ v' w', w'.ownsRow base e size v' (n + m) (xs ++ news) → w.grownBy w' v.ownBlock → wpList P ops Q rest (a.put o.dst v') w') : wpList P ops Q (o :: rest) a w := by
  rcases hd with ⟨rfl, rfl, rfl, rfl⟩ | ⟨q, rfl, hl, hn⟩
  · exact wpList_append_own_none hgd s x t ho base e i size ht hi v n xs hs hown hx (h v w (by simpa using hown) ⟨rfl, rfl, rfl, Nat.le_refl _, fun _ _ _ => rfl⟩)
  · exact wpList_append_own w hgd s x t ho base e i z size bytes ht hi hz hsize hby hzs hsz v n xs hs hown q m c news hx hl hn h1 h63 hbytes hbase fun v' w' h2 h3 _ => h v' w' h2 h3
abbrev ints (zs : List Int) : List Value := zs.map fun z => .int .i64 z
theorem ints_get (zs : List Int) (j : Nat) (hj : j < zs.length) : (ints zs)[j]? = some (.int .i64 (zs[j]?.getD 0)) := by simp [ints, hj]
theorem owns_one (w : World) (B : Nat) (x : Int) (hB : B ≤ w.heap.size) : (w.alloc (.cells #[.int .i64 x] 3 (0, 0))).ownsRow B 3 1 (.slice (some ⟨w.heap.size, 0, none⟩) 1 1) 1 (ints [x]) :=
  ⟨rfl, Or.inr ⟨w.heap.size, 1, #[.int .i64 x], rfl, hB, heap_alloc_at _ _, by decide, by decide, rfl, rfl⟩⟩
/-- a slice of lanes that may be nil -/
def Lz (w : World) (F : Nat → Prop) (ad : Option Addr) (cap : Nat) (zs : List Int) : Prop := (ad = none ∧ cap = 0 ∧ zs = []) ∨ ∃ b, ad = some ⟨b, 0, none⟩ ∧ b < w.heap.size ∧ ¬ F b ∧ ∀ j, j < zs.length → w.cell? ⟨b, j, none⟩ = some (.int .i64 (zs[j]?.getD 0))
theorem Lz.step {w w' : World} {F F' : Nat → Prop} {ad : Option Addr} {cap : Nat} {zs : List Int} (l : Lz w F ad cap zs) (s : Step w F w' F') : Lz w' F' ad cap zs := by
  rcases l with h | ⟨b, h1, h2, h3, h4⟩
  · exact Or.inl h
  · exact Or.inr ⟨b, h1, Nat.lt_of_lt_of_le h2 s.size, s.out h3 h2, fun j hj => s.cell (h4 j hj) h3⟩
theorem Lz.src {w w' : World} {F : Nat → Prop} {ad : Option Addr} {cap : Nat} {zs : List Int} (l : Lz w F ad cap zs) (hB : Below w.heap.size w w') :
    (ad = none ∧ zs.length = 0 ∧ cap = 0 ∧ ints zs = []) ∨ ∃ q, ad = some q ∧ (ints zs).length = zs.length * 1 ∧ ∀ j u, (ints zs)[j]? = some u → w'.cell? (q.add j) = some u := by
  rcases l with ⟨rfl, rfl, rfl⟩ | ⟨b, rfl, h2, h3, h4⟩
  · exact Or.inl ⟨rfl, rfl, rfl, rfl⟩
  · refine Or.inr ⟨_, rfl, by simp, fun j u hj => ?_⟩
    have hl : j < zs.length := by have := (List.getElem?_eq_some_iff.1 hj).1; simpa using this
    rw [ints_get zs j hl] at hj; cases hj
    rw [add_plain]
    exact cell_below hB (h4 j hl) h2
theorem ints_one (zs : List Int) : ∀ u ∈ ints zs, u.oneCell' = true := fun u hu => by
  obtain ⟨z, _, rfl⟩ := List.mem_map.1 hu; rfl

theorem all_row {w w3 : World} {keep : Int} {zs : List Int} {v : Value} (hown : w3.ownsRow (w.heap.size + 1) 3 1 v (1 + zs.length) (ints [keep] ++ ints zs)) (hg : ((w.alloc (.cells #[.int .u32 0] 32 (0, 0))).alloc (.cells #[.int .i64 keep] 3 (0, 0))).grownBy w3 (Value.slice (some ⟨w.heap.size + 1, 0, none⟩) 1 1).ownBlock) :
    ∃ sd sc g, v = .slice sd (1 + zs.length) sc ∧ sd = some ⟨g, 0, none⟩ ∧ (w3.heap[w.heap.size]? = some (.cells #[.int .u32 0] 32 (0, 0)) ∧ Below w.heap.size w w3 ∧ g < w3.heap.size ∧ ∀ j, j < (keep :: zs).length → w3.cell? ⟨g, j, none⟩ = some (.int .i64 ((keep :: zs)[j]?.getD 0))) := by
  obtain ⟨sd, sc, rfl⟩ := owns_shape hown
  obtain ⟨g, rfl, h1, h2, h3⟩ := owns_cell hown (by omega)
  have hB := belowCat (below1p w (.cells #[.int .u32 0] 32 (0, 0))) (below1p _ (.cells #[.int .i64 keep] 3 (0, 0)))
  refine ⟨_, sc, g, rfl, rfl, ?_, hB.grown hg (by simp; omega) (fun k hk => by simp [Value.ownBlock] at hk; omega), h2, fun j hj => h3 j _ (ints_get (keep :: zs) j hj)⟩
  rw [hg.block _ (by simp; omega) (by intro e; simp [Value.ownBlock] at e), heap_alloc_old _ _ _ (by simp)]
  exact heap_alloc_at _ _
set_option maxHeartbeats 1600000 in
set_option maxRecDepth 4000 in
theorem pack_no (h : Hn) (F : Nat → Prop) (A : Ars) (n keep : Int) (cap : Nat) (ad : Option Addr) (zs : List Int) (w : World) (a : Ar w h F A) (hlen : zs.length ≤ 20) (hz : ∀ z ∈ keep :: zs, z < 9223372036854775808) (hl : Lz w F ad cap zs) (hN : ¬ PFine A n keep zs) :
    Calls Tryd.prog 28 #[arPtr h, .int .i64 keep, .int .i64 n, .slice ad zs.length cap] w fun e w' => e = .returned (.tuple #[sec 0, .bool false]) ∧ ∃ F', Ar w' h F' A ∧ Step w F w' F' := by
  have HA := hid a
  have HL := hid hl
  have HZ := hid hz
  have HLE := hid (show 1 + zs.length = (keep :: zs).length by simp; omega)
  have HL21 := hid (show (keep :: zs).length ≤ 1000000 by simp; omega)
  have HLM := hid (show zs.length + 1 = ((keep :: zs).map fun z => (z, n)).length by simp)
  have HZ2 := hid (show ∀ x ∈ (keep :: zs).map fun z => (z, n), x.1 < 9223372036854775808 from fun x hx => by obtain ⟨z, hz', rfl⟩ := List.mem_map.1 hx; exact HZ.out z hz')
  obtain ⟨i0, hi, hz0, hz1, hz2⟩ := info_parts Tryd.infoInt
  have HOW := hid (show ((w.alloc (.cells #[.int .u32 0] 32 (0, 0))).alloc (.cells #[.int .i64 keep] 3 (0, 0))).ownsRow (w.heap.size + 1) 3 1 (.slice (some ⟨w.heap.size + 1, 0, none⟩) 1 1) 1 (ints [keep]) by
    have := owns_one (w.alloc (.cells #[.int .u32 0] 32 (0, 0))) (w.heap.size + 1) keep (by simp)
    rwa [World.size_alloc] at this)
  have HSRC := hid (hl.src (belowCat (below1p w (.cells #[.int .u32 0] 32 (0, 0))) (below1p _ (.cells #[.int .i64 keep] 3 (0, 0)))))
  have HN := hid hN
  have HNF := hid (show ¬ F w.heap.size from fun x => by have := a.lt _ x; omega)
  clear a hl hN hz
  by_cases hm : 0 ≤ n ∧ n ≤ 49152
  · have hmay : decide (0 ≤ (zs.length : Int) ∧ 0 ≤ n ∧ n ≤ 49152) = true := decide_eq_true ⟨by omega, hm⟩
    by_cases hrf : Rfine A ((keep :: zs).map fun z => (z, n))
    · have hct : A.canTake n = false := by
        cases hc : A.canTake n with
        | false => rfl
        | true => exact absurd (by obtain ⟨q1, q2⟩ := (rfine_of A n (keep :: zs) hm.1).1 hrf; exact ⟨hm, q1, q2, hc⟩) HN.out
      have HRF := hid hrf
      clear hrf hm
      go_enter Tryd.func28, Tryd.ntmps28
      go_wp2_with (first | (at_builtin; refine wpList_append_opt rfl (.tmp 16) (.tmp 17) 56 rfl (w.heap.size + 1) 3 i0 _ 1 8 Tryd.underlying56 hi hz0 hz1 hz2 rfl (by decide) _ 1 (ints [keep]) rfl HOW.out ad zs.length cap (ints zs) rfl HSRC.out (ints_one zs) (by unfold maxLen; omega) (by omega) (by simp) ?_; intro v w3 hown hgrow; obtain ⟨sd, sc, g, rfl, rfl, hX⟩ := all_row hown hgrow; have HX := hid hX; have c3 : w3.cell? ⟨w.heap.size, 0, none⟩ = some (.int .u32 0) := cell_of_heap hX.1 rfl; have f3 : w3.frozen? ⟨w.heap.size, 0, none⟩ = false := frozen_of_heap hX.1; have c3' : (w3.alloc (.cells #[.int .u32 0] 32 (0, 0))).cell? ⟨w.heap.size, 0, none⟩ = some (.int .u32 0) := keepA c3; have f3' : (w3.alloc (.cells #[.int .u32 0] 32 (0, 0))).frozen? ⟨w.heap.size, 0, none⟩ = false := frozen_of_heap ((heap_alloc_old _ _ _ (lt_of_heap hX.1)).trans hX.1); clear hown hgrow hX) | (go_at_call 51; refine (pmay_any n _ _).mono ?_; rintro e w' ⟨rfl, hw⟩; subst w'; rw [hmay]) | (go_at_call 44; rw [HLE.out]; refine (ofRows_any n g sc (keep :: zs) _ HL21.out HX.out.2.2.1 HX.out.2.2.2).mono ?_; rintro e w4 ⟨rfl, hc4, hB4, hlt4⟩; have H4 := hid (And.intro hc4 (And.intro hB4 hlt4)); clear hc4 hB4 hlt4 c3 f3 c3' f3') | (go_at_call 25; rw [HLM.out]; refine (apart_any h F A _ _ ((keep :: zs).map fun z => (z, n)) _ (HA.out.below (belowCat HX.out.2.1 H4.out.2.1)) (by have := HL21.out; simpa using this) HZ2.out H4.out.2.2 H4.out.1).mono ?_; rintro e w5 ⟨r, rfl, hr, hB5⟩; have hB5' := belowCat (belowCat HX.out.2.1 H4.out.2.1) hB5; have hX5 := (hB5.block _ (Nat.lt_of_lt_of_le (lt_of_heap HX.out.1) H4.out.2.1.size)).trans ((H4.out.2.1.block _ (lt_of_heap HX.out.1)).trans HX.out.1); have H5 := hid (And.intro hX5 hB5'); have c5 : w5.cell? ⟨w.heap.size, 0, none⟩ = some (.int .u32 0) := cell_of_heap hX5 rfl; have f5 : w5.frozen? ⟨w.heap.size, 0, none⟩ = false := frozen_of_heap hX5; have c5' : (w5.alloc (.cells #[.int .u32 0] 32 (0, 0))).cell? ⟨w.heap.size, 0, none⟩ = some (.int .u32 0) := keepA c5; have f5' : (w5.alloc (.cells #[.int .u32 0] 32 (0, 0))).frozen? ⟨w.heap.size, 0, none⟩ = false := frozen_of_heap ((heap_alloc_old _ _ _ (lt_of_heap hX5)).trans hX5); clear hB5 hB5' hX5; obtain rfl : r = true := hr.2 HRF.out; clear hr) | (go_at_call 19; refine (ar_take_no h F A n _ (HA.out.below H5.out.2) hct).mono ?_; rintro e w6 ⟨rfl, k6, hw⟩; have hB6 : Below w.heap.size w w6 := (by rw [hw]; exact belowDN H5.out.2 _); have hX6 : w6.heap[w.heap.size]? = some (.cells #[.int .u32 0] 32 (0, 0)) := (by rw [hw]; exact H5.out.1); have HH := hid (And.intro hX6 hB6); have c6 : w6.cell? ⟨w.heap.size, 0, none⟩ = some (.int .u32 0) := cell_of_heap hX6 rfl; have f6 : w6.frozen? ⟨w.heap.size, 0, none⟩ = false := frozen_of_heap hX6; have c6' : (w6.alloc (.cells #[.int .u32 0] 32 (0, 0))).cell? ⟨w.heap.size, 0, none⟩ = some (.int .u32 0) := keepA c6; have f6' : (w6.alloc (.cells #[.int .u32 0] 32 (0, 0))).frozen? ⟨w.heap.size, 0, none⟩ = false := frozen_of_heap ((heap_alloc_old _ _ _ (lt_of_heap hX6)).trans hX6); clear hB6 hX6 hw c5 f5 c5' f5') | (go_at_call 22; refine (of_any _ _).mono ?_; rintro e w' ⟨rfl, hw⟩; subst w'))
      go_wp2
      have hb9 := own_put (x := 0) ((heap_alloc_old _ (.cells #[.int .u32 0] 32 (0, 0)) _ (lt_of_heap HH.out.1)).trans HH.out.1)
      have d0 := cell_of_heap (i := 0) hb9 rfl
      exact bodyPost_ret (v := .tuple #[sec 0, .bool false]) (by simp only [results, Tryd.results28]; simp [go_sem, d0]) rfl ⟨rfl, F, ((HA.out.below HH.out.2).alloc _).setOther _ _ HNF.out, (((Step.ofBelow HH.out.2).alloc _).setNew _ _ (Nat.le_refl _))⟩
    · have HRF := hid hrf
      clear hrf hm
      go_enter Tryd.func28, Tryd.ntmps28
      go_wp2_with (first | (at_builtin; refine wpList_append_opt rfl (.tmp 16) (.tmp 17) 56 rfl (w.heap.size + 1) 3 i0 _ 1 8 Tryd.underlying56 hi hz0 hz1 hz2 rfl (by decide) _ 1 (ints [keep]) rfl HOW.out ad zs.length cap (ints zs) rfl HSRC.out (ints_one zs) (by unfold maxLen; omega) (by omega) (by simp) ?_; intro v w3 hown hgrow; obtain ⟨sd, sc, g, rfl, rfl, hX⟩ := all_row hown hgrow; have HX := hid hX; have c3 : w3.cell? ⟨w.heap.size, 0, none⟩ = some (.int .u32 0) := cell_of_heap hX.1 rfl; have f3 : w3.frozen? ⟨w.heap.size, 0, none⟩ = false := frozen_of_heap hX.1; have c3' : (w3.alloc (.cells #[.int .u32 0] 32 (0, 0))).cell? ⟨w.heap.size, 0, none⟩ = some (.int .u32 0) := keepA c3; have f3' : (w3.alloc (.cells #[.int .u32 0] 32 (0, 0))).frozen? ⟨w.heap.size, 0, none⟩ = false := frozen_of_heap ((heap_alloc_old _ _ _ (lt_of_heap hX.1)).trans hX.1); clear hown hgrow hX) | (go_at_call 51; refine (pmay_any n _ _).mono ?_; rintro e w' ⟨rfl, hw⟩; subst w'; rw [hmay]) | (go_at_call 44; rw [HLE.out]; refine (ofRows_any n g sc (keep :: zs) _ HL21.out HX.out.2.2.1 HX.out.2.2.2).mono ?_; rintro e w4 ⟨rfl, hc4, hB4, hlt4⟩; have H4 := hid (And.intro hc4 (And.intro hB4 hlt4)); clear hc4 hB4 hlt4 c3 f3 c3' f3') | (go_at_call 25; rw [HLM.out]; refine (apart_any h F A _ _ ((keep :: zs).map fun z => (z, n)) _ (HA.out.below (belowCat HX.out.2.1 H4.out.2.1)) (by have := HL21.out; simpa using this) HZ2.out H4.out.2.2 H4.out.1).mono ?_; rintro e w5 ⟨r, rfl, hr, hB5⟩; have hB5' := belowCat (belowCat HX.out.2.1 H4.out.2.1) hB5; have hX5 := (hB5.block _ (Nat.lt_of_lt_of_le (lt_of_heap HX.out.1) H4.out.2.1.size)).trans ((H4.out.2.1.block _ (lt_of_heap HX.out.1)).trans HX.out.1); have H5 := hid (And.intro hX5 hB5'); have c5 : w5.cell? ⟨w.heap.size, 0, none⟩ = some (.int .u32 0) := cell_of_heap hX5 rfl; have f5 : w5.frozen? ⟨w.heap.size, 0, none⟩ = false := frozen_of_heap hX5; have c5' : (w5.alloc (.cells #[.int .u32 0] 32 (0, 0))).cell? ⟨w.heap.size, 0, none⟩ = some (.int .u32 0) := keepA c5; have f5' : (w5.alloc (.cells #[.int .u32 0] 32 (0, 0))).frozen? ⟨w.heap.size, 0, none⟩ = false := frozen_of_heap ((heap_alloc_old _ _ _ (lt_of_heap hX5)).trans hX5); clear hB5 hB5' hX5; obtain rfl : r = false := (by cases r with | false => rfl | true => exact absurd (hr.1 rfl) HRF.out); clear hr) | (go_at_call 22; refine (of_any _ _).mono ?_; rintro e w' ⟨rfl, hw⟩; subst w'))
      have HH := hid H5.out
      go_wp2
      have hb9 := own_put (x := 0) ((heap_alloc_old _ (.cells #[.int .u32 0] 32 (0, 0)) _ (lt_of_heap HH.out.1)).trans HH.out.1)
      have d0 := cell_of_heap (i := 0) hb9 rfl
      exact bodyPost_ret (v := .tuple #[sec 0, .bool false]) (by simp only [results, Tryd.results28]; simp [go_sem, d0]) rfl ⟨rfl, F, ((HA.out.below HH.out.2).alloc _).setOther _ _ HNF.out, (((Step.ofBelow HH.out.2).alloc _).setNew _ _ (Nat.le_refl _))⟩
  · have hmay : decide (0 ≤ (zs.length : Int) ∧ 0 ≤ n ∧ n ≤ 49152) = false := decide_eq_false fun q => hm q.2
    clear hm
    go_enter Tryd.func28, Tryd.ntmps28
    go_wp2_with (first | (at_builtin; refine wpList_append_opt rfl (.tmp 16) (.tmp 17) 56 rfl (w.heap.size + 1) 3 i0 _ 1 8 Tryd.underlying56 hi hz0 hz1 hz2 rfl (by decide) _ 1 (ints [keep]) rfl HOW.out ad zs.length cap (ints zs) rfl HSRC.out (ints_one zs) (by unfold maxLen; omega) (by omega) (by simp) ?_; intro v w3 hown hgrow; obtain ⟨sd, sc, g, rfl, rfl, hX⟩ := all_row hown hgrow; have HX := hid hX; have c3 : w3.cell? ⟨w.heap.size, 0, none⟩ = some (.int .u32 0) := cell_of_heap hX.1 rfl; have f3 : w3.frozen? ⟨w.heap.size, 0, none⟩ = false := frozen_of_heap hX.1; have c3' : (w3.alloc (.cells #[.int .u32 0] 32 (0, 0))).cell? ⟨w.heap.size, 0, none⟩ = some (.int .u32 0) := keepA c3; have f3' : (w3.alloc (.cells #[.int .u32 0] 32 (0, 0))).frozen? ⟨w.heap.size, 0, none⟩ = false := frozen_of_heap ((heap_alloc_old _ _ _ (lt_of_heap hX.1)).trans hX.1); clear hown hgrow hX) | (go_at_call 51; refine (pmay_any n _ _).mono ?_; rintro e w' ⟨rfl, hw⟩; subst w'; rw [hmay]) | (go_at_call 22; refine (of_any _ _).mono ?_; rintro e w' ⟨rfl, hw⟩; subst w'))
    have HH := hid (And.intro HX.out.1 HX.out.2.1)
    go_wp2
    have hb9 := own_put (x := 0) ((heap_alloc_old _ (.cells #[.int .u32 0] 32 (0, 0)) _ (lt_of_heap HH.out.1)).trans HH.out.1)
    have d0 := cell_of_heap (i := 0) hb9 rfl
    exact bodyPost_ret (v := .tuple #[sec 0, .bool false]) (by simp only [results, Tryd.results28]; simp [go_sem, d0]) rfl ⟨rfl, F, ((HA.out.below HH.out.2).alloc _).setOther _ _ HNF.out, (((Step.ofBelow HH.out.2).alloc _).setNew _ _ (Nat.le_refl _))⟩
end Go.Proofs.YtjcnkigadlmpgaaDoor
