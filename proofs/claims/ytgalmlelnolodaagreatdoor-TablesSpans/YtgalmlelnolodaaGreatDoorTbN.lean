/- Package tables' isApart and Merge, over this seat's translation (Merge: out of what rising answers). No conditions. Package tables' Merge, over this seat's translation, out of what rising answers. Conditions: as many spans as rising's contract says. The document's Has, In and Merged, over this seat's translation. Conditions: how many spans there are. Package tables' Outside, over this seat's translation, out of what Merge answers. Conditions: as many spans as Merge's contract says. Package tables' Merge, over this seat's translation. Conditions: at most 10^9 spans, which are nil or in memory and fit 32 bits. -/
import Derived.Test.YtgalmlelnolodaaGreatDoorTbF
import Derived.Test.YtgalmlelnolodaaGreatDoorTbM
import Derived.BigQuiet
import Derived.WalkSpells
import Derived.Deep.CutRange
import Derived.Deep.AppendLies
namespace Go.Proofs.YtgalmlelnolodaaGreatDoor
open Go.RowKit
set_option linter.unusedVariables false

theorem blwNA {a w : World} {o : Obj} (h : Below a.heap.size a w) : Below a.heap.size a (w.alloc o) := h.alloc h.size o
theorem blwND {a w : World} (h : Below a.heap.size a w) : Below a.heap.size a w.drew := h.drew
theorem belowNC {w0 w w' : World} (h : Below w0.heap.size w0 w) (hb : Below w.heap.size w w') : Below w0.heap.size w0 w' := h.trans (hb.mono h.size)
theorem retNB {a b : Bool} (h : a = b) : Ending.returned (Value.bool a) = Ending.returned (Value.bool b) := by rw [h]
set_option maxHeartbeats 800000 in
theorem isApart_any (a b c d : Nat) (w : World) (ha : b < 4294967296) (hc : c < 4294967296) :
    Calls Tryz.prog 99 #[.agg #[.int .u32 (a : Int), .int .u32 (b : Int)], .agg #[.int .u32 (c : Int), .int .u32 (d : Int)]] w fun e w' => e = .returned (.bool (decide (b + 2 ≤ c))) ∧ Below w.heap.size w w' := by
  by_cases h : b < c
  · have hi : (b : Int) < (c : Int) := by omega
    go_enter Tryz.func99, Tryz.ntmps99
    go_wp2
    go_ret
    exact ⟨retNB (decide_eq_decide.2 (by omega)), ((Below.refl _ _).alloc (Nat.le_refl _) _).alloc (by simp) _⟩
  · have hi : ((b : Int) < (c : Int)) = False := eq_false (by omega)
    rw [show decide (b + 2 ≤ c) = false from decide_eq_false (by omega)]
    go_enter Tryz.func99, Tryz.ntmps99
    go_wp2
    go_ret
    exact ⟨rfl, ((Below.refl _ _).alloc (Nat.le_refl _) _).alloc (by simp) _⟩
/-- the last one's last word turned -/
theorem zpC_last (m : List Zp) (p : Zp) (q : Nat) : (zpC (m ++ [p])).set (m.length * 2 + 1) (.int .u32 (q : Int)) = zpC (m ++ [(p.1, q)]) := by
  rw [zpC_app, zpC_app, List.set_append_right _ _ (by rw [zpC_len]; omega), zpC_len, show m.length * 2 + 1 - m.length * 2 = 1 by omega]
  rfl
/-- a row of spans that is a call's own -/
def ZpR (w : World) (base : Nat) (v : Value) (l : List Zp) : Prop := w.ownsRow base 47 2 v l.length (zpC l)
theorem allS_step (r : List Zp) (s : Zp) : (allS (mrgV r) = [] ∧ mrgV (r ++ [s]) = ([], some s) ∧ mrgV r = ([], none)) ∨ (∃ m p, mrgV r = (m, some p) ∧ ((p.2 + 2 ≤ s.1 ∧ mrgV (r ++ [s]) = (m ++ [p], some s)) ∨ (¬ p.2 + 2 ≤ s.1 ∧ mrgV (r ++ [s]) = (m, some (p.1, max p.2 s.2))))) := by
  rw [mrgV_snoc]
  have hn : (mrgV r).2 = none → mrgV r = ([], none) := by
    rcases Classical.em (r = []) with h | h
    · intro _; subst h; rfl
    · obtain ⟨t, x, rfl⟩ : ∃ t x, r = t ++ [x] := ⟨r.dropLast, r.getLast h, (List.dropLast_concat_getLast _).symm⟩
      intro h2; rw [mrgV_snoc] at h2; cases h2
  obtain ⟨m, o, hm⟩ : ∃ m o, mrgV r = (m, o) := ⟨_, _, rfl⟩
  rw [hm] at hn ⊢
  cases o with
  | none =>
    have := hn rfl
    cases this
    exact Or.inl ⟨rfl, rfl, rfl⟩
  | some p =>
    refine Or.inr ⟨m, p, rfl, ?_⟩
    by_cases h : p.2 + 2 ≤ s.1
    · exact Or.inl ⟨h, by simp only [putS]; rw [if_pos h]⟩
    · exact Or.inr ⟨h, by simp only [putS]; rw [if_neg h]⟩
end Go.Proofs.YtgalmlelnolodaaGreatDoor
namespace Go.Proofs.YtgalmlelnolodaaGreatDoor
open Go.RowKit
set_option linter.unusedVariables false

theorem cell_far {w : World} {p q : Addr} {v u : Value} (h : w.cell? p = some v) (hn : p.block ≠ q.block) : (w.setCell q u).cell? p = some v :=
  (World.cell?_of_block (Below.heap_setCell w q u p.block hn)).trans h
theorem owns_lower {w : World} {b c : Nat} {e : TypeId} {size : Nat} {v : Value} {n : Nat} {xs : List Value} (h : w.ownsRow c e size v n xs) (hb : b ≤ c) : w.ownsRow b e size v n xs := by
  refine ⟨h.1, ?_⟩
  rcases h.2 with h0 | ⟨g, cp, cur, h1, h2, h3⟩
  · exact Or.inl h0
  · exact Or.inr ⟨g, cp, cur, h1, Nat.le_trans hb h2, h3⟩
theorem mrg_len (l : List Zp) : (allS (mrgV l)).length ≤ l.length := by
  have : ∀ (k : Nat) (l : List Zp), l.length = k → (allS (mrgV l)).length ≤ l.length := by
    intro k
    induction k with
    | zero => intro l hk; have : l = [] := List.length_eq_zero_iff.1 hk; subst this; exact Nat.le_refl _
    | succ k ih =>
      intro l hk
      obtain ⟨r, s, rfl⟩ : ∃ r s, l = r ++ [s] := ⟨l.dropLast, l.getLast (by intro e; rw [e] at hk; simp at hk), (List.dropLast_concat_getLast _).symm⟩
      have h := ih r (by simp at hk; omega)
      rcases allS_step r s with ⟨h1, h2, h3⟩ | ⟨m, p, h1, ⟨h2, h3⟩ | ⟨h2, h3⟩⟩
      · rw [h2]; simp [allS]
      · rw [h3]; rw [h1] at h; simp [allS] at h ⊢; omega
      · rw [h3]; rw [h1] at h; simp [allS] at h ⊢; omega
  exact this _ l rfl
theorem mrg_32 (l : List Zp) (h : ∀ s ∈ l, s.1 < 4294967296 ∧ s.2 < 4294967296) : ∀ s ∈ allS (mrgV l), s.1 < 4294967296 ∧ s.2 < 4294967296 := by
  have : ∀ (k : Nat) (l : List Zp), l.length = k → (∀ s ∈ l, s.1 < 4294967296 ∧ s.2 < 4294967296) → ∀ s ∈ allS (mrgV l), s.1 < 4294967296 ∧ s.2 < 4294967296 := by
    intro k
    induction k with
    | zero => intro l hk _ s hs; have : l = [] := List.length_eq_zero_iff.1 hk; subst this; simp [allS, mrgV_nil] at hs
    | succ k ih =>
      intro l hk hl
      obtain ⟨r, s, rfl⟩ : ∃ r s, l = r ++ [s] := ⟨l.dropLast, l.getLast (by intro e; rw [e] at hk; simp at hk), (List.dropLast_concat_getLast _).symm⟩
      have hs := hl s (by simp)
      have h := ih r (by simp at hk; omega) (fun t ht => hl t (by simp [ht]))
      intro t ht
      rcases allS_step r s with ⟨h1, h2, h3⟩ | ⟨m, p, h1, ⟨h2, h3⟩ | ⟨h2, h3⟩⟩
      · rw [h2] at ht
        have : t = s := by simpa [allS] using ht
        rw [this]; exact hs
      · rw [h3] at ht
        rw [h1] at h
        have ht' : t ∈ m ++ [p] ∨ t = s := by simpa [allS, or_assoc] using ht
        rcases ht' with h4 | rfl
        · exact h t h4
        · exact hs
      · rw [h3] at ht
        rw [h1] at h
        have hp := h p (by simp [allS])
        have ht' : t ∈ m ∨ t = (p.1, max p.2 s.2) := by simpa [allS] using ht
        rcases ht' with h4 | rfl
        · exact h t (by simp [allS, h4])
        · refine ⟨hp.1, ?_⟩
          show max p.2 s.2 < 4294967296
          have := hs.2
          have := hp.2
          omega
  exact this _ l rfl h
set_option maxRecDepth 2000 in
set_option maxHeartbeats 6400000 in
theorem merge_any (Q : List Zp → Prop) (hQ : ∀ r, Q r → r.length ≤ 1000000000 ∧ ∀ s ∈ r, s.1 < 4294967296 ∧ s.2 < 4294967296) (ad : Option Addr) (n cap : Nat) (w : World)
    (HRI : Calls Tryz.prog 98 #[.slice ad n cap] w fun e w' => ∃ ad2 cap2 r, e = .returned (.slice ad2 r.length cap2) ∧ Q r ∧ ZpR w' w.heap.size (.slice ad2 r.length cap2) r ∧ Below w.heap.size w w') :
    Calls Tryz.prog 77 #[.slice ad n cap] w fun e w' => ∃ ad' cap' r, e = .returned (.slice ad' (allS (mrgV r)).length cap') ∧ Q r ∧ ZpR w' w.heap.size (.slice ad' (allS (mrgV r)).length cap') (allS (mrgV r)) ∧ Below w.heap.size w w' := by
  obtain ⟨i0, hi, hz0, hz1, hz2⟩ := info_parts infoSpan
  have HR0 := hid HRI
  clear HRI
  go_enter Tryz.func77, Tryz.ntmps77
  go_wp2_with fail
  refine HR0.out.mono ?_
  rintro e w1 ⟨ad2, cap2, r, rfl, hq, ho, hB⟩
  obtain ⟨hr6, hr32⟩ := hQ r hq
  have HQ := hid hq
  have O1 := hid ho
  have B1 := hid hB
  have H32 := hid hr32
  obtain ⟨N, hN⟩ : ∃ N, r.length = N := ⟨_, rfl⟩
  have HN := hid hN
  have O1 := hid (show w1.ownsRow w.heap.size 47 2 (.slice ad2 N cap2) N (zpC r) from by rw [← hN]; exact ho)
  rw [hN] at hr6 ⊢
  clear hq ho hB hr32 hN HR0 hQ
  go_wp2_with fail
  go_loopw [3, 10] (fun o i wr => ∃ (k M c : Nat) (ad3 : Option Addr), k ≤ N ∧ (allS (mrgV (r.take k))).length = M ∧ i = .int .i64 (k : Int) ∧ o = .slice ad3 M c ∧ wr.ownsRow w1.heap.size 47 2 (.slice ad3 M c) M (zpC (allS (mrgV (r.take k)))) ∧ Below w1.heap.size w1 wr) (fun _ i _ => N - (intOf i).toNat)
  case atStart => exact ⟨0, 0, 0, none, Nat.zero_le _, rfl, rfl, rfl, World.ownsRow_nil _ _ _ _, Below.refl _ _⟩
  case round =>
    obtain ⟨k, M, c, ad3, hk, hM, rfl, rfl, hown, hB⟩ := hrel
    have HM := hid hM
    have HO := hid hown
    have HB := hid hB
    by_cases hlt : k < N
    · have hlk : k < r.length := by rw [HN.out]; exact hlt
      have HTK := hid (show r.take (k + 1) = r.take k ++ [r[k]] by rw [List.take_add_one, List.getElem?_eq_getElem hlk]; rfl)
      obtain ⟨g2, hg2, _, _, hgc⟩ := owns_cell O1.out (by omega)
      subst hg2
      have kx := cell_later hB (hgc _ _ (zpC_at hlk).1)
      have ky := cell_later hB (hgc _ _ (zpC_at hlk).2)
      have h32 := H32.out r[k] (List.getElem_mem hlk)
      obtain ⟨s, hs⟩ : ∃ s, r[k] = s := ⟨_, rfl⟩
      rw [hs] at HTK kx ky h32
      obtain ⟨x, y⟩ := s
      obtain ⟨hx32, hy32⟩ := h32
      simp only at kx ky hx32 hy32
      have hMk : M ≤ k := by rw [← hM]; refine Nat.le_trans (mrg_len _) ?_; rw [List.length_take]; omega
      have hwk : IntKind.i64.wrap (k : Int) = (k : Int) := by rw [IntKind.wrap_i64]; omega
      have HLT := hid hlt
      have HST := hid (allS_step (r.take k) (x, y))
      have H3M := hid (mrg_32 (r.take k) (fun s hs => H32.out s (List.mem_of_mem_take hs)))
      clear hown hB hlk hgc hs hk hM
      go_upto_region 6 with fail
      obtain ⟨W5, hW5⟩ : ∃ W5, wr.alloc (.cells #[.int .u32 (x : Int), .int .u32 (y : Int)] 47) = W5 := ⟨_, rfl⟩
      have HI := hid (show W5.heap[wr.heap.size]? = some (.cells #[.int .u32 (x : Int), .int .u32 (y : Int)] 47 (0, 0)) from by rw [← hW5]; exact heap_alloc_at _ _)
      have B5 := hid (show Below wr.heap.size wr W5 from by rw [← hW5]; exact blwNA (Below.refl _ _))
      rw [hW5]
      clear hW5 kx ky
      rcases HST.out with ⟨ha, hb, hc⟩ | ⟨ml, p, hb, hcases⟩
      · obtain rfl : M = 0 := by rw [← HM.out, ha]; rfl
        have HC := hid hc
        have HHB := hid hb
        rw [ha] at HO
        clear ha hb hc
        go_quiet (fail)
        obtain ⟨wq, hwq⟩ : ∃ y, W5.drewN nq = y := ⟨_, rfl⟩
        have BQ := hid (show Below wr.heap.size wr wq from by rw [← hwq]; exact belowDN B5.out nq)
        have HZQ := hid (show wq.heap[wr.heap.size]? = some (.cells #[.int .u32 (x : Int), .int .u32 (y : Int)] 47 (0, 0)) from by rw [← hwq]; exact HI.out)
        rw [hwq]
        clear hwq
        have c0 : wq.cell? ⟨wr.heap.size, 0, none⟩ = some (.int .u32 (x : Int)) := cell_of_heap HZQ.out rfl
        have c1 : wq.cell? ⟨wr.heap.size, 1, none⟩ = some (.int .u32 (y : Int)) := cell_of_heap HZQ.out rfl
        have HOC := hid (show (wq.alloc (.cells #[.int .u32 (x : Int), .int .u32 (y : Int)] 47)).ownsRow w1.heap.size 47 2 (.slice ad3 0 c) 0 (zpC ([])) from owns_below (owns_below HO.out BQ.out) (blwNA (Below.refl _ _)))
        have BC := hid (show Below w1.heap.size w1 (wq.alloc (.cells #[.int .u32 (x : Int), .int .u32 (y : Int)] 47)) from blwNA (belowNC HB.out BQ.out))
        have HOB := hid (show ∀ j, (Value.slice ad3 0 c).ownBlock = some j → w1.heap.size ≤ j from fun j hj => (HOC.out.lt j hj).1)
        go_wp2_with (at_builtin; refine wpList_append_lies _ rfl (.tmp 27) (.tmp 29) 53 rfl w1.heap.size 47 i0 _ 2 8 Tryz.underlying53 hi hz0 hz1 hz2 rfl (by decide) (.slice ad3 0 c) 0 (zpC ([])) rfl HOC.out ⟨wq.heap.size, 0, none⟩ 1 1 [.int .u32 (x : Int), .int .u32 (y : Int)] rfl rfl (World.news_of_block (heap_alloc_at _ _)) (by intro u hu; simp only [List.mem_cons, List.not_mem_nil, or_false] at hu; rcases hu with rfl | rfl <;> rfl) (by decide) (by unfold maxLen; omega) (by omega) BC.out.size _ rfl ?_)
        intro g7 cap7 w7 hown' hgrow hat hlt2
        have HO7 := hid (show w7.ownsRow w1.heap.size 47 2 (.slice (some ⟨g7, 0, none⟩) (0 + 1) cap7) (0 + 1) (zpC (allS (mrgV (r.take (k + 1))))) from by rw [HTK.out, HHB.out]; show w7.ownsRow _ _ _ _ _ (zpC (([]) ++ [(x, y)])); rw [zpC_app]; exact hown')
        have B7 := hid (BC.out.grown hgrow BC.out.size HOB.out)
        have HL7 := hid (show (allS (mrgV (r.take (k + 1)))).length = 0 + 1 from by rw [HTK.out, HHB.out]; simp [allS])
        clear hown' hgrow hat hlt2 c0 c1
        go_wp2
        go_roundw
        case rel => exact ⟨k + 1, 0 + 1, cap7, some ⟨g7, 0, none⟩, HLT.out, HL7.out, by go_num, rfl, HO7.out, B7.out⟩
        case measure => have := HLT.out; simp [intOf]; omega
      · obtain ⟨p1, p2⟩ := p
        obtain ⟨m, hm⟩ : ∃ m, ml.length = m := ⟨_, rfl⟩
        have hMm : M = m + 1 := by rw [← HM.out, hb, ← hm]; simp [allS]
        have HMm := hid hMm
        have HOM := hid (show wr.ownsRow w1.heap.size 47 2 (.slice ad3 M c) M (zpC (ml ++ [(p1, p2)])) from by have := HO.out; rw [hb] at this; exact this)
        have hp32 := H3M.out (p1, p2) (by rw [hb]; simp [allS])
        have hp2 : p2 < 4294967296 := hp32.2
        obtain ⟨g3, hg3, _, _, hgc⟩ := owns_cell HOM.out (by omega)
        subst hg3
        have hat := zpC_at (l := ml ++ [(p1, p2)]) (k := m) (by simp [hm])
        have hlast : (ml ++ [(p1, p2)])[m]'(by simp [hm]) = (p1, p2) := by simp [← hm]
        rw [hlast] at hat
        have KB := hid (show ∀ w', Below W5.heap.size W5 w' → (fun w' => w'.cell? ⟨g3, m * 2, none⟩ = some (.int .u32 (p1 : Int)) ∧ w'.cell? ⟨g3, m * 2 + 1, none⟩ = some (.int .u32 (p2 : Int)) ∧ w'.cell? ⟨wr.heap.size, 0, none⟩ = some (.int .u32 (x : Int)) ∧ w'.cell? ⟨wr.heap.size, 1, none⟩ = some (.int .u32 (y : Int))) w' from fun w' hb' => ⟨cell_later hb' (cell_later B5.out (hgc _ _ hat.1)), cell_later hb' (cell_later B5.out (hgc _ _ hat.2)), cell_later hb' (cell_of_heap HI.out rfl), cell_later hb' (cell_of_heap HI.out rfl)⟩)
        have hwm : IntKind.i64.wrap (m : Int) = (m : Int) := by rw [IntKind.wrap_i64]; omega
        have hM1 : (M : Int) - 1 = (m : Int) := by omega
        have hq0 : (m : Int) < (M : Int) := by omega
        have hq2 : m < M := by omega
        have hq1 : (0 : Int) < (M : Int) := by omega
        have hn0 : ((M : Int) == 0) = false := by simp; omega
        have HCASES := hid hcases
        have HMB := hid hb
        have HMM := hid hm
        clear hcases hb hm hgc hat hlast hp32 hMm
        go_cut [26] from 16 to 26 (fun q wx => q = .bool (decide (p2 + 2 ≤ x)) ∧ Below W5.heap.size W5 wx)
        case first =>
          have hdum := trivial
          refine wp_region_held_drew (S := (fun w' => w'.cell? ⟨g3, m * 2, none⟩ = some (.int .u32 (p1 : Int)) ∧ w'.cell? ⟨g3, m * 2 + 1, none⟩ = some (.int .u32 (p2 : Int)) ∧ w'.cell? ⟨wr.heap.size, 0, none⟩ = some (.int .u32 (x : Int)) ∧ w'.cell? ⟨wr.heap.size, 1, none⟩ = some (.int .u32 (y : Int)))) (by kernel_rfl) (KB.out _ (blwND (Below.refl _ _))) (fun hHeld => ?_)
          refine tk_at (i := 0) (d := some 16) (v := ?_) rfl rfl (by kernel_rfl) (by kernel_rfl) (by kernel_rfl) (fun _ _ _ h => h) (Or.inl ⟨by rfl, ?_⟩) (by assumption) ?_
          rotate_left
          · (intro w hSw; (try dsimp only at hSw); go_simp; try (with_reducible rfl))
          simp only [Act.put, List.setIfInBounds_toArray, List.set_cons_zero, List.set_cons_succ]
          refine tk_at (i := 1) (d := some 17) (v := ?_) rfl rfl (by kernel_rfl) (by kernel_rfl) (by kernel_rfl) (fun _ _ _ h => h) (Or.inl ⟨by rfl, ?_⟩) (by assumption) ?_
          rotate_left
          · (intro w hSw; (try dsimp only at hSw); go_simp; try (with_reducible rfl))
          simp only [Act.put, List.setIfInBounds_toArray, List.set_cons_zero, List.set_cons_succ]
          refine tk_at (i := 2) (d := some 18) (v := ?_) rfl rfl (by kernel_rfl) (by kernel_rfl) (by kernel_rfl) (fun _ _ _ h => h) (Or.inl ⟨by rfl, ?_⟩) (by assumption) ?_
          rotate_left
          · (intro w hSw; (try dsimp only at hSw); go_simp; try (with_reducible rfl))
          simp only [Act.put, List.setIfInBounds_toArray, List.set_cons_zero, List.set_cons_succ]
          refine tk_at (i := 3) (d := some 19) (v := ?_) rfl rfl (by kernel_rfl) (by kernel_rfl) (by kernel_rfl) (fun _ _ _ h => h) (Or.inl ⟨by rfl, ?_⟩) (by assumption) ?_
          rotate_left
          · (intro w hSw; (try dsimp only at hSw); go_simp; try (with_reducible rfl))
          simp only [Act.put, List.setIfInBounds_toArray, List.set_cons_zero, List.set_cons_succ]
          refine tk_at (i := 4) (d := some 20) (v := ?_) rfl rfl (by kernel_rfl) (by kernel_rfl) (by kernel_rfl) (fun _ _ _ h => h) (Or.inl ⟨by rfl, ?_⟩) (by assumption) ?_
          rotate_left
          · (intro w hSw; (try dsimp only at hSw); go_simp; try (with_reducible rfl))
          simp only [Act.put, List.setIfInBounds_toArray, List.set_cons_zero, List.set_cons_succ]
          refine tk_at (i := 5) (d := some 21) (v := ?_) rfl rfl (by kernel_rfl) (by kernel_rfl) (by kernel_rfl) (fun _ _ _ h => h) (Or.inl ⟨by rfl, ?_⟩) (by assumption) ?_
          rotate_left
          · (intro w hSw; (try dsimp only at hSw); go_simp; try (with_reducible rfl))
          simp only [Act.put, List.setIfInBounds_toArray, List.set_cons_zero, List.set_cons_succ]
          refine tk_at (i := 6) (d := some 22) (v := ?_) rfl rfl (by kernel_rfl) (by kernel_rfl) (by kernel_rfl) (fun _ _ _ h => h) (Or.inl ⟨by rfl, ?_⟩) (by assumption) ?_
          rotate_left
          · (intro w hSw; (try dsimp only at hSw); go_simp; try (with_reducible rfl))
          simp only [Act.put, List.setIfInBounds_toArray, List.set_cons_zero, List.set_cons_succ]
          refine tk_at (i := 7) (d := some 23) (v := ?_) rfl rfl (by kernel_rfl) (by kernel_rfl) (by kernel_rfl) (fun _ _ _ h => h) (Or.inl ⟨by rfl, ?_⟩) (by assumption) ?_
          rotate_left
          · (intro w hSw; (try dsimp only at hSw); go_simp; try (with_reducible rfl))
          simp only [Act.put, List.setIfInBounds_toArray, List.set_cons_zero, List.set_cons_succ]
          refine tk_at (i := 8) (d := some 24) (v := ?_) rfl rfl (by kernel_rfl) (by kernel_rfl) (by kernel_rfl) (fun _ _ _ h => h) (Or.inl ⟨by rfl, ?_⟩) (by assumption) ?_
          rotate_left
          · (intro w hSw; (try dsimp only at hSw); go_simp; try (with_reducible rfl))
          simp only [Act.put, List.setIfInBounds_toArray, List.set_cons_zero, List.set_cons_succ]
          refine wpAnyH_ready (rs := [9]) (by kernel_rfl) (by simp) ?_
          refine AllReadyH.cons rfl (fun K hK => ?_) AllReadyH.nil
          go_simp
          refine (isApart_any p1 p2 x y _ hp2 hx32).mono ?_
          rintro e w6 ⟨rfl, hB6⟩
          have B6 := hid (belowNC (blwND (Below.refl _ _)) hB6)
          clear hB6
          go_wp2_with fail
          refine hK.out _ _ (KB.out _ B6.out) (fun hHeld => ?_)
          clear hK K
          try simp only [Act.put, List.setIfInBounds_toArray, List.set_cons_zero, List.set_cons_succ]
          refine tk_at (i := 10) (d := some 26) (v := ?_) rfl rfl (by kernel_rfl) (by kernel_rfl) (by kernel_rfl) (fun _ _ _ h => h) (Or.inl ⟨by rfl, ?_⟩) (by assumption) ?_
          rotate_left
          · (intro w hSw; (try dsimp only at hSw); go_simp; try (with_reducible rfl))
          simp only [Act.put, List.setIfInBounds_toArray, List.set_cons_zero, List.set_cons_succ]
          refine wpAnyH_done (by kernel_rfl) ?_ _
          clear hHeld
          go_wp2_with fail
          go_meet
          case rel => exact ⟨rfl, B6.out⟩
        case rest =>
          obtain ⟨hq, hBc⟩ := hcut
          have BQ := hid (belowNC B5.out hBc)
          have HZQ := hid ((hBc.block _ (lt_of_heap HI.out)).trans HI.out)
          clear hBc KB
          rcases HCASES.out with ⟨hd, hstep⟩ | ⟨hd, hstep⟩
          · have hq' : _ = Value.bool true := hq.trans (congrArg Value.bool (decide_eq_true hd))
            clear hq
            subst hq'
            have HSTEP := hid hstep
            clear hd hstep
            have c0 : wc.cell? ⟨wr.heap.size, 0, none⟩ = some (.int .u32 (x : Int)) := cell_of_heap HZQ.out rfl
            have c1 : wc.cell? ⟨wr.heap.size, 1, none⟩ = some (.int .u32 (y : Int)) := cell_of_heap HZQ.out rfl
            have HOC := hid (show (wc.alloc (.cells #[.int .u32 (x : Int), .int .u32 (y : Int)] 47)).ownsRow w1.heap.size 47 2 (.slice (some ⟨g3, 0, none⟩) M c) M (zpC (ml ++ [(p1, p2)])) from owns_below (owns_below HOM.out BQ.out) (blwNA (Below.refl _ _)))
            have BC := hid (show Below w1.heap.size w1 (wc.alloc (.cells #[.int .u32 (x : Int), .int .u32 (y : Int)] 47)) from blwNA (belowNC HB.out BQ.out))
            have HOB := hid (show ∀ j, (Value.slice (some ⟨g3, 0, none⟩) M c).ownBlock = some j → w1.heap.size ≤ j from fun j hj => (HOC.out.lt j hj).1)
            go_wp2_with (at_builtin; refine wpList_append_lies _ rfl (.tmp 27) (.tmp 29) 53 rfl w1.heap.size 47 i0 _ 2 8 Tryz.underlying53 hi hz0 hz1 hz2 rfl (by decide) (.slice (some ⟨g3, 0, none⟩) M c) M (zpC (ml ++ [(p1, p2)])) rfl HOC.out ⟨wc.heap.size, 0, none⟩ 1 1 [.int .u32 (x : Int), .int .u32 (y : Int)] rfl rfl (World.news_of_block (heap_alloc_at _ _)) (by intro u hu; simp only [List.mem_cons, List.not_mem_nil, or_false] at hu; rcases hu with rfl | rfl <;> rfl) (by decide) (by unfold maxLen; omega) (by omega) BC.out.size _ rfl ?_)
            intro g7 cap7 w7 hown' hgrow hat hlt2
            have HO7 := hid (show w7.ownsRow w1.heap.size 47 2 (.slice (some ⟨g7, 0, none⟩) (M + 1) cap7) (M + 1) (zpC (allS (mrgV (r.take (k + 1))))) from by rw [HTK.out, HSTEP.out]; show w7.ownsRow _ _ _ _ _ (zpC ((ml ++ [(p1, p2)]) ++ [(x, y)])); rw [zpC_app]; exact hown')
            have B7 := hid (BC.out.grown hgrow BC.out.size HOB.out)
            have HL7 := hid (show (allS (mrgV (r.take (k + 1)))).length = M + 1 from by rw [HTK.out, HSTEP.out]; simp [allS, HMM.out]; exact HMm.out.symm)
            clear hown' hgrow hat hlt2 c0 c1
            go_wp2
            go_roundw
            case rel => exact ⟨k + 1, M + 1, cap7, some ⟨g7, 0, none⟩, HLT.out, HL7.out, by go_num, rfl, HO7.out, B7.out⟩
            case measure => have := HLT.out; simp [intOf]; omega
          · have hq' : _ = Value.bool false := hq.trans (congrArg Value.bool (decide_eq_false hd))
            clear hq
            subst hq'
            have HSTEP := hid hstep
            clear hd hstep
            obtain ⟨w7, rfl⟩ : ∃ y, y = wc := ⟨_, rfl⟩
            have HOW := hid (owns_below HOM.out BQ.out)
            obtain ⟨cs, hcs⟩ := rowB HOM.out rfl
            have HNE := hid (show wr.heap.size ≠ g3 from fun e => by have := lt_of_heap hcs; omega)
            obtain ⟨cs7, hcs7⟩ := rowB HOW.out rfl
            obtain ⟨g9, hg9, _, _, hgc9⟩ := owns_cell HOW.out (by omega)
            cases hg9
            have hat := zpC_at (l := ml ++ [(p1, p2)]) (k := m) (by simp [HMM.out])
            have hlast : (ml ++ [(p1, p2)])[m]'(by simp [HMM.out]) = (p1, p2) := by simp [← HMM.out]
            rw [hlast] at hat
            have cl : w7.drew.cell? ⟨g3, m * 2 + 1, none⟩ = some (.int .u32 (p2 : Int)) := hgc9 _ _ hat.2
            have fl : w7.drew.frozen? ⟨g3, m * 2 + 1, none⟩ = false := frozen_of_heap (i := m * 2 + 1) (w := w7.drew) hcs7
            have KZ := hid (show w7.drew.cell? ⟨wr.heap.size, 1, none⟩ = some (.int .u32 (y : Int)) from cell_of_heap HZQ.out rfl)
            have HS8 := hid (show w7.drew.ownsRow w1.heap.size 47 2 (.slice (some ⟨g3, 0, none⟩) M c) M (zpC (ml ++ [(p1, p2)])) from HOW.out)
            have B8 := hid (show Below w1.heap.size w1 w7.drew from blwND (belowNC HB.out BQ.out))
            have HGB := hid (show w1.heap.size ≤ g3 from (HOM.out.lt g3 rfl).1)
            clear hcs hcs7 hgc9 hat hlast
            go_upto_region 8 with fail
            refine wp_region_held_drew (S := (fun w' => w'.cell? ⟨wr.heap.size, 1, none⟩ = some (.int .u32 (y : Int)))) (by kernel_rfl) (KZ.out) (fun hHeld => ?_)
            obtain ⟨w8, hw8⟩ : ∃ y, w7.drew = y := ⟨_, rfl⟩
            rw [hw8] at KZ HS8 B8 cl fl hHeld ⊢
            clear hw8
            refine tk_at (i := 0) (d := some 31) (v := ?_) rfl rfl (by kernel_rfl) (by kernel_rfl) (by kernel_rfl) (fun _ _ _ h => h) (Or.inl ⟨by rfl, ?_⟩) (by assumption) ?_
            rotate_left
            · (intro w hSw; (try dsimp only at hSw); go_simp; try (with_reducible rfl))
            simp only [Act.put, List.setIfInBounds_toArray, List.set_cons_zero, List.set_cons_succ]
            refine tk_at (i := 1) (d := some 32) (v := ?_) rfl rfl (by kernel_rfl) (by kernel_rfl) (by kernel_rfl) (fun _ _ _ h => h) (Or.inl ⟨by rfl, ?_⟩) (by assumption) ?_
            rotate_left
            · (intro w hSw; (try dsimp only at hSw); go_simp; try (with_reducible rfl))
            simp only [Act.put, List.setIfInBounds_toArray, List.set_cons_zero, List.set_cons_succ]
            refine tk_at (i := 2) (d := some 33) (v := ?_) rfl rfl (by kernel_rfl) (by kernel_rfl) (by kernel_rfl) (fun _ _ _ h => h) (Or.inl ⟨by rfl, ?_⟩) (by assumption) ?_
            rotate_left
            · (intro w hSw; (try dsimp only at hSw); go_simp; try (with_reducible rfl))
            simp only [Act.put, List.setIfInBounds_toArray, List.set_cons_zero, List.set_cons_succ]
            refine tk_at (i := 3) (d := some 34) (v := ?_) rfl rfl (by kernel_rfl) (by kernel_rfl) (by kernel_rfl) (fun _ _ _ h => h) (Or.inl ⟨by rfl, ?_⟩) (by assumption) ?_
            rotate_left
            · (intro w hSw; (try dsimp only at hSw); go_simp; try (with_reducible rfl))
            simp only [Act.put, List.setIfInBounds_toArray, List.set_cons_zero, List.set_cons_succ]
            refine tk_at (i := 4) (d := some 35) (v := ?_) rfl rfl (by kernel_rfl) (by kernel_rfl) (by kernel_rfl) (fun _ _ _ h => h) (Or.inl ⟨by rfl, ?_⟩) (by assumption) ?_
            rotate_left
            · (intro w hSw; (try dsimp only at hSw); go_simp; try (with_reducible rfl))
            simp only [Act.put, List.setIfInBounds_toArray, List.set_cons_zero, List.set_cons_succ]
            refine tk_at (i := 5) (d := some 36) (v := ?_) rfl rfl (by kernel_rfl) (by kernel_rfl) (by kernel_rfl) (fun _ _ _ h => h) (Or.inl ⟨by rfl, ?_⟩) (by assumption) ?_
            rotate_left
            · (intro w hSw; (try dsimp only at hSw); go_simp; try (with_reducible rfl))
            simp only [Act.put, List.setIfInBounds_toArray, List.set_cons_zero, List.set_cons_succ]
            refine tk_at (i := 6) (d := some 37) (v := ?_) rfl rfl (by kernel_rfl) (by kernel_rfl) (by kernel_rfl) (fun _ _ _ h => h) (Or.inl ⟨by rfl, ?_⟩) (by assumption) ?_
            rotate_left
            · (intro w hSw; (try dsimp only at hSw); go_simp; try (with_reducible rfl))
            simp only [Act.put, List.setIfInBounds_toArray, List.set_cons_zero, List.set_cons_succ]
            refine tk_at (i := 7) (d := some 38) (v := ?_) rfl rfl (by kernel_rfl) (by kernel_rfl) (by kernel_rfl) (fun _ _ _ h => h) (Or.inl ⟨by rfl, ?_⟩) (by assumption) ?_
            rotate_left
            · (intro w hSw; (try dsimp only at hSw); go_simp; try (with_reducible rfl))
            simp only [Act.put, List.setIfInBounds_toArray, List.set_cons_zero, List.set_cons_succ]
            refine tk_at (i := 9) (d := some 40) (v := ?_) rfl rfl (by kernel_rfl) (by kernel_rfl) (by kernel_rfl) (fun _ _ _ h => h) (Or.inl ⟨by rfl, ?_⟩) (by assumption) ?_
            rotate_left
            · (intro w hSw; (try dsimp only at hSw); go_simp; try (with_reducible rfl))
            simp only [Act.put, List.setIfInBounds_toArray, List.set_cons_zero, List.set_cons_succ]
            refine tk_at (i := 10) (d := some 41) (v := ?_) rfl rfl (by kernel_rfl) (by kernel_rfl) (by kernel_rfl) (fun _ _ _ h => h) (Or.inl ⟨by rfl, ?_⟩) (by assumption) ?_
            rotate_left
            · (intro w hSw; (try dsimp only at hSw); go_simp; try (with_reducible rfl))
            simp only [Act.put, List.setIfInBounds_toArray, List.set_cons_zero, List.set_cons_succ]
            refine wpAnyH_ready (rs := [8]) (by kernel_rfl) (by simp) ?_
            refine AllReadyH.cons rfl (fun K hK => ?_) AllReadyH.nil
            go_simp
            go_wp2_with fail
            refine hK.out _ _ (KZ.out) (fun hHeld => ?_)
            clear hK K
            try simp only [Act.put, List.setIfInBounds_toArray, List.set_cons_zero, List.set_cons_succ]
            refine tk_at (i := 11) (d := some 42) (v := ?_) rfl rfl (by kernel_rfl) (by kernel_rfl) (by kernel_rfl) (fun _ _ _ h => h) (Or.inl ⟨by rfl, ?_⟩) (by assumption) ?_
            rotate_left
            · (intro w hSw; (try dsimp only at hSw); go_simp; try (with_reducible rfl))
            simp only [Act.put, List.setIfInBounds_toArray, List.set_cons_zero, List.set_cons_succ]
            refine tk_at (i := 12) (d := some 43) (v := ?_) rfl rfl (by kernel_rfl) (by kernel_rfl) (by kernel_rfl) (fun _ _ _ h => h) (Or.inl ⟨by rfl, ?_⟩) (by assumption) ?_
            rotate_left
            · (intro w hSw; (try dsimp only at hSw); go_simp; try (with_reducible rfl))
            simp only [Act.put, List.setIfInBounds_toArray, List.set_cons_zero, List.set_cons_succ]
            refine tk_at (i := 13) (d := some 44) (v := ?_) rfl rfl (by kernel_rfl) (by kernel_rfl) (by kernel_rfl) (fun _ _ _ h => h) (Or.inl ⟨by rfl, ?_⟩) (by assumption) ?_
            rotate_left
            · (intro w hSw; (try dsimp only at hSw); go_simp; try (with_reducible rfl))
            simp only [Act.put, List.setIfInBounds_toArray, List.set_cons_zero, List.set_cons_succ]
            refine wpAnyH_ready (rs := [14]) (by kernel_rfl) (by simp) ?_
            refine AllReadyH.cons rfl (fun K hK => ?_) AllReadyH.nil
            go_simp
            go_wp2_with fail
            refine hK.out _ _ (cell_far (q := ⟨g3, m * 2 + 1, none⟩) KZ.out HNE.out) (fun hHeld => ?_)
            clear hK K
            try simp only [Act.put, List.setIfInBounds_toArray, List.set_cons_zero, List.set_cons_succ]
            refine wpAnyH_done (by kernel_rfl) ?_ _
            clear hHeld
            have HFIN := hid (show (w8.setCell ⟨g3, m * 2 + 1, none⟩ (.int .u32 ((max p2 y : Nat) : Int))).ownsRow w1.heap.size 47 2 (.slice (some ⟨g3, 0, none⟩) M c) M (zpC (allS (mrgV (r.take (k + 1))))) from by
              rw [HTK.out, HSTEP.out]
              show World.ownsRow _ _ _ _ _ _ (zpC (ml ++ [(p1, max p2 y)]))
              rw [← zpC_last ml (p1, p2) (max p2 y), HMM.out]
              exact owns_put HS8.out)
            have HL7 := hid (show (allS (mrgV (r.take (k + 1)))).length = M from by rw [HTK.out, HSTEP.out]; simp [allS, HMM.out]; exact HMm.out.symm)
            have hmax : max (p2 : Int) (y : Int) = ((max p2 y : Nat) : Int) := by omega
            rw [hmax]
            clear cl fl
            go_wp2
            go_roundw
            case rel => exact ⟨k + 1, M, c, some ⟨g3, 0, none⟩, HLT.out, HL7.out, by go_num, rfl, HFIN.out, B8.out.setCell (p := ⟨g3, m * 2 + 1, none⟩) HGB.out _⟩
            case measure => have := HLT.out; simp [intOf]; omega
    · have hke : k = N := by omega
      subst hke
      have hte : r.take k = r := List.take_of_length_le (by rw [HN.out]; exact Nat.le_refl _)
      rw [hte] at HO HM
      clear hown hB hte hM hk hlt
      go_wp2
      exact bodyPost_ret (v := .slice ad3 M c) (by simp [results, Tryz.results77, go_sem]) rfl ⟨ad3, c, r, by rw [HM.out], HQ.out, by unfold ZpR; rw [HM.out]; exact owns_lower HO.out B1.out.size, belowNC B1.out HB.out⟩
end Go.Proofs.YtgalmlelnolodaaGreatDoor
namespace Go.Proofs.YtgalmlelnolodaaGreatDoor
open Go.RowKit
set_option linter.unusedVariables false

/-- spans in memory -/
def ZpU (w : World) (ad : Option Addr) (l : List Zp) : Prop := ∀ k (h : k < l.length), ∃ x, ad = some x ∧ w.cell? (x.add (k * 2)) = some (.int .u32 ((l[k].1 : Nat) : Int)) ∧ w.cell? ⟨(x.add (k * 2)).block, (x.add (k * 2)).off + 1, none⟩ = some (.int .u32 ((l[k].2 : Nat) : Int))
theorem ZpU.below {w w' : World} {ad : Option Addr} {l : List Zp} (h : ZpU w ad l) (hb : Below w.heap.size w w') : ZpU w' ad l := fun k hk => by
  obtain ⟨x, h1, h2, h3⟩ := h k hk
  exact ⟨x, h1, cell_later hb h2, cell_later hb h3⟩
theorem ZpR.cells {w : World} {base n cap : Nat} {ad : Option Addr} {l : List Zp} (h : w.ownsRow base 47 2 (.slice ad n cap) n (zpC l)) (hn : l.length = n) : ZpU w ad l := fun k hk => by
  obtain ⟨g, hg, _, _, hc⟩ := owns_cell h (by omega)
  obtain ⟨h1, h2⟩ := zpC_at hk
  refine ⟨_, hg, ?_, ?_⟩
  · rw [add_plain]; exact hc _ _ h1
  · rw [add_plain]; exact hc _ _ h2
set_option maxHeartbeats 800000 in
theorem has_any (a b v : Nat) (w : World) :
    Calls Tryz.prog 42 #[.agg #[.int .u32 (a : Int), .int .u32 (b : Int)], .int .u32 (v : Int)] w fun e w' => e = .returned (.bool (hasB (a, b) v)) ∧ Below w.heap.size w w' := by
  unfold hasB
  by_cases h : a ≤ v
  · have hi : (a : Int) ≤ (v : Int) := by omega
    rw [show decide ((a, b).1 ≤ v) = true from decide_eq_true h, Bool.true_and]
    go_enter Tryz.func42, Tryz.ntmps42
    go_wp2
    go_ret
    exact ⟨retNB (decide_eq_decide.2 (by show _ ↔ v ≤ b; omega)), (Below.refl _ _).alloc (Nat.le_refl _) _⟩
  · have hi : ((a : Int) ≤ (v : Int)) = False := eq_false (by omega)
    rw [show decide ((a, b).1 ≤ v) = false from decide_eq_false h, Bool.false_and]
    clear h
    go_enter Tryz.func42, Tryz.ntmps42
    go_wp2
    go_ret
    exact ⟨rfl, (Below.refl _ _).alloc (Nat.le_refl _) _⟩
theorem inB_take {l : List Zp} {k : Nat} (h : k < l.length) (v : Nat) : inB (l.take (k + 1)) v = (inB (l.take k) v || hasB l[k] v) := by
  rw [List.take_add_one, List.getElem?_eq_getElem h, inB_app]
  show (_ || inB [l[k]] v) = _
  rw [inB_one]
theorem inB_more {l : List Zp} {k v : Nat} (h : inB (l.take k) v = true) : inB l v = true := by
  have := inB_app (l.take k) (l.drop k) v
  rw [List.take_append_drop, h, Bool.true_or] at this
  exact this
set_option maxHeartbeats 1600000 in
theorem in_any (ad : Option Addr) (l : List Zp) (c v : Nat) (w : World) (hx : ZpU w ad l) (hl : l.length ≤ 1000000000) :
    Calls Tryz.prog 28 #[.slice ad l.length c, .int .u32 (v : Int)] w fun e w' => e = .returned (.bool (inB l v)) ∧ Below w.heap.size w w' := by
  have HX := hid hx
  obtain ⟨N, hN⟩ : ∃ N, l.length = N := ⟨_, rfl⟩
  have HN := hid hN
  rw [hN] at hl ⊢
  clear hx hN
  go_enter Tryz.func28, Tryz.ntmps28
  go_wp2_with fail
  go_loopw [5] (fun i wr => ∃ k : Nat, k ≤ N ∧ i = .int .i64 (k : Int) ∧ inB (l.take k) v = false ∧ Below w.heap.size w wr) (fun i _ => N - (intOf i).toNat)
  case atStart => exact ⟨0, Nat.zero_le _, rfl, rfl, Below.refl _ _⟩
  case round =>
    obtain ⟨k, hk, rfl, hin, hB⟩ := hrel
    have HB := hid hB
    have HIN := hid hin
    by_cases hlt : k < N
    · have hlk : k < l.length := by rw [HN.out]; exact hlt
      obtain ⟨x, hxe, h1, h2⟩ := HX.out.below hB k hlk
      subst hxe
      have HTK := hid (inB_take hlk v)
      have HMORE := hid (fun h => inB_more (l := l) (k := k + 1) (v := v) h)
      obtain ⟨s, hs⟩ : ∃ s, l[k] = s := ⟨_, rfl⟩
      rw [hs] at h1 h2 HTK
      obtain ⟨a, b⟩ := s
      simp only at h1 h2
      have hwk : IntKind.i64.wrap (k : Int) = (k : Int) := by rw [IntKind.wrap_i64]; omega
      have HLT := hid hlt
      clear hB hlk hs hin hk
      cases hh : hasB (a, b) v with
      | true =>
        have HH := hid hh
        clear hh
        go_wp2_with fail
        refine (has_any a b v _).mono ?_
        rintro e w2 ⟨rfl, hB⟩
        have B2 := hid (belowNC HB.out hB)
        rw [HH.out]
        clear hB
        go_wp2
        go_ret
        exact ⟨by rw [HMORE.out (by rw [HTK.out, HH.out, Bool.or_true])]; rfl, B2.out⟩
      | false =>
        have HH := hid hh
        clear hh
        go_wp2_with fail
        refine (has_any a b v _).mono ?_
        rintro e w2 ⟨rfl, hB⟩
        have B2 := hid (belowNC HB.out hB)
        rw [HH.out]
        clear hB
        go_wp2
        go_roundw
        case rel => exact ⟨k + 1, HLT.out, by go_num, by rw [HTK.out, HH.out, HIN.out]; rfl, B2.out⟩
        case measure => have := HLT.out; simp [intOf]; omega
    · have hke : k = N := by omega
      subst hke
      have hte : l.take k = l := List.take_of_length_le (by rw [HN.out]; exact Nat.le_refl _)
      rw [hte] at HIN
      clear hlt hk hin hte hB
      go_wp2
      go_ret
      exact ⟨by rw [HIN.out]; rfl, HB.out⟩
theorem okS_at {l : List Zp} (h : okS l = true) : ∀ (k : Nat) (hk : k < l.length), l[k].1 ≤ l[k].2 ∧ ∀ (m : Nat) (hm : k = m + 1), (l[m]'(by omega)).2 + 2 ≤ l[k].1 := by
  induction l with
  | nil => intro k hk; simp at hk
  | cons a r ih =>
    obtain ⟨h1, h2, h3⟩ := okS_cons.1 h
    intro k hk
    cases k with
    | zero => exact ⟨h1, fun m hm => by omega⟩
    | succ k =>
      have hk' : k < r.length := by simpa using hk
      obtain ⟨g1, g2⟩ := ih h3 k hk'
      refine ⟨g1, fun m hm => ?_⟩
      have hmk : m = k := by omega
      subst hmk
      cases m with
      | zero =>
        have := h2 r[0] (by rw [List.head?_eq_getElem?, List.getElem?_eq_getElem hk'])
        exact this
      | succ m => exact g2 m rfl
set_option maxHeartbeats 3200000 in
theorem merged_yes (ad : Option Addr) (l : List Zp) (n c base : Nat) (w : World) (ho : w.ownsRow base 47 2 (.slice ad n c) n (zpC l)) (hn : l.length = n) (hl : n ≤ 1000000000) (h32 : ∀ s ∈ l, s.1 < 4294967296 ∧ s.2 < 4294967296) (hok : okS l = true) :
    Calls Tryz.prog 29 #[.slice ad n c] w fun e w' => e = .returned (.bool true) ∧ Below w.heap.size w w' := by
  have HO := hid ho
  have HN := hid hn
  have H32 := hid h32
  have HOK := hid (okS_at hok)
  clear ho hn h32 hok
  go_enter Tryz.func29, Tryz.ntmps29
  go_wp2_with fail
  go_loopw [3] (fun i wr => ∃ k : Nat, k ≤ n ∧ i = .int .i64 (k : Int) ∧ Below w.heap.size w wr) (fun i _ => n - (intOf i).toNat)
  case atStart => exact ⟨0, Nat.zero_le _, rfl, Below.refl _ _⟩
  case round =>
    obtain ⟨k, hk, rfl, hB⟩ := hrel
    have HB := hid hB
    by_cases hlt : k < n
    · have hlk : k < l.length := by rw [HN.out]; exact hlt
      obtain ⟨g, hg, _, _, hc⟩ := owns_cell (owns_below HO.out hB) (by omega)
      subst hg
      obtain ⟨h1, h2⟩ := zpC_at hlk
      have x0 := hc _ _ h1
      have x1 := hc _ _ h2
      obtain ⟨g1, g2⟩ := HOK.out k hlk
      have hs32 := H32.out l[k] (List.getElem_mem hlk)
      have hwk : IntKind.i64.wrap (k : Int) = (k : Int) := by rw [IntKind.wrap_i64]; omega
      have HLT := hid hlt
      by_cases hk0 : 0 < k
      · obtain ⟨m, hm⟩ : ∃ m, k = m + 1 := ⟨k - 1, by omega⟩
        have hlm : m < l.length := by omega
        have g3 := g2 m hm
        obtain ⟨h3, h4⟩ := zpC_at hlm
        have y1 := hc _ _ h4
        obtain ⟨p, hp⟩ : ∃ p, l[m] = p := ⟨_, rfl⟩
        rw [hp] at g3 y1
        obtain ⟨s, hs⟩ : ∃ s, l[k] = s := ⟨_, rfl⟩
        rw [hs] at x0 x1 g1 g3 hs32
        obtain ⟨a, b⟩ := s
        obtain ⟨pa, pb⟩ := p
        simp only at x0 x1 g1 g3 hs32 y1
        have hwm : IntKind.i64.wrap (m : Int) = (m : Int) := by rw [IntKind.wrap_i64]; omega
        have hq0 : (m : Int) < (m : Int) + 1 := by omega
        have hq1 : (0 : Int) < (m : Int) + 1 := by omega
        have ha32 := hs32.1
        have e1 : ((b : Int) < (a : Int)) = False := eq_false (by omega)
        have e2 : ((a : Int) ≤ (pb : Int)) = False := eq_false (by omega)
        have e3 : ((a : Int) - (pb : Int) < 2) = False := eq_false (by omega)
        have e4 : IntKind.u32.wrap ((a : Int) - (pb : Int)) = (a : Int) - (pb : Int) := by rw [IntKind.wrap_u32]; omega
        subst hm
        clear hB hlk hc h1 h2 h3 h4 g2 hlm hp hs hs32 hk0 hk g1 g3
        go_wp2_with fail
        go_quiet (fail)
        have BQ := hid (belowDN HB.out nq)
        go_wp2_with fail
        go_quiet (fail)
        clear x0 x1 y1 e1 e2 e3 e4
        go_wp2
        go_roundw
        case rel => exact ⟨m + 1 + 1, HLT.out, by go_num, belowDN HB.out _⟩
        case measure => have := HLT.out; simp [intOf]; omega
      · obtain rfl : k = 0 := by omega
        obtain ⟨s, hs⟩ : ∃ s, l[0] = s := ⟨_, rfl⟩
        rw [hs] at x0 x1 g1
        obtain ⟨a, b⟩ := s
        simp only at x0 x1 g1
        have e1 : ((b : Int) < (a : Int)) = False := eq_false (by omega)
        clear hB hlk hc h1 h2 g2 hs hs32 hk0 hk g1
        go_wp2_with fail
        go_quiet (fail)
        have BQ := hid (belowDN HB.out nq)
        go_wp2_with fail
        go_quiet (fail)
        clear x0 x1 e1
        go_wp2
        go_roundw
        case rel => exact ⟨0 + 1, HLT.out, by go_num, belowDN HB.out _⟩
        case measure => have := HLT.out; simp [intOf]; omega
    · have hke : k = n := by omega
      subst hke
      clear hlt hk hB
      go_wp2
      go_ret
      exact ⟨rfl, HB.out⟩
end Go.Proofs.YtgalmlelnolodaaGreatDoor
namespace Go.Proofs.YtgalmlelnolodaaGreatDoor
open Go.RowKit
set_option linter.unusedVariables false

theorem outV_len (b : Nat) : ∀ (l : List Zp) (n : Nat), (outV b l n).length ≤ l.length + 1
  | [], n => Nat.le_refl _
  | s :: r, n => by
    have := outV_len b r (s.2 + 1)
    unfold outV
    split
    · simp
    · rw [List.length_append]
      split <;> split <;> simp <;> omega
end Go.Proofs.YtgalmlelnolodaaGreatDoor
namespace Go.Proofs.YtgalmlelnolodaaGreatDoor
open Go.RowKit
set_option linter.unusedVariables false

/-- what Merge answers: merged spans of the same words -/
theorem mergeS_any (ad : Option Addr) (cap : Nat) (l : List Zp) (w : World) (h : SpIn w ad l cap) (hn : l.length ≤ 1000000000) (h32 : ∀ s ∈ l, s.1 < 4294967296 ∧ s.2 < 4294967296) :
    Calls Tryz.prog 77 #[.slice ad l.length cap] w fun e w' => ∃ ad' cap' m, e = .returned (.slice ad' m.length cap') ∧ okS m = true ∧ (∀ x, inB m x = inB l x) ∧ m.length ≤ l.length ∧ (∀ s ∈ m, s.1 < 4294967296 ∧ s.2 < 4294967296) ∧ ZpR w' w.heap.size (.slice ad' m.length cap') m ∧ Below w.heap.size w w' := by
  have hr := (rising_any ad cap l w h hn).mono (R' := fun e w' => ∃ ad2 cap2 r, e = .returned (.slice ad2 r.length cap2) ∧ Rise l r ∧ ZpR w' w.heap.size (.slice ad2 r.length cap2) r ∧ Below w.heap.size w w') fun e w' hq => hq
  refine (merge_any (Rise l) (fun r hr => ⟨Nat.le_trans hr.len hn, fun s hs => h32 s (hr.sub s hs)⟩) ad l.length cap w hr).mono ?_
  rintro e w' ⟨ad', cap', r, rfl, hq, ho, hb⟩
  obtain ⟨h1, h2⟩ := hq.merged
  exact ⟨ad', cap', allS (mrgV r), rfl, h1, h2, Nat.le_trans (mrg_len r) hq.len, mrg_32 r (fun s hs => h32 s (hq.sub s hs)), ho, hb⟩
/-- what Merge says of its answer -/
structure MrgOk (l m : List Zp) : Prop where
  ok : okS m = true
  words : ∀ x, inB m x = inB l x
  len : m.length ≤ l.length
  w32 : ∀ s ∈ m, s.1 < 4294967296 ∧ s.2 < 4294967296
theorem mergeOk_any (ad : Option Addr) (cap : Nat) (l : List Zp) (w : World) (h : SpIn w ad l cap) (hn : l.length ≤ 1000000000) (h32 : ∀ s ∈ l, s.1 < 4294967296 ∧ s.2 < 4294967296) :
    Calls Tryz.prog 77 #[.slice ad l.length cap] w fun e w' => ∃ ad2 cap2 m, e = .returned (.slice ad2 m.length cap2) ∧ MrgOk l m ∧ ZpR w' w.heap.size (.slice ad2 m.length cap2) m ∧ Below w.heap.size w w' := by
  refine (mergeS_any ad cap l w h hn h32).mono ?_
  rintro e w' ⟨a, c, m, rfl, h1, h2, h3, h4, h5, h6⟩
  exact ⟨a, c, m, rfl, ⟨h1, h2, h3, h4⟩, h5, h6⟩
end Go.Proofs.YtgalmlelnolodaaGreatDoor
