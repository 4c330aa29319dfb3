/- Rows of texts that a call makes, and the contract of the document's Lines, over this seat's translation. Conditions: a text's size. -/
import Derived.Test.YtgalmlelnolodaaGreatDoorChT
import Derived.Test.YtgalmlelnolodaaGreatDoorChL
namespace Go.Proofs.YtgalmlelnolodaaGreatDoor
open Go.RowKit
set_option linter.unusedVariables false

/-- a slice of texts, in a block from lo on -/
def StrR (w : World) (lo : Nat) (v : Value) (l : List ByteArray) : Prop := ∃ g cap cs, v = .slice (some ⟨g, 0, none⟩) l.length cap ∧ lo ≤ g ∧ w.heap[g]? = some (.cells cs 9 (0, 0)) ∧ ∀ k, k < l.length → cs[k]? = some (.string (wd l k))
theorem StrR.keep {w w' : World} {lo : Nat} {v : Value} {l : List ByteArray} (r : StrR w lo v l) (hk : ∀ (q : Nat) (cs : Array Value), lo ≤ q → w.heap[q]? = some (.cells cs 9 (0, 0)) → w'.heap[q]? = some (.cells cs 9 (0, 0))) : StrR w' lo v l := by
  obtain ⟨g, cap, cs, h1, h2, h3, h4⟩ := r
  exact ⟨g, cap, cs, h1, h2, hk g cs h2 h3, h4⟩
theorem StrR.below {w w' : World} {lo : Nat} {v : Value} {l : List ByteArray} (r : StrR w lo v l) (hB : Below w.heap.size w w') : StrR w' lo v l :=
  r.keep fun q _ _ h => (hB.block q (lt_of_heap h)).trans h
theorem StrR.base {w : World} {lo b : Nat} {v : Value} {l : List ByteArray} (r : StrR w lo v l) (hb : b ≤ lo) : StrR w b v l := by
  obtain ⟨g, cap, cs, h1, h2, h3⟩ := r
  exact ⟨g, cap, cs, h1, Nat.le_trans hb h2, h3⟩
theorem strR_of_own {w : World} {base g cap : Nat} {l : List ByteArray} (h : w.ownsRow base 9 1 (.slice (some ⟨g, 0, none⟩) l.length cap) l.length (strV l)) : StrR w base (.slice (some ⟨g, 0, none⟩) l.length cap) l := by
  rcases h.2 with ⟨hx, _⟩ | ⟨g', cap', cur, hx, hb, hg, h1, h2, h3, h4⟩
  · cases hx
  · cases hx
    refine ⟨_, _, cur, rfl, hb, hg, fun k hk => ?_⟩
    have : (cur.toList.take (l.length * 1))[k]? = some (.string (wd l k)) := by rw [h4]; exact strV_at hk
    rw [List.getElem?_take] at this
    simp [hk] at this; rw [this]
/-- a slice of such rows that is the call's own -/
structure OutS (w : World) (lo base : Nat) (v : Value) (L : List (List ByteArray)) (vs : List Value) : Prop where
  own : w.ownsRow base 45 1 v L.length vs
  row : ∀ i, i < L.length → ∃ r, vs[i]? = some r ∧ StrR w lo r (L.getD i [])
theorem OutS.nil (w : World) (lo base : Nat) : OutS w lo base (.slice none 0 0) [] [] := ⟨⟨rfl, Or.inl ⟨rfl, rfl⟩⟩, fun i h => by simp at h⟩
theorem OutS.below {w w' : World} {lo base : Nat} {v : Value} {L : List (List ByteArray)} {vs : List Value} (o : OutS w lo base v L vs) (hB : Below w.heap.size w w') : OutS w' lo base v L vs :=
  ⟨owns_below o.own hB, fun i h => by obtain ⟨r, h1, h2⟩ := o.row i h; exact ⟨r, h1, h2.below hB⟩⟩
theorem OutS.base {w : World} {lo base b : Nat} {v : Value} {L : List (List ByteArray)} {vs : List Value} (o : OutS w lo base v L vs) (hl : b ≤ lo) (hb : b ≤ base) : OutS w b b v L vs :=
  ⟨owns_base o.own hb, fun i h => by obtain ⟨r, h1, h2⟩ := o.row i h; exact ⟨r, h1, h2.base hl⟩⟩
theorem OutS.append {w w2 : World} {lo base : Nat} {v v2 r : Value} {L : List (List ByteArray)} {vs : List Value} {l : List ByteArray} (o : OutS w lo base v L vs) (hr : StrR w lo r l) (ho : w2.ownsRow base 45 1 v2 (L.length + 1) (vs ++ [r])) (hg : w.grownBy w2 v.ownBlock) : OutS w2 lo base v2 (L ++ [l]) (vs ++ [r]) := by
  have keep : ∀ (q : Nat) (cs : Array Value), lo ≤ q → w.heap[q]? = some (.cells cs 9 (0, 0)) → w2.heap[q]? = some (.cells cs 9 (0, 0)) := fun q cs _ h =>
    (hg.block q (lt_of_heap h) (fun e => rowNe o.own h (by decide) e.symm)).trans h
  have hlen : vs.length = L.length := by have := o.own.1; omega
  refine ⟨by simpa using ho, fun i hi => ?_⟩
  by_cases e : i < L.length
  · obtain ⟨r', h1, h2⟩ := o.row i e
    refine ⟨r', by rw [List.getElem?_append_left (by omega)]; exact h1, ?_⟩
    rw [List.getD_eq_getElem?_getD, List.getElem?_append_left e, ← List.getD_eq_getElem?_getD]
    exact h2.keep keep
  · have : i = L.length := by simp at hi; omega
    subst this
    refine ⟨r, by rw [← hlen]; simp, ?_⟩
    rw [List.getD_eq_getElem?_getD]
    simp
    exact hr.keep keep
/-- row i of it: where it lies, and its texts -/
theorem OutS.at {w : World} {lo base n : Nat} {ad : Option Addr} {cap : Nat} {L : List (List ByteArray)} {vs : List Value} (o : OutS w lo base (.slice ad n cap) L vs) (hn : n = L.length) (i : Nat) (h : i < L.length) : ∃ g q rc, ad = some ⟨g, 0, none⟩ ∧ w.cell? ⟨g, i, none⟩ = some (.slice (some ⟨q, 0, none⟩) (L.getD i []).length rc) ∧ ∀ k, k < (L.getD i []).length → w.cell? ⟨q, k, none⟩ = some (.string (wd (L.getD i []) k)) := by
  subst hn
  obtain ⟨g, h1, _, _, h2⟩ := owns_cell o.own (by omega)
  obtain ⟨r, h3, q, rc, cs, rfl, _, h5, h6⟩ := o.row i h
  exact ⟨g, q, rc, h1, h2 i _ h3, fun k hk => cell_of_heap h5 (h6 k hk)⟩
theorem infoStrs : (Tryz.prog.info? 45).map (fun i => (i.zero, i.size, i.bytes)) = some (some (.slice none 0 0), 1, 24) := by kernel_rfl
theorem lwV_nil {s : ByteArray} (h : s.size = 0) : lwV s = [] := by unfold lwV lnV; rw [if_pos h]; rfl
theorem lwV_lines {s : ByteArray} (h : s.size ≠ 0) : lwV s = (splS 10 s).map (splS 32) := by unfold lwV lnV; rw [if_neg h]

set_option maxHeartbeats 1600000 in
theorem rlines_any (s : ByteArray) (w : World) (hs : s.size ≤ 1000000) :
    Calls Tryz.prog 57 #[.string s] w fun e w' => ∃ ad cap vs, e = .returned (.slice ad (lwV s).length cap) ∧ OutS w' w.heap.size w.heap.size (.slice ad (lwV s).length cap) (lwV s) vs ∧ Below w.heap.size w w' := by
  obtain ⟨i0, hi, hz0, hz1, hz2⟩ := info_parts infoStrs
  by_cases h0 : s.size = 0
  · have e1 : s.toList.isEmpty = true := by rw [Lib.toList_data]; have := Lib.size_eq s; rw [List.isEmpty_iff]; exact List.length_eq_zero_iff.1 (by omega)
    rw [lwV_nil h0]
    clear h0
    go_enter Tryz.func57, Tryz.ntmps57
    go_wp2
    go_ret
    exact ⟨none, 0, [], rfl, OutS.nil _ _ _, Below.refl _ _⟩
  · have e1 : s.toList.isEmpty = false := by rw [Lib.toList_data]; have := Lib.size_eq s; rw [List.isEmpty_eq_false_iff]; intro e; rw [e] at this; simp at this; exact h0 (by rw [this]; rfl)
    have HC := hid (rsplit_any s 10 10 w (by decide) hs)
    have HSZ := hid (fun j => wd_size (n := s.size) (fun x (hx : x ∈ splS 10 s) => splS_size hx) j)
    have HLN := hid (splS_len 10 s)
    rw [lwV_lines h0]
    obtain ⟨T, hT⟩ : ∃ T, splS 10 s = T := ⟨_, rfl⟩
    rw [hT] at HC HSZ HLN ⊢
    obtain ⟨N, hN⟩ : ∃ N, T.length = N := ⟨_, rfl⟩
    rw [hN] at HC HLN
    rw [List.length_map, hN]
    have HN := hid hN
    have HS := hid hs
    have hN6 : N ≤ 1000001 := by have := HLN.out; omega
    clear h0 hT hN hs
    go_enter Tryz.func57, Tryz.ntmps57
    go_wp2_with fail
    refine HC.out.mono ?_
    rintro e w1 ⟨g, cap, rfl, hown, hB⟩
    have HO1 := hid hown
    have B1 := hid hB
    clear hown hB
    go_wp2_with fail
    go_loopw [3, 5] (fun o i wr => ∃ (k cap' : Nat) (ad : Option Addr) (vs : List Value), k ≤ N ∧ i = .int .i64 (k : Int) ∧ o = .slice ad k cap' ∧ OutS wr w1.heap.size w1.heap.size (.slice ad k cap') ((T.take k).map (splS 32)) vs ∧ Below w1.heap.size w1 wr) (fun _ i _ => N - (intOf i).toNat)
    case atStart => exact ⟨0, 0, none, [], Nat.zero_le _, rfl, rfl, OutS.nil _ _ _, Below.refl _ _⟩
    case round =>
      obtain ⟨k, cap', ad, vs, hk, rfl, rfl, ho, hB⟩ := hrel
      have HOS := hid ho
      have HB := hid hB
      clear ho hB
      by_cases hlt : k < N
      · have HLK := hid (show ((T.take k).map (splS 32)).length = k by rw [List.length_map, List.length_take, HN.out]; omega)
        obtain ⟨g', hg', _, _, hgc⟩ := owns_cell HO1.out (show 0 < N by omega)
        cases hg'
        obtain ⟨l, hl⟩ : ∃ l, wd T k = l := ⟨_, rfl⟩
        have hll : l.size ≤ 1000000 := by rw [← hl]; exact Nat.le_trans (HSZ.out k) HS.out
        have hc := hgc k _ (strV_at (show k < T.length by rw [HN.out]; exact hlt))
        rw [hl] at hc
        have HTK := hid (show (T.take (k + 1)).map (splS 32) = (T.take k).map (splS 32) ++ [splS 32 l] by
          rw [← hl]; unfold wd
          rw [List.getD_eq_getElem?_getD, List.take_add_one, List.map_append, List.getElem?_eq_getElem (show k < T.length by rw [HN.out]; exact hlt)]
          rfl)
        have kc : wr.cell? ⟨g, k, none⟩ = some (.string l) := cell_below HB.out hc (by assumption)
        have HC2 := hid (rsplit_any l 32 32 wr (by decide) hll)
        clear hgc hc hl hll
        go_wp2_with fail
        refine HC2.out.mono ?_
        rintro e w2 ⟨g3, cap3, rfl, hown, hB⟩
        have HR3 := hid (strR_of_own hown)
        have B2 := hid (belowCat HB.out hB)
        have HO2 := hid (HOS.out.below hB)
        obtain ⟨M, hM⟩ : ∃ M, (splS 32 l).length = M := ⟨_, rfl⟩
        rw [hM] at HR3 ⊢
        clear hown hB hM
        have HU2 := hid (show OutS (w2.alloc (.cells #[.slice (some ⟨g3, 0, none⟩) M cap3] 45)) w1.heap.size w1.heap.size (.slice ad k cap') ((T.take k).map (splS 32)) vs from HO2.out.below ((Below.refl _ _).alloc (Nat.le_refl _) _))
        have HOW := hid (show (w2.alloc (.cells #[.slice (some ⟨g3, 0, none⟩) M cap3] 45)).ownsRow w1.heap.size 45 1 (.slice ad k cap') k vs from by have := HU2.out.own; rw [HLK.out] at this; exact this)
        have HR4 := hid (show StrR (w2.alloc (.cells #[.slice (some ⟨g3, 0, none⟩) M cap3] 45)) w1.heap.size (.slice (some ⟨g3, 0, none⟩) M cap3) (splS 32 l) from (HR3.out.below ((Below.refl _ _).alloc (Nat.le_refl _) _)).base HB.out.size)
        have BC := hid (show Below w1.heap.size w1 (w2.alloc (.cells #[.slice (some ⟨g3, 0, none⟩) M cap3] 45)) from blw_alloc B2.out)
        have HOB := hid (show ∀ j, (Value.slice ad k cap').ownBlock = some j → w1.heap.size ≤ j from fun j hj => (HOW.out.lt j hj).1)
        clear HO2 HOS HR3
        go_wp2_with (at_builtin; refine wpList_append_lies _ rfl (.tmp 17) (.tmp 23) 115 rfl w1.heap.size 45 i0 _ 1 24 Tryz.underlying115 hi hz0 hz1 hz2 rfl (by decide) (.slice ad k cap') k vs rfl HOW.out ⟨w2.heap.size, 0, none⟩ 1 1 [.slice (some ⟨g3, 0, none⟩) M cap3] rfl rfl ?c1 ?c2 (by decide) ?c3 ?c4 ?c5 _ rfl ?_)
        case c1 => exact World.news_of_block (heap_alloc_at _ _)
        case c2 => intro u hu; simp only [List.mem_cons, List.not_mem_nil, or_false] at hu; rcases hu with rfl; rfl
        case c3 => unfold maxLen; omega
        case c4 => omega
        case c5 => exact BC.out.size
        intro g7 cap7 w7 hown' hgrow hat hlt2
        have HO7 := hid (show OutS w7 w1.heap.size w1.heap.size (.slice (some ⟨g7, 0, none⟩) (k + 1) cap7) ((T.take (k + 1)).map (splS 32)) (vs ++ [.slice (some ⟨g3, 0, none⟩) M cap3]) from by rw [HTK.out]; exact HU2.out.append HR4.out (by rw [HLK.out]; exact hown') hgrow)
        have B7 := hid (BC.out.grown hgrow BC.out.size HOB.out)
        clear hown' hgrow hat hlt2
        go_wp2
        go_roundw
        case rel => exact ⟨k + 1, cap7, some ⟨g7, 0, none⟩, _, by omega, by go_num, rfl, HO7.out, B7.out⟩
        case measure => simp [intOf]; omega
      · have hke : k = N := by omega
        subst hke
        have HTE := hid (show T.take k = T from List.take_of_length_le (by rw [HN.out]; exact Nat.le_refl _))
        rw [HTE.out] at HOS
        clear hk hlt
        go_wp2
        exact bodyPost_ret (v := .slice ad k cap') (by simp [results, Tryz.results57, go_sem]) rfl
          ⟨ad, cap', vs, rfl, HOS.out.base B1.out.size B1.out.size, belowCat B1.out HB.out⟩
end Go.Proofs.YtgalmlelnolodaaGreatDoor
