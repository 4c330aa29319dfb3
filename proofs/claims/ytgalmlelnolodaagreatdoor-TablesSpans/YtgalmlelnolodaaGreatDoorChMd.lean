/- The contract of package chart's read at decompositions, over this seat's translation. Conditions: a text's size; what the library's variables hold is some number, some errors. -/
import Derived.Test.YtgalmlelnolodaaGreatDoorChMc
namespace Go.Proofs.YtgalmlelnolodaaGreatDoor
open Go.RowKit
set_option linter.unusedVariables false

/-- a slice of decompositions that is a call's own; their words lie in blocks from lo on -/
structure OutD (w : World) (lo base : Nat) (v : Value) (its : List Dt) (vs : List Value) : Prop where
  own : w.ownsRow base 64 4 v its.length vs
  row : ∀ (i : Nat) (h : i < its.length), ∃ g cap, (∀ (j : Nat) (x : Value), (dcA its[i] (.slice (some ⟨g, 0, none⟩) its[i].to.length cap))[j]? = some x → vs[i * 4 + j]? = some x) ∧ lo ≤ g ∧ U32B w g its[i].to
theorem OutD.nil (w : World) (lo base : Nat) : OutD w lo base (.slice none 0 0) [] [] := ⟨⟨rfl, Or.inl ⟨rfl, rfl⟩⟩, fun i h => by simp at h⟩
theorem OutD.below {w w' : World} {lo base : Nat} {v : Value} {its : List Dt} {vs : List Value} (o : OutD w lo base v its vs) (hB : Below w.heap.size w w') : OutD w' lo base v its vs :=
  ⟨owns_below o.own hB, fun i h => by obtain ⟨g, cap, h1, h2, h3⟩ := o.row i h; exact ⟨g, cap, h1, h2, h3.below hB⟩⟩
theorem OutD.base {w : World} {lo base b : Nat} {v : Value} {its : List Dt} {vs : List Value} (o : OutD w lo base v its vs) (hl : b ≤ lo) (hb : b ≤ base) : OutD w b b v its vs :=
  ⟨owns_base o.own hb, fun i h => by obtain ⟨g, cap, h1, h2, h3⟩ := o.row i h; exact ⟨g, cap, h1, Nat.le_trans hl h2, h3⟩⟩
theorem OutD.append {w w2 : World} {lo base g cap : Nat} {v v2 : Value} {its : List Dt} {vs : List Value} {d : Dt} (o : OutD w lo base v its vs) (hl : lo ≤ g) (hu : U32B w g d.to)
    (ho : w2.ownsRow base 64 4 v2 (its.length + 1) (vs ++ (dcA d (.slice (some ⟨g, 0, none⟩) d.to.length cap)).toList)) (hg : w.grownBy w2 v.ownBlock) : OutD w2 lo base v2 (its ++ [d]) (vs ++ (dcA d (.slice (some ⟨g, 0, none⟩) d.to.length cap)).toList) := by
  have keep : ∀ (q : Nat) (l : List Nat), U32B w q l → U32B w2 q l := fun q l u => u.keep fun cs h =>
    (hg.block q (lt_of_heap h) (fun e => rowNe o.own h (by decide) e.symm)).trans h
  have hlen : vs.length = its.length * 4 := o.own.1
  refine ⟨by simpa using ho, fun i hi => ?_⟩
  by_cases e : i < its.length
  · obtain ⟨g', cap', h1, h2, h3⟩ := o.row i e
    refine ⟨g', cap', fun j x hx => ?_, ?_, ?_⟩
    · rw [List.getElem_append_left e] at hx
      have hj := h1 j x hx
      rw [List.getElem?_append_left (List.getElem?_eq_some_iff.1 hj).1]
      exact hj
    · exact h2
    · rw [List.getElem_append_left e]; exact keep _ _ h3
  · have hi2 : i = its.length := by simp at hi; omega
    subst hi2
    refine ⟨g, cap, fun j x hx => ?_, hl, ?_⟩
    · rw [List.getElem_append_right (by omega)] at hx
      simp only [Nat.sub_self, List.getElem_cons_zero] at hx
      rw [List.getElem?_append_right (by omega), show its.length * 4 + j - vs.length = j by omega, Array.getElem?_toList]
      exact hx
    · rw [List.getElem_append_right (by omega)]
      simp only [Nat.sub_self, List.getElem_cons_zero]
      exact keep _ _ hu
/-- item i of it: its cells, and where its words lie -/
theorem OutD.at {w : World} {lo base n cap : Nat} {ad : Option Addr} {its : List Dt} {vs : List Value} (o : OutD w lo base (.slice ad n cap) its vs) (hn : n = its.length) (i : Nat) (h : i < its.length) :
    ∃ g q rc, ad = some ⟨g, 0, none⟩ ∧ w.cell? ⟨g, i * 4, none⟩ = some (.int .u32 ((its[i].p : Nat) : Int)) ∧ w.cell? ⟨g, i * 4 + 1, none⟩ = some (.slice (some ⟨q, 0, none⟩) its[i].to.length rc) ∧ w.cell? ⟨g, i * 4 + 2, none⟩ = some (.bool its[i].c) ∧ w.cell? ⟨g, i * 4 + 3, none⟩ = some (.bool its[i].a)
      ∧ lo ≤ q ∧ U32B w q its[i].to := by
  subst hn
  obtain ⟨g, h1, _, _, h2⟩ := owns_cell o.own (by omega)
  obtain ⟨q, rc, h3, h4, h5⟩ := o.row i h
  exact ⟨g, q, rc, h1, h2 _ _ (h3 0 _ rfl), h2 _ _ (h3 1 _ rfl), h2 _ _ (h3 2 _ rfl), h2 _ _ (h3 3 _ rfl), h4, h5⟩
theorem OutD.owns {w : World} {lo base n : Nat} {v : Value} {its : List Dt} {vs : List Value} (o : OutD w lo base v its vs) (hn : its.length = n) : w.ownsRow base 64 4 v n vs := by rw [← hn]; exact o.own
theorem infoDecomp : (Tryz.prog.info? 64).map (fun i => (i.zero, i.size, i.bytes)) = some (some (.agg #[.int .u32 0, .slice none 0 0, .bool false, .bool false]), 4, 40) := by kernel_rfl
set_option maxHeartbeats 800000 in
theorem decompsB_any (p x : Nat) (g1 n1 c1 g2 n2 c2 : Nat) (c a d b : Bool) (w : World) (h1 : p ≤ 1114111) (h2 : x ≤ 1114111) :
    Calls Tryz.prog 70 #[.agg #[.int .u32 (p : Int), .slice (some ⟨g1, 0, none⟩) n1 c1, .bool c, .bool a], .agg #[.int .u32 (x : Int), .slice (some ⟨g2, 0, none⟩) n2 c2, .bool d, .bool b]] w fun e w' => e = .returned (.bool (decide (p < x))) ∧ Below w.heap.size w w' := by
  go_enter Tryz.func70, Tryz.ntmps70
  go_wp2
  go_ret
  exact ⟨retB (decide_eq_decide.2 (by omega)), ((Below.refl _ _).alloc (Nat.le_refl _) _).alloc (by simp) _⟩
set_option maxHeartbeats 3200000 in
theorem readDecomp_any (s : ByteArray) (w : World) (v : Vr w) (hs : s.size ≤ 1000000) :
    Calls Tryz.prog 68 #[.string s, .func (.func 69) #[] #[], .func (.func 70) #[] #[]] w fun e w' => ∃ (ad : Option Addr) (cap at_ : Nat) (its : List Dt) (vs : List Value),
      e = .returned (.tuple #[.slice ad its.length cap, .int .i64 (if at_ = 0 then 0 else 3), .int .i64 (at_ : Int)]) ∧ rsV dcOf upD (lwV s) (lwV s).length = (its, at_) ∧ OutD w' w.heap.size w.heap.size (.slice ad its.length cap) its vs ∧ Below w.heap.size w w' := by
  have V0 := hid v
  have hLN := lnV_len s
  rw [lwV_len]
  obtain ⟨N, hN⟩ : ∃ N, (lnV s).length = N := ⟨_, rfl⟩
  have HL := hid (lines_any s w v (by omega))
  rw [hN] at HL hLN
  rw [hN]
  have HN := hid hN
  have HLN := hid hLN
  have hN6 : N ≤ 1000001 := by omega
  clear hLN
  obtain ⟨i0, hi, hz0, hz1, hz2⟩ := info_parts infoDecomp
  clear v hN
  go_enter Tryz.func68, Tryz.ntmps68
  go_wp2_with fail
  refine HL.out.mono ?_
  rintro e w1 ⟨⟨ad1, rfl, hst⟩, hB1⟩
  have ST := hid hst
  have B1 := hid hB1
  have V1 := hid (V0.out.below hB1)
  clear hst hB1 HL
  go_wp2_with fail
  go_loopw [17, 9] (fun c l wr => ∃ (k cap : Nat) (ad : Option Addr) (its : List Dt) (vs : List Value), k ≤ N ∧ c = .int .i64 (k : Int) ∧ l = .slice ad k cap ∧ rsV dcOf upD (lwV s) k = (its, 0) ∧ OutD wr w1.heap.size w1.heap.size (.slice ad k cap) its vs ∧ Below w1.heap.size w1 wr) (fun c _ _ => N - (intOf c).toNat)
  case atStart => exact ⟨0, 0, none, [], [], Nat.zero_le _, rfl, rfl, rfl, OutD.nil _ _ _, Below.refl _ _⟩
  case round =>
    obtain ⟨k, cap, ad, its, vs, hk, rfl, rfl, hr, hown, hB⟩ := hrel
    have HIL := hid (rsV_len hr)
    have HR := hid hr
    have HO := hid hown
    have HB := hid hB
    by_cases hlt : k < N
    · obtain ⟨x, rfl, hx⟩ := (ST.out.below hB) k (by rw [HN.out]; exact hlt)
      obtain ⟨L, hL⟩ : ∃ L, wd (lnV s) k = L := ⟨_, rfl⟩
      have hws := lwV_wd (s := s) (k := k) (by rw [HN.out]; exact hlt)
      have hLs : L.size ≤ s.size := by rw [← hL]; exact wd_size (fun y hy => lnV_size hy) k
      rw [hL] at hx hws
      have HWS := hid hws
      have HSP := hid (fun w v => split_any L 32 w v (by omega))
      have hWL := splS_len 32 L
      have HWZ := hid (fun j => Nat.le_trans (wd_size (fun y hy => splS_size (c := 32) (s := L) hy) j) (show L.size ≤ 4000000000 by omega))
      obtain ⟨ws, hw⟩ : ∃ ws, splS 32 L = ws := ⟨_, rfl⟩
      rw [hw] at HWS HWZ hWL
      simp only [hw] at HSP
      have HWN := hid (show ws.length ≤ 4000000000 by omega)
      have HX := hid hx
      clear hWL
      clear hr hown hB hL hws hLs hw
      go_wp2_with fail
      refine (HSP.out _ (V1.out.below HB.out)).mono ?_
      rintro e w3 ⟨rfl, hw3⟩
      have B3 := hid (show Below wr.heap.size wr w3 from by rw [hw3]; exact (Below.refl _ _).alloc (Nat.le_refl _) _)
      have S3 := hid (show Strs w3 (some ⟨wr.heap.size, 0, none⟩) ws from by rw [hw3]; exact strs_block (heap_alloc_at _ _))
      clear hw3 hx HX
      go_wp2_with fail
      refine (decompOf_any wr.heap.size ws _ ((V1.out.below HB.out).below B3.out) (fun j hj => by obtain ⟨y, hy, h⟩ := S3.out j hj; cases hy; rw [add_plain] at h; exact h) HWZ.out HWN.out).mono ?_
      rintro e w4 ⟨he, hB4⟩
      have B4 := hid (show Below wr.heap.size wr w4 from belowCat B3.out hB4)
      have B3S := hid B3.out.size
      clear hB4 B3 S3
      cases ho : dcOf ws with
      | none =>
        have HE := hid (rsV_end (rsV_none HR.out (by rw [HWS.out]; exact ho)) (show k + 1 ≤ N by omega))
        rw [ho] at he
        have he' : e = .returned (.tuple #[.agg #[.int .u32 0, .slice none 0 0, .bool false, .bool false], .bool false]) := he
        clear ho he
        subst he'
        go_wp2_with fail
        refine wp_region_held_drew (S := (fun _ => True)) (by kernel_rfl) (trivial) (fun hHeld => ?_)
        refine tk_at (i := 0) (d := some 29) (v := ?_) rfl rfl (by kernel_rfl) (by kernel_rfl) (by kernel_rfl) (fun _ _ _ h => h) (Or.inl ⟨by rfl, ?_⟩) (by assumption) ?_
        rotate_left
        · (intro w hSw; (try dsimp only at hSw); go_simp; try (with_reducible rfl))
        simp only [Act.put, List.setIfInBounds_toArray, List.set_cons_zero, List.set_cons_succ]
        refine tk_at (i := 1) (d := some 30) (v := ?_) rfl rfl (by kernel_rfl) (by kernel_rfl) (by kernel_rfl) (fun _ _ _ h => h) (Or.inl ⟨by rfl, ?_⟩) (by assumption) ?_
        rotate_left
        · (intro w hSw; (try dsimp only at hSw); go_simp; try (with_reducible rfl))
        simp only [Act.put, List.setIfInBounds_toArray, List.set_cons_zero, List.set_cons_succ]
        refine tk_at (i := 2) (d := some 31) (v := ?_) rfl rfl (by kernel_rfl) (by kernel_rfl) (by kernel_rfl) (fun _ _ _ h => h) (Or.inl ⟨by rfl, ?_⟩) (by assumption) ?_
        rotate_left
        · (intro w hSw; (try dsimp only at hSw); go_simp; try (with_reducible rfl))
        simp only [Act.put, List.setIfInBounds_toArray, List.set_cons_zero, List.set_cons_succ]
        refine tk_at (i := 3) (d := some 32) (v := undef) rfl rfl (by kernel_rfl) (by kernel_rfl) (by kernel_rfl) (fun _ _ _ h => h) (Or.inr ⟨by rfl, rfl⟩) (by assumption) ?_
        simp only [Act.put, List.setIfInBounds_toArray, List.set_cons_zero, List.set_cons_succ]
        refine tk_at (i := 4) (d := some 33) (v := undef) rfl rfl (by kernel_rfl) (by kernel_rfl) (by kernel_rfl) (fun _ _ _ h => h) (Or.inr ⟨by rfl, rfl⟩) (by assumption) ?_
        simp only [Act.put, List.setIfInBounds_toArray, List.set_cons_zero, List.set_cons_succ]
        refine tk_at (i := 5) (d := some 34) (v := undef) rfl rfl (by kernel_rfl) (by kernel_rfl) (by kernel_rfl) (fun _ _ _ h => h) (Or.inr ⟨by rfl, rfl⟩) (by assumption) ?_
        simp only [Act.put, List.setIfInBounds_toArray, List.set_cons_zero, List.set_cons_succ]
        refine tk_at (i := 6) (d := some 35) (v := undef) rfl rfl (by kernel_rfl) (by kernel_rfl) (by kernel_rfl) (fun _ _ _ h => h) (Or.inr ⟨by rfl, rfl⟩) (by assumption) ?_
        simp only [Act.put, List.setIfInBounds_toArray, List.set_cons_zero, List.set_cons_succ]
        refine tk_at (i := 7) (d := some 36) (v := undef) rfl rfl (by kernel_rfl) (by kernel_rfl) (by kernel_rfl) (fun _ _ _ h => h) (Or.inr ⟨by rfl, rfl⟩) (by assumption) ?_
        simp only [Act.put, List.setIfInBounds_toArray, List.set_cons_zero, List.set_cons_succ]
        refine tk_at (i := 8) (d := some 37) (v := undef) rfl rfl (by kernel_rfl) (by kernel_rfl) (by kernel_rfl) (fun _ _ _ h => h) (Or.inr ⟨by rfl, rfl⟩) (by assumption) ?_
        simp only [Act.put, List.setIfInBounds_toArray, List.set_cons_zero, List.set_cons_succ]
        refine tk_at (i := 9) (d := some 38) (v := undef) rfl rfl (by kernel_rfl) (by kernel_rfl) (by kernel_rfl) (fun _ _ _ h => h) (Or.inr ⟨by rfl, rfl⟩) (by assumption) ?_
        simp only [Act.put, List.setIfInBounds_toArray, List.set_cons_zero, List.set_cons_succ]
        refine tk_at (i := 10) (d := some 39) (v := undef) rfl rfl (by kernel_rfl) (by kernel_rfl) (by kernel_rfl) (fun _ _ _ h => h) (Or.inr ⟨by rfl, rfl⟩) (by assumption) ?_
        simp only [Act.put, List.setIfInBounds_toArray, List.set_cons_zero, List.set_cons_succ]
        refine tk_at (i := 11) (d := some 40) (v := undef) rfl rfl (by kernel_rfl) (by kernel_rfl) (by kernel_rfl) (fun _ _ _ h => h) (Or.inr ⟨by rfl, rfl⟩) (by assumption) ?_
        simp only [Act.put, List.setIfInBounds_toArray, List.set_cons_zero, List.set_cons_succ]
        refine tk_at (i := 12) (d := some 41) (v := undef) rfl rfl (by kernel_rfl) (by kernel_rfl) (by kernel_rfl) (fun _ _ _ h => h) (Or.inr ⟨by rfl, rfl⟩) (by assumption) ?_
        simp only [Act.put, List.setIfInBounds_toArray, List.set_cons_zero, List.set_cons_succ]
        refine tk_at (i := 13) (d := some 42) (v := undef) rfl rfl (by kernel_rfl) (by kernel_rfl) (by kernel_rfl) (fun _ _ _ h => h) (Or.inr ⟨by rfl, rfl⟩) (by assumption) ?_
        simp only [Act.put, List.setIfInBounds_toArray, List.set_cons_zero, List.set_cons_succ]
        refine tk_at (i := 14) (d := some 43) (v := undef) rfl rfl (by kernel_rfl) (by kernel_rfl) (by kernel_rfl) (fun _ _ _ h => h) (Or.inr ⟨by rfl, rfl⟩) (by assumption) ?_
        simp only [Act.put, List.setIfInBounds_toArray, List.set_cons_zero, List.set_cons_succ]
        refine tk_at (i := 15) (d := some 44) (v := undef) rfl rfl (by kernel_rfl) (by kernel_rfl) (by kernel_rfl) (fun _ _ _ h => h) (Or.inr ⟨by rfl, rfl⟩) (by assumption) ?_
        simp only [Act.put, List.setIfInBounds_toArray, List.set_cons_zero, List.set_cons_succ]
        refine tk_at (i := 16) (d := some 45) (v := ?_) rfl rfl (by kernel_rfl) (by kernel_rfl) (by kernel_rfl) (fun _ _ _ h => h) (Or.inl ⟨by rfl, ?_⟩) (by assumption) ?_
        rotate_left
        · (intro w hSw; (try dsimp only at hSw); go_simp; try (with_reducible rfl))
        simp only [Act.put, List.setIfInBounds_toArray, List.set_cons_zero, List.set_cons_succ]
        refine wpAnyH_done (by kernel_rfl) ?_ _
        clear hHeld
        go_wp2
        exact bodyPost_ret (v := .tuple #[.slice none 0 0, .int .i64 3, .int .i64 ((k + 1 : Nat) : Int)]) (by simp [results, Tryz.results68, go_sem]) rfl
          ⟨none, 0, k + 1, [], [], by simp, HE.out, OutD.nil _ _ _, by repeat (first | exact belowCat (belowCat B1.out HB.out) B4.out | refine blw_drew ?_ | refine blw_alloc ?_)⟩
      | some it =>
        obtain ⟨p, l, c, a⟩ := it
        obtain ⟨hp, hl1, hl3, hla⟩ := dcOf_r ho
        rw [ho] at he
        obtain ⟨gd, cd, he, hg1, hg2⟩ := he
        simp only at hp hl1 hl3 hla he hg1 hg2
        subst he
        have HGD := hid (And.intro (Nat.le_trans B3S.out hg1) hg2)
        have HO2 := hid ho
        obtain ⟨F, hF⟩ : ∃ F, fitV upD its ⟨p, l, c, a⟩ = F := ⟨_, rfl⟩
        have HF := hid hF
        clear ho hF hg1 hg2 hla hl1
        go_upto_region 6 with fail
        obtain ⟨W5, hW5⟩ : ∃ W5, w4.alloc (.cells #[.int .u32 (p : Int), .slice (some ⟨gd, 0, none⟩) l.length cd, .bool c, .bool a] 64) = W5 := ⟨_, rfl⟩
        have HI := hid (show W5.heap[w4.heap.size]? = some (.cells #[.int .u32 (p : Int), .slice (some ⟨gd, 0, none⟩) l.length cd, .bool c, .bool a] 64 (0, 0)) from by rw [← hW5]; exact heap_alloc_at _ _)
        have B5 := hid (show Below wr.heap.size wr W5 from by rw [← hW5]; exact blw_alloc B4.out)
        have B54 := hid (show Below w4.heap.size w4 W5 from by rw [← hW5]; exact blw_alloc (Below.refl _ _))
        rw [hW5]
        clear hW5
        go_cut [45] from 29 to 45 (fun q wx => q = .bool (!F) ∧ Below W5.heap.size W5 wx)
        case first =>
          by_cases hk0 : 0 < k
          · obtain ⟨q, hq⟩ : ∃ q, k = q + 1 := ⟨k - 1, by omega⟩
            have hil := rsV_len HR.out
            have hpm := rsV_some HR.out (its[its.length - 1]'(by omega)) (List.getElem_mem (by omega))
            have hfl := fitV_last (bh := upD) (x := ⟨p, l, c, a⟩) (show 0 < its.length by omega)
            rw [HF.out] at hfl
            have h2 : ∀ (m : Nat) (hm : m < its.length) (hq' : q < its.length), m = q → its[m] = its[q] := fun m hm _ e => by subst e; rfl
            obtain ⟨g, gq, cq, hg, x0, x1, x2, x3, hgl0, hgu0⟩ := HO.out.at HIL.out.symm q (by have := HIL.out; omega)
            subst hg
            clear hgl0 hgu0
            rw [← h2 (its.length - 1) (by omega) (by have := HIL.out; omega) (by have := HIL.out; omega)] at x0 x1 x2 x3
            obtain ⟨pd, hpd⟩ : ∃ p, its[its.length - 1]'(by omega) = p := ⟨_, rfl⟩
            rw [hpd] at hpm hfl x0 x1 x2 x3
            obtain ⟨_, _, hpo⟩ := hpm
            obtain ⟨pp, pl, pc, pa⟩ := pd
            obtain ⟨hpp, _, _, _⟩ := dcOf_r hpo
            simp only at hpp x0 x1 x2 x3
            have KB := hid (show ∀ w', Below W5.heap.size W5 w' → w'.cell? ⟨g, q * 4, none⟩ = some (.int .u32 (pp : Int)) ∧ w'.cell? ⟨g, q * 4 + 1, none⟩ = some (.slice (some ⟨gq, 0, none⟩) pl.length cq) ∧ w'.cell? ⟨g, q * 4 + 2, none⟩ = some (.bool pc) ∧ w'.cell? ⟨g, q * 4 + 3, none⟩ = some (.bool pa) ∧ w'.cell? ⟨w4.heap.size, 0, none⟩ = some (.int .u32 (p : Int)) ∧ w'.cell? ⟨w4.heap.size, 1, none⟩ = some (.slice (some ⟨gd, 0, none⟩) l.length cd) ∧ w'.cell? ⟨w4.heap.size, 2, none⟩ = some (.bool c) ∧ w'.cell? ⟨w4.heap.size, 3, none⟩ = some (.bool a) from fun w' hb' =>
              ⟨cell_later hb' (cell_later B5.out x0), cell_later hb' (cell_later B5.out x1), cell_later hb' (cell_later B5.out x2), cell_later hb' (cell_later B5.out x3), cell_later hb' (cell_of_heap HI.out rfl), cell_later hb' (cell_of_heap HI.out rfl), cell_later hb' (cell_of_heap HI.out rfl), cell_later hb' (cell_of_heap HI.out rfl)⟩)
            have hFd : F = decide (pp < p) := hfl
            have HFD := hid hFd
            have hwq : IntKind.i64.wrap (q : Int) = (q : Int) := by rw [IntKind.wrap_i64]; omega
            have hq0 : (q : Int) < (q : Int) + 1 := by omega
            subst hq
            clear hil hpm hfl hpd hpo hFd hk hlt hk0 x0 x1 x2 x3 h2
            refine wp_region_held_drew (S := (fun w' => w'.cell? ⟨g, q * 4, none⟩ = some (.int .u32 (pp : Int)) ∧ w'.cell? ⟨g, q * 4 + 1, none⟩ = some (.slice (some ⟨gq, 0, none⟩) pl.length cq) ∧ w'.cell? ⟨g, q * 4 + 2, none⟩ = some (.bool pc) ∧ w'.cell? ⟨g, q * 4 + 3, none⟩ = some (.bool pa) ∧ w'.cell? ⟨w4.heap.size, 0, none⟩ = some (.int .u32 (p : Int)) ∧ w'.cell? ⟨w4.heap.size, 1, none⟩ = some (.slice (some ⟨gd, 0, none⟩) l.length cd) ∧ w'.cell? ⟨w4.heap.size, 2, none⟩ = some (.bool c) ∧ w'.cell? ⟨w4.heap.size, 3, none⟩ = some (.bool a))) (by kernel_rfl) (KB.out _ (blw_drew (Below.refl _ _))) (fun hHeld => ?_)
            refine tk_at (i := 0) (d := some 29) (v := ?_) rfl rfl (by kernel_rfl) (by kernel_rfl) (by kernel_rfl) (fun _ _ _ h => h) (Or.inl ⟨by rfl, ?_⟩) (by assumption) ?_
            rotate_left
            · (intro w hSw; (try dsimp only at hSw); go_simp; try (with_reducible rfl))
            simp only [Act.put, List.setIfInBounds_toArray, List.set_cons_zero, List.set_cons_succ]
            refine tk_at (i := 1) (d := some 30) (v := ?_) rfl rfl (by kernel_rfl) (by kernel_rfl) (by kernel_rfl) (fun _ _ _ h => h) (Or.inl ⟨by rfl, ?_⟩) (by assumption) ?_
            rotate_left
            · (intro w hSw; (try dsimp only at hSw); go_simp; try (with_reducible rfl))
            simp only [Act.put, List.setIfInBounds_toArray, List.set_cons_zero, List.set_cons_succ]
            refine tk_at (i := 2) (d := some 31) (v := ?_) rfl rfl (by kernel_rfl) (by kernel_rfl) (by kernel_rfl) (fun _ _ _ h => h) (Or.inl ⟨by rfl, ?_⟩) (by assumption) ?_
            rotate_left
            · (intro w hSw; (try dsimp only at hSw); go_simp; try (with_reducible rfl))
            simp only [Act.put, List.setIfInBounds_toArray, List.set_cons_zero, List.set_cons_succ]
            refine tk_at (i := 3) (d := some 32) (v := ?_) rfl rfl (by kernel_rfl) (by kernel_rfl) (by kernel_rfl) (fun _ _ _ h => h) (Or.inl ⟨by rfl, ?_⟩) (by assumption) ?_
            rotate_left
            · (intro w hSw; (try dsimp only at hSw); go_simp; try (with_reducible rfl))
            simp only [Act.put, List.setIfInBounds_toArray, List.set_cons_zero, List.set_cons_succ]
            refine tk_at (i := 4) (d := some 33) (v := ?_) rfl rfl (by kernel_rfl) (by kernel_rfl) (by kernel_rfl) (fun _ _ _ h => h) (Or.inl ⟨by rfl, ?_⟩) (by assumption) ?_
            rotate_left
            · (intro w hSw; (try dsimp only at hSw); go_simp; try (with_reducible rfl))
            simp only [Act.put, List.setIfInBounds_toArray, List.set_cons_zero, List.set_cons_succ]
            refine tk_at (i := 5) (d := some 34) (v := ?_) rfl rfl (by kernel_rfl) (by kernel_rfl) (by kernel_rfl) (fun _ _ _ h => h) (Or.inl ⟨by rfl, ?_⟩) (by assumption) ?_
            rotate_left
            · (intro w hSw; (try dsimp only at hSw); go_simp; try (with_reducible rfl))
            simp only [Act.put, List.setIfInBounds_toArray, List.set_cons_zero, List.set_cons_succ]
            refine tk_at (i := 6) (d := some 35) (v := ?_) rfl rfl (by kernel_rfl) (by kernel_rfl) (by kernel_rfl) (fun _ _ _ h => h) (Or.inl ⟨by rfl, ?_⟩) (by assumption) ?_
            rotate_left
            · (intro w hSw; (try dsimp only at hSw); go_simp; try (with_reducible rfl))
            simp only [Act.put, List.setIfInBounds_toArray, List.set_cons_zero, List.set_cons_succ]
            refine tk_at (i := 7) (d := some 36) (v := ?_) rfl rfl (by kernel_rfl) (by kernel_rfl) (by kernel_rfl) (fun _ _ _ h => h) (Or.inl ⟨by rfl, ?_⟩) (by assumption) ?_
            rotate_left
            · (intro w hSw; (try dsimp only at hSw); go_simp; try (with_reducible rfl))
            simp only [Act.put, List.setIfInBounds_toArray, List.set_cons_zero, List.set_cons_succ]
            refine tk_at (i := 8) (d := some 37) (v := ?_) rfl rfl (by kernel_rfl) (by kernel_rfl) (by kernel_rfl) (fun _ _ _ h => h) (Or.inl ⟨by rfl, ?_⟩) (by assumption) ?_
            rotate_left
            · (intro w hSw; (try dsimp only at hSw); go_simp; try (with_reducible rfl))
            simp only [Act.put, List.setIfInBounds_toArray, List.set_cons_zero, List.set_cons_succ]
            refine tk_at (i := 9) (d := some 38) (v := ?_) rfl rfl (by kernel_rfl) (by kernel_rfl) (by kernel_rfl) (fun _ _ _ h => h) (Or.inl ⟨by rfl, ?_⟩) (by assumption) ?_
            rotate_left
            · (intro w hSw; (try dsimp only at hSw); go_simp; try (with_reducible rfl))
            simp only [Act.put, List.setIfInBounds_toArray, List.set_cons_zero, List.set_cons_succ]
            refine tk_at (i := 10) (d := some 39) (v := ?_) rfl rfl (by kernel_rfl) (by kernel_rfl) (by kernel_rfl) (fun _ _ _ h => h) (Or.inl ⟨by rfl, ?_⟩) (by assumption) ?_
            rotate_left
            · (intro w hSw; (try dsimp only at hSw); go_simp; try (with_reducible rfl))
            simp only [Act.put, List.setIfInBounds_toArray, List.set_cons_zero, List.set_cons_succ]
            refine tk_at (i := 11) (d := some 40) (v := ?_) rfl rfl (by kernel_rfl) (by kernel_rfl) (by kernel_rfl) (fun _ _ _ h => h) (Or.inl ⟨by rfl, ?_⟩) (by assumption) ?_
            rotate_left
            · (intro w hSw; (try dsimp only at hSw); go_simp; try (with_reducible rfl))
            simp only [Act.put, List.setIfInBounds_toArray, List.set_cons_zero, List.set_cons_succ]
            refine tk_at (i := 12) (d := some 41) (v := ?_) rfl rfl (by kernel_rfl) (by kernel_rfl) (by kernel_rfl) (fun _ _ _ h => h) (Or.inl ⟨by rfl, ?_⟩) (by assumption) ?_
            rotate_left
            · (intro w hSw; (try dsimp only at hSw); go_simp; try (with_reducible rfl))
            simp only [Act.put, List.setIfInBounds_toArray, List.set_cons_zero, List.set_cons_succ]
            refine wpAnyH_ready (rs := [13]) (by kernel_rfl) (by simp) ?_
            refine AllReadyH.cons rfl (fun K hK => ?_) AllReadyH.nil
            go_simp
            refine (decompsB_any pp p gq pl.length cq gd l.length cd pc pa c a _ hpp hp).mono ?_
            rintro e w6 ⟨rfl, hB6⟩
            have B6 := hid (belowCat (blw_drew (Below.refl _ _)) hB6)
            clear hB6
            go_wp2_with fail
            refine hK.out _ _ (KB.out _ B6.out) (fun hHeld => ?_)
            clear hK K
            try simp only [Act.put, List.setIfInBounds_toArray, List.set_cons_zero, List.set_cons_succ]
            refine tk_at (i := 14) (d := some 43) (v := ?_) rfl rfl (by kernel_rfl) (by kernel_rfl) (by kernel_rfl) (fun _ _ _ h => h) (Or.inl ⟨by rfl, ?_⟩) (by assumption) ?_
            rotate_left
            · (intro w hSw; (try dsimp only at hSw); go_simp; try (with_reducible rfl))
            simp only [Act.put, List.setIfInBounds_toArray, List.set_cons_zero, List.set_cons_succ]
            refine tk_at (i := 15) (d := some 44) (v := ?_) rfl rfl (by kernel_rfl) (by kernel_rfl) (by kernel_rfl) (fun _ _ _ h => h) (Or.inl ⟨by rfl, ?_⟩) (by assumption) ?_
            rotate_left
            · (intro w hSw; (try dsimp only at hSw); go_simp; try (with_reducible rfl))
            simp only [Act.put, List.setIfInBounds_toArray, List.set_cons_zero, List.set_cons_succ]
            refine tk_at (i := 16) (d := some 45) (v := ?_) rfl rfl (by kernel_rfl) (by kernel_rfl) (by kernel_rfl) (fun _ _ _ h => h) (Or.inl ⟨by rfl, ?_⟩) (by assumption) ?_
            rotate_left
            · (intro w hSw; (try dsimp only at hSw); go_simp; try (with_reducible rfl))
            simp only [Act.put, List.setIfInBounds_toArray, List.set_cons_zero, List.set_cons_succ]
            refine wpAnyH_done (by kernel_rfl) ?_ _
            clear hHeld
            go_wp2_with fail
            go_meet
            case rel => exact ⟨by rw [HFD.out], B6.out⟩
          · obtain rfl : k = 0 := by omega
            have hFt : F = true := by
              have hil := rsV_len HR.out
              have hn : its = [] := List.length_eq_zero_iff.1 (by omega)
              rw [← HF.out, hn]; rfl
            clear hk hlt hk0
            refine wp_region_held_drew (S := (fun _ => True)) (by kernel_rfl) (trivial) (fun hHeld => ?_)
            refine tk_at (i := 0) (d := some 29) (v := ?_) rfl rfl (by kernel_rfl) (by kernel_rfl) (by kernel_rfl) (fun _ _ _ h => h) (Or.inl ⟨by rfl, ?_⟩) (by assumption) ?_
            rotate_left
            · (intro w hSw; (try dsimp only at hSw); go_simp; try (with_reducible rfl))
            simp only [Act.put, List.setIfInBounds_toArray, List.set_cons_zero, List.set_cons_succ]
            refine tk_at (i := 1) (d := some 30) (v := ?_) rfl rfl (by kernel_rfl) (by kernel_rfl) (by kernel_rfl) (fun _ _ _ h => h) (Or.inl ⟨by rfl, ?_⟩) (by assumption) ?_
            rotate_left
            · (intro w hSw; (try dsimp only at hSw); go_simp; try (with_reducible rfl))
            simp only [Act.put, List.setIfInBounds_toArray, List.set_cons_zero, List.set_cons_succ]
            refine tk_at (i := 2) (d := some 31) (v := ?_) rfl rfl (by kernel_rfl) (by kernel_rfl) (by kernel_rfl) (fun _ _ _ h => h) (Or.inl ⟨by rfl, ?_⟩) (by assumption) ?_
            rotate_left
            · (intro w hSw; (try dsimp only at hSw); go_simp; try (with_reducible rfl))
            simp only [Act.put, List.setIfInBounds_toArray, List.set_cons_zero, List.set_cons_succ]
            refine tk_at (i := 3) (d := some 32) (v := ?_) rfl rfl (by kernel_rfl) (by kernel_rfl) (by kernel_rfl) (fun _ _ _ h => h) (Or.inl ⟨by rfl, ?_⟩) (by assumption) ?_
            rotate_left
            · (intro w hSw; (try dsimp only at hSw); go_simp; try (with_reducible rfl))
            simp only [Act.put, List.setIfInBounds_toArray, List.set_cons_zero, List.set_cons_succ]
            refine tk_at (i := 4) (d := some 33) (v := ?_) rfl rfl (by kernel_rfl) (by kernel_rfl) (by kernel_rfl) (fun _ _ _ h => h) (Or.inl ⟨by rfl, ?_⟩) (by assumption) ?_
            rotate_left
            · (intro w hSw; (try dsimp only at hSw); go_simp; try (with_reducible rfl))
            simp only [Act.put, List.setIfInBounds_toArray, List.set_cons_zero, List.set_cons_succ]
            refine tk_at (i := 5) (d := some 34) (v := ?_) rfl rfl (by kernel_rfl) (by kernel_rfl) (by kernel_rfl) (fun _ _ _ h => h) (Or.inl ⟨by rfl, ?_⟩) (by assumption) ?_
            rotate_left
            · (intro w hSw; (try dsimp only at hSw); go_simp; try (with_reducible rfl))
            simp only [Act.put, List.setIfInBounds_toArray, List.set_cons_zero, List.set_cons_succ]
            refine tk_at (i := 6) (d := some 35) (v := undef) rfl rfl (by kernel_rfl) (by kernel_rfl) (by kernel_rfl) (fun _ _ _ h => h) (Or.inr ⟨by rfl, rfl⟩) (by assumption) ?_
            simp only [Act.put, List.setIfInBounds_toArray, List.set_cons_zero, List.set_cons_succ]
            refine tk_at (i := 7) (d := some 36) (v := undef) rfl rfl (by kernel_rfl) (by kernel_rfl) (by kernel_rfl) (fun _ _ _ h => h) (Or.inr ⟨by rfl, rfl⟩) (by assumption) ?_
            simp only [Act.put, List.setIfInBounds_toArray, List.set_cons_zero, List.set_cons_succ]
            refine tk_at (i := 8) (d := some 37) (v := undef) rfl rfl (by kernel_rfl) (by kernel_rfl) (by kernel_rfl) (fun _ _ _ h => h) (Or.inr ⟨by rfl, rfl⟩) (by assumption) ?_
            simp only [Act.put, List.setIfInBounds_toArray, List.set_cons_zero, List.set_cons_succ]
            refine tk_at (i := 9) (d := some 38) (v := undef) rfl rfl (by kernel_rfl) (by kernel_rfl) (by kernel_rfl) (fun _ _ _ h => h) (Or.inr ⟨by rfl, rfl⟩) (by assumption) ?_
            simp only [Act.put, List.setIfInBounds_toArray, List.set_cons_zero, List.set_cons_succ]
            refine tk_at (i := 10) (d := some 39) (v := undef) rfl rfl (by kernel_rfl) (by kernel_rfl) (by kernel_rfl) (fun _ _ _ h => h) (Or.inr ⟨by rfl, rfl⟩) (by assumption) ?_
            simp only [Act.put, List.setIfInBounds_toArray, List.set_cons_zero, List.set_cons_succ]
            refine tk_at (i := 11) (d := some 40) (v := undef) rfl rfl (by kernel_rfl) (by kernel_rfl) (by kernel_rfl) (fun _ _ _ h => h) (Or.inr ⟨by rfl, rfl⟩) (by assumption) ?_
            simp only [Act.put, List.setIfInBounds_toArray, List.set_cons_zero, List.set_cons_succ]
            refine tk_at (i := 12) (d := some 41) (v := undef) rfl rfl (by kernel_rfl) (by kernel_rfl) (by kernel_rfl) (fun _ _ _ h => h) (Or.inr ⟨by rfl, rfl⟩) (by assumption) ?_
            simp only [Act.put, List.setIfInBounds_toArray, List.set_cons_zero, List.set_cons_succ]
            refine tk_at (i := 13) (d := some 42) (v := undef) rfl rfl (by kernel_rfl) (by kernel_rfl) (by kernel_rfl) (fun _ _ _ h => h) (Or.inr ⟨by rfl, rfl⟩) (by assumption) ?_
            simp only [Act.put, List.setIfInBounds_toArray, List.set_cons_zero, List.set_cons_succ]
            refine tk_at (i := 14) (d := some 43) (v := undef) rfl rfl (by kernel_rfl) (by kernel_rfl) (by kernel_rfl) (fun _ _ _ h => h) (Or.inr ⟨by rfl, rfl⟩) (by assumption) ?_
            simp only [Act.put, List.setIfInBounds_toArray, List.set_cons_zero, List.set_cons_succ]
            refine tk_at (i := 15) (d := some 44) (v := ?_) rfl rfl (by kernel_rfl) (by kernel_rfl) (by kernel_rfl) (fun _ _ _ h => h) (Or.inl ⟨by rfl, ?_⟩) (by assumption) ?_
            rotate_left
            · (intro w hSw; (try dsimp only at hSw); go_simp; try (with_reducible rfl))
            simp only [Act.put, List.setIfInBounds_toArray, List.set_cons_zero, List.set_cons_succ]
            refine tk_at (i := 16) (d := some 45) (v := ?_) rfl rfl (by kernel_rfl) (by kernel_rfl) (by kernel_rfl) (fun _ _ _ h => h) (Or.inl ⟨by rfl, ?_⟩) (by assumption) ?_
            rotate_left
            · (intro w hSw; (try dsimp only at hSw); go_simp; try (with_reducible rfl))
            simp only [Act.put, List.setIfInBounds_toArray, List.set_cons_zero, List.set_cons_succ]
            refine wpAnyH_done (by kernel_rfl) ?_ _
            clear hHeld
            go_wp2_with fail
            go_meet
            case rel => exact ⟨by rw [hFt]; rfl, blw_drew (Below.refl _ _)⟩
        case rest =>
          obtain ⟨hq, hB6⟩ := hcut
          have B6 := hid (belowCat B5.out hB6)
          have HB6C := hid (belowCat B54.out hB6)
          have HIC := hid ((hB6.block _ (lt_of_heap HI.out)).trans HI.out)
          clear hB6 HI
          cases F with
          | false =>
            have hq' : _ = Value.bool true := hq
            clear hq
            subst hq'
            have HE := hid (rsV_end (rsV_bad HR.out (by rw [HWS.out]; exact HO2.out) HF.out) (show k + 1 ≤ N by omega))
            go_wp2
            exact bodyPost_ret (v := .tuple #[.slice none 0 0, .int .i64 3, .int .i64 ((k + 1 : Nat) : Int)]) (by simp [results, Tryz.results68, go_sem]) rfl
              ⟨none, 0, k + 1, [], [], by simp, HE.out, OutD.nil _ _ _, by repeat (first | exact belowCat (belowCat B1.out HB.out) B6.out | refine blw_drew ?_ | refine blw_alloc ?_)⟩
          | true =>
            have hq' : _ = Value.bool false := hq
            clear hq
            subst hq'
            have HE := hid (rsV_next HR.out (by rw [HWS.out]; exact HO2.out) HF.out)
            have c0 : wc.cell? ⟨w4.heap.size, 0, none⟩ = some (.int .u32 (p : Int)) := cell_of_heap HIC.out rfl
            have c1 : wc.cell? ⟨w4.heap.size, 1, none⟩ = some (.slice (some ⟨gd, 0, none⟩) l.length cd) := cell_of_heap HIC.out rfl
            have c2 : wc.cell? ⟨w4.heap.size, 2, none⟩ = some (.bool c) := cell_of_heap HIC.out rfl
            have c3 : wc.cell? ⟨w4.heap.size, 3, none⟩ = some (.bool a) := cell_of_heap HIC.out rfl
            have HOUT := hid (show OutD (wc.alloc (.cells #[.int .u32 (p : Int), .slice (some ⟨gd, 0, none⟩) l.length cd, .bool c, .bool a] 64)) w1.heap.size w1.heap.size (.slice ad k cap) its vs from HO.out.below (blw_alloc B6.out))
            have HOC := hid (show (wc.alloc (.cells #[.int .u32 (p : Int), .slice (some ⟨gd, 0, none⟩) l.length cd, .bool c, .bool a] 64)).ownsRow w1.heap.size 64 4 (.slice ad k cap) k vs from HOUT.out.owns HIL.out)
            have HGU := hid (show w1.heap.size ≤ gd ∧ U32B (wc.alloc (.cells #[.int .u32 (p : Int), .slice (some ⟨gd, 0, none⟩) l.length cd, .bool c, .bool a] 64)) gd l from ⟨Nat.le_trans HB.out.size HGD.out.1, HGD.out.2.below (blw_alloc HB6C.out)⟩)
            have BC := hid (show Below w1.heap.size w1 (wc.alloc (.cells #[.int .u32 (p : Int), .slice (some ⟨gd, 0, none⟩) l.length cd, .bool c, .bool a] 64)) from blw_alloc (belowCat HB.out B6.out))
            have HOB := hid (show ∀ g, (Value.slice ad k cap).ownBlock = some g → w1.heap.size ≤ g from fun g hg => (HOC.out.lt g hg).1)
            go_wp2_with (at_builtin; refine wpList_append_lies _ rfl (.tmp 48) (.tmp 50) 26 rfl w1.heap.size 64 i0 _ 4 40 Tryz.underlying26 hi hz0 hz1 hz2 rfl (by decide) (.slice ad k cap) k vs rfl HOC.out ⟨wc.heap.size, 0, none⟩ 1 1 [.int .u32 (p : Int), .slice (some ⟨gd, 0, none⟩) l.length cd, .bool c, .bool a] rfl rfl ?c1 ?c2 (by decide) ?c3 ?c4 ?c5 _ rfl ?_)
            case c1 => exact World.news_of_block (heap_alloc_at _ _)
            case c2 => intro u hu; simp only [List.mem_cons, List.not_mem_nil, or_false] at hu; rcases hu with rfl | rfl | rfl | rfl <;> rfl
            case c3 => unfold maxLen; omega
            case c4 => omega
            case c5 => exact BC.out.size
            intro g2 cap2 w7 hown' hgrow hat hlt2
            have HO7 := hid (show OutD w7 w1.heap.size w1.heap.size (.slice (some ⟨g2, 0, none⟩) (k + 1) cap2) (its ++ [⟨p, l, c, a⟩]) (vs ++ [.int .u32 (p : Int), .slice (some ⟨gd, 0, none⟩) l.length cd, .bool c, .bool a]) from HOUT.out.append HGU.out.1 HGU.out.2 (by rw [HIL.out]; exact hown') hgrow)
            have B7 := hid (BC.out.grown hgrow BC.out.size HOB.out)
            clear hown' hgrow hat hlt2 c0 c1 c2 c3
            go_wp2
            go_roundw
            case rel => exact ⟨k + 1, cap2, some ⟨g2, 0, none⟩, its ++ [⟨p, l, c, a⟩], _, by omega, by go_num, rfl, HE.out, HO7.out, B7.out⟩
            case measure => simp [intOf]; omega
    · have hke : k = N := by omega
      subst hke
      have hil := rsV_len HR.out
      have HIL := hid hil
      clear hr hown hB hil
      go_wp2
      exact bodyPost_ret (v := .tuple #[.slice ad k cap, .int .i64 0, .int .i64 0]) (by simp [results, Tryz.results68, go_sem]) rfl
        ⟨ad, cap, 0, its, vs, by rw [HIL.out]; rfl, HR.out, by rw [HIL.out]; exact HO.out.base B1.out.size B1.out.size, belowCat B1.out HB.out⟩
end Go.Proofs.YtgalmlelnolodaaGreatDoor
