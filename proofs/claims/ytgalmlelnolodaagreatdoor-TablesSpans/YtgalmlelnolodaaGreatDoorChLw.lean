/- The contract of package chart's read at classes, over this seat's translation. Conditions: a text's size; what the library's variables hold is some number, some errors. -/
import Derived.Test.YtgalmlelnolodaaGreatDoorChL
namespace Go.Proofs.YtgalmlelnolodaaGreatDoor
open Go.RowKit
set_option linter.unusedVariables false

set_option maxHeartbeats 800000 in
theorem classesB_any (a b x y n m : Nat) (w : World) (h1 : b ≤ 1114111) (h2 : x ≤ 1114111) :
    Calls Tryz.prog 67 #[.agg #[.int .u32 (a : Int), .int .u32 (b : Int), .int .u32 (n : Int)], .agg #[.int .u32 (x : Int), .int .u32 (y : Int), .int .u32 (m : Int)]] w fun e w' => e = .returned (.bool (decide (b < x))) ∧ Below w.heap.size w w' := by
  go_enter Tryz.func67, Tryz.ntmps67
  go_wp2
  go_ret
  exact ⟨retB (decide_eq_decide.2 (by omega)), ((Below.refl _ _).alloc (Nat.le_refl _) _).alloc (by simp) _⟩
theorem infoWeight : (Tryz.prog.info? 104).map (fun i => (i.zero, i.size, i.bytes)) = some (some (.agg #[.int .u32 0, .int .u32 0, .int .u32 0]), 3, 12) := by kernel_rfl
theorem wtC_size {ws : List ByteArray} {i : It} (h : wtOf ws = some i) : (rgC i).size = 3 := by
  obtain ⟨_, _, n, _, hr⟩ := wtOf_r h
  unfold rgC; rw [hr]; rfl
set_option maxHeartbeats 3200000 in
theorem readWeight_any (s : ByteArray) (w : World) (v : Vr w) (hs : s.size ≤ 1000000) :
    Calls Tryz.prog 65 #[.string s, .func (.func 66) #[] #[], .func (.func 67) #[] #[]] w fun e w' => ∃ (ad : Option Addr) (cap at_ : Nat) (its : List It),
      e = .returned (.tuple #[.slice ad its.length cap, .int .i64 (if at_ = 0 then 0 else 3), .int .i64 (at_ : Int)]) ∧ rsV wtOf upW (lwV s) (lwV s).length = (its, at_) ∧ w'.ownsRow w.heap.size 104 3 (.slice ad its.length cap) its.length (rowC rgC its) ∧ Below w.heap.size w w' := by
  have V0 := hid v
  have hLN := lnV_len s
  rw [lwV_len]
  obtain ⟨N, hN⟩ : ∃ N, (lnV s).length = N := ⟨_, rfl⟩
  have HL := hid (lines_any s w v (by omega))
  rw [hN] at HL hLN
  rw [hN]
  have HN := hid hN
  have HLN := hid hLN
  have hN6 : N ≤ 1000001 := by omega
  clear hLN
  obtain ⟨i0, hi, hz0, hz1, hz2⟩ := info_parts infoWeight
  clear v hN
  go_enter Tryz.func65, Tryz.ntmps65
  go_wp2_with fail
  refine HL.out.mono ?_
  rintro e w1 ⟨⟨ad1, rfl, hst⟩, hB1⟩
  have ST := hid hst
  have B1 := hid hB1
  have V1 := hid (V0.out.below hB1)
  clear hst hB1 HL
  go_wp2_with fail
  go_loopw [17, 9] (fun c l wr => ∃ (k cap : Nat) (ad : Option Addr) (its : List It), k ≤ N ∧ c = .int .i64 (k : Int) ∧ l = .slice ad k cap ∧ rsV wtOf upW (lwV s) k = (its, 0) ∧ wr.ownsRow w1.heap.size 104 3 (.slice ad k cap) k (rowC rgC its) ∧ Below w1.heap.size w1 wr) (fun c _ _ => N - (intOf c).toNat)
  case atStart => exact ⟨0, 0, none, [], Nat.zero_le _, rfl, rfl, rfl, World.ownsRow_nil _ _ _ _, Below.refl _ _⟩
  case round =>
    obtain ⟨k, cap, ad, its, hk, rfl, rfl, hr, hown, hB⟩ := hrel
    have HR := hid hr
    have HO := hid hown
    have HB := hid hB
    by_cases hlt : k < N
    · obtain ⟨x, rfl, hx⟩ := (ST.out.below hB) k (by rw [HN.out]; exact hlt)
      obtain ⟨L, hL⟩ : ∃ L, wd (lnV s) k = L := ⟨_, rfl⟩
      have hws := lwV_wd (s := s) (k := k) (by rw [HN.out]; exact hlt)
      have hLs : L.size ≤ s.size := by rw [← hL]; exact wd_size (fun y hy => lnV_size hy) k
      rw [hL] at hx hws
      have HWS := hid hws
      have HSP := hid (fun w v => split_any L 32 w v (by omega))
      have hWL := splS_len 32 L
      have HWZ := hid (fun j => Nat.le_trans (wd_size (fun y hy => splS_size (c := 32) (s := L) hy) j) (show L.size ≤ 4000000000 by omega))
      obtain ⟨ws, hw⟩ : ∃ ws, splS 32 L = ws := ⟨_, rfl⟩
      rw [hw] at HWS HWZ hWL
      simp only [hw] at HSP
      have HWN := hid (show ws.length ≤ 4000000000 by omega)
      have HX := hid hx
      clear hWL
      clear hr hown hB hL hws hLs hw
      go_wp2_with fail
      refine (HSP.out _ (V1.out.below HB.out)).mono ?_
      rintro e w3 ⟨rfl, hw3⟩
      have B3 := hid (show Below wr.heap.size wr w3 from by rw [hw3]; exact (Below.refl _ _).alloc (Nat.le_refl _) _)
      have S3 := hid (show Strs w3 (some ⟨wr.heap.size, 0, none⟩) ws from by rw [hw3]; exact strs_block (heap_alloc_at _ _))
      clear hw3 hx HX
      go_wp2_with fail
      refine (weightOf_any wr.heap.size ws ws.length _ ((V1.out.below HB.out).below B3.out) (fun j hj => by obtain ⟨y, hy, h⟩ := S3.out j hj; cases hy; rw [add_plain] at h; exact h) HWZ.out HWN.out).mono ?_
      rintro e w4 ⟨rfl, hB4⟩
      have B4 := hid (show Below wr.heap.size wr w4 from belowCat B3.out hB4)
      clear hB4 B3 S3
      cases ho : wtOf ws with
      | none =>
        have HE := hid (rsV_end (rsV_none HR.out (by rw [HWS.out]; exact ho)) (show k + 1 ≤ N by omega))
        clear ho
        rw [show itR wtZ rgC none = .returned (.tuple #[.agg #[.int .u32 0, .int .u32 0, .int .u32 0], .bool false]) from rfl]
        go_wp2_with fail
        refine wp_region_held_drew (S := (fun _ => True)) (by kernel_rfl) (trivial) (fun hHeld => ?_)
        refine tk_at (i := 0) (d := some 29) (v := ?_) rfl rfl (by kernel_rfl) (by kernel_rfl) (by kernel_rfl) (fun _ _ _ h => h) (Or.inl ⟨by rfl, ?_⟩) (by assumption) ?_
        rotate_left
        · (intro w hSw; (try dsimp only at hSw); go_simp; try (with_reducible rfl))
        simp only [Act.put, List.setIfInBounds_toArray, List.set_cons_zero, List.set_cons_succ]
        refine tk_at (i := 1) (d := some 30) (v := ?_) rfl rfl (by kernel_rfl) (by kernel_rfl) (by kernel_rfl) (fun _ _ _ h => h) (Or.inl ⟨by rfl, ?_⟩) (by assumption) ?_
        rotate_left
        · (intro w hSw; (try dsimp only at hSw); go_simp; try (with_reducible rfl))
        simp only [Act.put, List.setIfInBounds_toArray, List.set_cons_zero, List.set_cons_succ]
        refine tk_at (i := 2) (d := some 31) (v := ?_) rfl rfl (by kernel_rfl) (by kernel_rfl) (by kernel_rfl) (fun _ _ _ h => h) (Or.inl ⟨by rfl, ?_⟩) (by assumption) ?_
        rotate_left
        · (intro w hSw; (try dsimp only at hSw); go_simp; try (with_reducible rfl))
        simp only [Act.put, List.setIfInBounds_toArray, List.set_cons_zero, List.set_cons_succ]
        refine tk_at (i := 3) (d := some 32) (v := undef) rfl rfl (by kernel_rfl) (by kernel_rfl) (by kernel_rfl) (fun _ _ _ h => h) (Or.inr ⟨by rfl, rfl⟩) (by assumption) ?_
        simp only [Act.put, List.setIfInBounds_toArray, List.set_cons_zero, List.set_cons_succ]
        refine tk_at (i := 4) (d := some 33) (v := undef) rfl rfl (by kernel_rfl) (by kernel_rfl) (by kernel_rfl) (fun _ _ _ h => h) (Or.inr ⟨by rfl, rfl⟩) (by assumption) ?_
        simp only [Act.put, List.setIfInBounds_toArray, List.set_cons_zero, List.set_cons_succ]
        refine tk_at (i := 5) (d := some 34) (v := undef) rfl rfl (by kernel_rfl) (by kernel_rfl) (by kernel_rfl) (fun _ _ _ h => h) (Or.inr ⟨by rfl, rfl⟩) (by assumption) ?_
        simp only [Act.put, List.setIfInBounds_toArray, List.set_cons_zero, List.set_cons_succ]
        refine tk_at (i := 6) (d := some 35) (v := undef) rfl rfl (by kernel_rfl) (by kernel_rfl) (by kernel_rfl) (fun _ _ _ h => h) (Or.inr ⟨by rfl, rfl⟩) (by assumption) ?_
        simp only [Act.put, List.setIfInBounds_toArray, List.set_cons_zero, List.set_cons_succ]
        refine tk_at (i := 7) (d := some 36) (v := undef) rfl rfl (by kernel_rfl) (by kernel_rfl) (by kernel_rfl) (fun _ _ _ h => h) (Or.inr ⟨by rfl, rfl⟩) (by assumption) ?_
        simp only [Act.put, List.setIfInBounds_toArray, List.set_cons_zero, List.set_cons_succ]
        refine tk_at (i := 8) (d := some 37) (v := undef) rfl rfl (by kernel_rfl) (by kernel_rfl) (by kernel_rfl) (fun _ _ _ h => h) (Or.inr ⟨by rfl, rfl⟩) (by assumption) ?_
        simp only [Act.put, List.setIfInBounds_toArray, List.set_cons_zero, List.set_cons_succ]
        refine tk_at (i := 9) (d := some 38) (v := undef) rfl rfl (by kernel_rfl) (by kernel_rfl) (by kernel_rfl) (fun _ _ _ h => h) (Or.inr ⟨by rfl, rfl⟩) (by assumption) ?_
        simp only [Act.put, List.setIfInBounds_toArray, List.set_cons_zero, List.set_cons_succ]
        refine tk_at (i := 10) (d := some 39) (v := undef) rfl rfl (by kernel_rfl) (by kernel_rfl) (by kernel_rfl) (fun _ _ _ h => h) (Or.inr ⟨by rfl, rfl⟩) (by assumption) ?_
        simp only [Act.put, List.setIfInBounds_toArray, List.set_cons_zero, List.set_cons_succ]
        refine tk_at (i := 11) (d := some 40) (v := undef) rfl rfl (by kernel_rfl) (by kernel_rfl) (by kernel_rfl) (fun _ _ _ h => h) (Or.inr ⟨by rfl, rfl⟩) (by assumption) ?_
        simp only [Act.put, List.setIfInBounds_toArray, List.set_cons_zero, List.set_cons_succ]
        refine tk_at (i := 12) (d := some 41) (v := undef) rfl rfl (by kernel_rfl) (by kernel_rfl) (by kernel_rfl) (fun _ _ _ h => h) (Or.inr ⟨by rfl, rfl⟩) (by assumption) ?_
        simp only [Act.put, List.setIfInBounds_toArray, List.set_cons_zero, List.set_cons_succ]
        refine tk_at (i := 13) (d := some 42) (v := undef) rfl rfl (by kernel_rfl) (by kernel_rfl) (by kernel_rfl) (fun _ _ _ h => h) (Or.inr ⟨by rfl, rfl⟩) (by assumption) ?_
        simp only [Act.put, List.setIfInBounds_toArray, List.set_cons_zero, List.set_cons_succ]
        refine tk_at (i := 14) (d := some 43) (v := undef) rfl rfl (by kernel_rfl) (by kernel_rfl) (by kernel_rfl) (fun _ _ _ h => h) (Or.inr ⟨by rfl, rfl⟩) (by assumption) ?_
        simp only [Act.put, List.setIfInBounds_toArray, List.set_cons_zero, List.set_cons_succ]
        refine tk_at (i := 15) (d := some 44) (v := undef) rfl rfl (by kernel_rfl) (by kernel_rfl) (by kernel_rfl) (fun _ _ _ h => h) (Or.inr ⟨by rfl, rfl⟩) (by assumption) ?_
        simp only [Act.put, List.setIfInBounds_toArray, List.set_cons_zero, List.set_cons_succ]
        refine tk_at (i := 16) (d := some 45) (v := ?_) rfl rfl (by kernel_rfl) (by kernel_rfl) (by kernel_rfl) (fun _ _ _ h => h) (Or.inl ⟨by rfl, ?_⟩) (by assumption) ?_
        rotate_left
        · (intro w hSw; (try dsimp only at hSw); go_simp; try (with_reducible rfl))
        simp only [Act.put, List.setIfInBounds_toArray, List.set_cons_zero, List.set_cons_succ]
        refine wpAnyH_done (by kernel_rfl) ?_ _
        clear hHeld
        go_wp2
        exact bodyPost_ret (v := .tuple #[.slice none 0 0, .int .i64 3, .int .i64 ((k + 1 : Nat) : Int)]) (by simp [results, Tryz.results65, go_sem]) rfl
          ⟨none, 0, k + 1, [], by simp, HE.out, World.ownsRow_nil _ _ _ _, by repeat (first | exact belowCat (belowCat B1.out HB.out) B4.out | refine blw_drew ?_ | refine blw_alloc ?_)⟩
      | some it =>
        obtain ⟨a, b, r⟩ := it
        obtain ⟨ha, hb, n, hn, hr4⟩ := wtOf_r ho
        simp only at ha hb hr4
        subst hr4
        clear hn
        rw [show itR wtZ rgC (some ⟨a, b, [.int .u32 (n : Int)]⟩) = .returned (.tuple #[.agg #[.int .u32 (a : Int), .int .u32 (b : Int), .int .u32 (n : Int)], .bool true]) from rfl]
        have HO2 := hid ho
        obtain ⟨F, hF⟩ : ∃ F, fitV upW its ⟨a, b, [.int .u32 (n : Int)]⟩ = F := ⟨_, rfl⟩
        have HF := hid hF
        clear ho hF
        go_upto_region 6 with fail
        obtain ⟨W5, hW5⟩ : ∃ W5, w4.alloc (.cells #[.int .u32 (a : Int), .int .u32 (b : Int), .int .u32 (n : Int)] 104) = W5 := ⟨_, rfl⟩
        have HI := hid (show W5.heap[w4.heap.size]? = some (.cells #[.int .u32 (a : Int), .int .u32 (b : Int), .int .u32 (n : Int)] 104 (0, 0)) from by rw [← hW5]; exact heap_alloc_at _ _)
        have B5 := hid (show Below wr.heap.size wr W5 from by rw [← hW5]; exact blw_alloc B4.out)
        rw [hW5]
        clear hW5
        go_cut [45] from 29 to 45 (fun q wx => q = .bool (!F) ∧ Below W5.heap.size W5 wx)
        case first =>
          by_cases hk0 : 0 < k
          · obtain ⟨q, hq⟩ : ∃ q, k = q + 1 := ⟨k - 1, by omega⟩
            have hil := rsV_len HR.out
            have hpm := rsV_some HR.out (its[its.length - 1]'(by omega)) (List.getElem_mem (by omega))
            have hfl := fitV_last (bh := upW) (x := ⟨a, b, [.int .u32 (n : Int)]⟩) (show 0 < its.length by omega)
            rw [HF.out] at hfl
            obtain ⟨g, hg, hgb, hgl, hgc⟩ := owns_cell HO.out hk0
            subst hg
            have hsz6 : ∀ i ∈ its, (rgC i).size = 3 := fun i hi => by obtain ⟨j, _, hj⟩ := rsV_some HR.out i hi; exact wtC_size hj
            have hrow : ∀ j, j < 3 → (rowC rgC its)[q * 3 + j]? = (rgC (its[its.length - 1]'(by omega)))[j]? := fun j hj => by
              have h1 := rowC_at hsz6 (k := q) (by omega) hj
              have h2 : ∀ (m : Nat) (hm : m < its.length) (hq' : q < its.length), m = q → its[m] = its[q] := fun m hm _ e => by subst e; rfl
              rw [h1, h2 (its.length - 1) (by omega) (by omega) (by omega)]
            obtain ⟨p, hp⟩ : ∃ p, its[its.length - 1]'(by omega) = p := ⟨_, rfl⟩
            rw [hp] at hpm hfl hrow
            obtain ⟨_, _, hpo⟩ := hpm
            obtain ⟨pa, pb, pr⟩ := p
            obtain ⟨hpa, hpb, pn, hpn, hpr⟩ := wtOf_r hpo
            simp only at hpa hpb hpr
            subst hpr
            clear hpn
            have KB := hid (show ∀ w', Below W5.heap.size W5 w' → w'.cell? ⟨g, q * 3, none⟩ = some (.int .u32 (pa : Int)) ∧ w'.cell? ⟨g, q * 3 + 1, none⟩ = some (.int .u32 (pb : Int)) ∧ w'.cell? ⟨g, q * 3 + 2, none⟩ = some (.int .u32 (pn : Int)) ∧ w'.cell? ⟨w4.heap.size, 0, none⟩ = some (.int .u32 (a : Int)) ∧ w'.cell? ⟨w4.heap.size, 1, none⟩ = some (.int .u32 (b : Int)) ∧ w'.cell? ⟨w4.heap.size, 2, none⟩ = some (.int .u32 (n : Int)) from fun w' hb' =>
              ⟨cell_later hb' (cell_later B5.out (hgc _ _ (hrow 0 (by decide)))), cell_later hb' (cell_later B5.out (hgc _ _ (hrow 1 (by decide)))), cell_later hb' (cell_later B5.out (hgc _ _ (hrow 2 (by decide)))), cell_later hb' (cell_of_heap HI.out rfl), cell_later hb' (cell_of_heap HI.out rfl), cell_later hb' (cell_of_heap HI.out rfl)⟩)
            have hFd : F = decide (pb < a) := hfl
            have HFD := hid hFd
            have hwq : IntKind.i64.wrap (q : Int) = (q : Int) := by rw [IntKind.wrap_i64]; omega
            have hq0 : (q : Int) < (q : Int) + 1 := by omega
            subst hq
            clear hil hpm hfl hgb hgl hgc hsz6 hrow hp hpo hpa hFd hk hlt hk0 hb
            refine wp_region_held_drew (S := (fun w' => w'.cell? ⟨g, q * 3, none⟩ = some (.int .u32 (pa : Int)) ∧ w'.cell? ⟨g, q * 3 + 1, none⟩ = some (.int .u32 (pb : Int)) ∧ w'.cell? ⟨g, q * 3 + 2, none⟩ = some (.int .u32 (pn : Int)) ∧ w'.cell? ⟨w4.heap.size, 0, none⟩ = some (.int .u32 (a : Int)) ∧ w'.cell? ⟨w4.heap.size, 1, none⟩ = some (.int .u32 (b : Int)) ∧ w'.cell? ⟨w4.heap.size, 2, none⟩ = some (.int .u32 (n : Int)))) (by kernel_rfl) (KB.out _ (blw_drew (Below.refl _ _))) (fun hHeld => ?_)
            refine tk_at (i := 0) (d := some 29) (v := ?_) rfl rfl (by kernel_rfl) (by kernel_rfl) (by kernel_rfl) (fun _ _ _ h => h) (Or.inl ⟨by rfl, ?_⟩) (by assumption) ?_
            rotate_left
            · (intro w hSw; (try dsimp only at hSw); go_simp; try (with_reducible rfl))
            simp only [Act.put, List.setIfInBounds_toArray, List.set_cons_zero, List.set_cons_succ]
            refine tk_at (i := 1) (d := some 30) (v := ?_) rfl rfl (by kernel_rfl) (by kernel_rfl) (by kernel_rfl) (fun _ _ _ h => h) (Or.inl ⟨by rfl, ?_⟩) (by assumption) ?_
            rotate_left
            · (intro w hSw; (try dsimp only at hSw); go_simp; try (with_reducible rfl))
            simp only [Act.put, List.setIfInBounds_toArray, List.set_cons_zero, List.set_cons_succ]
            refine tk_at (i := 2) (d := some 31) (v := ?_) rfl rfl (by kernel_rfl) (by kernel_rfl) (by kernel_rfl) (fun _ _ _ h => h) (Or.inl ⟨by rfl, ?_⟩) (by assumption) ?_
            rotate_left
            · (intro w hSw; (try dsimp only at hSw); go_simp; try (with_reducible rfl))
            simp only [Act.put, List.setIfInBounds_toArray, List.set_cons_zero, List.set_cons_succ]
            refine tk_at (i := 3) (d := some 32) (v := ?_) rfl rfl (by kernel_rfl) (by kernel_rfl) (by kernel_rfl) (fun _ _ _ h => h) (Or.inl ⟨by rfl, ?_⟩) (by assumption) ?_
            rotate_left
            · (intro w hSw; (try dsimp only at hSw); go_simp; try (with_reducible rfl))
            simp only [Act.put, List.setIfInBounds_toArray, List.set_cons_zero, List.set_cons_succ]
            refine tk_at (i := 4) (d := some 33) (v := ?_) rfl rfl (by kernel_rfl) (by kernel_rfl) (by kernel_rfl) (fun _ _ _ h => h) (Or.inl ⟨by rfl, ?_⟩) (by assumption) ?_
            rotate_left
            · (intro w hSw; (try dsimp only at hSw); go_simp; try (with_reducible rfl))
            simp only [Act.put, List.setIfInBounds_toArray, List.set_cons_zero, List.set_cons_succ]
            refine tk_at (i := 5) (d := some 34) (v := ?_) rfl rfl (by kernel_rfl) (by kernel_rfl) (by kernel_rfl) (fun _ _ _ h => h) (Or.inl ⟨by rfl, ?_⟩) (by assumption) ?_
            rotate_left
            · (intro w hSw; (try dsimp only at hSw); go_simp; try (with_reducible rfl))
            simp only [Act.put, List.setIfInBounds_toArray, List.set_cons_zero, List.set_cons_succ]
            refine tk_at (i := 6) (d := some 35) (v := ?_) rfl rfl (by kernel_rfl) (by kernel_rfl) (by kernel_rfl) (fun _ _ _ h => h) (Or.inl ⟨by rfl, ?_⟩) (by assumption) ?_
            rotate_left
            · (intro w hSw; (try dsimp only at hSw); go_simp; try (with_reducible rfl))
            simp only [Act.put, List.setIfInBounds_toArray, List.set_cons_zero, List.set_cons_succ]
            refine tk_at (i := 7) (d := some 36) (v := ?_) rfl rfl (by kernel_rfl) (by kernel_rfl) (by kernel_rfl) (fun _ _ _ h => h) (Or.inl ⟨by rfl, ?_⟩) (by assumption) ?_
            rotate_left
            · (intro w hSw; (try dsimp only at hSw); go_simp; try (with_reducible rfl))
            simp only [Act.put, List.setIfInBounds_toArray, List.set_cons_zero, List.set_cons_succ]
            refine tk_at (i := 8) (d := some 37) (v := ?_) rfl rfl (by kernel_rfl) (by kernel_rfl) (by kernel_rfl) (fun _ _ _ h => h) (Or.inl ⟨by rfl, ?_⟩) (by assumption) ?_
            rotate_left
            · (intro w hSw; (try dsimp only at hSw); go_simp; try (with_reducible rfl))
            simp only [Act.put, List.setIfInBounds_toArray, List.set_cons_zero, List.set_cons_succ]
            refine tk_at (i := 9) (d := some 38) (v := ?_) rfl rfl (by kernel_rfl) (by kernel_rfl) (by kernel_rfl) (fun _ _ _ h => h) (Or.inl ⟨by rfl, ?_⟩) (by assumption) ?_
            rotate_left
            · (intro w hSw; (try dsimp only at hSw); go_simp; try (with_reducible rfl))
            simp only [Act.put, List.setIfInBounds_toArray, List.set_cons_zero, List.set_cons_succ]
            refine tk_at (i := 10) (d := some 39) (v := ?_) rfl rfl (by kernel_rfl) (by kernel_rfl) (by kernel_rfl) (fun _ _ _ h => h) (Or.inl ⟨by rfl, ?_⟩) (by assumption) ?_
            rotate_left
            · (intro w hSw; (try dsimp only at hSw); go_simp; try (with_reducible rfl))
            simp only [Act.put, List.setIfInBounds_toArray, List.set_cons_zero, List.set_cons_succ]
            refine tk_at (i := 11) (d := some 40) (v := ?_) rfl rfl (by kernel_rfl) (by kernel_rfl) (by kernel_rfl) (fun _ _ _ h => h) (Or.inl ⟨by rfl, ?_⟩) (by assumption) ?_
            rotate_left
            · (intro w hSw; (try dsimp only at hSw); go_simp; try (with_reducible rfl))
            simp only [Act.put, List.setIfInBounds_toArray, List.set_cons_zero, List.set_cons_succ]
            refine tk_at (i := 12) (d := some 41) (v := ?_) rfl rfl (by kernel_rfl) (by kernel_rfl) (by kernel_rfl) (fun _ _ _ h => h) (Or.inl ⟨by rfl, ?_⟩) (by assumption) ?_
            rotate_left
            · (intro w hSw; (try dsimp only at hSw); go_simp; try (with_reducible rfl))
            simp only [Act.put, List.setIfInBounds_toArray, List.set_cons_zero, List.set_cons_succ]
            refine wpAnyH_ready (rs := [13]) (by kernel_rfl) (by simp) ?_
            refine AllReadyH.cons rfl (fun K hK => ?_) AllReadyH.nil
            go_simp
            refine (classesB_any pa pb a b pn n _ hpb ha).mono ?_
            rintro e w6 ⟨rfl, hB6⟩
            have B6 := hid (belowCat (blw_drew (Below.refl _ _)) hB6)
            clear hB6
            go_wp2_with fail
            refine hK.out _ _ (KB.out _ B6.out) (fun hHeld => ?_)
            clear hK K
            try simp only [Act.put, List.setIfInBounds_toArray, List.set_cons_zero, List.set_cons_succ]
            refine tk_at (i := 14) (d := some 43) (v := ?_) rfl rfl (by kernel_rfl) (by kernel_rfl) (by kernel_rfl) (fun _ _ _ h => h) (Or.inl ⟨by rfl, ?_⟩) (by assumption) ?_
            rotate_left
            · (intro w hSw; (try dsimp only at hSw); go_simp; try (with_reducible rfl))
            simp only [Act.put, List.setIfInBounds_toArray, List.set_cons_zero, List.set_cons_succ]
            refine tk_at (i := 15) (d := some 44) (v := ?_) rfl rfl (by kernel_rfl) (by kernel_rfl) (by kernel_rfl) (fun _ _ _ h => h) (Or.inl ⟨by rfl, ?_⟩) (by assumption) ?_
            rotate_left
            · (intro w hSw; (try dsimp only at hSw); go_simp; try (with_reducible rfl))
            simp only [Act.put, List.setIfInBounds_toArray, List.set_cons_zero, List.set_cons_succ]
            refine tk_at (i := 16) (d := some 45) (v := ?_) rfl rfl (by kernel_rfl) (by kernel_rfl) (by kernel_rfl) (fun _ _ _ h => h) (Or.inl ⟨by rfl, ?_⟩) (by assumption) ?_
            rotate_left
            · (intro w hSw; (try dsimp only at hSw); go_simp; try (with_reducible rfl))
            simp only [Act.put, List.setIfInBounds_toArray, List.set_cons_zero, List.set_cons_succ]
            refine wpAnyH_done (by kernel_rfl) ?_ _
            clear hHeld
            go_wp2_with fail
            go_meet
            case rel => exact ⟨by rw [HFD.out], B6.out⟩
          · obtain rfl : k = 0 := by omega
            have hFt : F = true := by
              have hil := rsV_len HR.out
              have hn : its = [] := List.length_eq_zero_iff.1 (by omega)
              rw [← HF.out, hn]; rfl
            clear hk hlt hk0 ha hb
            refine wp_region_held_drew (S := (fun _ => True)) (by kernel_rfl) (trivial) (fun hHeld => ?_)
            refine tk_at (i := 0) (d := some 29) (v := ?_) rfl rfl (by kernel_rfl) (by kernel_rfl) (by kernel_rfl) (fun _ _ _ h => h) (Or.inl ⟨by rfl, ?_⟩) (by assumption) ?_
            rotate_left
            · (intro w hSw; (try dsimp only at hSw); go_simp; try (with_reducible rfl))
            simp only [Act.put, List.setIfInBounds_toArray, List.set_cons_zero, List.set_cons_succ]
            refine tk_at (i := 1) (d := some 30) (v := ?_) rfl rfl (by kernel_rfl) (by kernel_rfl) (by kernel_rfl) (fun _ _ _ h => h) (Or.inl ⟨by rfl, ?_⟩) (by assumption) ?_
            rotate_left
            · (intro w hSw; (try dsimp only at hSw); go_simp; try (with_reducible rfl))
            simp only [Act.put, List.setIfInBounds_toArray, List.set_cons_zero, List.set_cons_succ]
            refine tk_at (i := 2) (d := some 31) (v := ?_) rfl rfl (by kernel_rfl) (by kernel_rfl) (by kernel_rfl) (fun _ _ _ h => h) (Or.inl ⟨by rfl, ?_⟩) (by assumption) ?_
            rotate_left
            · (intro w hSw; (try dsimp only at hSw); go_simp; try (with_reducible rfl))
            simp only [Act.put, List.setIfInBounds_toArray, List.set_cons_zero, List.set_cons_succ]
            refine tk_at (i := 3) (d := some 32) (v := ?_) rfl rfl (by kernel_rfl) (by kernel_rfl) (by kernel_rfl) (fun _ _ _ h => h) (Or.inl ⟨by rfl, ?_⟩) (by assumption) ?_
            rotate_left
            · (intro w hSw; (try dsimp only at hSw); go_simp; try (with_reducible rfl))
            simp only [Act.put, List.setIfInBounds_toArray, List.set_cons_zero, List.set_cons_succ]
            refine tk_at (i := 4) (d := some 33) (v := ?_) rfl rfl (by kernel_rfl) (by kernel_rfl) (by kernel_rfl) (fun _ _ _ h => h) (Or.inl ⟨by rfl, ?_⟩) (by assumption) ?_
            rotate_left
            · (intro w hSw; (try dsimp only at hSw); go_simp; try (with_reducible rfl))
            simp only [Act.put, List.setIfInBounds_toArray, List.set_cons_zero, List.set_cons_succ]
            refine tk_at (i := 5) (d := some 34) (v := ?_) rfl rfl (by kernel_rfl) (by kernel_rfl) (by kernel_rfl) (fun _ _ _ h => h) (Or.inl ⟨by rfl, ?_⟩) (by assumption) ?_
            rotate_left
            · (intro w hSw; (try dsimp only at hSw); go_simp; try (with_reducible rfl))
            simp only [Act.put, List.setIfInBounds_toArray, List.set_cons_zero, List.set_cons_succ]
            refine tk_at (i := 6) (d := some 35) (v := undef) rfl rfl (by kernel_rfl) (by kernel_rfl) (by kernel_rfl) (fun _ _ _ h => h) (Or.inr ⟨by rfl, rfl⟩) (by assumption) ?_
            simp only [Act.put, List.setIfInBounds_toArray, List.set_cons_zero, List.set_cons_succ]
            refine tk_at (i := 7) (d := some 36) (v := undef) rfl rfl (by kernel_rfl) (by kernel_rfl) (by kernel_rfl) (fun _ _ _ h => h) (Or.inr ⟨by rfl, rfl⟩) (by assumption) ?_
            simp only [Act.put, List.setIfInBounds_toArray, List.set_cons_zero, List.set_cons_succ]
            refine tk_at (i := 8) (d := some 37) (v := undef) rfl rfl (by kernel_rfl) (by kernel_rfl) (by kernel_rfl) (fun _ _ _ h => h) (Or.inr ⟨by rfl, rfl⟩) (by assumption) ?_
            simp only [Act.put, List.setIfInBounds_toArray, List.set_cons_zero, List.set_cons_succ]
            refine tk_at (i := 9) (d := some 38) (v := undef) rfl rfl (by kernel_rfl) (by kernel_rfl) (by kernel_rfl) (fun _ _ _ h => h) (Or.inr ⟨by rfl, rfl⟩) (by assumption) ?_
            simp only [Act.put, List.setIfInBounds_toArray, List.set_cons_zero, List.set_cons_succ]
            refine tk_at (i := 10) (d := some 39) (v := undef) rfl rfl (by kernel_rfl) (by kernel_rfl) (by kernel_rfl) (fun _ _ _ h => h) (Or.inr ⟨by rfl, rfl⟩) (by assumption) ?_
            simp only [Act.put, List.setIfInBounds_toArray, List.set_cons_zero, List.set_cons_succ]
            refine tk_at (i := 11) (d := some 40) (v := undef) rfl rfl (by kernel_rfl) (by kernel_rfl) (by kernel_rfl) (fun _ _ _ h => h) (Or.inr ⟨by rfl, rfl⟩) (by assumption) ?_
            simp only [Act.put, List.setIfInBounds_toArray, List.set_cons_zero, List.set_cons_succ]
            refine tk_at (i := 12) (d := some 41) (v := undef) rfl rfl (by kernel_rfl) (by kernel_rfl) (by kernel_rfl) (fun _ _ _ h => h) (Or.inr ⟨by rfl, rfl⟩) (by assumption) ?_
            simp only [Act.put, List.setIfInBounds_toArray, List.set_cons_zero, List.set_cons_succ]
            refine tk_at (i := 13) (d := some 42) (v := undef) rfl rfl (by kernel_rfl) (by kernel_rfl) (by kernel_rfl) (fun _ _ _ h => h) (Or.inr ⟨by rfl, rfl⟩) (by assumption) ?_
            simp only [Act.put, List.setIfInBounds_toArray, List.set_cons_zero, List.set_cons_succ]
            refine tk_at (i := 14) (d := some 43) (v := undef) rfl rfl (by kernel_rfl) (by kernel_rfl) (by kernel_rfl) (fun _ _ _ h => h) (Or.inr ⟨by rfl, rfl⟩) (by assumption) ?_
            simp only [Act.put, List.setIfInBounds_toArray, List.set_cons_zero, List.set_cons_succ]
            refine tk_at (i := 15) (d := some 44) (v := ?_) rfl rfl (by kernel_rfl) (by kernel_rfl) (by kernel_rfl) (fun _ _ _ h => h) (Or.inl ⟨by rfl, ?_⟩) (by assumption) ?_
            rotate_left
            · (intro w hSw; (try dsimp only at hSw); go_simp; try (with_reducible rfl))
            simp only [Act.put, List.setIfInBounds_toArray, List.set_cons_zero, List.set_cons_succ]
            refine tk_at (i := 16) (d := some 45) (v := ?_) rfl rfl (by kernel_rfl) (by kernel_rfl) (by kernel_rfl) (fun _ _ _ h => h) (Or.inl ⟨by rfl, ?_⟩) (by assumption) ?_
            rotate_left
            · (intro w hSw; (try dsimp only at hSw); go_simp; try (with_reducible rfl))
            simp only [Act.put, List.setIfInBounds_toArray, List.set_cons_zero, List.set_cons_succ]
            refine wpAnyH_done (by kernel_rfl) ?_ _
            clear hHeld
            go_wp2_with fail
            go_meet
            case rel => exact ⟨by rw [hFt]; rfl, blw_drew (Below.refl _ _)⟩
        case rest =>
          obtain ⟨hq, hB6⟩ := hcut
          have B6 := hid (belowCat B5.out hB6)
          have HIC := hid ((hB6.block _ (lt_of_heap HI.out)).trans HI.out)
          clear hB6 HI
          cases F with
          | false =>
            have hq' : _ = Value.bool true := hq
            clear hq
            subst hq'
            have HE := hid (rsV_end (rsV_bad HR.out (by rw [HWS.out]; exact HO2.out) HF.out) (show k + 1 ≤ N by omega))
            clear ha hb
            go_wp2
            exact bodyPost_ret (v := .tuple #[.slice none 0 0, .int .i64 3, .int .i64 ((k + 1 : Nat) : Int)]) (by simp [results, Tryz.results65, go_sem]) rfl
              ⟨none, 0, k + 1, [], by simp, HE.out, World.ownsRow_nil _ _ _ _, by repeat (first | exact belowCat (belowCat B1.out HB.out) B6.out | refine blw_drew ?_ | refine blw_alloc ?_)⟩
          | true =>
            have hq' : _ = Value.bool false := hq
            clear hq
            subst hq'
            have HE := hid (rsV_next HR.out (by rw [HWS.out]; exact HO2.out) HF.out)
            have c0 : wc.cell? ⟨w4.heap.size, 0, none⟩ = some (.int .u32 (a : Int)) := cell_of_heap HIC.out rfl
            have c1 : wc.cell? ⟨w4.heap.size, 1, none⟩ = some (.int .u32 (b : Int)) := cell_of_heap HIC.out rfl
            have c2 : wc.cell? ⟨w4.heap.size, 2, none⟩ = some (.int .u32 (n : Int)) := cell_of_heap HIC.out rfl
            have HOC := hid (show (wc.alloc (.cells #[.int .u32 (a : Int), .int .u32 (b : Int), .int .u32 (n : Int)] 104)).ownsRow w1.heap.size 104 3 (.slice ad k cap) k (rowC rgC its) from owns_below HO.out (blw_alloc B6.out))
            have BC := hid (show Below w1.heap.size w1 (wc.alloc (.cells #[.int .u32 (a : Int), .int .u32 (b : Int), .int .u32 (n : Int)] 104)) from blw_alloc (belowCat HB.out B6.out))
            have HOB := hid (show ∀ g, (Value.slice ad k cap).ownBlock = some g → w1.heap.size ≤ g from fun g hg => (HO.out.lt g hg).1)
            go_wp2_with (at_builtin; refine wpList_append_lies _ rfl (.tmp 48) (.tmp 50) 25 rfl w1.heap.size 104 i0 _ 3 12 Tryz.underlying25 hi hz0 hz1 hz2 rfl (by decide) (.slice ad k cap) k (rowC rgC its) rfl HOC.out ⟨wc.heap.size, 0, none⟩ 1 1 [.int .u32 (a : Int), .int .u32 (b : Int), .int .u32 (n : Int)] rfl rfl ?c1 ?c2 (by decide) ?c3 ?c4 ?c5 _ rfl ?_)
            case c1 => exact World.news_of_block (heap_alloc_at _ _)
            case c2 => intro u hu; simp only [List.mem_cons, List.not_mem_nil, or_false] at hu; rcases hu with rfl | rfl | rfl <;> rfl
            case c3 => unfold maxLen; omega
            case c4 => omega
            case c5 => exact BC.out.size
            intro g2 cap2 w7 hown' hgrow hat hlt2
            have HO7 := hid (show w7.ownsRow w1.heap.size 104 3 (.slice (some ⟨g2, 0, none⟩) (k + 1) cap2) (k + 1) (rowC rgC (its ++ [⟨a, b, [.int .u32 (n : Int)]⟩])) from by rw [rowC_snoc]; exact hown')
            have B7 := hid (BC.out.grown hgrow BC.out.size HOB.out)
            clear hown' hgrow hat hlt2 c0 c1 c2
            go_wp2
            go_roundw
            case rel => exact ⟨k + 1, cap2, some ⟨g2, 0, none⟩, its ++ [⟨a, b, [.int .u32 (n : Int)]⟩], by omega, by go_num, rfl, HE.out, HO7.out, B7.out⟩
            case measure => simp [intOf]; omega
    · have hke : k = N := by omega
      subst hke
      have hil := rsV_len HR.out
      have HIL := hid hil
      clear hr hown hB hil
      go_wp2
      exact bodyPost_ret (v := .tuple #[.slice ad k cap, .int .i64 0, .int .i64 0]) (by simp [results, Tryz.results65, go_sem]) rfl
        ⟨ad, cap, 0, its, by rw [HIL.out]; rfl, HR.out, by rw [HIL.out]; exact owns_base HO.out B1.out.size, belowCat B1.out HB.out⟩
end Go.Proofs.YtgalmlelnolodaaGreatDoor
