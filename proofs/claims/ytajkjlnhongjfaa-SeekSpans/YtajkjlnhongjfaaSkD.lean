/- The contract of seek.Find, over this seat's translation. Conditions: the words' bounds; rows of at most a million words, at most a thousand million keys. -/
import Derived.Test.YtajkjlnhongjfaaSkC
namespace Go.Proofs.Ytajkjlnhongjfaa
open Go.RowKit

/-- words of a row of secret words -/
def rowF (n : Nat) (f : Nat → Nat) : Array Value := ((List.range n).map fun j => Value.int .u32 (f j : Int)).toArray
theorem rowF_get {n : Nat} {f : Nat → Nat} {j : Nat} (h : j < n) : (rowF n f)[j]? = some (.int .u32 (f j : Int)) := by
  simp [rowF, h]
theorem rowF_congr {n : Nat} {f g : Nat → Nat} (h : ∀ j, j < n → f j = g j) : rowF n f = rowF n g := by
  unfold rowF
  congr 1
  apply List.map_congr_left
  intro j hj
  rw [h j (List.mem_range.1 hj)]
theorem rowF_set {n : Nat} {f : Nat → Nat} {j v : Nat} : (rowF n f).setIfInBounds j (.int .u32 (v : Int)) = rowF n (fun q => if q = j then v else f q) := by
  apply Array.ext_getElem?
  intro q
  rw [Array.getElem?_setIfInBounds]
  unfold rowF
  by_cases hq : q < n
  · by_cases e : j = q
    · subst e; simp [hq]
    · have e' : ¬ q = j := fun x => e x.symm
      simp [hq, e, e']
  · have e : (List.range n)[q]? = none := by simp; omega
    by_cases e2 : j = q
    · subst e2; simp [hq]
    · simp [hq, e2]
theorem made_rowF (n : Nat) : madeCells #[Value.int .u32 0] n = rowF n (fun _ => 0) := by
  unfold rowF madeCells
  apply Array.ext
  · simp
  · intro i h1 h2
    simp [Nat.mod_one]
theorem Try.infoSec : (Try.prog.info? 31).map (fun i => (i.zero, i.size, i.bytes)) = some (some (.agg #[.int .u32 0]), 1, 8) := by kernel_rfl
theorem run_make_sk (n : Nat) (hn : n ≤ 4194304) (w : World) :
    (Instr.makeSlice 28 (.int .i64 (n : Int)) (.int .i64 (n : Int))).run Try.prog w = .ok (.slice (some ⟨w.heap.size, 0, none⟩) n n) (w.alloc (.cells (rowF n (fun _ => 0)) 31)) := by
  obtain ⟨i0, hi, hz0, hz1, hz2⟩ := info_parts Try.infoSec
  have := run_make (P := Try.prog) w 28 31 i0 _ Try.underlying28 hi hz0 .i64 .i64 n n (by omega) (Int.le_refl _) (by rw [hz2]; omega) (by omega)
  rw [this, hz1, ← made_rowF]; simp [Value.cells]

/-- a word of a table, 0 where it is missing -/
def Tb.cl (t : Tb) (i j : Nat) : Nat := if h : i < t.L.length then (t.L[i]).ws.getD j 0 else 0
def fdT (t : Tb) (key k q : Nat) : Nat := (List.range k).foldl (fun u i => gat u (key == t.ks.getD i 0) (t.cl i q)) 0
def fdM (t : Tb) (key k : Nat) : Bool := (t.ks.take k).any (key == ·)
theorem fdT_succ (t : Tb) (key k q : Nat) : fdT t key (k + 1) q = gat (fdT t key k q) (key == t.ks.getD k 0) (t.cl k q) := by
  unfold fdT; rw [List.range_succ, List.foldl_append]; rfl
theorem fdM_succ (t : Tb) (key k : Nat) (h : k < t.ks.length) : fdM t key (k + 1) = (fdM t key k || (key == t.ks[k])) := by
  unfold fdM; rw [List.take_succ_eq_append_getElem h, List.any_append]; simp
theorem cl_lt {w : World} {t : Tb} (h : t.Ok w) (i j : Nat) : t.cl i j < 4294967296 := by
  unfold Tb.cl
  split
  · next hi =>
    obtain ⟨_, _, _, hr⟩ := h.r i hi
    rcases Nat.lt_or_ge j (t.L[i]).ws.length with hj | hj
    · simp [List.getD, hj]; exact hr.lt _ (List.getElem_mem hj)
    · simp [List.getD, List.getElem?_eq_none hj]
  · decide
theorem fdT_lt {w : World} {t : Tb} (h : t.Ok w) (key k q : Nat) : fdT t key k q < 4294967296 := by
  induction k with
  | zero => simp [fdT]
  | succ k ih => rw [fdT_succ]; exact gat_lt ih (cl_lt h k q)
theorem cl_far (t : Tb) (i j : Nat) (hj : t.rl i ≤ j) (hw : j < t.wd) : t.cl i j = 0 := by
  unfold Tb.rl at hj
  unfold Tb.cl
  split at hj
  · next hi =>
    rw [dif_pos hi]
    have : (t.L[i]).ws.length ≤ j := by omega
    simp [List.getD, List.getElem?_eq_none this]
  · next hi => rw [dif_neg hi]
theorem gat_zero (u : Nat) (b : Bool) : gat u b 0 = u := by unfold gat; cases b <;> simp
/-- within a key's round: the words up to j are of the next state -/
def fdI (t : Tb) (key k j q : Nat) : Nat := if q < j then fdT t key (k + 1) q else fdT t key k q
theorem fdI_zero (t : Tb) (key k : Nat) : rowF t.wd (fdT t key k) = rowF t.wd (fdI t key k 0) := rowF_congr fun q _ => by simp [fdI]
theorem fdI_all (t : Tb) (key k : Nat) : rowF t.wd (fdI t key k (t.rl k)) = rowF t.wd (fdT t key (k + 1)) := rowF_congr fun q hq => by
  unfold fdI
  split
  · rfl
  · next h => rw [fdT_succ, cl_far t k q (by omega) hq, gat_zero]
theorem fdI_at (t : Tb) (key k j : Nat) : fdI t key k j j = fdT t key k j := by simp [fdI]
theorem fdI_succ (t : Tb) (key k j : Nat) : (rowF t.wd (fdI t key k j)).setIfInBounds j (.int .u32 (gat (fdT t key k j) (key == t.ks.getD k 0) (t.cl k j) : Nat)) = rowF t.wd (fdI t key k (j + 1)) := by
  rw [rowF_set]
  refine rowF_congr fun q _ => ?_
  unfold fdI
  by_cases e : q = j
  · subst e; simp [fdT_succ]
  · by_cases h : q < j
    · simp [e, h, Nat.lt_succ_of_lt h]
    · have : ¬ q < j + 1 := by omega
      simp [e, h, this]
theorem rl_le (t : Tb) (i : Nat) : t.rl i ≤ t.wd := by unfold Tb.rl; split <;> omega
theorem cl_at {t : Tb} {i j : Nat} (hj : j < t.rl i) : ∃ hi : i < t.L.length, ∃ hj : j < (t.L[i]).ws.length, t.cl i j = (t.L[i]).ws[j] := by
  unfold Tb.rl at hj
  split at hj
  · next hi =>
    have h2 : j < (t.L[i]).ws.length := by omega
    exact ⟨hi, h2, by unfold Tb.cl; rw [dif_pos hi]; simp [List.getD, h2]⟩
  · omega

set_option maxHeartbeats 3200000 in
theorem find_any (t : Tb) (key : Nat) (w : World) (h : t.Ok w) (hk : key < 4294967296) (hn : t.ks.length ≤ 1000000000) (hw : t.wd ≤ 1000000) :
    Calls Try.prog 7 #[tbV t, sec key] w fun e w' => ∃ g, e = .returned (.tuple #[.slice (some ⟨g, 0, none⟩) t.wd t.wd, sec (mk (fdM t key t.ks.length) : Nat)]) ∧ w.heap.size ≤ g ∧ w'.heap[g]? = some (.cells (rowF t.wd (fdT t key t.ks.length)) 31 (0, 0)) ∧ Below w.heap.size w w' := by
  have HOK := hid h
  have HW := hid (fun w' hb => width_any t w' (h.below hb))
  have HR := hid (fun i hi w' hb => row_any t i w' (h.below hb) hi)
  have HM := hid (run_make_sk t.wd (by omega))
  obtain ⟨W, hWe⟩ : ∃ W, t.wd = W := ⟨_, rfl⟩
  have HWE := hid hWe
  rw [hWe] at HM HW hw
  rw [hWe]
  have HFZ := hid (fdI_zero t key)
  have HFA := hid (fdI_all t key)
  have HFS := hid (fdI_succ t key)
  have HFL := hid (fun k q => fdT_lt h key k q)
  have HCL := hid (fun i j => cl_lt h i j)
  have HRL := hid (rl_le t)
  rw [hWe] at HFZ HFA HFS HRL
  clear h hWe
  go_enter Try.func7, Try.ntmps7
  go_wp2_with (go_at_call 8; refine (of_any _ _).mono ?_; rintro e w' ⟨rfl, rfl⟩)
  refine (HW.out _ (by repeat (first | exact Below.refl _ _ | refine blw_alloc ?_ | refine blw_drew ?_ | assumption))).mono ?_
  rintro e w1 ⟨rfl, rfl⟩
  have hmk := HM.out
  go_wp2_with fail
  clear hmk
  go_loopw [20] (fun c wr => ∃ k : Nat, k ≤ t.ks.length ∧ c = .int .i64 (k : Int) ∧ Below w.heap.size w wr ∧ wr.heap[w.heap.size]? = some (tbO t) ∧ wr.heap[w.heap.size + 1]? = some (sb key) ∧ wr.heap[w.heap.size + 1 + 1]? = some (sb 0) ∧ wr.heap[w.heap.size + 1 + 1 + 1 + 1]? = some (sb (mk (fdM t key k) : Nat)) ∧ wr.heap[w.heap.size + 1 + 1 + 1 + 1 + 1 + 1]? = some (.cells (rowF W (fdT t key k)) 31 (0, 0))) (fun c _ => t.ks.length - (intOf c).toNat)
  case atStart => exact ⟨0, Nat.zero_le _, rfl, (by repeat (first | exact Below.refl _ _ | refine blw_alloc ?_ | refine blw_drew ?_ | assumption)), (by simp only [hp_get, World.size_alloc]; repeat (first | rw [if_pos trivial] | rw [if_pos rfl] | rw [if_neg (by omega)])), (by simp only [hp_get, World.size_alloc]; repeat (first | rw [if_pos trivial] | rw [if_pos rfl] | rw [if_neg (by omega)])), (by simp only [hp_get, World.size_alloc]; repeat (first | rw [if_pos trivial] | rw [if_pos rfl] | rw [if_neg (by omega)])), (show _ = some (sb 0) from (by simp only [hp_get, World.size_alloc]; repeat (first | rw [if_pos trivial] | rw [if_pos rfl] | rw [if_neg (by omega)]))), (show _ = some (Obj.cells (rowF W (fun _ => 0)) 31 (0, 0)) from (by simp only [hp_get, World.size_alloc]; repeat (first | rw [if_pos trivial] | rw [if_pos rfl] | rw [if_neg (by omega)])))⟩
  case round =>
    obtain ⟨k, hk1, rfl, hB, hb0, hb1, hb2, hb4, hb6⟩ := hrel
    have HH := hid (And.intro hB (And.intro hb0 (And.intro hb1 (And.intro hb2 (And.intro hb4 hb6)))))
    have c0 := (cell_tb hb0).1
    have c1 := (cell_tb hb0).2
    by_cases hlt : k < t.ks.length
    · obtain ⟨x, hx, hp⟩ := (HOK.out.below hB).ku k hlt
      have HMS := hid (fdM_succ t key k hlt)
      have HKL := hid (HOK.out.kl _ (List.getElem_mem hlt))
      have HKD := hid (show t.ks.getD k 0 = t.ks[k] by simp [List.getD, hlt])
      obtain ⟨kk, hkk⟩ : ∃ kk, t.ks[k] = kk := ⟨_, rfl⟩
      rw [hkk] at hp HMS HKL HKD
      have HX := hid hx
      have kb := cell_sb hb1
      clear hB hb0 hb1 hb2 hb4 hb6 hkk c1
      rw [hx] at c0 ⊢
      have KB := hid (show ∀ w' : World, Below wr.heap.size wr w' → w'.cell? ⟨w.heap.size + 1, 0, none⟩ = some (.int .u32 (key : Int)) from fun w' hb => cell_sb (hpB hb HH.out.2.2.1))
      go_wp2_with fail
      go_cut [10, 20] from 20 to 52 (fun q c wx => c = .int .i64 (k : Int) ∧ ∃ z, wr.heap.size ≤ z ∧ q = .pointer (some ⟨z, 0, none⟩) ∧ wx.heap[z]? = some (sb (mk (key == kk) : Nat)) ∧ Below wr.heap.size wr wx)
      case first =>
        clear hk1 hlt hn c0 hp kb hx
        refine wp_region_held_drew (S := (fun w' => w'.cell? ⟨w.heap.size + 1, 0, none⟩ = some (.int .u32 (key : Int)))) (by kernel_rfl) (KB.out _ (blw_drew (Below.refl _ _))) (fun hHeld => ?_)
        refine tk_at (i := 0) (d := some 25) (v := ?_) rfl rfl (by kernel_rfl) (by kernel_rfl) (by kernel_rfl) (fun _ _ _ h => h) (Or.inl ⟨by rfl, ?_⟩) (by assumption) ?_
        rotate_left
        · (intro w hSw; (try dsimp only at hSw); go_simp; try (with_reducible rfl))
        simp only [Act.put, List.setIfInBounds_toArray, List.set_cons_zero, List.set_cons_succ]
        refine tk_at (i := 1) (d := some 26) (v := ?_) rfl rfl (by kernel_rfl) (by kernel_rfl) (by kernel_rfl) (fun _ _ _ h => h) (Or.inl ⟨by rfl, ?_⟩) (by assumption) ?_
        rotate_left
        · (intro w hSw; (try dsimp only at hSw); go_simp; try (with_reducible rfl))
        simp only [Act.put, List.setIfInBounds_toArray, List.set_cons_zero, List.set_cons_succ]
        clear hHeld
        refine wpAnyH_inv0 (fun aC0 lsC aC wC => ∃ (b2 b3 b4 b5 : Bool) (pp x27 x28   : Value), lsC = #[true, true, b2, b3, b4, b5] ∧ aC = { aC0 with tmps := (((aC0.tmps.setIfInBounds 27 x27).setIfInBounds 28 x28).setIfInBounds 10 pp) } ∧ (b2 = true → x27 = sec (kk : Int)) ∧ (b3 = true → x28 = sec (mk (key == kk) : Nat)) ∧ Below wr.heap.size wr wC ∧ Own1 wr wC b4 b5 pp (mk (key == kk)) ∧ (b4 || !b5) = true) ?_ _ _ _ (by decide +kernel) (fun aS => ⟨false, false, false, false, aS.tmps.getD 10 undef, aS.tmps.getD 27 undef, aS.tmps.getD 28 undef, by kernel_rfl, by simp only [set_self], fun h => (by cases h), fun h => (by cases h), blw_drew (Below.refl _ _), Own1.none, rfl⟩)
        intro lsC aC wC ⟨b2, b3, b4, b5, pp, x27, x28, hl, ha, hx27, hx28, hBw, hpp, hcc⟩
        subst hl ha
        have Hx27 := hid hx27
        have Hx28 := hid hx28
        have HBW := hid hBw
        have HPP := hid hpp
        have HCC := hid hcc
        clear hx27 hx28 hBw hpp hcc
        simp only [List.setIfInBounds_toArray, List.set_cons_zero, List.set_cons_succ]
        refine ⟨fun hr => ?_, fun i hi => ?_⟩
        · have hall : (b2 && b3 && b4 && b5) = true := by
            clear Hx27 Hx28 HBW HPP HCC
            revert b2 b3 b4 b5
            decide +kernel
          simp only [Bool.and_eq_true] at hall
          obtain ⟨⟨⟨rfl, rfl⟩, rfl⟩, rfl⟩ := hall
          obtain ⟨z, rfl, hz1, hz2⟩ := HPP.out rfl
          obtain rfl := Hx27.out rfl
          obtain rfl := Hx28.out rfl
          have HR := hid (And.intro hz1 (And.intro hz2 HBW.out))
          clear hz1 hz2 Hx27 Hx28 HBW HPP HCC hr
          (try dsimp only)
          go_wp2_with fail
          go_meet
          case rel => exact ⟨rfl, z, HR.out.1, rfl, HR.out.2.1, HR.out.2.2⟩
        · have hcase : (i = 2 ∧ b2 = false) ∨ (i = 3 ∧ b3 = false ∧ b2 = true) ∨ (i = 4 ∧ b4 = false) ∨ (i = 5 ∧ b5 = false ∧ b4 = true ∧ b3 = true) := by
            refine of_decide_eq_true ((List.all_eq_true (p := fun i => decide ((i = 2 ∧ b2 = false) ∨ (i = 3 ∧ b3 = false ∧ b2 = true) ∨ (i = 4 ∧ b4 = false) ∨ (i = 5 ∧ b5 = false ∧ b4 = true ∧ b3 = true)))).1 ?_ i hi)
            clear Hx27 Hx28 HBW HPP HCC hi
            revert b2 b3 b4 b5
            decide +kernel
          clear hi
          rcases hcase with ⟨rfl, rfl⟩ | ⟨rfl, rfl, rfl⟩ | ⟨rfl, rfl⟩ | ⟨rfl, rfl, rfl, rfl⟩
          · refine wpOp_shut rfl (fun K hK => ?_)
            go_simp
            refine (of_b _ _).mono ?_
            rintro e wa ⟨rfl, hBa⟩
            have HBa := hid hBa
            clear hBa
            go_wp2_with fail
            have hB3 := belowCat HBW.out HBa.out
            exact hK.out _ _ ⟨KB.out _ hB3, true, b3, b4, b5, _, _, _, by kernel_rfl, rfl, fun _ => rfl, Hx28.out, hB3, HPP.out.below HBa.out, HCC.out⟩
          · obtain rfl := Hx27.out rfl
            refine wpOp_shut rfl (fun K hK => ?_)
            go_simp
            refine (eq_any key kk _ hk HKL.out).mono ?_
            rintro e wa ⟨rfl, hBa⟩
            have HBa := hid hBa
            clear hBa
            go_wp2_with fail
            have hB3 := belowCat HBW.out HBa.out
            exact hK.out _ _ ⟨KB.out _ hB3, true, true, b4, b5, _, _, _, by kernel_rfl, rfl, fun _ => rfl, fun _ => rfl, hB3, HPP.out.below HBa.out, HCC.out⟩
          · obtain rfl : b5 = false := by have := HCC.out; revert this; cases b5 <;> simp
            refine wpOp_shut rfl (fun K hK => ?_)
            go_simp
            go_wp2_with fail
            have hBa := (Below.refl wC.heap.size wC).alloc (Nat.le_refl _) (.cells #[.int .u32 0] 31 (0, 0))
            have hB3 := belowCat HBW.out hBa
            exact hK.out _ _ ⟨KB.out _ hB3, b2, b3, true, false, _, _, _, by kernel_rfl, rfl, Hx27.out, Hx28.out, hB3, Own1.new HBW.out, rfl⟩
          · obtain ⟨z, rfl, hz1, hz2⟩ := HPP.out rfl
            obtain rfl := Hx28.out rfl
            have c0 := cell_of_heap (i := 0) hz2 rfl
            have g0 := frozen_of_heap (i := 0) hz2
            have HZ := hid (And.intro hz1 hz2)
            clear hz1 hz2
            refine wpOp_shut rfl (fun K hK => ?_)
            go_simp
            go_wp2_with fail
            have hB3 := HBW.out.setCell (p := ⟨z, 0, none⟩) HZ.out.1 (.int .u32 ((mk (key == kk) : Nat) : Int))
            exact hK.out _ _ ⟨KB.out _ hB3, b2, true, true, true, _, _, _, by kernel_rfl, rfl, Hx27.out, fun _ => rfl, hB3, fun _ => ⟨z, rfl, HZ.out.1, own_put HZ.out.2⟩, rfl⟩
      case rest =>
        obtain ⟨rfl, z, hz, rfl, hbz, hBc⟩ := hcut
        have GB := hid (belowCat HH.out.1 hBc)
        have G0 := hid (And.intro (hpB hBc HH.out.2.1) (And.intro (hpB hBc HH.out.2.2.1) (hpB hBc HH.out.2.2.2.1)))
        have G4 := hid (hpB hBc HH.out.2.2.2.2.1)
        have G6 := hid (hpB hBc HH.out.2.2.2.2.2)
        have GZ := hid hbz
        have HZN := hid (show w.heap.size + 1 + 1 + 1 + 1 + 1 + 1 < z from by have := lt_of_heap HH.out.2.2.2.2.2; omega)
        have k4 := cell_sb G4.out
        have kz := cell_sb GZ.out
        obtain ⟨yes, hyes⟩ : ∃ yes, (key == kk) = yes := ⟨_, rfl⟩
        rw [hyes] at HMS GZ kz
        have HYE := hid hyes
        clear hBc hbz hz KB c0 hp kb hyes HH
        go_wp2_with fail
        refine (or_b (mk (fdM t key k)) (mk yes) _ (mk_lt _) (mk_lt _)).mono ?_
        rw [or_mk, ← HMS.out]
        rintro e w3 ⟨rfl, hB3⟩
        have K4 := hid (hpB hB3 G4.out)
        have K6 := hid (hpB hB3 G6.out)
        have KZ := hid (hpB hB3 GZ.out)
        have K0 := hid (And.intro (hpB hB3 G0.out.1) (And.intro (hpB hB3 G0.out.2.1) (hpB hB3 G0.out.2.2)))
        have KBl := hid (belowCat GB.out hB3)
        have e4 := cell_sb K4.out
        have f4 := frozen_of_heap (i := 0) K4.out
        have ho : ∀ q, q ≠ w.heap.size + 1 + 1 + 1 + 1 → (w3.setCell ⟨w.heap.size + 1 + 1 + 1 + 1, 0, none⟩ (.int .u32 (mk (fdM t key (k + 1)) : Nat))).heap[q]? = w3.heap[q]? := fun q hq => Below.heap_setCell _ _ _ _ hq
        have J0 := hid (And.intro ((ho _ (by omega)).trans K0.out.1) (And.intro ((ho _ (by omega)).trans K0.out.2.1) ((ho _ (by omega)).trans K0.out.2.2)))
        have J4 := hid (heap_setCell_at _ _ 0 _ _ _ (.int .u32 (mk (fdM t key (k + 1)) : Nat)) K4.out)
        have J6 := hid ((ho _ (by omega)).trans K6.out)
        have JZ := hid ((ho _ (by have := HZN.out; omega)).trans KZ.out)
        have JB := hid (blw_set (p := ⟨w.heap.size + 1 + 1 + 1 + 1, 0, none⟩) (.int .u32 (mk (fdM t key (k + 1)) : Nat)) KBl.out (by show w.heap.size ≤ w.heap.size + 1 + 1 + 1 + 1; omega))
        have t0 := (cell_tb J0.out.1).1
        have t1 := (cell_tb J0.out.1).2
        clear hB3 ho k4 kz
        go_wp2_with fail
        rw [← HX.out]
        clear hx t0 t1 e4 f4
        refine (HR.out k (by omega) _ JB.out).mono ?_
        rintro e w5 ⟨⟨ad, cap, rfl, had⟩, hB5⟩
        have HAD := hid had
        have P0 := hid (And.intro (hpB hB5 J0.out.1) (And.intro (hpB hB5 J0.out.2.1) (And.intro (hpB hB5 J0.out.2.2) (hpB hB5 J4.out))))
        have P6 := hid (hpB hB5 J6.out)
        have PZ := hid (hpB hB5 JZ.out)
        have PB := hid (belowCat JB.out hB5)
        obtain ⟨R, hRe⟩ : ∃ R, t.rl k = R := ⟨_, rfl⟩
        have HRE := hid hRe
        have hRW := HRL.out k
        rw [hRe] at hRW
        rw [hRe]
        rw [HFZ.out] at P6
        clear had hB5 hRe J0 J4 J6 JZ JB K0 K4 K6 KZ KBl G0 G4 G6 GZ GB
        go_wp2_with fail
        go_loopw [36] (fun c wr => ∃ j : Nat, j ≤ R ∧ c = .int .i64 (j : Int) ∧ Below w.heap.size w wr ∧ wr.heap[w.heap.size]? = some (tbO t) ∧ wr.heap[w.heap.size + 1]? = some (sb key) ∧ wr.heap[w.heap.size + 1 + 1]? = some (sb 0) ∧ wr.heap[w.heap.size + 1 + 1 + 1 + 1]? = some (sb (mk (fdM t key (k + 1)) : Nat)) ∧ wr.heap[w.heap.size + 1 + 1 + 1 + 1 + 1 + 1]? = some (.cells (rowF W (fdI t key k j)) 31 (0, 0)) ∧ wr.heap[z]? = some (sb (mk yes : Nat))) (fun c _ => R - (intOf c).toNat)
        case atStart => exact ⟨0, Nat.zero_le _, rfl, PB.out, P0.out.1, P0.out.2.1, P0.out.2.2.1, P0.out.2.2.2, P6.out, PZ.out⟩
        case round =>
          obtain ⟨j, hj, rfl, hB, hb0, hb1, hb2, hb4, hb6, hbz⟩ := hrel
          have HH := hid (And.intro hB (And.intro hb0 (And.intro hb1 (And.intro hb2 (And.intro hb4 (And.intro hb6 hbz))))))
          by_cases hjl : j < R
          · obtain ⟨hiL, hjw, hcl⟩ := cl_at (t := t) (i := k) (j := j) (by rw [HRE.out]; exact hjl)
            obtain ⟨xr, hxr, hcr, hro⟩ := (HOK.out.below hB).r k hiL
            obtain ⟨y, hy, hyc⟩ := hro.u j hjw
            rw [← hcl] at hyc
            have had := HAD.out hiL
            rw [hy] at had
            subst had
            have HCV := hid (HCL.out k j)
            have HUP := hid (HFL.out k j)
            have HST := hid (HFS.out k j)
            have hfi := fdI_at t key k j
            obtain ⟨v, hv⟩ : ∃ v, t.cl k j = v := ⟨_, rfl⟩
            obtain ⟨u, hu⟩ : ∃ u, fdT t key k j = u := ⟨_, rfl⟩
            rw [hv] at hyc HCV HST
            rw [hu] at HUP HST hfi
            rw [HKD.out, HYE.out] at HST
            have hjW : j < W := by omega
            have c6 := cell_of_heap (i := j) hb6 (rowF_get hjW)
            rw [hfi] at c6
            have f6 := frozen_of_heap (i := j) hb6
            have kz := cell_sb hbz
            have KB := hid (show ∀ w' : World, Below wr.heap.size wr w' → w'.cell? ⟨z, 0, none⟩ = some (.int .u32 (mk yes : Nat)) from fun w' hb => cell_sb (hpB hb HH.out.2.2.2.2.2.2))
            clear hxr hcr hB hb0 hb1 hb2 hb4 hb6 hbz hcl hro hy hfi hv hu hjw hiL
            go_wp2_with fail
            refine wp_region_held_drew (S := (fun w' => w'.cell? ⟨z, 0, none⟩ = some (.int .u32 (mk yes : Nat)))) (by kernel_rfl) (KB.out _ (blw_drew (Below.refl _ _))) (fun hHeld => ?_)
            refine tk_at (i := 0) (d := some 41) (v := ?_) rfl rfl (by kernel_rfl) (by kernel_rfl) (by kernel_rfl) (fun _ _ _ h => h) (Or.inl ⟨by rfl, ?_⟩) (by assumption) ?_
            rotate_left
            · (intro w hSw; (try dsimp only at hSw); go_simp; try (with_reducible rfl))
            simp only [Act.put, List.setIfInBounds_toArray, List.set_cons_zero, List.set_cons_succ]
            refine tk_at (i := 1) (d := some 42) (v := ?_) rfl rfl (by kernel_rfl) (by kernel_rfl) (by kernel_rfl) (fun _ _ _ h => h) (Or.inl ⟨by rfl, ?_⟩) (by assumption) ?_
            rotate_left
            · (intro w hSw; (try dsimp only at hSw); go_simp; try (with_reducible rfl))
            simp only [Act.put, List.setIfInBounds_toArray, List.set_cons_zero, List.set_cons_succ]
            refine tk_at (i := 2) (d := some 43) (v := ?_) rfl rfl (by kernel_rfl) (by kernel_rfl) (by kernel_rfl) (fun _ _ _ h => h) (Or.inl ⟨by rfl, ?_⟩) (by assumption) ?_
            rotate_left
            · (intro w hSw; (try dsimp only at hSw); go_simp; try (with_reducible rfl))
            simp only [Act.put, List.setIfInBounds_toArray, List.set_cons_zero, List.set_cons_succ]
            refine tk_at (i := 3) (d := some 44) (v := ?_) rfl rfl (by kernel_rfl) (by kernel_rfl) (by kernel_rfl) (fun _ _ _ h => h) (Or.inl ⟨by rfl, ?_⟩) (by assumption) ?_
            rotate_left
            · (intro w hSw; (try dsimp only at hSw); go_simp; try (with_reducible rfl))
            simp only [Act.put, List.setIfInBounds_toArray, List.set_cons_zero, List.set_cons_succ]
            refine tk_at (i := 4) (d := some 45) (v := ?_) rfl rfl (by kernel_rfl) (by kernel_rfl) (by kernel_rfl) (fun _ _ _ h => h) (Or.inl ⟨by rfl, ?_⟩) (by assumption) ?_
            rotate_left
            · (intro w hSw; (try dsimp only at hSw); go_simp; try (with_reducible rfl))
            simp only [Act.put, List.setIfInBounds_toArray, List.set_cons_zero, List.set_cons_succ]
            refine tk_at (i := 6) (d := some 47) (v := ?_) rfl rfl (by kernel_rfl) (by kernel_rfl) (by kernel_rfl) (fun _ _ _ h => h) (Or.inl ⟨by rfl, ?_⟩) (by assumption) ?_
            rotate_left
            · (intro w hSw; (try dsimp only at hSw); go_simp; try (with_reducible rfl))
            simp only [Act.put, List.setIfInBounds_toArray, List.set_cons_zero, List.set_cons_succ]
            refine tk_at (i := 7) (d := some 48) (v := ?_) rfl rfl (by kernel_rfl) (by kernel_rfl) (by kernel_rfl) (fun _ _ _ h => h) (Or.inl ⟨by rfl, ?_⟩) (by assumption) ?_
            rotate_left
            · (intro w hSw; (try dsimp only at hSw); go_simp; try (with_reducible rfl))
            simp only [Act.put, List.setIfInBounds_toArray, List.set_cons_zero, List.set_cons_succ]
            refine wpAnyH_ready (rs := [5]) (by kernel_rfl) (by simp) ?_
            refine AllReadyH.cons rfl (fun K hK => ?_) AllReadyH.nil
            go_simp
            go_wp2_with fail
            refine hK.out _ _ (KB.out _ (blw_drew (Below.refl _ _))) (fun hHeld => ?_)
            clear hK K
            try simp only [Act.put, List.setIfInBounds_toArray, List.set_cons_zero, List.set_cons_succ]
            refine wpAnyH_ready (rs := [8]) (by kernel_rfl) (by simp) ?_
            refine AllReadyH.cons rfl (fun K hK => ?_) AllReadyH.nil
            go_simp
            refine (gather_any u v yes _ HUP.out HCV.out).mono ?_
            rintro e w7 ⟨rfl, hB7⟩
            have HB7 := hid (belowCat (blw_drew (Below.refl _ _)) hB7)
            have Q6 := hid (hpB HB7.out HH.out.2.2.2.2.2.1)
            have q6 := cell_of_heap (i := j) Q6.out (rowF_get hjW)
            have g6 := frozen_of_heap (i := j) Q6.out
            clear hB7
            go_wp2_with fail
            refine hK.out _ _ (KB.out _ HB7.out) (fun hHeld => ?_)
            clear hK K
            try simp only [Act.put, List.setIfInBounds_toArray, List.set_cons_zero, List.set_cons_succ]
            refine tk_at (i := 9) (d := some 50) (v := ?_) rfl rfl (by kernel_rfl) (by kernel_rfl) (by kernel_rfl) (fun _ _ _ h => h) (Or.inl ⟨by rfl, ?_⟩) (by assumption) ?_
            rotate_left
            · (intro w hSw; (try dsimp only at hSw); go_simp; try (with_reducible rfl))
            simp only [Act.put, List.setIfInBounds_toArray, List.set_cons_zero, List.set_cons_succ]
            refine wpAnyH_ready (rs := [10]) (by kernel_rfl) (by simp) ?_
            refine AllReadyH.cons rfl (fun K hK => ?_) AllReadyH.nil
            go_simp
            go_wp2_with fail
            refine hK.out _ _ (cell_sb ((Below.heap_setCell _ _ _ _ (by show z ≠ w.heap.size + 1 + 1 + 1 + 1 + 1 + 1; have := HZN.out; omega)).trans (hpB HB7.out HH.out.2.2.2.2.2.2))) (fun hHeld => ?_)
            clear hK K
            try simp only [Act.put, List.setIfInBounds_toArray, List.set_cons_zero, List.set_cons_succ]
            refine wpAnyH_done (by kernel_rfl) ?_ _
            clear hHeld
            have HS6 := hid (heap_setCell_at _ _ j _ _ _ (.int .u32 (gat u yes v : Nat)) Q6.out)
            rw [HST.out] at HS6
            clear q6 g6 c6 f6 kz hyc
            go_wp2
            go_roundw
            case rel =>
              have ho : ∀ q, q ≠ w.heap.size + 1 + 1 + 1 + 1 + 1 + 1 → (w7.setCell ⟨w.heap.size + 1 + 1 + 1 + 1 + 1 + 1, j, none⟩ (.int .u32 (gat u yes v : Nat))).heap[q]? = w7.heap[q]? := fun q hq => Below.heap_setCell _ _ _ _ hq
              exact ⟨j + 1, by omega, by go_num, blw_set _ (belowCat HH.out.1 HB7.out) (by show w.heap.size ≤ w.heap.size + 1 + 1 + 1 + 1 + 1 + 1; omega), (ho _ (by omega)).trans (hpB HB7.out HH.out.2.1), (ho _ (by omega)).trans (hpB HB7.out HH.out.2.2.1), (ho _ (by omega)).trans (hpB HB7.out HH.out.2.2.2.1), (ho _ (by omega)).trans (hpB HB7.out HH.out.2.2.2.2.1), HS6.out, (ho _ (by have := HZN.out; omega)).trans (hpB HB7.out HH.out.2.2.2.2.2.2)⟩
            case measure => simp [intOf]; omega
          · have hjR : j = R := by omega
            have HF := hid (HFA.out k)
            rw [HRE.out, ← hjR] at HF
            rw [HF.out] at HH
            clear hB hb0 hb1 hb2 hb4 hb6 hbz
            go_wp2
            rw [HX.out]
            go_roundw
            case rel => exact ⟨k + 1, by omega, by go_num, HH.out.1, HH.out.2.1, HH.out.2.2.1, HH.out.2.2.2.1, HH.out.2.2.2.2.1, HH.out.2.2.2.2.2.1⟩
            case measure => simp [intOf]; omega
    · have hke : k = t.ks.length := by omega
      subst hke
      have q4 := cell_sb hb4
      have q2 := cell_sb hb2
      have f2 := frozen_of_heap (i := 0) hb2
      clear hB hb0 hb1 hb2 hb4 hb6
      go_wp2_with fail
      go_region_held3 (fun w' => w'.cell? ⟨w.heap.size + 1 + 1 + 1 + 1, 0, none⟩ = some (.int .u32 (mk (fdM t key t.ks.length) : Nat))) (go_keep) (fail)
      go_wp2
      have hs := heap_setCell_at _ _ 0 _ _ _ (.int .u32 (mk (fdM t key t.ks.length) : Nat)) HH.out.2.2.2.1
      have d2 := cell_of_heap (i := 0) hs rfl
      exact bodyPost_ret (v := .tuple #[.slice (some ⟨w.heap.size + 1 + 1 + 1 + 1 + 1 + 1, 0, none⟩) W W, sec (mk (fdM t key t.ks.length) : Nat)]) (by simp only [results, Try.results7]; simp [go_sem, d2]) rfl ⟨_, rfl, by omega, (Below.heap_setCell _ _ _ _ (by show w.heap.size + 1 + 1 + 1 + 1 + 1 + 1 ≠ w.heap.size + 1 + 1; omega)).trans HH.out.2.2.2.2.2, blw_drew (blw_set _ HH.out.1 (by show w.heap.size ≤ w.heap.size + 1 + 1; omega))⟩
end Go.Proofs.Ytajkjlnhongjfaa
