/- The contracts of seek.Map and of the document's Map, over this seat's translation. Conditions: the words' bounds; at most a thousand million runs. -/
import Derived.Test.YtajkjlnhongjfaaSkK
namespace Go.Proofs.Ytajkjlnhongjfaa
open Go.RowKit

def mpT (l : List Rn) (x k : Nat) : Nat := (l.take k).foldl (fun u r => if r.s.has x then addW x (subW r.t r.s.f) else u) x
def mpM (l : List Rn) (x k : Nat) : Bool := (l.take k).any (·.s.has x)
theorem mpT_succ (l : List Rn) (x k : Nat) (h : k < l.length) : mpT l x (k + 1) = if l[k].s.has x then addW x (subW l[k].t l[k].s.f) else mpT l x k := by
  unfold mpT; rw [List.take_succ_eq_append_getElem h, List.foldl_append]; rfl
theorem mpM_succ (l : List Rn) (x k : Nat) (h : k < l.length) : mpM l x (k + 1) = (mpM l x k || l[k].s.has x) := by
  unfold mpM; rw [List.take_succ_eq_append_getElem h, List.any_append]; simp
theorem mpT_lt (l : List Rn) (x : Nat) (hx : x < 4294967296) (k : Nat) (h : k ≤ l.length) : mpT l x k < 4294967296 := by
  induction k with
  | zero => exact hx
  | succ k ih => rw [mpT_succ l x k h]; split; exact addW_lt _ _; exact ih (by omega)
theorem sel_mp (b : Bool) (u v : Nat) (hu : u < 4294967296) (hv : v < 4294967296) : selW (mk b) u v = if b then u else v := by
  cases b
  · rw [selW_no _ _ hv]; rfl
  · rw [selW_yes _ _ hu]; rfl
abbrev rnO (r : Rn) : Obj := .cells #[.int .u32 (r.s.f : Int), .int .u32 (r.s.l : Int), .int .u32 (r.t : Int)] 46 (0, 0)
theorem sub_w (a b : Nat) (ha : a < 4294967296) (hb : b < 4294967296) : ((a : Int) - (b : Int)) % 4294967296 = ((subW a b : Nat) : Int) := sub_form a b ha hb

set_option maxHeartbeats 3200000 in
theorem map_any (x cap : Nat) (ad : Option Addr) (l : List Rn) (w : World) (hx : x < 4294967296) (hl : RnsAt w ad l) (hn : l.length ≤ 1000000000) :
    Calls Try.prog 12 #[.slice ad l.length cap, sec x] w fun e w' => e = .returned (.tuple #[sec (mpT l x l.length : Nat), sec (mk (mpM l x l.length) : Nat)]) ∧ Below w.heap.size w w' := by
  have HL := hid hl
  have HT := hid (mpT_lt l x hx)
  clear hl
  go_enter Try.func12, Try.ntmps12
  go_wp2_with fail
  have H0 := hid (show (((w.alloc (sb x)).alloc (sb 0)).alloc (sb 0)).heap[w.heap.size]? = some (sb x) from (by simp only [hp_get, World.size_alloc]; repeat (first | rw [if_pos trivial] | rw [if_pos rfl] | rw [if_neg (by omega)])))
  have H1 := hid (show (((w.alloc (sb x)).alloc (sb 0)).alloc (sb 0)).heap[w.heap.size + 1]? = some (sb 0) from (by simp only [hp_get, World.size_alloc]; repeat (first | rw [if_pos trivial] | rw [if_pos rfl] | rw [if_neg (by omega)])))
  have H2 := hid (show (((w.alloc (sb x)).alloc (sb 0)).alloc (sb 0)).heap[w.heap.size + 1 + 1]? = some (sb 0) from (by simp only [hp_get, World.size_alloc]; repeat (first | rw [if_pos trivial] | rw [if_pos rfl] | rw [if_neg (by omega)])))
  have HB := hid (show Below w.heap.size w (((w.alloc (sb x)).alloc (sb 0)).alloc (sb 0)) from (by repeat (first | exact Below.refl _ _ | refine blw_alloc ?_ | refine blw_drew ?_ | assumption)))
  generalize ((w.alloc (sb x)).alloc (sb 0)).alloc (sb 0) = w1 at *
  have KB := hid (show ∀ w' : World, Below w1.heap.size w1 w' → w'.cell? ⟨w.heap.size, 0, none⟩ = some (.int .u32 (x : Int)) from fun w' hb => cell_sb (hpB hb H0.out))
  go_cut [6, 7] from 11 to 40 (fun p q wx => ∃ z z', z ≠ z' ∧ w1.heap.size ≤ z ∧ w1.heap.size ≤ z' ∧ p = .pointer (some ⟨z, 0, none⟩) ∧ q = .pointer (some ⟨z', 0, none⟩) ∧ wx.heap[z]? = some (sb x) ∧ wx.heap[z']? = some (sb 0) ∧ Below w1.heap.size w1 wx)
  case first =>
    go_region_held3 (fun w' => w'.cell? ⟨w.heap.size, 0, none⟩ = some (.int .u32 (x : Int)))
      (first | (refine KB.out _ ?_; (repeat (first | with_reducible exact Below.refl _ _ | with_reducible refine blw_alloc ?_ | with_reducible refine blw_drew ?_)); done) | (go_keep))
      (first | (go_at_call 8; refine (of_any _ _).mono ?_; rintro e w' ⟨rfl, rfl⟩))
    all_goals
      go_wp2_with fail
      go_meet
      case rel => exact ⟨_, _, (by omega), (by omega), (by omega), rfl, rfl, (by simp only [hp_get, hp_drew, World.size_alloc]; repeat (first | rw [if_pos trivial] | rw [if_pos rfl] | rw [if_neg (by omega)])), (by simp only [hp_get, hp_drew, World.size_alloc]; repeat (first | rw [if_pos trivial] | rw [if_pos rfl] | rw [if_neg (by omega)])), (by repeat (first | with_reducible exact Below.refl _ _ | with_reducible refine blw_alloc ?_ | with_reducible refine blw_drew ?_))⟩
  case rest =>
    obtain ⟨z, z', hzz, hz, hz', rfl, rfl, hbz, hbz', hBc⟩ := hcut
    have HZZ := hid (And.intro hzz (And.intro (show w.heap.size + 1 + 1 < z by have := lt_of_heap H2.out; omega) (show w.heap.size + 1 + 1 < z' by have := lt_of_heap H2.out; omega)))
    have HW := hid (And.intro (belowCat HB.out hBc) (And.intro (hpB hBc H0.out) (And.intro (hpB hBc H1.out) (And.intro (hpB hBc H2.out) (And.intro hbz hbz')))))
    clear hzz hz hz' hbz hbz' hBc KB H0 H1 H2 HB
    go_wp2_with fail
    go_loopw [15] (fun c wr => ∃ k : Nat, k ≤ l.length ∧ c = .int .i64 (k : Int) ∧ Below w.heap.size w wr ∧ wr.heap[w.heap.size]? = some (sb x) ∧ wr.heap[w.heap.size + 1]? = some (sb 0) ∧ wr.heap[w.heap.size + 1 + 1]? = some (sb 0) ∧ wr.heap[z]? = some (sb (mpT l x k : Nat)) ∧ wr.heap[z']? = some (sb (mk (mpM l x k) : Nat))) (fun c _ => l.length - (intOf c).toNat)
    case atStart => exact ⟨0, Nat.zero_le _, rfl, HW.out⟩
    case round =>
      obtain ⟨k, hk, rfl, hh⟩ := hrel
      have HH := hid hh
      by_cases hlt : k < l.length
      · obtain ⟨y, rfl, hp⟩ := (HL.out.below hh.1).2 k hlt
        have HOK := hid (HL.out.1 _ (List.getElem_mem hlt))
        have HMS := hid (mpM_succ l x k hlt)
        have HTS := hid (mpT_succ l x k hlt)
        have HTK := hid (HT.out k hk)
        obtain ⟨r, hre⟩ : ∃ r, l[k] = r := ⟨_, rfl⟩
        rw [hre] at hp HOK HMS HTS
        obtain ⟨c0, c1, c2⟩ := hp
        have kx := cell_sb hh.2.1
        have hlx := lt_of_heap hh.2.1
        clear hh hre
        go_wp2_with fail
        have HD := hid (heap_alloc_at wr (rnO r))
        have HBA := hid ((Below.refl wr.heap.size wr).alloc (Nat.le_refl _) (rnO r))
        refine (within_any r.s x _ HOK.out.1.1 HOK.out.1.2 hx).mono ?_
        rintro e w3 ⟨rfl, hB3⟩
        have HB3 := hid (belowCat HBA.out hB3)
        have HD3 := hid (hpB hB3 HD.out)
        have HDL := hid (show ∀ g o, wr.heap[g]? = some o → g ≠ wr.heap.size from fun g o h => by have := lt_of_heap h; omega)
        obtain ⟨yes, hyes⟩ : ∃ yes, r.s.has x = yes := ⟨_, rfl⟩
        rw [hyes] at HMS HTS
        rw [hyes]
        obtain ⟨d, hd⟩ : ∃ d, wr.heap.size = d := ⟨_, rfl⟩
        have HDD := hid hd
        rw [hd] at HD3 HDL ⊢
        clear hB3 hyes c0 c1 c2 kx hlx HD HBA hd
        go_wp2_with fail
        have HYN := hid (show ∀ g o, wr.heap[g]? = some o → g ≠ w3.heap.size from fun g o h => by have := lt_of_heap (hpB HB3.out h); omega)
        have HDY := hid (show d ≠ w3.heap.size from by have := lt_of_heap HD3.out; omega)
        have HY4 := hid (heap_alloc_at w3 (sb (mk yes : Nat)))
        have HB4 := hid (belowCat HB3.out ((Below.refl w3.heap.size w3).alloc (Nat.le_refl _) (sb (mk yes : Nat))))
        have HD4 := hid ((heap_alloc_old w3 (sb (mk yes : Nat)) _ (lt_of_heap HD3.out)).trans HD3.out)
        obtain ⟨yb, hyb⟩ : ∃ yb, w3.heap.size = yb := ⟨_, rfl⟩
        rw [hyb] at HY4 HYN HDY ⊢
        generalize w3.alloc (sb (mk yes : Nat)) = w4 at *
        have H4 := hid (And.intro (belowCat HH.out.1 HB4.out) (And.intro (hpB HB4.out HH.out.2.1) (And.intro (hpB HB4.out HH.out.2.2.1) (And.intro (hpB HB4.out HH.out.2.2.2.1) (And.intro (hpB HB4.out HH.out.2.2.2.2.1) (hpB HB4.out HH.out.2.2.2.2.2))))))
        have HN := hid (show yb ≠ z ∧ yb ≠ z' ∧ d ≠ z from ⟨(HYN.out _ _ HH.out.2.2.2.2.1).symm, (HYN.out _ _ HH.out.2.2.2.2.2).symm, (HDL.out _ _ HH.out.2.2.2.2.1).symm⟩)
        have KB := hid (show ∀ w' : World, Fr (fun i => i = z) w4 w' → w'.cell? ⟨w.heap.size, 0, none⟩ = some (.int .u32 (x : Int)) ∧ w'.cell? ⟨d, 0, none⟩ = some (.int .u32 (r.s.f : Int)) ∧ w'.cell? ⟨d, 2, none⟩ = some (.int .u32 (r.t : Int)) ∧ w'.cell? ⟨yb, 0, none⟩ = some (.int .u32 (mk yes : Nat)) from fun w' hf =>
          ⟨cell_sb (hf.hp H4.out.2.1 (by have := HZZ.out.2.1; omega)), (cell_wt (hf.hp HD4.out HN.out.2.2)).1, (cell_wt (hf.hp HD4.out HN.out.2.2)).2.2, cell_sb (hf.hp HY4.out HN.out.1)⟩)
        have HOF := hid (show ∀ w : World, Calls Try.prog 8 #[.int .u32 (IntKind.u32.wrap ((r.t : Int) - (r.s.f : Int)))] w fun e w' => e = .returned (sec (subW r.t r.s.f : Nat)) ∧ Below w.heap.size w w' from fun w => (of_b _ w).mono fun e w' ⟨he, hb⟩ => ⟨by rw [he, IntKind.wrap_u32, sub_w r.t r.s.f HOK.out.2 HOK.out.1.1], hb⟩)
        have HSL := hid (sel_mp yes (addW x (subW r.t r.s.f)) (mpT l x k) (addW_lt _ _) HTK.out)
        clear HB3 HB4 HD3 HYN HDL hyb HH HDD HDY
        refine wp_region_held_drew (S := (fun w' => w'.cell? ⟨w.heap.size, 0, none⟩ = some (.int .u32 (x : Int)) ∧ w'.cell? ⟨d, 0, none⟩ = some (.int .u32 (r.s.f : Int)) ∧ w'.cell? ⟨d, 2, none⟩ = some (.int .u32 (r.t : Int)) ∧ w'.cell? ⟨yb, 0, none⟩ = some (.int .u32 (mk yes : Nat)))) (by kernel_rfl) (KB.out _ (Fr.refl _ _).drew) (fun hHeld => ?_)
        refine tk_at (i := 0) (d := some 23) (v := ?_) rfl rfl (by kernel_rfl) (by kernel_rfl) (by kernel_rfl) (fun _ _ _ h => h) (Or.inl ⟨by rfl, ?_⟩) (by assumption) ?_
        rotate_left
        · (intro w hSw; (try dsimp only at hSw); go_simp; try (with_reducible rfl))
        simp only [Act.put, List.setIfInBounds_toArray, List.set_cons_zero, List.set_cons_succ]
        refine tk_at (i := 1) (d := some 24) (v := ?_) rfl rfl (by kernel_rfl) (by kernel_rfl) (by kernel_rfl) (fun _ _ _ h => h) (Or.inl ⟨by rfl, ?_⟩) (by assumption) ?_
        rotate_left
        · (intro w hSw; (try dsimp only at hSw); go_simp; try (with_reducible rfl))
        simp only [Act.put, List.setIfInBounds_toArray, List.set_cons_zero, List.set_cons_succ]
        refine tk_at (i := 2) (d := some 25) (v := ?_) rfl rfl (by kernel_rfl) (by kernel_rfl) (by kernel_rfl) (fun _ _ _ h => h) (Or.inl ⟨by rfl, ?_⟩) (by assumption) ?_
        rotate_left
        · (intro w hSw; (try dsimp only at hSw); go_simp; try (with_reducible rfl))
        simp only [Act.put, List.setIfInBounds_toArray, List.set_cons_zero, List.set_cons_succ]
        refine tk_at (i := 3) (d := some 26) (v := ?_) rfl rfl (by kernel_rfl) (by kernel_rfl) (by kernel_rfl) (fun _ _ _ h => h) (Or.inl ⟨by rfl, ?_⟩) (by assumption) ?_
        rotate_left
        · (intro w hSw; (try dsimp only at hSw); go_simp; try (with_reducible rfl))
        simp only [Act.put, List.setIfInBounds_toArray, List.set_cons_zero, List.set_cons_succ]
        refine tk_at (i := 4) (d := some 27) (v := ?_) rfl rfl (by kernel_rfl) (by kernel_rfl) (by kernel_rfl) (fun _ _ _ h => h) (Or.inl ⟨by rfl, ?_⟩) (by assumption) ?_
        rotate_left
        · (intro w hSw; (try dsimp only at hSw); go_simp; try (with_reducible rfl))
        simp only [Act.put, List.setIfInBounds_toArray, List.set_cons_zero, List.set_cons_succ]
        refine tk_at (i := 5) (d := some 28) (v := ?_) rfl rfl (by kernel_rfl) (by kernel_rfl) (by kernel_rfl) (fun _ _ _ h => h) (Or.inl ⟨by rfl, ?_⟩) (by assumption) ?_
        rotate_left
        · (intro w hSw; (try dsimp only at hSw); go_simp; try (with_reducible rfl))
        simp only [Act.put, List.setIfInBounds_toArray, List.set_cons_zero, List.set_cons_succ]
        refine tk_at (i := 6) (d := some 29) (v := ?_) rfl rfl (by kernel_rfl) (by kernel_rfl) (by kernel_rfl) (fun _ _ _ h => h) (Or.inl ⟨by rfl, ?_⟩) (by assumption) ?_
        rotate_left
        · (intro w hSw; (try dsimp only at hSw); go_simp; try (with_reducible rfl))
        simp only [Act.put, List.setIfInBounds_toArray, List.set_cons_zero, List.set_cons_succ]
        refine tk_at (i := 7) (d := some 30) (v := ?_) rfl rfl (by kernel_rfl) (by kernel_rfl) (by kernel_rfl) (fun _ _ _ h => h) (Or.inl ⟨by rfl, ?_⟩) (by assumption) ?_
        rotate_left
        · (intro w hSw; (try dsimp only at hSw); go_simp; try (with_reducible rfl))
        simp only [Act.put, List.setIfInBounds_toArray, List.set_cons_zero, List.set_cons_succ]
        clear hHeld
        refine wpAnyH_inv0 (fun aC0 lsC aC wC => ∃ (b8 b9 b10 b11 b12 : Bool) (x31 x32 x33 x34 : Value), lsC = #[true, true, true, true, true, true, true, true, b8, b9, b10, b11, b12] ∧ aC = { aC0 with tmps := ((((aC0.tmps.setIfInBounds 31 x31).setIfInBounds 32 x32).setIfInBounds 33 x33).setIfInBounds 34 x34) } ∧ (b8 = true → x31 = sec (subW r.t r.s.f : Nat)) ∧ (b9 = true → x32 = sec (addW x (subW r.t r.s.f) : Nat)) ∧ (b10 = true → x33 = sec (mpT l x k : Nat)) ∧ (b11 = true → x34 = sec (mpT l x (k + 1) : Nat)) ∧ Fr (fun i => i = z) w4 wC ∧ wC.heap[z]? = some (.cells #[.int .u32 (if b12 then ((mpT l x (k + 1) : Nat) : Int) else ((mpT l x k : Nat) : Int))] 31 (0, 0)) ∧ (b10 || !b12) = true ∧ True) ?_ _ _ _ (by decide +kernel) (fun aS => ⟨false, false, false, false, false, aS.tmps.getD 31 undef, aS.tmps.getD 32 undef, aS.tmps.getD 33 undef, aS.tmps.getD 34 undef, by kernel_rfl, by simp only [set_self], fun h => (by cases h), fun h => (by cases h), fun h => (by cases h), fun h => (by cases h), (Fr.refl _ _).drew, H4.out.2.2.2.2.1, rfl, trivial⟩)
        intro lsC aC wC ⟨b8, b9, b10, b11, b12, x31, x32, x33, x34, hl, ha, hx31, hx32, hx33, hx34, hfr, how, hcc⟩
        subst hl ha
        have Hx31 := hid hx31
        have Hx32 := hid hx32
        have Hx33 := hid hx33
        have Hx34 := hid hx34
        have HFR := hid hfr
        have HOW := hid how
        have HCC := hid hcc
        clear hx31 hx32 hx33 hx34 hfr how hcc
        simp only [List.setIfInBounds_toArray, List.set_cons_zero, List.set_cons_succ]
        refine ⟨fun hr => ?_, fun i hi => ?_⟩
        rotate_left
        · have hcase : (i = 8 ∧ b8 = false) ∨ (i = 9 ∧ b9 = false ∧ b8 = true) ∨ (i = 10 ∧ b10 = false) ∨ (i = 11 ∧ b11 = false ∧ b9 = true ∧ b10 = true) ∨ (i = 12 ∧ b12 = false ∧ b10 = true ∧ b11 = true) := by
            refine of_decide_eq_true ((List.all_eq_true (p := fun i => decide ((i = 8 ∧ b8 = false) ∨ (i = 9 ∧ b9 = false ∧ b8 = true) ∨ (i = 10 ∧ b10 = false) ∨ (i = 11 ∧ b11 = false ∧ b9 = true ∧ b10 = true) ∨ (i = 12 ∧ b12 = false ∧ b10 = true ∧ b11 = true)))).1 ?_ i hi)
            clear Hx31 Hx32 Hx33 Hx34 HFR HOW HCC hi
            revert b8 b9 b10 b11 b12
            decide +kernel
          clear hi
          rcases hcase with ⟨rfl, rfl⟩ | ⟨rfl, rfl, rfl⟩ | ⟨rfl, rfl⟩ | ⟨rfl, rfl, rfl, rfl⟩ | ⟨rfl, rfl, rfl, rfl⟩
          · refine wpOp_shut rfl (fun K hK => ?_)
            go_simp
            refine (HOF.out _).mono ?_
            rintro e wa ⟨rfl, hBa⟩
            have HBa := hid hBa
            clear hBa
            go_wp2_with fail
            have hF3 := HFR.out.trans (Fr.ofBelow (S := fun _ => False) HBa.out) (fun _ _ x => x.elim)
            exact hK.out _ _ ⟨KB.out _ hF3, true, b9, b10, b11, b12, _, _, _, _, by kernel_rfl, rfl, fun _ => rfl, Hx32.out, Hx33.out, Hx34.out, hF3, (hpB HBa.out HOW.out), HCC.out⟩
          · obtain rfl := Hx31.out rfl
            refine wpOp_shut rfl (fun K hK => ?_)
            go_simp
            refine (add_b x (subW r.t r.s.f) _ hx (subW_lt _ _)).mono ?_
            rintro e wa ⟨rfl, hBa⟩
            have HBa := hid hBa
            clear hBa
            go_wp2_with fail
            have hF3 := HFR.out.trans (Fr.ofBelow (S := fun _ => False) HBa.out) (fun _ _ x => x.elim)
            exact hK.out _ _ ⟨KB.out _ hF3, true, true, b10, b11, b12, _, _, _, _, by kernel_rfl, rfl, fun _ => rfl, fun _ => rfl, Hx33.out, Hx34.out, hF3, (hpB HBa.out HOW.out), HCC.out⟩
          · obtain rfl : b12 = false := by have := HCC.out.1; revert this; cases b12 <;> simp
            have c0 : wC.cell? ⟨z, 0, none⟩ = some (.int .u32 ((mpT l x k : Nat) : Int)) := cell_of_heap HOW.out rfl
            refine wpOp_shut rfl (fun K hK => ?_)
            go_simp
            go_wp2_with fail
            exact hK.out _ _ ⟨KB.out _ HFR.out, b8, b9, true, b11, false, _, _, _, _, by kernel_rfl, rfl, Hx31.out, Hx32.out, fun _ => rfl, Hx34.out, HFR.out, HOW.out, ⟨(by first | rfl | exact Bool.or_true _ | simp), trivial⟩⟩
          · obtain rfl := Hx32.out rfl
            obtain rfl := Hx33.out rfl
            refine wpOp_shut rfl (fun K hK => ?_)
            go_simp
            refine (sel_b (mk yes) (addW x (subW r.t r.s.f)) (mpT l x k) _ (mk_lt _) (addW_lt _ _) HTK.out).mono ?_
            rintro e wa ⟨rfl, hBa⟩
            rw [HSL.out, ← HTS.out]
            have HBa := hid hBa
            clear hBa
            go_wp2_with fail
            have hF3 := HFR.out.trans (Fr.ofBelow (S := fun _ => False) HBa.out) (fun _ _ x => x.elim)
            exact hK.out _ _ ⟨KB.out _ hF3, b8, true, true, true, b12, _, _, _, _, by kernel_rfl, rfl, Hx31.out, fun _ => rfl, fun _ => rfl, fun _ => rfl, hF3, (hpB HBa.out HOW.out), HCC.out⟩
          · obtain rfl := Hx34.out rfl
            have c0 := cell_of_heap (i := 0) HOW.out rfl
            have g0 := frozen_of_heap (i := 0) HOW.out
            refine wpOp_shut rfl (fun K hK => ?_)
            go_simp
            go_wp2_with fail
            have hF3 := HFR.out.setCell (p := ⟨z, 0, none⟩) (.int .u32 ((mpT l x (k + 1) : Nat) : Int)) (fun _ => rfl)
            exact hK.out _ _ ⟨KB.out _ hF3, b8, b9, true, true, true, _, _, _, _, by kernel_rfl, rfl, Hx31.out, Hx32.out, (fun _ => Hx33.out (by first | rfl | trivial)), fun _ => rfl, hF3, (heap_setCell_at _ _ 0 _ _ _ _ HOW.out), ⟨rfl, trivial⟩⟩
        have hall : (b8 && b9 && b10 && b11 && b12) = true := by
          clear Hx31 Hx32 Hx33 Hx34 HFR HOW HCC
          revert b8 b9 b10 b11 b12
          decide +kernel
        simp only [Bool.and_eq_true] at hall
        obtain ⟨⟨⟨⟨rfl, rfl⟩, rfl⟩, rfl⟩, rfl⟩ := hall
        obtain rfl := Hx31.out rfl
        obtain rfl := Hx32.out rfl
        obtain rfl := Hx33.out rfl
        obtain rfl := Hx34.out rfl
        have HR := hid (And.intro (show wC.heap[z]? = some (sb ((mpT l x (k + 1) : Nat) : Int)) from HOW.out) HFR.out)
        clear Hx31 Hx32 Hx33 Hx34 HFR HOW HCC hr
        have H5 := hid (And.intro (belowCat' H4.out.1 HR.out.2 (by have := HZZ.out.2.1; omega)) (And.intro (HR.out.2.hp H4.out.2.1 (by have := HZZ.out.2.1; omega)) (And.intro (HR.out.2.hp H4.out.2.2.1 (by have := HZZ.out.2.1; omega)) (And.intro (HR.out.2.hp H4.out.2.2.2.1 (by have := HZZ.out.2.1; omega)) (And.intro HR.out.1 (HR.out.2.hp H4.out.2.2.2.2.2 HZZ.out.1.symm))))))
        have kz := cell_sb H5.out.2.2.2.2.2
        have ky := cell_sb (HR.out.2.hp HY4.out HN.out.1)
        clear H4 HY4 HD4 HR KB HOF HSL
        go_wp2_with fail
        refine (or_b (mk (mpM l x k)) (mk yes) _ (mk_lt _) (mk_lt _)).mono ?_
        rw [or_mk, ← HMS.out]
        rintro e w6 ⟨rfl, hB6⟩
        have H6 := hid (And.intro (belowCat H5.out.1 hB6) (And.intro (hpB hB6 H5.out.2.1) (And.intro (hpB hB6 H5.out.2.2.1) (And.intro (hpB hB6 H5.out.2.2.2.1) (And.intro (hpB hB6 H5.out.2.2.2.2.1) (hpB hB6 H5.out.2.2.2.2.2))))))
        have q7 := cell_sb H6.out.2.2.2.2.2
        have f7 := frozen_of_heap (i := 0) H6.out.2.2.2.2.2
        clear kz ky hB6 H5
        go_wp2
        go_roundw
        case rel =>
          have hs := heap_setCell_at _ _ 0 _ _ _ (.int .u32 (mk (mpM l x (k + 1)) : Nat)) H6.out.2.2.2.2.2
          have ho : ∀ q, q ≠ z' → (w6.setCell ⟨z', 0, none⟩ (.int .u32 (mk (mpM l x (k + 1)) : Nat))).heap[q]? = w6.heap[q]? := fun q hq => Below.heap_setCell _ _ _ _ hq
          have hz' := HZZ.out.2.2
          exact ⟨k + 1, by omega, by go_num, blw_set _ H6.out.1 (by show w.heap.size ≤ z'; omega), (ho _ (by omega)).trans H6.out.2.1, (ho _ (by omega)).trans H6.out.2.2.1, (ho _ (by omega)).trans H6.out.2.2.2.1, (ho _ HZZ.out.1).trans H6.out.2.2.2.2.1, hs⟩
        case measure => simp [intOf]; omega
      · have hke : k = l.length := by omega
        subst hke
        have c6 := cell_sb hh.2.2.2.2.1
        have c7 := cell_sb hh.2.2.2.2.2
        have c1 := cell_sb hh.2.2.1
        have c2 := cell_sb hh.2.2.2.1
        have f1 := frozen_of_heap (i := 0) hh.2.2.1
        have f2 := frozen_of_heap (i := 0) hh.2.2.2.1
        have n1 : z ≠ w.heap.size + 1 := by have := HZZ.out.2.1; omega
        have n2 : z ≠ w.heap.size + 1 + 1 := by have := HZZ.out.2.1; omega
        have n3 : z' ≠ w.heap.size + 1 := by have := HZZ.out.2.2; omega
        have n4 : z' ≠ w.heap.size + 1 + 1 := by have := HZZ.out.2.2; omega
        have KS := hid (show ∀ w' : World, (w'.heap[z]? = wr.heap[z]?) → (w'.heap[z']? = wr.heap[z']?) → w'.cell? ⟨z, 0, none⟩ = some (.int .u32 (mpT l x l.length : Nat)) ∧ w'.cell? ⟨z', 0, none⟩ = some (.int .u32 (mk (mpM l x l.length) : Nat)) from fun w' h1 h2 => ⟨cell_sb (h1.trans HH.out.2.2.2.2.1), cell_sb (h2.trans HH.out.2.2.2.2.2)⟩)
        clear hh
        go_wp2_with fail
        go_region_held3 (fun w' => w'.cell? ⟨z, 0, none⟩ = some (.int .u32 (mpT l x l.length : Nat)) ∧ w'.cell? ⟨z', 0, none⟩ = some (.int .u32 (mk (mpM l x l.length) : Nat))) (first | (exact KS.out _ rfl rfl) | (exact KS.out _ (Below.heap_setCell _ _ _ _ n1) (Below.heap_setCell _ _ _ _ n3)) | (exact KS.out _ ((Below.heap_setCell _ _ _ _ n2).trans (Below.heap_setCell _ _ _ _ n1)) ((Below.heap_setCell _ _ _ _ n4).trans (Below.heap_setCell _ _ _ _ n3))) | (go_keep)) (fail)
        go_wp2
        obtain ⟨d2, d3⟩ := two_set (mpT l x l.length : Nat) (mk (mpM l x l.length) : Nat) HH.out.2.2.1 HH.out.2.2.2.1 (by omega)
        exact bodyPost_ret (v := .tuple #[sec (mpT l x l.length : Nat), sec (mk (mpM l x l.length) : Nat)]) (by simp only [results, Try.results12]; simp [go_sem, d2, d3]) rfl ⟨rfl, blw_drew (blw_set _ (blw_set _ HH.out.1 (by show w.heap.size ≤ w.heap.size + 1; omega)) (by show w.heap.size ≤ w.heap.size + 1 + 1; omega))⟩
end Go.Proofs.Ytajkjlnhongjfaa
