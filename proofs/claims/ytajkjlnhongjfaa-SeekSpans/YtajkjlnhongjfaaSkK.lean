/- The contracts of seek.Class and of the document's Class, over this seat's translation. Conditions: the words' bounds; at most a thousand million spans. -/
import Derived.Test.YtajkjlnhongjfaaSkF
namespace Go.Proofs.Ytajkjlnhongjfaa
open Go.RowKit

/-- a span and a word -/
structure Rn where
  s : Sp
  t : Nat
def Rn.ok (r : Rn) : Prop := r.s.ok ∧ r.t < 4294967296
def RnAt (w : World) (x : Addr) (r : Rn) : Prop := w.cell? x = some (.int .u32 (r.s.f : Int)) ∧ w.cell? ⟨x.block, x.off + 1, none⟩ = some (.int .u32 (r.s.l : Int)) ∧ w.cell? ⟨x.block, x.off + 2, none⟩ = some (.int .u32 (r.t : Int))
def RnsAt (w : World) (ad : Option Addr) (l : List Rn) : Prop := (∀ r ∈ l, r.ok) ∧ ∀ k (hk : k < l.length), ∃ x, ad = some x ∧ RnAt w (x.add (k * 3)) l[k]
theorem RnsAt.below {w w' : World} {ad : Option Addr} {l : List Rn} (h : RnsAt w ad l) (hb : Below w.heap.size w w') : RnsAt w' ad l := ⟨h.1, fun k hk => by
  obtain ⟨x, h1, h2⟩ := h.2 k hk
  exact ⟨x, h1, blw_cell hb h2.1, blw_cell hb h2.2.1, blw_cell hb h2.2.2⟩⟩
def clT (l : List Rn) (x k : Nat) : Nat := (l.take k).foldl (fun u r => gat u (r.s.has x) r.t) 0
theorem clT_succ (l : List Rn) (x k : Nat) (h : k < l.length) : clT l x (k + 1) = gat (clT l x k) (l[k].s.has x) l[k].t := by
  unfold clT; rw [List.take_succ_eq_append_getElem h, List.foldl_append]; rfl
theorem clT_lt (l : List Rn) (x : Nat) (hl : ∀ r ∈ l, r.t < 4294967296) (k : Nat) (h : k ≤ l.length) : clT l x k < 4294967296 := by
  induction k with
  | zero => simp [clT]
  | succ k ih => rw [clT_succ l x k h]; exact gat_lt (ih (by omega)) (hl _ (List.getElem_mem _))
abbrev wtO (r : Rn) : Obj := .cells #[.int .u32 (r.s.f : Int), .int .u32 (r.s.l : Int), .int .u32 (r.t : Int)] 48 (0, 0)
theorem cell_wt {w : World} {g : Nat} {r : Rn} {t : TypeId} (h : w.heap[g]? = some (.cells #[.int .u32 (r.s.f : Int), .int .u32 (r.s.l : Int), .int .u32 (r.t : Int)] t (0, 0))) : w.cell? ⟨g, 0, none⟩ = some (.int .u32 (r.s.f : Int)) ∧ w.cell? ⟨g, 1, none⟩ = some (.int .u32 (r.s.l : Int)) ∧ w.cell? ⟨g, 2, none⟩ = some (.int .u32 (r.t : Int)) := ⟨cell_of_heap h rfl, cell_of_heap h rfl, cell_of_heap h rfl⟩

set_option maxHeartbeats 3200000 in
theorem class_any (x cap : Nat) (ad : Option Addr) (l : List Rn) (w : World) (hx : x < 4294967296) (hl : RnsAt w ad l) (hn : l.length ≤ 1000000000) :
    Calls Try.prog 16 #[.slice ad l.length cap, sec x] w fun e w' => e = .returned (sec (clT l x l.length : Nat)) ∧ Below w.heap.size w w' := by
  have HL := hid hl
  have HT := hid (clT_lt l x (fun r hr => (hl.1 r hr).2))
  clear hl
  go_enter Try.func16, Try.ntmps16
  go_wp2_with (go_at_call 8; refine (of_any _ _).mono ?_; rintro e w' ⟨rfl, rfl⟩)
  go_loopw [11] (fun c wr => ∃ k : Nat, k ≤ l.length ∧ c = .int .i64 (k : Int) ∧ Below w.heap.size w wr ∧ wr.heap[w.heap.size]? = some (sb x) ∧ wr.heap[w.heap.size + 1]? = some (sb 0) ∧ wr.heap[w.heap.size + 1 + 1 + 1]? = some (sb (clT l x k : Nat))) (fun c _ => l.length - (intOf c).toNat)
  case atStart => exact ⟨0, Nat.zero_le _, rfl, (by repeat (first | exact Below.refl _ _ | refine blw_alloc ?_ | refine blw_drew ?_ | assumption)), (by simp only [hp_get, World.size_alloc]; repeat (first | rw [if_pos trivial] | rw [if_pos rfl] | rw [if_neg (by omega)])), (by simp only [hp_get, World.size_alloc]; repeat (first | rw [if_pos trivial] | rw [if_pos rfl] | rw [if_neg (by omega)])), (show _ = some (sb 0) from (by simp only [hp_get, World.size_alloc]; repeat (first | rw [if_pos trivial] | rw [if_pos rfl] | rw [if_neg (by omega)])))⟩
  case round =>
    obtain ⟨k, hk, rfl, hB, hb0, hb1, hb3⟩ := hrel
    have HH := hid (And.intro hB (And.intro hb0 (And.intro hb1 hb3)))
    by_cases hlt : k < l.length
    · obtain ⟨y, rfl, hp⟩ := (HL.out.below hB).2 k hlt
      have HOK := hid (HL.out.1 _ (List.getElem_mem hlt))
      have HMS := hid (clT_succ l x k hlt)
      have HTK := hid (HT.out k hk)
      obtain ⟨r, hre⟩ : ∃ r, l[k] = r := ⟨_, rfl⟩
      rw [hre] at hp HOK HMS
      obtain ⟨c0, c1, c2⟩ := hp
      clear hB hb0 hb1 hb3 hre
      go_wp2_with fail
      have HD := hid (heap_alloc_at wr (wtO r))
      have HBA := hid ((Below.refl wr.heap.size wr).alloc (Nat.le_refl _) (wtO r))
      have HDL := hid (show w.heap.size + 1 + 1 + 1 < wr.heap.size from lt_of_heap HH.out.2.2.2)
      have H2 := hid (show Below w.heap.size w (wr.alloc (wtO r)) ∧ (wr.alloc (wtO r)).heap[w.heap.size]? = some (sb x) ∧ (wr.alloc (wtO r)).heap[w.heap.size + 1]? = some (sb 0) ∧ (wr.alloc (wtO r)).heap[w.heap.size + 1 + 1 + 1]? = some (sb (clT l x k : Nat)) from
        ⟨belowCat HH.out.1 HBA.out, hpB HBA.out HH.out.2.1, hpB HBA.out HH.out.2.2.1, hpB HBA.out HH.out.2.2.2⟩)
      obtain ⟨d, hd⟩ : ∃ d, wr.heap.size = d := ⟨_, rfl⟩
      rw [hd] at HD HDL ⊢
      clear hd c0 c1 c2 HBA HH
      generalize wr.alloc (wtO r) = w2 at *
      have KB := hid (show ∀ w' : World, Fr (fun i => i = w.heap.size + 1 + 1 + 1) w2 w' → w'.cell? ⟨w.heap.size, 0, none⟩ = some (.int .u32 (x : Int)) ∧ w'.cell? ⟨d, 0, none⟩ = some (.int .u32 (r.s.f : Int)) ∧ w'.cell? ⟨d, 1, none⟩ = some (.int .u32 (r.s.l : Int)) ∧ w'.cell? ⟨d, 2, none⟩ = some (.int .u32 (r.t : Int)) from fun w' hf =>
        ⟨cell_sb (hf.hp H2.out.2.1 (by omega)), cell_wt (hf.hp HD.out (by have := HDL.out; omega))⟩)
      refine wp_region_held_drew (S := (fun w' => w'.cell? ⟨w.heap.size, 0, none⟩ = some (.int .u32 (x : Int)) ∧ w'.cell? ⟨d, 0, none⟩ = some (.int .u32 (r.s.f : Int)) ∧ w'.cell? ⟨d, 1, none⟩ = some (.int .u32 (r.s.l : Int)) ∧ w'.cell? ⟨d, 2, none⟩ = some (.int .u32 (r.t : Int)))) (by kernel_rfl) (KB.out _ (Fr.refl _ _).drew) (fun hHeld => ?_)
      refine tk_at (i := 1) (d := some 16) (v := ?_) rfl rfl (by kernel_rfl) (by kernel_rfl) (by kernel_rfl) (fun _ _ _ h => h) (Or.inl ⟨by rfl, ?_⟩) (by assumption) ?_
      rotate_left
      · (intro w hSw; (try dsimp only at hSw); go_simp; try (with_reducible rfl))
      simp only [Act.put, List.setIfInBounds_toArray, List.set_cons_zero, List.set_cons_succ]
      refine tk_at (i := 2) (d := some 17) (v := ?_) rfl rfl (by kernel_rfl) (by kernel_rfl) (by kernel_rfl) (fun _ _ _ h => h) (Or.inl ⟨by rfl, ?_⟩) (by assumption) ?_
      rotate_left
      · (intro w hSw; (try dsimp only at hSw); go_simp; try (with_reducible rfl))
      simp only [Act.put, List.setIfInBounds_toArray, List.set_cons_zero, List.set_cons_succ]
      refine tk_at (i := 3) (d := some 18) (v := ?_) rfl rfl (by kernel_rfl) (by kernel_rfl) (by kernel_rfl) (fun _ _ _ h => h) (Or.inl ⟨by rfl, ?_⟩) (by assumption) ?_
      rotate_left
      · (intro w hSw; (try dsimp only at hSw); go_simp; try (with_reducible rfl))
      simp only [Act.put, List.setIfInBounds_toArray, List.set_cons_zero, List.set_cons_succ]
      refine tk_at (i := 5) (d := some 20) (v := ?_) rfl rfl (by kernel_rfl) (by kernel_rfl) (by kernel_rfl) (fun _ _ _ h => h) (Or.inl ⟨by rfl, ?_⟩) (by assumption) ?_
      rotate_left
      · (intro w hSw; (try dsimp only at hSw); go_simp; try (with_reducible rfl))
      simp only [Act.put, List.setIfInBounds_toArray, List.set_cons_zero, List.set_cons_succ]
      refine tk_at (i := 6) (d := some 21) (v := ?_) rfl rfl (by kernel_rfl) (by kernel_rfl) (by kernel_rfl) (fun _ _ _ h => h) (Or.inl ⟨by rfl, ?_⟩) (by assumption) ?_
      rotate_left
      · (intro w hSw; (try dsimp only at hSw); go_simp; try (with_reducible rfl))
      simp only [Act.put, List.setIfInBounds_toArray, List.set_cons_zero, List.set_cons_succ]
      clear hHeld
      refine wpAnyH_inv0 (fun aC0 lsC aC wC => ∃ (b0 b4 b7 b8 : Bool) (x15 x19 x22 : Value), lsC = #[b0, true, true, true, b4, true, true, b7, b8] ∧ aC = { aC0 with tmps := (((aC0.tmps.setIfInBounds 15 x15).setIfInBounds 19 x19).setIfInBounds 22 x22) } ∧ (b0 = true → x15 = sec (clT l x k : Nat)) ∧ (b4 = true → x19 = sec (mk (r.s.has x) : Nat)) ∧ (b7 = true → x22 = sec (clT l x (k + 1) : Nat)) ∧ Fr (fun i => i = w.heap.size + 1 + 1 + 1) w2 wC ∧ wC.heap[w.heap.size + 1 + 1 + 1]? = some (.cells #[.int .u32 (if b8 then ((clT l x (k + 1) : Nat) : Int) else ((clT l x k : Nat) : Int))] 31 (0, 0)) ∧ (b0 || !b8) = true ∧ True) ?_ _ _ _ (by decide +kernel) (fun aS => ⟨false, false, false, false, aS.tmps.getD 15 undef, aS.tmps.getD 19 undef, aS.tmps.getD 22 undef, by kernel_rfl, by simp only [set_self], fun h => (by cases h), fun h => (by cases h), fun h => (by cases h), (Fr.refl _ _).drew, H2.out.2.2.2, rfl, trivial⟩)
      intro lsC aC wC ⟨b0, b4, b7, b8, x15, x19, x22, hl, ha, hx15, hx19, hx22, hfr, how, hcc⟩
      subst hl ha
      have Hx15 := hid hx15
      have Hx19 := hid hx19
      have Hx22 := hid hx22
      have HFR := hid hfr
      have HOW := hid how
      have HCC := hid hcc
      clear hx15 hx19 hx22 hfr how hcc
      simp only [List.setIfInBounds_toArray, List.set_cons_zero, List.set_cons_succ]
      refine ⟨fun hr => ?_, fun i hi => ?_⟩
      rotate_left
      · have hcase : (i = 0 ∧ b0 = false) ∨ (i = 4 ∧ b4 = false) ∨ (i = 7 ∧ b7 = false ∧ b0 = true ∧ b4 = true) ∨ (i = 8 ∧ b8 = false ∧ b0 = true ∧ b7 = true) := by
          refine of_decide_eq_true ((List.all_eq_true (p := fun i => decide ((i = 0 ∧ b0 = false) ∨ (i = 4 ∧ b4 = false) ∨ (i = 7 ∧ b7 = false ∧ b0 = true ∧ b4 = true) ∨ (i = 8 ∧ b8 = false ∧ b0 = true ∧ b7 = true)))).1 ?_ i hi)
          clear Hx15 Hx19 Hx22 HFR HOW HCC hi
          revert b0 b4 b7 b8
          decide +kernel
        clear hi
        rcases hcase with ⟨rfl, rfl⟩ | ⟨rfl, rfl⟩ | ⟨rfl, rfl, rfl, rfl⟩ | ⟨rfl, rfl, rfl, rfl⟩
        · obtain rfl : b8 = false := by have := HCC.out.1; revert this; cases b8 <;> simp
          have c0 : wC.cell? ⟨w.heap.size + 1 + 1 + 1, 0, none⟩ = some (.int .u32 ((clT l x k : Nat) : Int)) := cell_of_heap HOW.out rfl
          refine wpOp_shut rfl (fun K hK => ?_)
          go_simp
          go_wp2_with fail
          exact hK.out _ _ ⟨KB.out _ HFR.out, true, b4, b7, false, _, _, _, by kernel_rfl, rfl, fun _ => rfl, Hx19.out, Hx22.out, HFR.out, HOW.out, ⟨(by first | rfl | exact Bool.or_true _ | simp), trivial⟩⟩
        · refine wpOp_shut rfl (fun K hK => ?_)
          go_simp
          refine (within_any r.s x _ HOK.out.1.1 HOK.out.1.2 hx).mono ?_
          rintro e wa ⟨rfl, hBa⟩
          have HBa := hid hBa
          clear hBa
          go_wp2_with fail
          have hF3 := HFR.out.trans (Fr.ofBelow (S := fun _ => False) HBa.out) (fun _ _ x => x.elim)
          exact hK.out _ _ ⟨KB.out _ hF3, b0, true, b7, b8, _, _, _, by kernel_rfl, rfl, Hx15.out, fun _ => rfl, Hx22.out, hF3, (hpB HBa.out HOW.out), HCC.out⟩
        · obtain rfl := Hx15.out rfl
          obtain rfl := Hx19.out rfl
          refine wpOp_shut rfl (fun K hK => ?_)
          go_simp
          refine (gather_any (clT l x k) r.t (r.s.has x) _ HTK.out HOK.out.2).mono ?_
          rintro e wa ⟨rfl, hBa⟩
          rw [← HMS.out]
          have HBa := hid hBa
          clear hBa
          go_wp2_with fail
          have hF3 := HFR.out.trans (Fr.ofBelow (S := fun _ => False) HBa.out) (fun _ _ x => x.elim)
          exact hK.out _ _ ⟨KB.out _ hF3, true, true, true, b8, _, _, _, by kernel_rfl, rfl, fun _ => rfl, fun _ => rfl, fun _ => rfl, hF3, (hpB HBa.out HOW.out), HCC.out⟩
        · obtain rfl := Hx22.out rfl
          have c0 := cell_of_heap (i := 0) HOW.out rfl
          have g0 := frozen_of_heap (i := 0) HOW.out
          refine wpOp_shut rfl (fun K hK => ?_)
          go_simp
          go_wp2_with fail
          have hF3 := HFR.out.setCell (p := ⟨w.heap.size + 1 + 1 + 1, 0, none⟩) (.int .u32 ((clT l x (k + 1) : Nat) : Int)) (fun _ => rfl)
          exact hK.out _ _ ⟨KB.out _ hF3, true, b4, true, true, _, _, _, by kernel_rfl, rfl, (fun _ => Hx15.out (by first | rfl | trivial)), Hx19.out, fun _ => rfl, hF3, (heap_setCell_at _ _ 0 _ _ _ _ HOW.out), ⟨rfl, trivial⟩⟩
      have hall : (b0 && b4 && b7 && b8) = true := by
        clear Hx15 Hx19 Hx22 HFR HOW HCC
        revert b0 b4 b7 b8
        decide +kernel
      simp only [Bool.and_eq_true] at hall
      obtain ⟨⟨⟨rfl, rfl⟩, rfl⟩, rfl⟩ := hall
      obtain rfl := Hx15.out rfl
      obtain rfl := Hx19.out rfl
      obtain rfl := Hx22.out rfl
      have HR := hid (And.intro (show wC.heap[w.heap.size + 1 + 1 + 1]? = some (sb ((clT l x (k + 1) : Nat) : Int)) from HOW.out) HFR.out)
      clear Hx15 Hx19 Hx22 HFR HOW HCC hr
      have HB2 := hid H2.out
      clear H2 KB
      go_wp2
      go_roundw
      case rel =>
        have hf := HR.out.2
        exact ⟨k + 1, by omega, by go_num, belowCat' HB2.out.1 hf (by omega), hf.hp HB2.out.2.1 (by omega), hf.hp HB2.out.2.2.1 (by omega), HR.out.1⟩
      case measure => simp [intOf]; omega
    · have hke : k = l.length := by omega
      subst hke
      have c3 := cell_sb hb3
      have c1 := cell_sb hb1
      have f1 := frozen_of_heap (i := 0) hb1
      clear hB hb0 hb1 hb3
      go_wp2
      have hs := heap_setCell_at _ _ 0 _ _ _ (.int .u32 (clT l x l.length : Nat)) HH.out.2.2.1
      have d1 := cell_of_heap (i := 0) hs rfl
      exact bodyPost_ret (v := sec (clT l x l.length : Nat)) (by simp only [results, Try.results16]; simp [go_sem, d1]) rfl ⟨rfl, blw_set _ HH.out.1 (by show w.heap.size ≤ w.heap.size + 1; omega)⟩

set_option maxHeartbeats 1600000 in
theorem rclass_any (x cap : Nat) (ad : Option Addr) (l : List Rn) (w : World) (hl : RnsAt w ad l) (hn : l.length ≤ 1000000000) :
    Calls Try.prog 17 #[.slice ad l.length cap, u32 x] w fun e w' => e = .returned (u32 (clT l x l.length : Nat)) ∧ Below w.heap.size w w' := by
  have HL := hid hl
  have HT := hid (clT_lt l x (fun r hr => (hl.1 r hr).2))
  clear hl
  go_enter Try.func17, Try.ntmps17
  go_wp2_with fail
  go_loopw [5, 6] (fun t c wr => ∃ k : Nat, k ≤ l.length ∧ t = .int .u32 (clT l x k : Nat) ∧ c = .int .i64 (k : Int) ∧ Below w.heap.size w wr) (fun _ c _ => l.length - (intOf c).toNat)
  case atStart => exact ⟨0, Nat.zero_le _, rfl, rfl, Below.refl _ _⟩
  case round =>
    obtain ⟨k, hk, rfl, rfl, hB⟩ := hrel
    have HB := hid hB
    by_cases hlt : k < l.length
    · obtain ⟨y, rfl, hp⟩ := (HL.out.below hB).2 k hlt
      have HMS := hid (clT_succ l x k hlt)
      have HTK := hid (HT.out k hk)
      have HOK := hid (HL.out.1 _ (List.getElem_mem hlt))
      obtain ⟨r, hre⟩ : ∃ r, l[k] = r := ⟨_, rfl⟩
      rw [hre] at hp HMS HOK
      obtain ⟨c0, c1, c2⟩ := hp
      clear hB hre
      have HS := hid (fun w => has_any r.s x w)
      obtain ⟨b, hb⟩ : ∃ b, r.s.has x = b := ⟨_, rfl⟩
      rw [hb] at HMS HS
      clear hb
      go_wp2_with fail
      refine (HS.out _).mono ?_
      rintro e w1 ⟨rfl, rfl⟩
      cases b
      · go_wp2
        go_roundw
        case rel => exact ⟨k + 1, by omega, by rw [HMS.out]; unfold gat; simp, by go_num, blw_alloc HB.out⟩
        case measure => simp [intOf]; omega
      · have c3 := blw_cell ((Below.refl wr.heap.size wr).alloc (Nat.le_refl _) (spO r.s)) c2
        go_wp2
        go_roundw
        case rel => exact ⟨k + 1, by omega, by rw [HMS.out]; unfold gat; rw [u32_or_nat _ _ HTK.out HOK.out.2]; rfl, by go_num, blw_alloc HB.out⟩
        case measure => simp [intOf]; omega
    · have hke : k = l.length := by omega
      subst hke
      go_wp2
      go_ret
      exact ⟨rfl, HB.out⟩
end Go.Proofs.Ytajkjlnhongjfaa
