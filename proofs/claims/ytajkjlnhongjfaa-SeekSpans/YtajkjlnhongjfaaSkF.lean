/- The contracts of seek.In and of the document's In, over this seat's translation. Conditions: the words' bounds; at most a thousand million spans. -/
import Derived.Test.YtajkjlnhongjfaaSkB
namespace Go.Proofs.Ytajkjlnhongjfaa
open Go.RowKit

def Sp.ok (s : Sp) : Prop := s.f < 4294967296 ∧ s.l < 4294967296
/-- a span that came in -/
def SpAt (w : World) (x : Addr) (s : Sp) : Prop := w.cell? x = some (.int .u32 (s.f : Int)) ∧ w.cell? ⟨x.block, x.off + 1, none⟩ = some (.int .u32 (s.l : Int))
def SpsAt (w : World) (ad : Option Addr) (l : List Sp) : Prop := (∀ s ∈ l, s.ok) ∧ ∀ k (hk : k < l.length), ∃ x, ad = some x ∧ SpAt w (x.add (k * 2)) l[k]
theorem SpsAt.below {w w' : World} {ad : Option Addr} {l : List Sp} (h : SpsAt w ad l) (hb : Below w.heap.size w w') : SpsAt w' ad l := ⟨h.1, fun k hk => by
  obtain ⟨x, h1, h2⟩ := h.2 k hk
  exact ⟨x, h1, blw_cell hb h2.1, blw_cell hb h2.2⟩⟩
def inM (l : List Sp) (x k : Nat) : Bool := (l.take k).any (Sp.has · x)
theorem inM_succ (l : List Sp) (x k : Nat) (h : k < l.length) : inM l x (k + 1) = (inM l x k || l[k].has x) := by
  unfold inM; rw [List.take_succ_eq_append_getElem h, List.any_append]; simp
theorem Fr.hp {c : Nat} {w w' : World} {g : Nat} {o : Obj} (f : Fr (fun i => i = c) w w') (h : w.heap[g]? = some o) (hne : g ≠ c) : w'.heap[g]? = some o := (f.block g (lt_of_heap h) hne).trans h

theorem belowCat' {c : Nat} {a b d : World} (h : Below a.heap.size a b) (f : Fr (fun i => i = c) b d) (hc : a.heap.size ≤ c) : Below a.heap.size a d :=
  h.trans (f.below h.size (fun i hi e => by omega))
set_option maxHeartbeats 3200000 in
theorem in_any (x cap : Nat) (ad : Option Addr) (l : List Sp) (w : World) (hx : x < 4294967296) (hl : SpsAt w ad l) (hn : l.length ≤ 1000000000) :
    Calls Try.prog 14 #[.slice ad l.length cap, sec x] w fun e w' => e = .returned (sec (mk (inM l x l.length) : Nat)) ∧ Below w.heap.size w w' := by
  have HL := hid hl
  clear hl
  go_enter Try.func14, Try.ntmps14
  go_wp2_with (go_at_call 8; refine (of_any _ _).mono ?_; rintro e w' ⟨rfl, rfl⟩)
  go_loopw [11] (fun c wr => ∃ k : Nat, k ≤ l.length ∧ c = .int .i64 (k : Int) ∧ Below w.heap.size w wr ∧ wr.heap[w.heap.size]? = some (sb x) ∧ wr.heap[w.heap.size + 1]? = some (sb 0) ∧ wr.heap[w.heap.size + 1 + 1 + 1]? = some (sb (mk (inM l x k) : Nat))) (fun c _ => l.length - (intOf c).toNat)
  case atStart => exact ⟨0, Nat.zero_le _, rfl, (by repeat (first | exact Below.refl _ _ | refine blw_alloc ?_ | refine blw_drew ?_ | assumption)), (by simp only [hp_get, World.size_alloc]; repeat (first | rw [if_pos trivial] | rw [if_pos rfl] | rw [if_neg (by omega)])), (by simp only [hp_get, World.size_alloc]; repeat (first | rw [if_pos trivial] | rw [if_pos rfl] | rw [if_neg (by omega)])), (show _ = some (sb 0) from (by simp only [hp_get, World.size_alloc]; repeat (first | rw [if_pos trivial] | rw [if_pos rfl] | rw [if_neg (by omega)])))⟩
  case round =>
    obtain ⟨k, hk, rfl, hB, hb0, hb1, hb3⟩ := hrel
    have HH := hid (And.intro hB (And.intro hb0 (And.intro hb1 hb3)))
    by_cases hlt : k < l.length
    · obtain ⟨y, rfl, hp⟩ := (HL.out.below hB).2 k hlt
      have HOK := hid (HL.out.1 _ (List.getElem_mem hlt))
      have HMS := hid (inM_succ l x k hlt)
      obtain ⟨s, hse⟩ : ∃ s, l[k] = s := ⟨_, rfl⟩
      rw [hse] at hp HOK HMS
      obtain ⟨c0, c1⟩ := hp
      clear hB hb0 hb1 hb3 hse
      go_wp2_with fail
      have HD := hid (heap_alloc_at wr (spO s))
      have HBA := hid ((Below.refl wr.heap.size wr).alloc (Nat.le_refl _) (spO s))
      have HDL := hid (show w.heap.size + 1 + 1 + 1 < wr.heap.size from lt_of_heap HH.out.2.2.2)
      have H2 := hid (show Below w.heap.size w (wr.alloc (spO s)) ∧ (wr.alloc (spO s)).heap[w.heap.size]? = some (sb x) ∧ (wr.alloc (spO s)).heap[w.heap.size + 1]? = some (sb 0) ∧ (wr.alloc (spO s)).heap[w.heap.size + 1 + 1 + 1]? = some (sb (mk (inM l x k) : Nat)) from
        ⟨belowCat HH.out.1 HBA.out, hpB HBA.out HH.out.2.1, hpB HBA.out HH.out.2.2.1, hpB HBA.out HH.out.2.2.2⟩)
      obtain ⟨d, hd⟩ : ∃ d, wr.heap.size = d := ⟨_, rfl⟩
      rw [hd] at HD HDL ⊢
      clear hd c0 c1 HBA HH
      generalize wr.alloc (spO s) = w2 at *
      have KB := hid (show ∀ w' : World, Fr (fun i => i = w.heap.size + 1 + 1 + 1) w2 w' → w'.cell? ⟨w.heap.size, 0, none⟩ = some (.int .u32 (x : Int)) ∧ w'.cell? ⟨d, 0, none⟩ = some (.int .u32 (s.f : Int)) ∧ w'.cell? ⟨d, 1, none⟩ = some (.int .u32 (s.l : Int)) from fun w' hf =>
        ⟨cell_sb (hf.hp H2.out.2.1 (by omega)), (cell_sp (hf.hp HD.out (by have := HDL.out; omega))).1, (cell_sp (hf.hp HD.out (by have := HDL.out; omega))).2⟩)
      refine wp_region_held_drew (S := (fun w' => w'.cell? ⟨w.heap.size, 0, none⟩ = some (.int .u32 (x : Int)) ∧ w'.cell? ⟨d, 0, none⟩ = some (.int .u32 (s.f : Int)) ∧ w'.cell? ⟨d, 1, none⟩ = some (.int .u32 (s.l : Int)))) (by kernel_rfl) (KB.out _ (Fr.refl _ _).drew) (fun hHeld => ?_)
      refine tk_at (i := 1) (d := some 16) (v := ?_) rfl rfl (by kernel_rfl) (by kernel_rfl) (by kernel_rfl) (fun _ _ _ h => h) (Or.inl ⟨by rfl, ?_⟩) (by assumption) ?_
      rotate_left
      · (intro w hSw; (try dsimp only at hSw); go_simp; try (with_reducible rfl))
      simp only [Act.put, List.setIfInBounds_toArray, List.set_cons_zero, List.set_cons_succ]
      refine tk_at (i := 2) (d := some 17) (v := ?_) rfl rfl (by kernel_rfl) (by kernel_rfl) (by kernel_rfl) (fun _ _ _ h => h) (Or.inl ⟨by rfl, ?_⟩) (by assumption) ?_
      rotate_left
      · (intro w hSw; (try dsimp only at hSw); go_simp; try (with_reducible rfl))
      simp only [Act.put, List.setIfInBounds_toArray, List.set_cons_zero, List.set_cons_succ]
      clear hHeld
      refine wpAnyH_inv0 (fun aC0 lsC aC wC => ∃ (b0 b3 b4 b5 : Bool) (x15 x18 x19 : Value), lsC = #[b0, true, true, b3, b4, b5] ∧ aC = { aC0 with tmps := (((aC0.tmps.setIfInBounds 15 x15).setIfInBounds 18 x18).setIfInBounds 19 x19) } ∧ (b0 = true → x15 = sec (mk (inM l x k) : Nat)) ∧ (b3 = true → x18 = sec (mk (s.has x) : Nat)) ∧ (b4 = true → x19 = sec (mk (inM l x (k + 1)) : Nat)) ∧ Fr (fun i => i = w.heap.size + 1 + 1 + 1) w2 wC ∧ wC.heap[w.heap.size + 1 + 1 + 1]? = some (.cells #[.int .u32 (if b5 then ((mk (inM l x (k + 1)) : Nat) : Int) else ((mk (inM l x k) : Nat) : Int))] 31 (0, 0)) ∧ (b0 || !b5) = true ∧ True) ?_ _ _ _ (by decide +kernel) (fun aS => ⟨false, false, false, false, aS.tmps.getD 15 undef, aS.tmps.getD 18 undef, aS.tmps.getD 19 undef, by kernel_rfl, by simp only [set_self], fun h => (by cases h), fun h => (by cases h), fun h => (by cases h), (Fr.refl _ _).drew, H2.out.2.2.2, rfl, trivial⟩)
      intro lsC aC wC ⟨b0, b3, b4, b5, x15, x18, x19, hl, ha, hx15, hx18, hx19, hfr, how, hcc⟩
      subst hl ha
      have Hx15 := hid hx15
      have Hx18 := hid hx18
      have Hx19 := hid hx19
      have HFR := hid hfr
      have HOW := hid how
      have HCC := hid hcc
      clear hx15 hx18 hx19 hfr how hcc
      simp only [List.setIfInBounds_toArray, List.set_cons_zero, List.set_cons_succ]
      refine ⟨fun hr => ?_, fun i hi => ?_⟩
      rotate_left
      · have hcase : (i = 0 ∧ b0 = false) ∨ (i = 3 ∧ b3 = false) ∨ (i = 4 ∧ b4 = false ∧ b0 = true ∧ b3 = true) ∨ (i = 5 ∧ b5 = false ∧ b0 = true ∧ b4 = true) := by
          refine of_decide_eq_true ((List.all_eq_true (p := fun i => decide ((i = 0 ∧ b0 = false) ∨ (i = 3 ∧ b3 = false) ∨ (i = 4 ∧ b4 = false ∧ b0 = true ∧ b3 = true) ∨ (i = 5 ∧ b5 = false ∧ b0 = true ∧ b4 = true)))).1 ?_ i hi)
          clear Hx15 Hx18 Hx19 HFR HOW HCC hi
          revert b0 b3 b4 b5
          decide +kernel
        clear hi
        rcases hcase with ⟨rfl, rfl⟩ | ⟨rfl, rfl⟩ | ⟨rfl, rfl, rfl, rfl⟩ | ⟨rfl, rfl, rfl, rfl⟩
        · obtain rfl : b5 = false := by have := HCC.out.1; revert this; cases b5 <;> simp
          have c0 : wC.cell? ⟨w.heap.size + 1 + 1 + 1, 0, none⟩ = some (.int .u32 ((mk (inM l x k) : Nat) : Int)) := cell_of_heap HOW.out rfl
          refine wpOp_shut rfl (fun K hK => ?_)
          go_simp
          go_wp2_with fail
          exact hK.out _ _ ⟨KB.out _ HFR.out, true, b3, b4, false, _, _, _, by kernel_rfl, rfl, fun _ => rfl, Hx18.out, Hx19.out, HFR.out, HOW.out, ⟨(by first | rfl | exact Bool.or_true _ | simp), trivial⟩⟩
        · refine wpOp_shut rfl (fun K hK => ?_)
          go_simp
          refine (within_any s x _ HOK.out.1 HOK.out.2 hx).mono ?_
          rintro e wa ⟨rfl, hBa⟩
          have HBa := hid hBa
          clear hBa
          go_wp2_with fail
          have hF3 := HFR.out.trans (Fr.ofBelow (S := fun _ => False) HBa.out) (fun _ _ x => x.elim)
          exact hK.out _ _ ⟨KB.out _ hF3, b0, true, b4, b5, _, _, _, by kernel_rfl, rfl, Hx15.out, fun _ => rfl, Hx19.out, hF3, (hpB HBa.out HOW.out), HCC.out⟩
        · obtain rfl := Hx15.out rfl
          obtain rfl := Hx18.out rfl
          refine wpOp_shut rfl (fun K hK => ?_)
          go_simp
          refine (or_b (mk (inM l x k)) (mk (s.has x)) _ (mk_lt _) (mk_lt _)).mono ?_
          rintro e wa ⟨rfl, hBa⟩
          rw [or_mk, ← HMS.out]
          have HBa := hid hBa
          clear hBa
          go_wp2_with fail
          have hF3 := HFR.out.trans (Fr.ofBelow (S := fun _ => False) HBa.out) (fun _ _ x => x.elim)
          exact hK.out _ _ ⟨KB.out _ hF3, true, true, true, b5, _, _, _, by kernel_rfl, rfl, fun _ => rfl, fun _ => rfl, fun _ => rfl, hF3, (hpB HBa.out HOW.out), HCC.out⟩
        · obtain rfl := Hx19.out rfl
          have c0 := cell_of_heap (i := 0) HOW.out rfl
          have g0 := frozen_of_heap (i := 0) HOW.out
          refine wpOp_shut rfl (fun K hK => ?_)
          go_simp
          go_wp2_with fail
          have hF3 := HFR.out.setCell (p := ⟨w.heap.size + 1 + 1 + 1, 0, none⟩) (.int .u32 ((mk (inM l x (k + 1)) : Nat) : Int)) (fun _ => rfl)
          exact hK.out _ _ ⟨KB.out _ hF3, true, b3, true, true, _, _, _, by kernel_rfl, rfl, (fun _ => Hx15.out (by first | rfl | trivial)), Hx18.out, fun _ => rfl, hF3, (heap_setCell_at _ _ 0 _ _ _ _ HOW.out), ⟨rfl, trivial⟩⟩
      have hall : (b0 && b3 && b4 && b5) = true := by
        clear Hx15 Hx18 Hx19 HFR HOW HCC
        revert b0 b3 b4 b5
        decide +kernel
      simp only [Bool.and_eq_true] at hall
      obtain ⟨⟨⟨rfl, rfl⟩, rfl⟩, rfl⟩ := hall
      obtain rfl := Hx15.out rfl
      obtain rfl := Hx18.out rfl
      obtain rfl := Hx19.out rfl
      have HR := hid (And.intro (show wC.heap[w.heap.size + 1 + 1 + 1]? = some (sb ((mk (inM l x (k + 1)) : Nat) : Int)) from HOW.out) HFR.out)
      clear Hx15 Hx18 Hx19 HFR HOW HCC hr
      have HB2 := hid H2.out
      clear H2 KB
      go_wp2
      go_roundw
      case rel =>
        have hf := HR.out.2
        exact ⟨k + 1, by omega, by go_num, belowCat' HB2.out.1 hf (by omega), hf.hp HB2.out.2.1 (by omega), hf.hp HB2.out.2.2.1 (by omega), HR.out.1⟩
      case measure => simp [intOf]; omega
    · have hke : k = l.length := by omega
      subst hke
      have c3 := cell_sb hb3
      have c1 := cell_sb hb1
      have f1 := frozen_of_heap (i := 0) hb1
      clear hB hb0 hb1 hb3
      go_wp2
      have hs := heap_setCell_at _ _ 0 _ _ _ (.int .u32 (mk (inM l x l.length) : Nat)) HH.out.2.2.1
      have d1 := cell_of_heap (i := 0) hs rfl
      exact bodyPost_ret (v := sec (mk (inM l x l.length) : Nat)) (by simp only [results, Try.results14]; simp [go_sem, d1]) rfl ⟨rfl, blw_set _ HH.out.1 (by show w.heap.size ≤ w.heap.size + 1; omega)⟩

/-- the document's In -/
theorem inM_stop (l : List Sp) (x k : Nat) (h : k < l.length) (hh : l[k].has x = true) : inM l x l.length = true := by
  unfold inM
  rw [List.take_length, List.any_eq_true]
  exact ⟨_, List.getElem_mem h, hh⟩
set_option maxHeartbeats 1600000 in
theorem rin_any (x cap : Nat) (ad : Option Addr) (l : List Sp) (w : World) (hl : SpsAt w ad l) (hn : l.length ≤ 1000000000) :
    Calls Try.prog 15 #[.slice ad l.length cap, u32 x] w fun e w' => e = .returned (.bool (inM l x l.length)) ∧ Below w.heap.size w w' := by
  have HL := hid hl
  clear hl
  go_enter Try.func15, Try.ntmps15
  go_wp2_with fail
  go_loopw [5] (fun c wr => ∃ k : Nat, k ≤ l.length ∧ c = .int .i64 (k : Int) ∧ inM l x k = false ∧ Below w.heap.size w wr) (fun c _ => l.length - (intOf c).toNat)
  case atStart => exact ⟨0, Nat.zero_le _, rfl, rfl, Below.refl _ _⟩
  case round =>
    obtain ⟨k, hk, rfl, hm, hB⟩ := hrel
    have HB := hid hB
    have HM := hid hm
    clear hm
    by_cases hlt : k < l.length
    · obtain ⟨y, rfl, hp⟩ := (HL.out.below hB).2 k hlt
      have HMS := hid (inM_succ l x k hlt)
      have HST := hid (inM_stop l x k hlt)
      obtain ⟨s, hse⟩ : ∃ s, l[k] = s := ⟨_, rfl⟩
      rw [hse] at hp HMS HST
      obtain ⟨c0, c1⟩ := hp
      clear hB hse
      have HS := hid (fun w => has_any s x w)
      obtain ⟨b, hb⟩ : ∃ b, s.has x = b := ⟨_, rfl⟩
      rw [hb] at HMS HST HS
      clear hb
      go_wp2_with fail
      refine (HS.out _).mono ?_
      rintro e w1 ⟨rfl, rfl⟩
      cases b
      · go_wp2
        go_roundw
        case rel => exact ⟨k + 1, by omega, by go_num, by rw [HMS.out, HM.out]; rfl, blw_alloc HB.out⟩
        case measure => simp [intOf]; omega
      · have HT := hid (HST.out rfl)
        go_wp2
        go_ret
        exact ⟨ret_bool HT.out.symm, blw_alloc HB.out⟩
    · have hke : k = l.length := by omega
      subst hke
      go_wp2
      go_ret
      exact ⟨ret_bool HM.out.symm, HB.out⟩
end Go.Proofs.Ytajkjlnhongjfaa
