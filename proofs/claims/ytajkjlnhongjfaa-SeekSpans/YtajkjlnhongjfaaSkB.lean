/- The contracts of seek.Two and of the document's Two, over this seat's translation. Conditions: the words' bounds; at most a thousand million pairs. -/
import Derived.Test.YtajkjlnhongjfaaSkA
import Derived.Test.YtajkjlnhongjfaaJv
import Derived.Deep.CutRange
namespace Go.Proofs.Ytajkjlnhongjfaa
open Go.RowKit

/-- a pair -/
structure Pr where
  a : Nat
  b : Nat
  t : Nat
def pm (a b : Nat) (p : Pr) : Bool := (a == p.a) && (b == p.b)
def twT (a b : Nat) (l : List Pr) (k : Nat) : Nat := (l.take k).foldl (fun u p => gat u (pm a b p) p.t) 0
def twM (a b : Nat) (l : List Pr) (k : Nat) : Bool := (l.take k).any (pm a b)
theorem twT_succ (a b : Nat) (l : List Pr) (k : Nat) (h : k < l.length) : twT a b l (k + 1) = gat (twT a b l k) (pm a b l[k]) l[k].t := by
  unfold twT; rw [List.take_succ_eq_append_getElem h, List.foldl_append]; rfl
theorem twM_succ (a b : Nat) (l : List Pr) (k : Nat) (h : k < l.length) : twM a b l (k + 1) = (twM a b l k || pm a b l[k]) := by
  unfold twM; rw [List.take_succ_eq_append_getElem h, List.any_append]; simp
theorem twT_lt (a b : Nat) (l : List Pr) (hl : ∀ p ∈ l, p.t < 4294967296) (k : Nat) (h : k ≤ l.length) : twT a b l k < 4294967296 := by
  induction k with
  | zero => simp [twT]
  | succ k ih => rw [twT_succ a b l k h]; exact gat_lt (ih (by omega)) (hl _ (List.getElem_mem _))
theorem and_mk (x y : Bool) : andW (mk x) (mk y) = mk (x && y) := by cases x <;> cases y <;> decide
theorem or_mk (x y : Bool) : orW (mk x) (mk y) = mk (x || y) := by cases x <;> cases y <;> decide

theorem lt_cell {w : World} {a : Addr} {v : Value} (h : w.cell? a = some v) : a.block < w.heap.size := by
  rcases Nat.lt_or_ge a.block w.heap.size with hlt | hge
  · exact hlt
  · simp [World.cell?, Array.getElem?_eq_none hge] at h
theorem hpB {w w' : World} {g : Nat} {o : Obj} (hb : Below w.heap.size w w') (h : w.heap[g]? = some o) : w'.heap[g]? = some o := (hb.block g (lt_of_heap h)).trans h
theorem blw_cell {w w' : World} {a : Addr} {v : Value} (hb : Below w.heap.size w w') (h : w.cell? a = some v) : w'.cell? a = some v := cell_below hb h (lt_cell h)
/-- two words that are stored, one behind the other -/
theorem two_set {wr : World} {p q : Nat} {x y : Int} (u v : Int) (hp : wr.heap[p]? = some (sb x)) (hq : wr.heap[q]? = some (sb y)) (hpq : p ≠ q) :
    ((wr.setCell ⟨p, 0, none⟩ (.int .u32 u)).setCell ⟨q, 0, none⟩ (.int .u32 v)).cell? ⟨p, 0, none⟩ = some (.int .u32 u) ∧ ((wr.setCell ⟨p, 0, none⟩ (.int .u32 u)).setCell ⟨q, 0, none⟩ (.int .u32 v)).cell? ⟨q, 0, none⟩ = some (.int .u32 v) := by
  have h1 := heap_setCell_at _ _ 0 _ _ _ (.int .u32 u) hp
  have h2 : (wr.setCell ⟨p, 0, none⟩ (.int .u32 u)).heap[q]? = some (sb y) := (Below.heap_setCell _ _ _ _ (fun e => hpq e.symm)).trans hq
  have h3 := heap_setCell_at _ _ 0 _ _ _ (.int .u32 v) h2
  exact ⟨cell_of_heap ((Below.heap_setCell _ _ _ _ hpq).trans h1) rfl, cell_of_heap h3 rfl⟩
/-- a pair that came in -/
def PrAt (w : World) (x : Addr) (p : Pr) : Prop := w.cell? x = some (.int .u32 (p.a : Int)) ∧ w.cell? ⟨x.block, x.off + 1, none⟩ = some (.int .u32 (p.b : Int)) ∧ w.cell? ⟨x.block, x.off + 2, none⟩ = some (.int .u32 (p.t : Int))
theorem PrAt.below {w w' : World} {x : Addr} {p : Pr} (h : PrAt w x p) (hb : Below w.heap.size w w') : PrAt w' x p := ⟨blw_cell hb h.1, blw_cell hb h.2.1, blw_cell hb h.2.2⟩
def Pr.ok (p : Pr) : Prop := p.a < 4294967296 ∧ p.b < 4294967296 ∧ p.t < 4294967296
def PrsAt (w : World) (ad : Option Addr) (l : List Pr) : Prop := (∀ p ∈ l, p.ok) ∧ ∀ k (hk : k < l.length), ∃ x, ad = some x ∧ PrAt w (x.add (k * 3)) l[k]
theorem PrsAt.below {w w' : World} {ad : Option Addr} {l : List Pr} (h : PrsAt w ad l) (hb : Below w.heap.size w w') : PrsAt w' ad l := ⟨h.1, fun k hk => by
  obtain ⟨x, h1, h2⟩ := h.2 k hk
  exact ⟨x, h1, h2.below hb⟩⟩
abbrev prO (p : Pr) : Obj := .cells #[.int .u32 (p.a : Int), .int .u32 (p.b : Int), .int .u32 (p.t : Int)] 73 (0, 0)
theorem cell_pr {w : World} {g : Nat} {p : Pr} (h : w.heap[g]? = some (prO p)) : w.cell? ⟨g, 0, none⟩ = some (.int .u32 (p.a : Int)) ∧ w.cell? ⟨g, 1, none⟩ = some (.int .u32 (p.b : Int)) ∧ w.cell? ⟨g, 2, none⟩ = some (.int .u32 (p.t : Int)) := ⟨cell_of_heap h rfl, cell_of_heap h rfl, cell_of_heap h rfl⟩

set_option maxHeartbeats 3200000 in
theorem two_any (a b cap : Nat) (ad : Option Addr) (l : List Pr) (w : World) (ha : a < 4294967296) (hb : b < 4294967296) (hl : PrsAt w ad l) (hn : l.length ≤ 1000000000) :
    Calls Try.prog 18 #[.slice ad l.length cap, sec a, sec b] w fun e w' => e = .returned (.tuple #[sec (twT a b l l.length : Nat), sec (mk (twM a b l l.length) : Nat)]) ∧ Below w.heap.size w w' := by
  have HL := hid hl
  have HT := hid (twT_lt a b l (fun p hp => (hl.1 p hp).2.2))
  clear hl
  go_enter Try.func18, Try.ntmps18
  go_wp2_with (go_at_call 8; refine (of_any _ _).mono ?_; rintro e w' ⟨rfl, rfl⟩)
  go_loopw [17] (fun c wr => ∃ k : Nat, k ≤ l.length ∧ c = .int .i64 (k : Int) ∧ Below w.heap.size w wr ∧ wr.heap[w.heap.size]? = some (sb a) ∧ wr.heap[w.heap.size + 1]? = some (sb b) ∧ wr.heap[w.heap.size + 1 + 1]? = some (sb 0) ∧ wr.heap[w.heap.size + 1 + 1 + 1]? = some (sb 0) ∧ wr.heap[w.heap.size + 1 + 1 + 1 + 1 + 1 + 1]? = some (sb (twT a b l k : Nat)) ∧ wr.heap[w.heap.size + 1 + 1 + 1 + 1 + 1 + 1 + 1]? = some (sb (mk (twM a b l k) : Nat))) (fun c _ => l.length - (intOf c).toNat)
  case atStart => exact ⟨0, Nat.zero_le _, rfl, (by repeat (first | exact Below.refl _ _ | refine blw_alloc ?_ | refine blw_drew ?_ | assumption)), (by simp only [hp_get, World.size_alloc]; repeat (first | rw [if_pos trivial] | rw [if_pos rfl] | rw [if_neg (by omega)])), (by simp only [hp_get, World.size_alloc]; repeat (first | rw [if_pos trivial] | rw [if_pos rfl] | rw [if_neg (by omega)])), (by simp only [hp_get, World.size_alloc]; repeat (first | rw [if_pos trivial] | rw [if_pos rfl] | rw [if_neg (by omega)])), (by simp only [hp_get, World.size_alloc]; repeat (first | rw [if_pos trivial] | rw [if_pos rfl] | rw [if_neg (by omega)])), (show _ = some (sb 0) from (by simp only [hp_get, World.size_alloc]; repeat (first | rw [if_pos trivial] | rw [if_pos rfl] | rw [if_neg (by omega)]))), (show _ = some (sb 0) from (by simp only [hp_get, World.size_alloc]; repeat (first | rw [if_pos trivial] | rw [if_pos rfl] | rw [if_neg (by omega)])))⟩
  case round =>
    obtain ⟨k, hk, rfl, hB, hb0, hb1, hb2, hb3, hb6, hb7⟩ := hrel
    have HH := hid (And.intro hB (And.intro hb0 (And.intro hb1 (And.intro hb2 (And.intro hb3 (And.intro hb6 hb7))))))
    by_cases hlt : k < l.length
    · obtain ⟨x, rfl, hp⟩ := (HL.out.below hB).2 k hlt
      have HOK := hid (HL.out.1 _ (List.getElem_mem hlt))
      have HTS := hid (twT_succ a b l k hlt)
      have HMS := hid (twM_succ a b l k hlt)
      have HTK := hid (HT.out k hk)
      obtain ⟨p, hpe⟩ : ∃ p, l[k] = p := ⟨_, rfl⟩
      rw [hpe] at hp HOK HTS HMS
      obtain ⟨c0, c1, c2⟩ := hp
      clear hB hb0 hb1 hb2 hb3 hb6 hb7 hpe
      go_wp2_with fail
      have HD := hid (heap_alloc_at wr (prO p))
      have HBA := hid ((Below.refl wr.heap.size wr).alloc (Nat.le_refl _) (prO p))
      have HDL := hid (show ∀ q, wr.heap.size ≤ q → w.heap.size + 1 + 1 + 1 + 1 + 1 + 1 + 1 < q from fun q hq => by have := lt_of_heap HH.out.2.2.2.2.2.2; omega)
      have H2 := hid (show Below w.heap.size w (wr.alloc (prO p)) ∧ (wr.alloc (prO p)).heap[w.heap.size]? = some (sb a) ∧ (wr.alloc (prO p)).heap[w.heap.size + 1]? = some (sb b) ∧ (wr.alloc (prO p)).heap[w.heap.size + 1 + 1]? = some (sb 0) ∧ (wr.alloc (prO p)).heap[w.heap.size + 1 + 1 + 1]? = some (sb 0) ∧ (wr.alloc (prO p)).heap[w.heap.size + 1 + 1 + 1 + 1 + 1 + 1]? = some (sb (twT a b l k : Nat)) ∧ (wr.alloc (prO p)).heap[w.heap.size + 1 + 1 + 1 + 1 + 1 + 1 + 1]? = some (sb (mk (twM a b l k) : Nat)) from
        ⟨belowCat HH.out.1 HBA.out, hpB HBA.out HH.out.2.1, hpB HBA.out HH.out.2.2.1, hpB HBA.out HH.out.2.2.2.1, hpB HBA.out HH.out.2.2.2.2.1, hpB HBA.out HH.out.2.2.2.2.2.1, hpB HBA.out HH.out.2.2.2.2.2.2⟩)
      have HSZ := hid (show wr.heap.size < (wr.alloc (prO p)).heap.size from by rw [World.size_alloc]; omega)
      obtain ⟨d, hd⟩ : ∃ d, wr.heap.size = d := ⟨_, rfl⟩
      rw [hd] at HD HDL HSZ ⊢
      clear hd c0 c1 c2 HBA HH
      generalize wr.alloc (prO p) = w2 at *
      have KB := hid (show ∀ w' : World, Below w2.heap.size w2 w' → w'.cell? ⟨w.heap.size, 0, none⟩ = some (.int .u32 (a : Int)) ∧ w'.cell? ⟨w.heap.size + 1, 0, none⟩ = some (.int .u32 (b : Int)) ∧ w'.cell? ⟨d, 0, none⟩ = some (.int .u32 (p.a : Int)) ∧ w'.cell? ⟨d, 1, none⟩ = some (.int .u32 (p.b : Int)) from fun w' hb =>
        ⟨cell_sb (hpB hb H2.out.2.1), cell_sb (hpB hb H2.out.2.2.1), (cell_pr (hpB hb HD.out)).1, (cell_pr (hpB hb HD.out)).2.1⟩)
      have HAM := hid (and_mk (a == p.a) (b == p.b))
      go_cut [12, 17] from 17 to 40 (fun q c wx => c = .int .i64 (k : Int) ∧ ∃ z, w2.heap.size ≤ z ∧ q = .pointer (some ⟨z, 0, none⟩) ∧ wx.heap[z]? = some (sb (mk (pm a b p) : Nat)) ∧ Below w2.heap.size w2 wx)
      case first =>
        clear hk hlt hn
        refine wp_region_held_drew (S := (fun w' => w'.cell? ⟨w.heap.size, 0, none⟩ = some (.int .u32 (a : Int)) ∧ w'.cell? ⟨w.heap.size + 1, 0, none⟩ = some (.int .u32 (b : Int)) ∧ w'.cell? ⟨d, 0, none⟩ = some (.int .u32 (p.a : Int)) ∧ w'.cell? ⟨d, 1, none⟩ = some (.int .u32 (p.b : Int)))) (by kernel_rfl) (KB.out _ (blw_drew (Below.refl _ _))) (fun hHeld => ?_)
        refine tk_at (i := 0) (d := some 21) (v := ?_) rfl rfl (by kernel_rfl) (by kernel_rfl) (by kernel_rfl) (fun _ _ _ h => h) (Or.inl ⟨by rfl, ?_⟩) (by assumption) ?_
        rotate_left
        · (intro w hSw; (try dsimp only at hSw); go_simp; try (with_reducible rfl))
        simp only [Act.put, List.setIfInBounds_toArray, List.set_cons_zero, List.set_cons_succ]
        refine tk_at (i := 1) (d := some 22) (v := ?_) rfl rfl (by kernel_rfl) (by kernel_rfl) (by kernel_rfl) (fun _ _ _ h => h) (Or.inl ⟨by rfl, ?_⟩) (by assumption) ?_
        rotate_left
        · (intro w hSw; (try dsimp only at hSw); go_simp; try (with_reducible rfl))
        simp only [Act.put, List.setIfInBounds_toArray, List.set_cons_zero, List.set_cons_succ]
        refine tk_at (i := 2) (d := some 23) (v := ?_) rfl rfl (by kernel_rfl) (by kernel_rfl) (by kernel_rfl) (fun _ _ _ h => h) (Or.inl ⟨by rfl, ?_⟩) (by assumption) ?_
        rotate_left
        · (intro w hSw; (try dsimp only at hSw); go_simp; try (with_reducible rfl))
        simp only [Act.put, List.setIfInBounds_toArray, List.set_cons_zero, List.set_cons_succ]
        refine tk_at (i := 5) (d := some 26) (v := ?_) rfl rfl (by kernel_rfl) (by kernel_rfl) (by kernel_rfl) (fun _ _ _ h => h) (Or.inl ⟨by rfl, ?_⟩) (by assumption) ?_
        rotate_left
        · (intro w hSw; (try dsimp only at hSw); go_simp; try (with_reducible rfl))
        simp only [Act.put, List.setIfInBounds_toArray, List.set_cons_zero, List.set_cons_succ]
        refine tk_at (i := 6) (d := some 27) (v := ?_) rfl rfl (by kernel_rfl) (by kernel_rfl) (by kernel_rfl) (fun _ _ _ h => h) (Or.inl ⟨by rfl, ?_⟩) (by assumption) ?_
        rotate_left
        · (intro w hSw; (try dsimp only at hSw); go_simp; try (with_reducible rfl))
        simp only [Act.put, List.setIfInBounds_toArray, List.set_cons_zero, List.set_cons_succ]
        refine tk_at (i := 7) (d := some 28) (v := ?_) rfl rfl (by kernel_rfl) (by kernel_rfl) (by kernel_rfl) (fun _ _ _ h => h) (Or.inl ⟨by rfl, ?_⟩) (by assumption) ?_
        rotate_left
        · (intro w hSw; (try dsimp only at hSw); go_simp; try (with_reducible rfl))
        simp only [Act.put, List.setIfInBounds_toArray, List.set_cons_zero, List.set_cons_succ]
        clear hHeld
        refine wpAnyH_inv0 (fun aC0 lsC aC wC => ∃ (b3 b4 b8 b9 b10 b11 b12 : Bool) (pp x24 x25 x29 x30 x31   : Value), lsC = #[true, true, true, b3, b4, true, true, true, b8, b9, b10, b11, b12] ∧ aC = { aC0 with tmps := ((((((aC0.tmps.setIfInBounds 24 x24).setIfInBounds 25 x25).setIfInBounds 29 x29).setIfInBounds 30 x30).setIfInBounds 31 x31).setIfInBounds 12 pp) } ∧ (b3 = true → x24 = sec (p.a : Int)) ∧ (b4 = true → x25 = sec (mk (a == p.a) : Nat)) ∧ (b8 = true → x29 = sec (p.b : Int)) ∧ (b9 = true → x30 = sec (mk (b == p.b) : Nat)) ∧ (b10 = true → x31 = sec (mk (pm a b p) : Nat)) ∧ Below w2.heap.size w2 wC ∧ Own1 w2 wC b11 b12 pp (mk (pm a b p)) ∧ (b11 || !b12) = true) ?_ _ _ _ (by decide +kernel) (fun aS => ⟨false, false, false, false, false, false, false, aS.tmps.getD 12 undef, aS.tmps.getD 24 undef, aS.tmps.getD 25 undef, aS.tmps.getD 29 undef, aS.tmps.getD 30 undef, aS.tmps.getD 31 undef, by kernel_rfl, by simp only [set_self], fun h => (by cases h), fun h => (by cases h), fun h => (by cases h), fun h => (by cases h), fun h => (by cases h), blw_drew (Below.refl _ _), Own1.none, rfl⟩)
        intro lsC aC wC ⟨b3, b4, b8, b9, b10, b11, b12, pp, x24, x25, x29, x30, x31, hl, ha, hx24, hx25, hx29, hx30, hx31, hBw, hpp, hcc⟩
        subst hl ha
        have Hx24 := hid hx24
        have Hx25 := hid hx25
        have Hx29 := hid hx29
        have Hx30 := hid hx30
        have Hx31 := hid hx31
        have HBW := hid hBw
        have HPP := hid hpp
        have HCC := hid hcc
        clear hx24 hx25 hx29 hx30 hx31 hBw hpp hcc
        simp only [List.setIfInBounds_toArray, List.set_cons_zero, List.set_cons_succ]
        refine ⟨fun hr => ?_, fun i hi => ?_⟩
        · have hall : (b3 && b4 && b8 && b9 && b10 && b11 && b12) = true := by
            clear Hx24 Hx25 Hx29 Hx30 Hx31 HBW HPP HCC
            revert b3 b4 b8 b9 b10 b11 b12
            decide +kernel
          simp only [Bool.and_eq_true] at hall
          obtain ⟨⟨⟨⟨⟨⟨rfl, rfl⟩, rfl⟩, rfl⟩, rfl⟩, rfl⟩, rfl⟩ := hall
          obtain ⟨z, rfl, hz1, hz2⟩ := HPP.out rfl
          obtain rfl := Hx24.out rfl
          obtain rfl := Hx25.out rfl
          obtain rfl := Hx29.out rfl
          obtain rfl := Hx30.out rfl
          obtain rfl := Hx31.out rfl
          have HR := hid (And.intro hz1 (And.intro hz2 HBW.out))
          clear hz1 hz2 Hx24 Hx25 Hx29 Hx30 Hx31 HBW HPP HCC hr
          (try dsimp only)
          go_wp2_with fail
          go_meet
          case rel => exact ⟨rfl, z, HR.out.1, rfl, HR.out.2.1, HR.out.2.2⟩
        · have hcase : (i = 3 ∧ b3 = false) ∨ (i = 4 ∧ b4 = false ∧ b3 = true) ∨ (i = 8 ∧ b8 = false ∧ b4 = true) ∨ (i = 9 ∧ b9 = false ∧ b8 = true) ∨ (i = 10 ∧ b10 = false ∧ b4 = true ∧ b9 = true) ∨ (i = 11 ∧ b11 = false) ∨ (i = 12 ∧ b12 = false ∧ b11 = true ∧ b10 = true) := by
            refine of_decide_eq_true ((List.all_eq_true (p := fun i => decide ((i = 3 ∧ b3 = false) ∨ (i = 4 ∧ b4 = false ∧ b3 = true) ∨ (i = 8 ∧ b8 = false ∧ b4 = true) ∨ (i = 9 ∧ b9 = false ∧ b8 = true) ∨ (i = 10 ∧ b10 = false ∧ b4 = true ∧ b9 = true) ∨ (i = 11 ∧ b11 = false) ∨ (i = 12 ∧ b12 = false ∧ b11 = true ∧ b10 = true)))).1 ?_ i hi)
            clear Hx24 Hx25 Hx29 Hx30 Hx31 HBW HPP HCC hi
            revert b3 b4 b8 b9 b10 b11 b12
            decide +kernel
          clear hi
          rcases hcase with ⟨rfl, rfl⟩ | ⟨rfl, rfl, rfl⟩ | ⟨rfl, rfl, rfl⟩ | ⟨rfl, rfl, rfl⟩ | ⟨rfl, rfl, rfl, rfl⟩ | ⟨rfl, rfl⟩ | ⟨rfl, rfl, rfl, rfl⟩
          · refine wpOp_shut rfl (fun K hK => ?_)
            go_simp
            refine (of_b _ _).mono ?_
            rintro e wa ⟨rfl, hBa⟩
            have HBa := hid hBa
            clear hBa
            go_wp2_with fail
            have hB3 := belowCat HBW.out HBa.out
            exact hK.out _ _ ⟨KB.out _ hB3, true, b4, b8, b9, b10, b11, b12, _, _, _, _, _, _, by kernel_rfl, rfl, fun _ => rfl, Hx25.out, Hx29.out, Hx30.out, Hx31.out, hB3, HPP.out.below HBa.out, HCC.out⟩
          · obtain rfl := Hx24.out rfl
            refine wpOp_shut rfl (fun K hK => ?_)
            go_simp
            refine (eq_any a p.a _ ha HOK.out.1).mono ?_
            rintro e wa ⟨rfl, hBa⟩
            have HBa := hid hBa
            clear hBa
            go_wp2_with fail
            have hB3 := belowCat HBW.out HBa.out
            exact hK.out _ _ ⟨KB.out _ hB3, true, true, b8, b9, b10, b11, b12, _, _, _, _, _, _, by kernel_rfl, rfl, fun _ => rfl, fun _ => rfl, Hx29.out, Hx30.out, Hx31.out, hB3, HPP.out.below HBa.out, HCC.out⟩
          · obtain rfl := Hx25.out rfl
            refine wpOp_shut rfl (fun K hK => ?_)
            go_simp
            refine (of_b _ _).mono ?_
            rintro e wa ⟨rfl, hBa⟩
            have HBa := hid hBa
            clear hBa
            go_wp2_with fail
            have hB3 := belowCat HBW.out HBa.out
            exact hK.out _ _ ⟨KB.out _ hB3, b3, true, true, b9, b10, b11, b12, _, _, _, _, _, _, by kernel_rfl, rfl, Hx24.out, fun _ => rfl, fun _ => rfl, Hx30.out, Hx31.out, hB3, HPP.out.below HBa.out, HCC.out⟩
          · obtain rfl := Hx29.out rfl
            refine wpOp_shut rfl (fun K hK => ?_)
            go_simp
            refine (eq_any b p.b _ hb HOK.out.2.1).mono ?_
            rintro e wa ⟨rfl, hBa⟩
            have HBa := hid hBa
            clear hBa
            go_wp2_with fail
            have hB3 := belowCat HBW.out HBa.out
            exact hK.out _ _ ⟨KB.out _ hB3, b3, b4, true, true, b10, b11, b12, _, _, _, _, _, _, by kernel_rfl, rfl, Hx24.out, Hx25.out, fun _ => rfl, fun _ => rfl, Hx31.out, hB3, HPP.out.below HBa.out, HCC.out⟩
          · obtain rfl := Hx25.out rfl
            obtain rfl := Hx30.out rfl
            refine wpOp_shut rfl (fun K hK => ?_)
            go_simp
            refine (and_b (mk (a == p.a)) (mk (b == p.b)) _ (mk_lt _) (mk_lt _)).mono ?_
            rintro e wa ⟨rfl, hBa⟩
            rw [HAM.out]
            have HBa := hid hBa
            clear hBa
            go_wp2_with fail
            have hB3 := belowCat HBW.out HBa.out
            exact hK.out _ _ ⟨KB.out _ hB3, b3, true, b8, true, true, b11, b12, _, _, _, _, _, _, by kernel_rfl, rfl, Hx24.out, fun _ => rfl, Hx29.out, fun _ => rfl, fun _ => rfl, hB3, HPP.out.below HBa.out, HCC.out⟩
          · obtain rfl : b12 = false := by have := HCC.out; revert this; cases b12 <;> simp
            refine wpOp_shut rfl (fun K hK => ?_)
            go_simp
            go_wp2_with fail
            have hBa := (Below.refl wC.heap.size wC).alloc (Nat.le_refl _) (.cells #[.int .u32 0] 31 (0, 0))
            have hB3 := belowCat HBW.out hBa
            exact hK.out _ _ ⟨KB.out _ hB3, b3, b4, b8, b9, b10, true, false, _, _, _, _, _, _, by kernel_rfl, rfl, Hx24.out, Hx25.out, Hx29.out, Hx30.out, Hx31.out, hB3, Own1.new HBW.out, rfl⟩
          · obtain ⟨z, rfl, hz1, hz2⟩ := HPP.out rfl
            obtain rfl := Hx31.out rfl
            have c0 := cell_of_heap (i := 0) hz2 rfl
            have g0 := frozen_of_heap (i := 0) hz2
            have HZ := hid (And.intro hz1 hz2)
            clear hz1 hz2
            refine wpOp_shut rfl (fun K hK => ?_)
            go_simp
            go_wp2_with fail
            have hB3 := HBW.out.setCell (p := ⟨z, 0, none⟩) HZ.out.1 (.int .u32 ((mk (pm a b p) : Nat) : Int))
            exact hK.out _ _ ⟨KB.out _ hB3, b3, b4, b8, b9, true, true, true, _, _, _, _, _, _, by kernel_rfl, rfl, Hx24.out, Hx25.out, Hx29.out, Hx30.out, fun _ => rfl, hB3, fun _ => ⟨z, rfl, HZ.out.1, own_put HZ.out.2⟩, rfl⟩
      case rest =>
        obtain ⟨rfl, z, hz, rfl, hbz, hBc⟩ := hcut
        have G6 := hid (hpB hBc H2.out.2.2.2.2.2.1)
        have G7 := hid (hpB hBc H2.out.2.2.2.2.2.2)
        have GB := hid (belowCat H2.out.1 hBc)
        have G0 := hid (And.intro (hpB hBc H2.out.2.1) (And.intro (hpB hBc H2.out.2.2.1) (And.intro (hpB hBc H2.out.2.2.2.1) (hpB hBc H2.out.2.2.2.2.1))))
        have k6 := cell_sb G6.out
        have kz := cell_sb hbz
        have kd := (cell_pr (hpB hBc HD.out)).2.2
        have GZ := hid hbz
        have hzn : w.heap.size + 1 + 1 + 1 + 1 + 1 + 1 + 1 < z := HDL.out z (by have := HSZ.out; omega)
        have HZN := hid hzn
        clear hBc hbz hz hzn KB H2 HD HDL HSZ
        go_wp2_with fail
        refine (gather_any (twT a b l k) p.t (pm a b p) _ HTK.out HOK.out.2.2).mono ?_
        rintro e w3 ⟨rfl, hB3⟩
        rw [← HTS.out]
        have K6 := hid (hpB hB3 G6.out)
        have K7 := hid (hpB hB3 G7.out)
        have KZ := hid (hpB hB3 GZ.out)
        have K0 := hid (And.intro (hpB hB3 G0.out.1) (And.intro (hpB hB3 G0.out.2.1) (And.intro (hpB hB3 G0.out.2.2.1) (hpB hB3 G0.out.2.2.2))))
        have KBl := hid (belowCat GB.out hB3)
        have e6 := cell_sb K6.out
        have f6 := frozen_of_heap (i := 0) K6.out
        have e7 : (w3.setCell ⟨w.heap.size + 1 + 1 + 1 + 1 + 1 + 1, 0, none⟩ (.int .u32 (twT a b l (k + 1) : Nat))).cell? ⟨w.heap.size + 1 + 1 + 1 + 1 + 1 + 1 + 1, 0, none⟩ = some (.int .u32 (mk (twM a b l k) : Nat)) := cell_sb (by rw [Below.heap_setCell _ _ _ _ (by show w.heap.size + 1 + 1 + 1 + 1 + 1 + 1 + 1 ≠ w.heap.size + 1 + 1 + 1 + 1 + 1 + 1; omega)]; exact K7.out)
        have ez : (w3.setCell ⟨w.heap.size + 1 + 1 + 1 + 1 + 1 + 1, 0, none⟩ (.int .u32 (twT a b l (k + 1) : Nat))).cell? ⟨z, 0, none⟩ = some (.int .u32 (mk (pm a b p) : Nat)) := cell_sb (by rw [Below.heap_setCell _ _ _ _ (by show z ≠ w.heap.size + 1 + 1 + 1 + 1 + 1 + 1; have := HZN.out; omega)]; exact KZ.out)
        clear hB3 k6 kz kd
        go_wp2_with fail
        refine (or_b (mk (twM a b l k)) (mk (pm a b p)) _ (mk_lt _) (mk_lt _)).mono ?_
        rw [or_mk, ← HMS.out]
        rintro e w5 ⟨rfl, hB5⟩
        have hs := heap_setCell_at _ _ 0 _ _ _ (.int .u32 (twT a b l (k + 1) : Nat)) K6.out
        have ho : ∀ q, q ≠ w.heap.size + 1 + 1 + 1 + 1 + 1 + 1 → (w3.setCell ⟨w.heap.size + 1 + 1 + 1 + 1 + 1 + 1, 0, none⟩ (.int .u32 (twT a b l (k + 1) : Nat))).heap[q]? = w3.heap[q]? := fun q hq => Below.heap_setCell _ _ _ _ hq
        have J6 := hid (hpB hB5 hs)
        have J7 := hid (hpB hB5 ((ho _ (by omega)).trans K7.out))
        have J0 := hid (And.intro (hpB hB5 ((ho _ (by omega)).trans K0.out.1)) (And.intro (hpB hB5 ((ho _ (by omega)).trans K0.out.2.1)) (And.intro (hpB hB5 ((ho _ (by omega)).trans K0.out.2.2.1)) (hpB hB5 ((ho _ (by omega)).trans K0.out.2.2.2)))))
        have JB := hid (belowCat (blw_set (p := ⟨w.heap.size + 1 + 1 + 1 + 1 + 1 + 1, 0, none⟩) (.int .u32 (twT a b l (k + 1) : Nat)) KBl.out (by show w.heap.size ≤ w.heap.size + 1 + 1 + 1 + 1 + 1 + 1; omega)) hB5)
        have q7 := cell_sb J7.out
        have r7 := frozen_of_heap (i := 0) J7.out
        clear hB5 hs ho e6 e7 ez f6
        go_wp2
        go_roundw
        case rel =>
          have hs := heap_setCell_at _ _ 0 _ _ _ (.int .u32 (mk (twM a b l (k + 1)) : Nat)) J7.out
          have ho : ∀ q, q ≠ w.heap.size + 1 + 1 + 1 + 1 + 1 + 1 + 1 → (w5.setCell ⟨w.heap.size + 1 + 1 + 1 + 1 + 1 + 1 + 1, 0, none⟩ (.int .u32 (mk (twM a b l (k + 1)) : Nat))).heap[q]? = w5.heap[q]? := fun q hq => Below.heap_setCell _ _ _ _ hq
          exact ⟨k + 1, by omega, by go_num, blw_set _ JB.out (by show w.heap.size ≤ w.heap.size + 1 + 1 + 1 + 1 + 1 + 1 + 1; omega), (ho _ (by omega)).trans J0.out.1, (ho _ (by omega)).trans J0.out.2.1, (ho _ (by omega)).trans J0.out.2.2.1, (ho _ (by omega)).trans J0.out.2.2.2, (ho _ (by omega)).trans J6.out, hs⟩
        case measure => simp [intOf]; omega
    · have hke : k = l.length := by omega
      subst hke
      have c6 := cell_sb hb6
      have c7 := cell_sb hb7
      have c2 := cell_sb hb2
      have c3 := cell_sb hb3
      have f2 := frozen_of_heap (i := 0) hb2
      have f3 := frozen_of_heap (i := 0) hb3
      clear hB hb0 hb1 hb2 hb3 hb6 hb7
      go_wp2_with fail
      go_region_held3 (fun w' => w'.cell? ⟨w.heap.size + 1 + 1 + 1 + 1 + 1 + 1, 0, none⟩ = some (.int .u32 (twT a b l l.length : Nat)) ∧ w'.cell? ⟨w.heap.size + 1 + 1 + 1 + 1 + 1 + 1 + 1, 0, none⟩ = some (.int .u32 (mk (twM a b l l.length) : Nat))) (go_keep) (fail)
      · go_wp2
        obtain ⟨d2, d3⟩ := two_set (twT a b l l.length : Nat) (mk (twM a b l l.length) : Nat) HH.out.2.2.2.1 HH.out.2.2.2.2.1 (by omega)
        exact bodyPost_ret (v := .tuple #[sec (twT a b l l.length : Nat), sec (mk (twM a b l l.length) : Nat)]) (by simp only [results, Try.results18]; simp [go_sem, d2, d3]) rfl ⟨rfl, blw_drew (blw_set _ (blw_set _ HH.out.1 (by show w.heap.size ≤ w.heap.size + 1 + 1; omega)) (by show w.heap.size ≤ w.heap.size + 1 + 1 + 1; omega))⟩

/-- the document's Two -/
theorem pm_eq (a b : Nat) (p : Pr) : pm a b p = ((p.a == a) && (p.b == b)) := by
  unfold pm
  have h : ∀ x y : Nat, (x == y) = (y == x) := fun x y => by rw [Bool.eq_iff_iff, beq_iff_eq, beq_iff_eq]; exact eq_comm
  rw [h a, h b]
set_option maxHeartbeats 1600000 in
theorem rtwo_any (a b cap : Nat) (ad : Option Addr) (l : List Pr) (w : World) (hl : PrsAt w ad l) (hn : l.length ≤ 1000000000) :
    Calls Try.prog 19 #[.slice ad l.length cap, u32 a, u32 b] w fun e w' => e = .returned (.tuple #[u32 (twT a b l l.length : Nat), .bool (twM a b l l.length)]) ∧ w' = w := by
  have HL := hid hl
  have HT := hid (twT_lt a b l (fun p hp => (hl.1 p hp).2.2))
  clear hl
  go_enter Try.func19, Try.ntmps19
  go_wp2
  go_loopw [8, 9, 10] (fun t m c wr => ∃ k : Nat, k ≤ l.length ∧ t = .int .u32 (twT a b l k : Nat) ∧ m = .bool (twM a b l k) ∧ c = .int .i64 (k : Int) ∧ wr = w) (fun _ _ c _ => l.length - (intOf c).toNat)
  case atStart => exact ⟨0, Nat.zero_le _, rfl, rfl, rfl, rfl⟩
  case round =>
    obtain ⟨k, hk, rfl, rfl, rfl, rfl⟩ := hrel
    by_cases hlt : k < l.length
    · obtain ⟨x, rfl, hp⟩ := HL.out.2 k hlt
      have HOK := hid (HL.out.1 _ (List.getElem_mem hlt))
      have HTS := hid (twT_succ a b l k hlt)
      have HMS := hid (twM_succ a b l k hlt)
      have HTK := hid (HT.out k hk)
      obtain ⟨p, hpe⟩ : ∃ p, l[k] = p := ⟨_, rfl⟩
      rw [hpe] at hp HOK HTS HMS
      rw [pm_eq] at HTS HMS
      obtain ⟨c0, c1, c2⟩ := hp
      clear hpe
      by_cases h1 : p.a = a
      · have d1 : (p.a == a) = true := by simp [h1]
        by_cases h2 : p.b = b
        · have d2 : (p.b == b) = true := by simp [h2]
          rw [d1, d2] at HTS HMS
          go_wp2
          go_roundw
          case rel => exact ⟨k + 1, by omega, by rw [HTS.out]; unfold gat; rw [u32_or_nat _ _ HTK.out HOK.out.2.2]; rfl, by rw [HMS.out]; simp, by go_num, trivial⟩
          case measure => simp [intOf]; omega
        · have d2 : (p.b == b) = false := by simp [h2]
          rw [d1, d2] at HTS HMS
          go_wp2
          go_roundw
          case rel => exact ⟨k + 1, by omega, by rw [HTS.out]; unfold gat; simp, by rw [HMS.out]; simp, by go_num, trivial⟩
          case measure => simp [intOf]; omega
      · have d1 : (p.a == a) = false := by simp [h1]
        rw [d1] at HTS HMS
        go_wp2
        go_roundw
        case rel => exact ⟨k + 1, by omega, by rw [HTS.out]; unfold gat; simp, by rw [HMS.out]; simp, by go_num, trivial⟩
        case measure => simp [intOf]; omega
    · have hke : k = l.length := by omega
      subst hke
      go_wp2
      exact bodyPost_ret (v := .tuple #[.int .u32 (twT a b l l.length : Nat), .bool (twM a b l l.length)]) (by simp [results, Try.results19, go_sem]) rfl ⟨rfl, rfl⟩
end Go.Proofs.Ytajkjlnhongjfaa
