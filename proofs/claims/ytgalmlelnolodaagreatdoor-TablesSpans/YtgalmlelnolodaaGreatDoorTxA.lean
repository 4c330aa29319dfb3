/- The document's Has, Two, Class and Map of layer 6, over this seat's translation. Conditions: the words' bounds; at most a thousand million pairs, spans or runs. The charts as texts and what they say, as plain mathematics; rows of items in memory. No conditions. -/
import Derived.Test.YtgalmlelnolodaaGreatDoorCtP
import Derived.Test.YtgalmlelnolodaaGreatDoorTdA
import Derived.Deep.RegionHeld3
import Derived.Test.YtgalmlelnolodaaGreatDoorChGa
import Derived.Test.YtgalmlelnolodaaGreatDoorChVp
namespace Go.Proofs.YtgalmlelnolodaaGreatDoor
open Go.RowKit
set_option linter.unusedVariables false
set_option maxRecDepth 2000

abbrev u32 (v : Int) : Value := .int .u32 v
theorem blwXA {a w : World} {o : Obj} (h : Below a.heap.size a w) : Below a.heap.size a (w.alloc o) := h.alloc h.size o
theorem blwXD {a w : World} (h : Below a.heap.size a w) : Below a.heap.size a w.drew := h.drew
theorem retX {a b : Bool} (h : a = b) : Ending.returned (Value.bool a) = Ending.returned (Value.bool b) := by rw [h]
/-- a span -/
structure Sp where
  f : Nat
  l : Nat
def Sp.has (s : Sp) (x : Nat) : Bool := decide (s.f ≤ x) && decide (x ≤ s.l)
def Sp.ok (s : Sp) : Prop := s.f < 4294967296 ∧ s.l < 4294967296
/-- what is gathered -/
def gat (up : Nat) (yes : Bool) (v : Nat) : Nat := up ||| (if yes then v else 0)
theorem gat_lt {up v : Nat} {yes : Bool} (h : up < 4294967296) (hv : v < 4294967296) : gat up yes v < 4294967296 := by
  unfold gat; exact or32 h (by split <;> omega)
abbrev spVX (s : Sp) : Value := .agg #[.int .u32 (s.f : Int), .int .u32 (s.l : Int)]
abbrev spOX (s : Sp) : Obj := .cells #[.int .u32 (s.f : Int), .int .u32 (s.l : Int)] 47 (0, 0)
set_option maxHeartbeats 400000 in
theorem hasX_any (s : Sp) (x : Nat) (w : World) : Calls Tryz.prog 42 #[spVX s, u32 x] w fun e w' => e = .returned (.bool (s.has x)) ∧ w' = w.alloc (spOX s) := by
  unfold Sp.has
  go_enter Tryz.func42, Tryz.ntmps42
  by_cases h1 : s.f ≤ x
  · by_cases h2 : x ≤ s.l
    · go_wp2
      go_ret
      exact ⟨retX (by simp [h1, h2]), rfl⟩
    · go_wp2
      go_ret
      exact ⟨retX (by simp [h1, h2]), rfl⟩
  · go_wp2
    go_ret
    exact ⟨retX (by simp [h1]), rfl⟩
/-- a pair -/
structure Pr where
  a : Nat
  b : Nat
  t : Nat
def pm (a b : Nat) (p : Pr) : Bool := (a == p.a) && (b == p.b)
def twT (a b : Nat) (l : List Pr) (k : Nat) : Nat := (l.take k).foldl (fun u p => gat u (pm a b p) p.t) 0
def twM (a b : Nat) (l : List Pr) (k : Nat) : Bool := (l.take k).any (pm a b)
theorem twT_succ (a b : Nat) (l : List Pr) (k : Nat) (h : k < l.length) : twT a b l (k + 1) = gat (twT a b l k) (pm a b l[k]) l[k].t := by
  unfold twT; rw [List.take_succ_eq_append_getElem h, List.foldl_append]; rfl
theorem twM_succ (a b : Nat) (l : List Pr) (k : Nat) (h : k < l.length) : twM a b l (k + 1) = (twM a b l k || pm a b l[k]) := by
  unfold twM; rw [List.take_succ_eq_append_getElem h, List.any_append]; simp
theorem twT_lt (a b : Nat) (l : List Pr) (hl : ∀ p ∈ l, p.t < 4294967296) (k : Nat) (h : k ≤ l.length) : twT a b l k < 4294967296 := by
  induction k with
  | zero => simp [twT]
  | succ k ih => rw [twT_succ a b l k h]; exact gat_lt (ih (by omega)) (hl _ (List.getElem_mem _))
theorem ltX_cell {w : World} {a : Addr} {v : Value} (h : w.cell? a = some v) : a.block < w.heap.size := by
  rcases Nat.lt_or_ge a.block w.heap.size with hlt | hge
  · exact hlt
  · simp [World.cell?, Array.getElem?_eq_none hge] at h
theorem cellX {w w' : World} {a : Addr} {v : Value} (hb : Below w.heap.size w w') (h : w.cell? a = some v) : w'.cell? a = some v := cell_below hb h (ltX_cell h)
/-- a pair that came in -/
def PrAt (w : World) (x : Addr) (p : Pr) : Prop := w.cell? x = some (.int .u32 (p.a : Int)) ∧ w.cell? ⟨x.block, x.off + 1, none⟩ = some (.int .u32 (p.b : Int)) ∧ w.cell? ⟨x.block, x.off + 2, none⟩ = some (.int .u32 (p.t : Int))
theorem PrAt.below {w w' : World} {x : Addr} {p : Pr} (h : PrAt w x p) (hb : Below w.heap.size w w') : PrAt w' x p := ⟨cellX hb h.1, cellX hb h.2.1, cellX hb h.2.2⟩
def Pr.ok (p : Pr) : Prop := p.a < 4294967296 ∧ p.b < 4294967296 ∧ p.t < 4294967296
def PrsAt (w : World) (ad : Option Addr) (l : List Pr) : Prop := (∀ p ∈ l, p.ok) ∧ ∀ k (hk : k < l.length), ∃ x, ad = some x ∧ PrAt w (x.add (k * 3)) l[k]
theorem PrsAt.below {w w' : World} {ad : Option Addr} {l : List Pr} (h : PrsAt w ad l) (hb : Below w.heap.size w w') : PrsAt w' ad l := ⟨h.1, fun k hk => by
  obtain ⟨x, h1, h2⟩ := h.2 k hk
  exact ⟨x, h1, h2.below hb⟩⟩
/-- the document's Two -/
theorem pm_eq (a b : Nat) (p : Pr) : pm a b p = ((p.a == a) && (p.b == b)) := by
  unfold pm
  have h : ∀ x y : Nat, (x == y) = (y == x) := fun x y => by rw [Bool.eq_iff_iff, beq_iff_eq, beq_iff_eq]; exact eq_comm
  rw [h a, h b]
set_option maxHeartbeats 1600000 in
theorem rtwo_any (a b cap : Nat) (ad : Option Addr) (l : List Pr) (w : World) (hl : PrsAt w ad l) (hn : l.length ≤ 1000000000) :
    Calls Tryz.prog 8 #[.slice ad l.length cap, u32 a, u32 b] w fun e w' => e = .returned (.tuple #[u32 (twT a b l l.length : Nat), .bool (twM a b l l.length)]) ∧ w' = w := by
  have HL := hid hl
  have HT := hid (twT_lt a b l (fun p hp => (hl.1 p hp).2.2))
  clear hl
  go_enter Tryz.func8, Tryz.ntmps8
  go_wp2
  go_loopw [8, 9, 10] (fun t m c wr => ∃ k : Nat, k ≤ l.length ∧ t = .int .u32 (twT a b l k : Nat) ∧ m = .bool (twM a b l k) ∧ c = .int .i64 (k : Int) ∧ wr = w) (fun _ _ c _ => l.length - (intOf c).toNat)
  case atStart => exact ⟨0, Nat.zero_le _, rfl, rfl, rfl, rfl⟩
  case round =>
    obtain ⟨k, hk, rfl, rfl, rfl, rfl⟩ := hrel
    by_cases hlt : k < l.length
    · obtain ⟨x, rfl, hp⟩ := HL.out.2 k hlt
      have HOK := hid (HL.out.1 _ (List.getElem_mem hlt))
      have HTS := hid (twT_succ a b l k hlt)
      have HMS := hid (twM_succ a b l k hlt)
      have HTK := hid (HT.out k hk)
      obtain ⟨p, hpe⟩ : ∃ p, l[k] = p := ⟨_, rfl⟩
      rw [hpe] at hp HOK HTS HMS
      rw [pm_eq] at HTS HMS
      obtain ⟨c0, c1, c2⟩ := hp
      clear hpe
      by_cases h1 : p.a = a
      · have d1 : (p.a == a) = true := by simp [h1]
        by_cases h2 : p.b = b
        · have d2 : (p.b == b) = true := by simp [h2]
          rw [d1, d2] at HTS HMS
          go_wp2
          go_roundw
          case rel => exact ⟨k + 1, by omega, by rw [HTS.out]; unfold gat; rw [u32_or_nat _ _ HTK.out HOK.out.2.2]; rfl, by rw [HMS.out]; simp, by go_num, trivial⟩
          case measure => simp [intOf]; omega
        · have d2 : (p.b == b) = false := by simp [h2]
          rw [d1, d2] at HTS HMS
          go_wp2
          go_roundw
          case rel => exact ⟨k + 1, by omega, by rw [HTS.out]; unfold gat; simp, by rw [HMS.out]; simp, by go_num, trivial⟩
          case measure => simp [intOf]; omega
      · have d1 : (p.a == a) = false := by simp [h1]
        rw [d1] at HTS HMS
        go_wp2
        go_roundw
        case rel => exact ⟨k + 1, by omega, by rw [HTS.out]; unfold gat; simp, by rw [HMS.out]; simp, by go_num, trivial⟩
        case measure => simp [intOf]; omega
    · have hke : k = l.length := by omega
      subst hke
      go_wp2
      exact bodyPost_ret (v := .tuple #[.int .u32 (twT a b l l.length : Nat), .bool (twM a b l l.length)]) (by simp [results, Tryz.results8, go_sem]) rfl ⟨rfl, rfl⟩
/-- a span and a word -/
structure Rn where
  s : Sp
  t : Nat
def Rn.ok (r : Rn) : Prop := r.s.ok ∧ r.t < 4294967296
def RnAt (w : World) (x : Addr) (r : Rn) : Prop := w.cell? x = some (.int .u32 (r.s.f : Int)) ∧ w.cell? ⟨x.block, x.off + 1, none⟩ = some (.int .u32 (r.s.l : Int)) ∧ w.cell? ⟨x.block, x.off + 2, none⟩ = some (.int .u32 (r.t : Int))
def RnsAt (w : World) (ad : Option Addr) (l : List Rn) : Prop := (∀ r ∈ l, r.ok) ∧ ∀ k (hk : k < l.length), ∃ x, ad = some x ∧ RnAt w (x.add (k * 3)) l[k]
theorem RnsAt.below {w w' : World} {ad : Option Addr} {l : List Rn} (h : RnsAt w ad l) (hb : Below w.heap.size w w') : RnsAt w' ad l := ⟨h.1, fun k hk => by
  obtain ⟨x, h1, h2⟩ := h.2 k hk
  exact ⟨x, h1, cellX hb h2.1, cellX hb h2.2.1, cellX hb h2.2.2⟩⟩
def clT (l : List Rn) (x k : Nat) : Nat := (l.take k).foldl (fun u r => gat u (r.s.has x) r.t) 0
theorem clT_succ (l : List Rn) (x k : Nat) (h : k < l.length) : clT l x (k + 1) = gat (clT l x k) (l[k].s.has x) l[k].t := by
  unfold clT; rw [List.take_succ_eq_append_getElem h, List.foldl_append]; rfl
theorem clT_lt (l : List Rn) (x : Nat) (hl : ∀ r ∈ l, r.t < 4294967296) (k : Nat) (h : k ≤ l.length) : clT l x k < 4294967296 := by
  induction k with
  | zero => simp [clT]
  | succ k ih => rw [clT_succ l x k h]; exact gat_lt (ih (by omega)) (hl _ (List.getElem_mem _))
set_option maxHeartbeats 1600000 in
theorem rclass_any (x cap : Nat) (ad : Option Addr) (l : List Rn) (w : World) (hl : RnsAt w ad l) (hn : l.length ≤ 1000000000) :
    Calls Tryz.prog 14 #[.slice ad l.length cap, u32 x] w fun e w' => e = .returned (u32 (clT l x l.length : Nat)) ∧ Below w.heap.size w w' := by
  have HL := hid hl
  have HT := hid (clT_lt l x (fun r hr => (hl.1 r hr).2))
  clear hl
  go_enter Tryz.func14, Tryz.ntmps14
  go_wp2_with fail
  go_loopw [5, 6] (fun t c wr => ∃ k : Nat, k ≤ l.length ∧ t = .int .u32 (clT l x k : Nat) ∧ c = .int .i64 (k : Int) ∧ Below w.heap.size w wr) (fun _ c _ => l.length - (intOf c).toNat)
  case atStart => exact ⟨0, Nat.zero_le _, rfl, rfl, Below.refl _ _⟩
  case round =>
    obtain ⟨k, hk, rfl, rfl, hB⟩ := hrel
    have HB := hid hB
    by_cases hlt : k < l.length
    · obtain ⟨y, rfl, hp⟩ := (HL.out.below hB).2 k hlt
      have HMS := hid (clT_succ l x k hlt)
      have HTK := hid (HT.out k hk)
      have HOK := hid (HL.out.1 _ (List.getElem_mem hlt))
      obtain ⟨r, hre⟩ : ∃ r, l[k] = r := ⟨_, rfl⟩
      rw [hre] at hp HMS HOK
      obtain ⟨c0, c1, c2⟩ := hp
      clear hB hre
      have HS := hid (fun w => hasX_any r.s x w)
      obtain ⟨b, hb⟩ : ∃ b, r.s.has x = b := ⟨_, rfl⟩
      rw [hb] at HMS HS
      clear hb
      go_wp2_with fail
      refine (HS.out _).mono ?_
      rintro e w1 ⟨rfl, rfl⟩
      cases b
      · go_wp2
        go_roundw
        case rel => exact ⟨k + 1, by omega, by rw [HMS.out]; unfold gat; simp, by go_num, blwXA HB.out⟩
        case measure => simp [intOf]; omega
      · have c3 := cellX ((Below.refl wr.heap.size wr).alloc (Nat.le_refl _) (spOX r.s)) c2
        go_wp2
        go_roundw
        case rel => exact ⟨k + 1, by omega, by rw [HMS.out]; unfold gat; rw [u32_or_nat _ _ HTK.out HOK.out.2]; rfl, by go_num, blwXA HB.out⟩
        case measure => simp [intOf]; omega
    · have hke : k = l.length := by omega
      subst hke
      go_wp2
      go_ret
      exact ⟨rfl, HB.out⟩
def mpT (l : List Rn) (x k : Nat) : Nat := (l.take k).foldl (fun u r => if r.s.has x then addW x (subW r.t r.s.f) else u) x
def mpM (l : List Rn) (x k : Nat) : Bool := (l.take k).any (·.s.has x)
theorem mpT_succ (l : List Rn) (x k : Nat) (h : k < l.length) : mpT l x (k + 1) = if l[k].s.has x then addW x (subW l[k].t l[k].s.f) else mpT l x k := by
  unfold mpT; rw [List.take_succ_eq_append_getElem h, List.foldl_append]; rfl
theorem mpM_succ (l : List Rn) (x k : Nat) (h : k < l.length) : mpM l x (k + 1) = (mpM l x k || l[k].s.has x) := by
  unfold mpM; rw [List.take_succ_eq_append_getElem h, List.any_append]; simp
theorem mpT_lt (l : List Rn) (x : Nat) (hx : x < 4294967296) (k : Nat) (h : k ≤ l.length) : mpT l x k < 4294967296 := by
  induction k with
  | zero => exact hx
  | succ k ih => rw [mpT_succ l x k h]; split; exact addW_lt _ _; exact ih (by omega)
theorem map_w (t f x : Nat) (ht : t < 4294967296) (hf : f < 4294967296) : ((t : Int) + (((x : Int) - (f : Int)) % 4294967296)) % 4294967296 = ((addW x (subW t f) : Nat) : Int) := by
  unfold addW subW; omega
set_option maxHeartbeats 1600000 in
theorem rmap_any (x cap : Nat) (ad : Option Addr) (l : List Rn) (w : World) (hl : RnsAt w ad l) (hn : l.length ≤ 1000000000) :
    Calls Tryz.prog 11 #[.slice ad l.length cap, u32 x] w fun e w' => e = .returned (.tuple #[u32 (mpT l x l.length : Nat), .bool (mpM l x l.length)]) ∧ Below w.heap.size w w' := by
  have HL := hid hl
  clear hl
  obtain ⟨T, hT⟩ : ∃ T, mpT l x l.length = T := ⟨_, rfl⟩
  obtain ⟨M, hM⟩ : ∃ M, mpM l x l.length = M := ⟨_, rfl⟩
  have HTE := hid hT
  have HME := hid hM
  rw [hT, hM]
  clear hT hM
  go_enter Tryz.func11, Tryz.ntmps11
  go_wp2_with fail
  go_loopw [6] (fun c wr => ∃ k : Nat, k ≤ l.length ∧ c = .int .i64 ((k : Int) - 1) ∧ mpT l x k = T ∧ mpM l x k = M ∧ Below w.heap.size w wr) (fun c _ => (intOf c + 1).toNat)
  case atStart => exact ⟨l.length, Nat.le_refl _, by go_num, HTE.out, HME.out, Below.refl _ _⟩
  case round =>
    obtain ⟨k, hk, rfl, ht, hm, hB⟩ := hrel
    have HB := hid hB
    rcases Nat.eq_zero_or_pos k with h0 | h0
    · subst h0
      have HT0 := hid (show (x : Nat) = T from ht)
      have HM0 := hid (show false = M from hm)
      clear ht hm hB
      go_wp2
      exact bodyPost_ret (v := .tuple #[.int .u32 (T : Int), .bool M]) (by simp [results, Tryz.results11, go_sem, ← HT0.out, ← HM0.out]) rfl ⟨rfl, HB.out⟩
    · obtain ⟨j, rfl⟩ : ∃ j, k = j + 1 := ⟨k - 1, by omega⟩
      have hlt : j < l.length := by omega
      obtain ⟨y, rfl, hp⟩ := (HL.out.below hB).2 j hlt
      have HOK := hid (HL.out.1 _ (List.getElem_mem hlt))
      have HMS := hid (mpM_succ l x j hlt)
      have HTS := hid (mpT_succ l x j hlt)
      rw [ht] at HTS
      rw [hm] at HMS
      obtain ⟨r, hre⟩ : ∃ r, l[j] = r := ⟨_, rfl⟩
      rw [hre] at hp HOK HMS HTS
      obtain ⟨c0, c1, c2⟩ := hp
      have HS := hid (fun w => hasX_any r.s x w)
      obtain ⟨b, hb⟩ : ∃ b, r.s.has x = b := ⟨_, rfl⟩
      rw [hb] at HMS HTS HS
      have HJ := hid (show (((j + 1 : Nat) : Int) - 1) = (j : Int) by omega)
      rw [HJ.out]
      clear hB hre hb ht hm h0
      go_wp2_with fail
      refine (HS.out _).mono ?_
      rintro e w1 ⟨rfl, rfl⟩
      cases b
      · go_wp2
        go_roundw
        case rel => exact ⟨j, by omega, by go_num, HTS.out.symm, by have := HMS.out; simp at this; exact this.symm, blwXA HB.out⟩
        case measure => simp [intOf]
      · have hbl := (Below.refl wr.heap.size wr).alloc (Nat.le_refl _) (spOX r.s)
        have k0 := cellX hbl c0
        have k2 := cellX hbl c2
        have KS := hid (show ∀ w' : World, Below (wr.alloc (spOX r.s)).heap.size (wr.alloc (spOX r.s)) w' → w'.cell? (y.add (j * 3)) = some (.int .u32 (r.s.f : Int)) ∧ w'.cell? ⟨(y.add (j * 3)).block, (y.add (j * 3)).off + 2, none⟩ = some (.int .u32 (r.t : Int)) from fun w' hb => ⟨cellX hb k0, cellX hb k2⟩)
        have HB2 := hid (blwXA (o := spOX r.s) HB.out)
        have HV := hid (map_w r.t r.s.f x HOK.out.2 HOK.out.1.1)
        clear c0 c1 c2 hbl
        go_wp2_with fail
        refine wp_region_held_drew (S := (fun w' => w'.cell? (y.add (j * 3)) = some (.int .u32 (r.s.f : Int)) ∧ w'.cell? ⟨(y.add (j * 3)).block, (y.add (j * 3)).off + 2, none⟩ = some (.int .u32 (r.t : Int)))) (by kernel_rfl) (KS.out _ (blwXD (Below.refl _ _))) (fun hHeld => ?_)
        refine tk_at (i := 0) (d := some 21) (v := ?_) rfl rfl (by kernel_rfl) (by kernel_rfl) (by kernel_rfl) (fun _ _ _ h => h) (Or.inl ⟨by rfl, ?_⟩) (by assumption) ?_
        rotate_left
        · (intro w hSw; (try dsimp only at hSw); go_simp; try (with_reducible rfl))
        simp only [Act.put, List.setIfInBounds_toArray, List.set_cons_zero, List.set_cons_succ]
        refine tk_at (i := 1) (d := some 22) (v := ?_) rfl rfl (by kernel_rfl) (by kernel_rfl) (by kernel_rfl) (fun _ _ _ h => h) (Or.inl ⟨by rfl, ?_⟩) (by assumption) ?_
        rotate_left
        · (intro w hSw; (try dsimp only at hSw); go_simp; try (with_reducible rfl))
        simp only [Act.put, List.setIfInBounds_toArray, List.set_cons_zero, List.set_cons_succ]
        refine tk_at (i := 2) (d := some 23) (v := ?_) rfl rfl (by kernel_rfl) (by kernel_rfl) (by kernel_rfl) (fun _ _ _ h => h) (Or.inl ⟨by rfl, ?_⟩) (by assumption) ?_
        rotate_left
        · (intro w hSw; (try dsimp only at hSw); go_simp; try (with_reducible rfl))
        simp only [Act.put, List.setIfInBounds_toArray, List.set_cons_zero, List.set_cons_succ]
        refine tk_at (i := 3) (d := some 24) (v := ?_) rfl rfl (by kernel_rfl) (by kernel_rfl) (by kernel_rfl) (fun _ _ _ h => h) (Or.inl ⟨by rfl, ?_⟩) (by assumption) ?_
        rotate_left
        · (intro w hSw; (try dsimp only at hSw); go_simp; try (with_reducible rfl))
        simp only [Act.put, List.setIfInBounds_toArray, List.set_cons_zero, List.set_cons_succ]
        refine tk_at (i := 4) (d := some 25) (v := ?_) rfl rfl (by kernel_rfl) (by kernel_rfl) (by kernel_rfl) (fun _ _ _ h => h) (Or.inl ⟨by rfl, ?_⟩) (by assumption) ?_
        rotate_left
        · (intro w hSw; (try dsimp only at hSw); go_simp; try (with_reducible rfl))
        simp only [Act.put, List.setIfInBounds_toArray, List.set_cons_zero, List.set_cons_succ]
        refine tk_at (i := 5) (d := some 26) (v := ?_) rfl rfl (by kernel_rfl) (by kernel_rfl) (by kernel_rfl) (fun _ _ _ h => h) (Or.inl ⟨by rfl, ?_⟩) (by assumption) ?_
        rotate_left
        · (intro w hSw; (try dsimp only at hSw); go_simp; try (with_reducible rfl))
        simp only [Act.put, List.setIfInBounds_toArray, List.set_cons_zero, List.set_cons_succ]
        refine tk_at (i := 6) (d := some 27) (v := ?_) rfl rfl (by kernel_rfl) (by kernel_rfl) (by kernel_rfl) (fun _ _ _ h => h) (Or.inl ⟨by rfl, ?_⟩) (by assumption) ?_
        rotate_left
        · (intro w hSw; (try dsimp only at hSw); go_simp; try (with_reducible rfl))
        simp only [Act.put, List.setIfInBounds_toArray, List.set_cons_zero, List.set_cons_succ]
        refine tk_at (i := 7) (d := some 28) (v := ?_) rfl rfl (by kernel_rfl) (by kernel_rfl) (by kernel_rfl) (fun _ _ _ h => h) (Or.inl ⟨by rfl, ?_⟩) (by assumption) ?_
        rotate_left
        · (intro w hSw; (try dsimp only at hSw); go_simp; try (with_reducible rfl))
        simp only [Act.put, List.setIfInBounds_toArray, List.set_cons_zero, List.set_cons_succ]
        refine tk_at (i := 8) (d := some 29) (v := ?_) rfl rfl (by kernel_rfl) (by kernel_rfl) (by kernel_rfl) (fun _ _ _ h => h) (Or.inl ⟨by rfl, ?_⟩) (by assumption) ?_
        rotate_left
        · (intro w hSw; (try dsimp only at hSw); go_simp; try (with_reducible rfl))
        simp only [Act.put, List.setIfInBounds_toArray, List.set_cons_zero, List.set_cons_succ]
        refine tk_at (i := 9) (d := some 30) (v := ?_) rfl rfl (by kernel_rfl) (by kernel_rfl) (by kernel_rfl) (fun _ _ _ h => h) (Or.inl ⟨by rfl, ?_⟩) (by assumption) ?_
        rotate_left
        · (intro w hSw; (try dsimp only at hSw); go_simp; try (with_reducible rfl))
        simp only [Act.put, List.setIfInBounds_toArray, List.set_cons_zero, List.set_cons_succ]
        refine tk_at (i := 10) (d := some 31) (v := ?_) rfl rfl (by kernel_rfl) (by kernel_rfl) (by kernel_rfl) (fun _ _ _ h => h) (Or.inl ⟨by rfl, ?_⟩) (by assumption) ?_
        rotate_left
        · (intro w hSw; (try dsimp only at hSw); go_simp; try (with_reducible rfl))
        simp only [Act.put, List.setIfInBounds_toArray, List.set_cons_zero, List.set_cons_succ]
        refine tk_at (i := 11) (d := some 32) (v := ?_) rfl rfl (by kernel_rfl) (by kernel_rfl) (by kernel_rfl) (fun _ _ _ h => h) (Or.inl ⟨by rfl, ?_⟩) (by assumption) ?_
        rotate_left
        · (intro w hSw; (try dsimp only at hSw); go_simp; try (with_reducible rfl))
        simp only [Act.put, List.setIfInBounds_toArray, List.set_cons_zero, List.set_cons_succ]
        refine tk_at (i := 12) (d := some 33) (v := ?_) rfl rfl (by kernel_rfl) (by kernel_rfl) (by kernel_rfl) (fun _ _ _ h => h) (Or.inl ⟨by rfl, ?_⟩) (by assumption) ?_
        rotate_left
        · (intro w hSw; (try dsimp only at hSw); go_simp; try (with_reducible rfl))
        simp only [Act.put, List.setIfInBounds_toArray, List.set_cons_zero, List.set_cons_succ]
        refine tk_at (i := 13) (d := some 34) (v := ?_) rfl rfl (by kernel_rfl) (by kernel_rfl) (by kernel_rfl) (fun _ _ _ h => h) (Or.inl ⟨by rfl, ?_⟩) (by assumption) ?_
        rotate_left
        · (intro w hSw; (try dsimp only at hSw); go_simp; try (with_reducible rfl))
        simp only [Act.put, List.setIfInBounds_toArray, List.set_cons_zero, List.set_cons_succ]
        refine tk_at (i := 14) (d := some 4) (v := ?_) rfl rfl (by kernel_rfl) (by kernel_rfl) (by kernel_rfl) (fun _ _ _ h => h) (Or.inl ⟨by rfl, ?_⟩) (by assumption) ?_
        rotate_left
        · (intro w hSw; (try dsimp only at hSw); go_simp; try (with_reducible rfl))
        simp only [Act.put, List.setIfInBounds_toArray, List.set_cons_zero, List.set_cons_succ]
        refine tk_at (i := 15) (d := some 5) (v := ?_) rfl rfl (by kernel_rfl) (by kernel_rfl) (by kernel_rfl) (fun _ _ _ h => h) (Or.inl ⟨by rfl, ?_⟩) (by assumption) ?_
        rotate_left
        · (intro w hSw; (try dsimp only at hSw); go_simp; try (with_reducible rfl))
        simp only [Act.put, List.setIfInBounds_toArray, List.set_cons_zero, List.set_cons_succ]
        refine wpAnyH_done (by kernel_rfl) ?_ _
        clear hHeld
        go_wp2
        have e0 : T = addW x (subW r.t r.s.f) := HTS.out.trans (if_pos trivial)
        have e1 : IntKind.u32.wrap ((r.t : Int) + IntKind.u32.wrap ((x : Int) - (r.s.f : Int))) = ((T : Nat) : Int) := by
          rw [IntKind.wrap_u32, IntKind.wrap_u32, HV.out, e0]
        have e2 : true = M := by rw [HMS.out]; simp
        rw [e1, ← e2]
        exact bodyPost_ret (v := .tuple #[.int .u32 (T : Int), .bool true]) (by simp [results, Tryz.results11, go_sem]) rfl ⟨rfl, blwXD HB2.out⟩
end Go.Proofs.YtgalmlelnolodaaGreatDoor
namespace Go.Proofs.YtgalmlelnolodaaGreatDoor
open Go.RowKit
set_option linter.unusedVariables false
set_option maxRecDepth 40000

def txR : ByteArray := ByteArray.mk #[
  48, 48, 48, 48, 32, 48, 48, 48, 56, 32, 67, 99, 32, 66, 78, 32, 85, 32, 111, 108, 100, 10, 48, 48, 48, 57, 32, 48, 48, 48, 57, 32, 67, 99, 32, 83, 32, 85, 32, 111, 108, 100, 10, 48, 48, 48, 65, 32, 48, 48, 48, 65, 32, 67, 99, 32, 66, 32, 85, 32,
  111, 108, 100, 10, 48, 48, 48, 66, 32, 48, 48, 48, 66, 32, 67, 99, 32, 83, 32, 85, 32, 111, 108, 100, 10, 48, 48, 48, 67, 32, 48, 48, 48, 67, 32, 67, 99, 32, 87, 83, 32, 85, 32, 111, 108, 100, 10, 48, 48, 48, 68, 32, 48, 48, 48, 68, 32, 67, 99, 32,
  66, 32, 85, 32, 111, 108, 100, 10, 48, 48, 48, 69, 32, 48, 48, 49, 66, 32, 67, 99, 32, 66, 78, 32, 85, 32, 111, 108, 100, 10, 48, 48, 49, 67, 32, 48, 48, 49, 69, 32, 67, 99, 32, 66, 32, 85, 32, 111, 108, 100, 10, 48, 48, 49, 70, 32, 48, 48, 49, 70,
  32, 67, 99, 32, 83, 32, 85, 32, 111, 108, 100, 10, 48, 48, 50, 48, 32, 48, 48, 50, 48, 32, 90, 115, 32, 87, 83, 32, 85, 32, 111, 108, 100, 10, 48, 48, 50, 49, 32, 48, 48, 50, 50, 32, 80, 111, 32, 79, 78, 32, 85, 32, 111, 108, 100, 10, 48, 48, 50, 51,
  32, 48, 48, 50, 51, 32, 80, 111, 32, 69, 84, 32, 85, 32, 111, 108, 100, 10, 48, 48, 50, 52, 32, 48, 48, 50, 52, 32, 83, 99, 32, 69, 84, 32, 85, 32, 111, 108, 100, 10, 48, 48, 50, 53, 32, 48, 48, 50, 53, 32, 80, 111, 32, 69, 84, 32, 85, 32, 111, 108,
  100, 10, 48, 48, 50, 54, 32, 48, 48, 50, 55, 32, 80, 111, 32, 79, 78, 32, 85, 32, 111, 108, 100, 10, 48, 48, 50, 56, 32, 48, 48, 50, 56, 32, 80, 115, 32, 79, 78, 32, 85, 32, 111, 108, 100, 10, 48, 48, 50, 57, 32, 48, 48, 50, 57, 32, 80, 101, 32, 79,
  78, 32, 85, 32, 111, 108, 100, 10, 48, 48, 50, 65, 32, 48, 48, 50, 65, 32, 80, 111, 32, 79, 78, 32, 85, 32, 111, 108, 100, 10, 48, 48, 50, 66, 32, 48, 48, 50, 66, 32, 83, 109, 32, 69, 83, 32, 85, 32, 111, 108, 100, 10, 48, 48, 50, 67, 32, 48, 48, 50,
  67, 32, 80, 111, 32, 67, 83, 32, 85, 32, 111, 108, 100, 10, 48, 48, 50, 68, 32, 48, 48, 50, 68, 32, 80, 100, 32, 69, 83, 32, 85, 32, 111, 108, 100, 10, 48, 48, 50, 69, 32, 48, 48, 50, 70, 32, 80, 111, 32, 67, 83, 32, 85, 32, 111, 108, 100, 10, 48, 48,
  51, 48, 32, 48, 48, 51, 57, 32, 78, 100, 32, 69, 78, 32, 85, 32, 111, 108, 100, 10, 48, 48, 51, 65, 32, 48, 48, 51, 65, 32, 80, 111, 32, 67, 83, 32, 85, 32, 111, 108, 100, 10, 48, 48, 51, 66, 32, 48, 48, 51, 66, 32, 80, 111, 32, 79, 78, 32, 85, 32,
  111, 108, 100, 10, 48, 48, 51, 67, 32, 48, 48, 51, 69, 32, 83, 109, 32, 79, 78, 32, 85, 32, 111, 108, 100, 10, 48, 48, 51, 70, 32, 48, 48, 52, 48, 32, 80, 111, 32, 79, 78, 32, 85, 32, 111, 108, 100, 10, 48, 48, 52, 49, 32, 48, 48, 53, 65, 32, 76, 117,
  32, 76, 32, 85, 32, 111, 108, 100, 10, 48, 48, 53, 66, 32, 48, 48, 53, 66, 32, 80, 115, 32, 79, 78, 32, 85, 32, 111, 108, 100, 10, 48, 48, 53, 67, 32, 48, 48, 53, 67, 32, 80, 111, 32, 79, 78, 32, 85, 32, 111, 108, 100, 10, 48, 48, 53, 68, 32, 48, 48,
  53, 68, 32, 80, 101, 32, 79, 78, 32, 85, 32, 111, 108, 100, 10, 48, 48, 53, 69, 32, 48, 48, 53, 69, 32, 83, 107, 32, 79, 78, 32, 85, 32, 111, 108, 100, 10, 48, 48, 53, 70, 32, 48, 48, 53, 70, 32, 80, 99, 32, 79, 78, 32, 85, 32, 111, 108, 100, 10, 48,
  48, 54, 48, 32, 48, 48, 54, 48, 32, 83, 107, 32, 79, 78, 32, 85, 32, 111, 108, 100, 10, 48, 48, 54, 49, 32, 48, 48, 55, 65, 32, 76, 108, 32, 76, 32, 85, 32, 111, 108, 100, 10, 48, 48, 55, 66, 32, 48, 48, 55, 66, 32, 80, 115, 32, 79, 78, 32, 85, 32,
  111, 108, 100, 10, 48, 48, 55, 67, 32, 48, 48, 55, 67, 32, 83, 109, 32, 79, 78, 32, 85, 32, 111, 108, 100, 10, 48, 48, 55, 68, 32, 48, 48, 55, 68, 32, 80, 101, 32, 79, 78, 32, 85, 32, 111, 108, 100, 10, 48, 48, 55, 69, 32, 48, 48, 55, 69, 32, 83, 109,
  32, 79, 78, 32, 85, 32, 111, 108, 100, 10, 48, 48, 55, 70, 32, 48, 48, 56, 52, 32, 67, 99, 32, 66, 78, 32, 85, 32, 111, 108, 100, 10, 48, 48, 56, 53, 32, 48, 48, 56, 53, 32, 67, 99, 32, 66, 32, 85, 32, 111, 108, 100, 10, 48, 48, 56, 54, 32, 48, 48,
  57, 70, 32, 67, 99, 32, 66, 78, 32, 85, 32, 111, 108, 100, 10, 48, 48, 65, 48, 32, 48, 48, 65, 48, 32, 90, 115, 32, 67, 83, 32, 85, 32, 111, 108, 100, 10, 48, 48, 65, 49, 32, 48, 48, 65, 49, 32, 80, 111, 32, 79, 78, 32, 85, 32, 111, 108, 100, 10, 48,
  48, 65, 50, 32, 48, 48, 65, 53, 32, 83, 99, 32, 69, 84, 32, 85, 32, 111, 108, 100, 10, 48, 48, 65, 54, 32, 48, 48, 65, 54, 32, 83, 111, 32, 79, 78, 32, 85, 32, 111, 108, 100, 10, 48, 48, 65, 55, 32, 48, 48, 65, 55, 32, 80, 111, 32, 79, 78, 32, 85,
  32, 111, 108, 100, 10, 48, 48, 65, 56, 32, 48, 48, 65, 56, 32, 83, 107, 32, 79, 78, 32, 85, 32, 111, 108, 100, 10, 48, 48, 65, 57, 32, 48, 48, 65, 57, 32, 83, 111, 32, 79, 78, 32, 85, 32, 111, 108, 100, 10, 48, 48, 65, 65, 32, 48, 48, 65, 65, 32, 76,
  111, 32, 76, 32, 85, 32, 111, 108, 100, 10, 48, 48, 65, 66, 32, 48, 48, 65, 66, 32, 80, 105, 32, 79, 78, 32, 85, 32, 111, 108, 100, 10, 48, 48, 65, 67, 32, 48, 48, 65, 67, 32, 83, 109, 32, 79, 78, 32, 85, 32, 111, 108, 100, 10, 48, 48, 65, 68, 32, 48,
  48, 65, 68, 32, 67, 102, 32, 66, 78, 32, 84, 32, 111, 108, 100, 10, 48, 48, 65, 69, 32, 48, 48, 65, 69, 32, 83, 111, 32, 79, 78, 32, 85, 32, 111, 108, 100, 10, 48, 48, 65, 70, 32, 48, 48, 65, 70, 32, 83, 107, 32, 79, 78, 32, 85, 32, 111, 108, 100, 10,
  48, 48, 66, 48, 32, 48, 48, 66, 48, 32, 83, 111, 32, 69, 84, 32, 85, 32, 111, 108, 100, 10, 48, 48, 66, 49, 32, 48, 48, 66, 49, 32, 83, 109, 32, 69, 84, 32, 85, 32, 111, 108, 100, 10, 48, 48, 66, 50, 32, 48, 48, 66, 51, 32, 78, 111, 32, 69, 78, 32,
  85, 32, 111, 108, 100, 10, 48, 48, 66, 52, 32, 48, 48, 66, 52, 32, 83, 107, 32, 79, 78, 32, 85, 32, 111, 108, 100, 10, 48, 48, 66, 53, 32, 48, 48, 66, 53, 32, 76, 108, 32, 76, 32, 85, 32, 111, 108, 100, 10, 48, 48, 66, 54, 32, 48, 48, 66, 55, 32, 80,
  111, 32, 79, 78, 32, 85, 32, 111, 108, 100, 10, 48, 48, 66, 56, 32, 48, 48, 66, 56, 32, 83, 107, 32, 79, 78, 32, 85, 32, 111, 108, 100, 10, 48, 48, 66, 57, 32, 48, 48, 66, 57, 32, 78, 111, 32, 69, 78, 32, 85, 32, 111, 108, 100, 10, 48, 48, 66, 65, 32,
  48, 48, 66, 65, 32, 76, 111, 32, 76, 32, 85, 32, 111, 108, 100, 10, 48, 48, 66, 66, 32, 48, 48, 66, 66, 32, 80, 102, 32, 79, 78, 32, 85, 32, 111, 108, 100, 10, 48, 48, 66, 67, 32, 48, 48, 66, 69, 32, 78, 111, 32, 79, 78, 32, 85, 32, 111, 108, 100, 10,
  48, 48, 66, 70, 32, 48, 48, 66, 70, 32, 80, 111, 32, 79, 78, 32, 85, 32, 111, 108, 100, 10, 48, 48, 67, 48, 32, 48, 48, 68, 54, 32, 76, 117, 32, 76, 32, 85, 32, 111, 108, 100, 10, 48, 48, 68, 55, 32, 48, 48, 68, 55, 32, 83, 109, 32, 79, 78, 32, 85,
  32, 111, 108, 100, 10, 48, 48, 68, 56, 32, 48, 48, 68, 69, 32, 76, 117, 32, 76, 32, 85, 32, 111, 108, 100, 10, 48, 48, 68, 70, 32, 48, 48, 70, 54, 32, 76, 108, 32, 76, 32, 85, 32, 111, 108, 100, 10, 48, 48, 70, 55, 32, 48, 48, 70, 55, 32, 83, 109, 32,
  79, 78, 32, 85, 32, 111, 108, 100, 10, 48, 48, 70, 56, 32, 48, 48, 70, 70, 32, 76, 108, 32, 76, 32, 85, 32, 111, 108, 100, 10, 48, 49, 48, 48, 32, 48, 49, 48, 48, 32, 76, 117, 32, 76, 32, 85, 32, 111, 108, 100, 10, 48, 49, 48, 49, 32, 48, 49, 48, 49,
  32, 76, 108, 32, 76, 32, 85, 32, 111, 108, 100, 10, 48, 49, 48, 50, 32, 48, 49, 48, 50, 32, 76, 117, 32, 76, 32, 85, 32, 111, 108, 100, 10, 48, 49, 48, 51, 32, 48, 49, 48, 51, 32, 76, 108, 32, 76, 32, 85, 32, 111, 108, 100, 10, 48, 49, 48, 52, 32, 48,
  49, 48, 52, 32, 76, 117, 32, 76, 32, 85, 32, 111, 108, 100, 10, 48, 49, 48, 53, 32, 48, 49, 48, 53, 32, 76, 108, 32, 76, 32, 85, 32, 111, 108, 100, 10, 48, 49, 48, 54, 32, 48, 49, 48, 54, 32, 76, 117, 32, 76, 32, 85, 32, 111, 108, 100, 10, 48, 49, 48,
  55, 32, 48, 49, 48, 55, 32, 76, 108, 32, 76, 32, 85, 32, 111, 108, 100, 10, 48, 49, 48, 56, 32, 48, 49, 48, 56, 32, 76, 117, 32, 76, 32, 85, 32, 111, 108, 100, 10, 48, 49, 48, 57, 32, 48, 49, 48, 57, 32, 76, 108, 32, 76, 32, 85, 32, 111, 108, 100, 10,
  48, 49, 48, 65, 32, 48, 49, 48, 65, 32, 76, 117, 32, 76, 32, 85, 32, 111, 108, 100, 10, 48, 49, 48, 66, 32, 48, 49, 48, 66, 32, 76, 108, 32, 76, 32, 85, 32, 111, 108, 100, 10, 48, 49, 48, 67, 32, 48, 49, 48, 67, 32, 76, 117, 32, 76, 32, 85, 32, 111,
  108, 100, 10, 48, 49, 48, 68, 32, 48, 49, 48, 68, 32, 76, 108, 32, 76, 32, 85, 32, 111, 108, 100, 10, 48, 49, 48, 69, 32, 48, 49, 48, 69, 32, 76, 117, 32, 76, 32, 85, 32, 111, 108, 100, 10, 48, 49, 48, 70, 32, 48, 49, 48, 70, 32, 76, 108, 32, 76, 32,
  85, 32, 111, 108, 100, 10, 48, 49, 49, 48, 32, 48, 49, 49, 48, 32, 76, 117, 32, 76, 32, 85, 32, 111, 108, 100, 10, 48, 49, 49, 49, 32, 48, 49, 49, 49, 32, 76, 108, 32, 76, 32, 85, 32, 111, 108, 100, 10, 48, 49, 49, 50, 32, 48, 49, 49, 50, 32, 76, 117,
  32, 76, 32, 85, 32, 111, 108, 100, 10, 48, 49, 49, 51, 32, 48, 49, 49, 51, 32, 76, 108, 32, 76, 32, 85, 32, 111, 108, 100, 10, 48, 49, 49, 52, 32, 48, 49, 49, 52, 32, 76, 117, 32, 76, 32, 85, 32, 111, 108, 100, 10, 48, 49, 49, 53, 32, 48, 49, 49, 53,
  32, 76, 108, 32, 76, 32, 85, 32, 111, 108, 100, 10, 48, 49, 49, 54, 32, 48, 49, 49, 54, 32, 76, 117, 32, 76, 32, 85, 32, 111, 108, 100, 10, 48, 49, 49, 55, 32, 48, 49, 49, 55, 32, 76, 108, 32, 76, 32, 85, 32, 111, 108, 100, 10, 48, 49, 49, 56, 32, 48,
  49, 49, 56, 32, 76, 117, 32, 76, 32, 85, 32, 111, 108, 100, 10, 48, 49, 49, 57, 32, 48, 49, 49, 57, 32, 76, 108, 32, 76, 32, 85, 32, 111, 108, 100, 10, 48, 49, 49, 65, 32, 48, 49, 49, 65, 32, 76, 117, 32, 76, 32, 85, 32, 111, 108, 100, 10, 48, 49, 49,
  66, 32, 48, 49, 49, 66, 32, 76, 108, 32, 76, 32, 85, 32, 111, 108, 100, 10, 48, 49, 49, 67, 32, 48, 49, 49, 67, 32, 76, 117, 32, 76, 32, 85, 32, 111, 108, 100, 10, 48, 49, 49, 68, 32, 48, 49, 49, 68, 32, 76, 108, 32, 76, 32, 85, 32, 111, 108, 100, 10,
  48, 49, 49, 69, 32, 48, 49, 49, 69, 32, 76, 117, 32, 76, 32, 85, 32, 111, 108, 100, 10, 48, 49, 49, 70, 32, 48, 49, 49, 70, 32, 76, 108, 32, 76, 32, 85, 32, 111, 108, 100, 10, 48, 49, 50, 48, 32, 48, 49, 50, 48, 32, 76, 117, 32, 76, 32, 85, 32, 111,
  108, 100, 10, 48, 49, 50, 49, 32, 48, 49, 50, 49, 32, 76, 108, 32, 76, 32, 85, 32, 111, 108, 100, 10, 48, 49, 50, 50, 32, 48, 49, 50, 50, 32, 76, 117, 32, 76, 32, 85, 32, 111, 108, 100, 10, 48, 49, 50, 51, 32, 48, 49, 50, 51, 32, 76, 108, 32, 76, 32,
  85, 32, 111, 108, 100, 10, 48, 49, 50, 52, 32, 48, 49, 50, 52, 32, 76, 117, 32, 76, 32, 85, 32, 111, 108, 100, 10, 48, 49, 50, 53, 32, 48, 49, 50, 53, 32, 76, 108, 32, 76, 32, 85, 32, 111, 108, 100, 10, 48, 49, 50, 54, 32, 48, 49, 50, 54, 32, 76, 117,
  32, 76, 32, 85, 32, 111, 108, 100, 10, 48, 49, 50, 55, 32, 48, 49, 50, 55, 32, 76, 108, 32, 76, 32, 85, 32, 111, 108, 100, 10, 48, 49, 50, 56, 32, 48, 49, 50, 56, 32, 76, 117, 32, 76, 32, 85, 32, 111, 108, 100, 10, 48, 49, 50, 57, 32, 48, 49, 50, 57,
  32, 76, 108, 32, 76, 32, 85, 32, 111, 108, 100, 10, 48, 49, 50, 65, 32, 48, 49, 50, 65, 32, 76, 117, 32, 76, 32, 85, 32, 111, 108, 100, 10, 48, 49, 50, 66, 32, 48, 49, 50, 66, 32, 76, 108, 32, 76, 32, 85, 32, 111, 108, 100, 10, 48, 49, 50, 67, 32, 48,
  49, 50, 67, 32, 76, 117, 32, 76, 32, 85, 32, 111, 108, 100, 10, 48, 49, 50, 68, 32, 48, 49, 50, 68, 32, 76, 108, 32, 76, 32, 85, 32, 111, 108, 100, 10, 48, 49, 50, 69, 32, 48, 49, 50, 69, 32, 76, 117, 32, 76, 32, 85, 32, 111, 108, 100, 10, 48, 49, 50,
  70, 32, 48, 49, 50, 70, 32, 76, 108, 32, 76, 32, 85, 32, 111, 108, 100, 10, 48, 49, 51, 48, 32, 48, 49, 51, 48, 32, 76, 117, 32, 76, 32, 85, 32, 111, 108, 100, 10, 48, 49, 51, 49, 32, 48, 49, 51, 49, 32, 76, 108, 32, 76, 32, 85, 32, 111, 108, 100, 10,
  48, 49, 51, 50, 32, 48, 49, 51, 50, 32, 76, 117, 32, 76, 32, 85, 32, 111, 108, 100, 10, 48, 49, 51, 51, 32, 48, 49, 51, 51, 32, 76, 108, 32, 76, 32, 85, 32, 111, 108, 100, 10, 48, 49, 51, 52, 32, 48, 49, 51, 52, 32, 76, 117, 32, 76, 32, 85, 32, 111,
  108, 100, 10, 48, 49, 51, 53, 32, 48, 49, 51, 53, 32, 76, 108, 32, 76, 32, 85, 32, 111, 108, 100, 10, 48, 49, 51, 54, 32, 48, 49, 51, 54, 32, 76, 117, 32, 76, 32, 85, 32, 111, 108, 100, 10, 48, 49, 51, 55, 32, 48, 49, 51, 56, 32, 76, 108, 32, 76, 32,
  85, 32, 111, 108, 100, 10, 48, 49, 51, 57, 32, 48, 49, 51, 57, 32, 76, 117, 32, 76, 32, 85, 32, 111, 108, 100, 10, 48, 49, 51, 65, 32, 48, 49, 51, 65, 32, 76, 108, 32, 76, 32, 85, 32, 111, 108, 100, 10, 48, 49, 51, 66, 32, 48, 49, 51, 66, 32, 76, 117,
  32, 76, 32, 85, 32, 111, 108, 100, 10, 48, 49, 51, 67, 32, 48, 49, 51, 67, 32, 76, 108, 32, 76, 32, 85, 32, 111, 108, 100, 10, 48, 49, 51, 68, 32, 48, 49, 51, 68, 32, 76, 117, 32, 76, 32, 85, 32, 111, 108, 100, 10, 48, 49, 51, 69, 32, 48, 49, 51, 69,
  32, 76, 108, 32, 76, 32, 85, 32, 111, 108, 100, 10, 48, 49, 51, 70, 32, 48, 49, 51, 70, 32, 76, 117, 32, 76, 32, 85, 32, 111, 108, 100, 10, 48, 49, 52, 48, 32, 48, 49, 52, 48, 32, 76, 108, 32, 76, 32, 85, 32, 111, 108, 100, 10, 48, 49, 52, 49, 32, 48,
  49, 52, 49, 32, 76, 117, 32, 76, 32, 85, 32, 111, 108, 100, 10, 48, 49, 52, 50, 32, 48, 49, 52, 50, 32, 76, 108, 32, 76, 32, 85, 32, 111, 108, 100, 10, 48, 49, 52, 51, 32, 48, 49, 52, 51, 32, 76, 117, 32, 76, 32, 85, 32, 111, 108, 100, 10, 48, 49, 52,
  52, 32, 48, 49, 52, 52, 32, 76, 108, 32, 76, 32, 85, 32, 111, 108, 100, 10, 48, 49, 52, 53, 32, 48, 49, 52, 53, 32, 76, 117, 32, 76, 32, 85, 32, 111, 108, 100, 10, 48, 49, 52, 54, 32, 48, 49, 52, 54, 32, 76, 108, 32, 76, 32, 85, 32, 111, 108, 100, 10,
  48, 49, 52, 55, 32, 48, 49, 52, 55, 32, 76, 117, 32, 76, 32, 85, 32, 111, 108, 100, 10, 48, 49, 52, 56, 32, 48, 49, 52, 57, 32, 76, 108, 32, 76, 32, 85, 32, 111, 108, 100, 10, 48, 49, 52, 65, 32, 48, 49, 52, 65, 32, 76, 117, 32, 76, 32, 85, 32, 111,
  108, 100, 10, 48, 49, 52, 66, 32, 48, 49, 52, 66, 32, 76, 108, 32, 76, 32, 85, 32, 111, 108, 100, 10, 48, 49, 52, 67, 32, 48, 49, 52, 67, 32, 76, 117, 32, 76, 32, 85, 32, 111, 108, 100, 10, 48, 49, 52, 68, 32, 48, 49, 52, 68, 32, 76, 108, 32, 76, 32,
  85, 32, 111, 108, 100, 10, 48, 49, 52, 69, 32, 48, 49, 52, 69, 32, 76, 117, 32, 76, 32, 85, 32, 111, 108, 100, 10, 48, 49, 52, 70, 32, 48, 49, 52, 70, 32, 76, 108, 32, 76, 32, 85, 32, 111, 108, 100, 10, 48, 49, 53, 48, 32, 48, 49, 53, 48, 32, 76, 117,
  32, 76, 32, 85, 32, 111, 108, 100, 10, 48, 49, 53, 49, 32, 48, 49, 53, 49, 32, 76, 108, 32, 76, 32, 85, 32, 111, 108, 100, 10, 48, 49, 53, 50, 32, 48, 49, 53, 50, 32, 76, 117, 32, 76, 32, 85, 32, 111, 108, 100, 10, 48, 49, 53, 51, 32, 48, 49, 53, 51,
  32, 76, 108, 32, 76, 32, 85, 32, 111, 108, 100, 10, 48, 49, 53, 52, 32, 48, 49, 53, 52, 32, 76, 117, 32, 76, 32, 85, 32, 111, 108, 100, 10, 48, 49, 53, 53, 32, 48, 49, 53, 53, 32, 76, 108, 32, 76, 32, 85, 32, 111, 108, 100, 10, 48, 49, 53, 54, 32, 48,
  49, 53, 54, 32, 76, 117, 32, 76, 32, 85, 32, 111, 108, 100, 10, 48, 49, 53, 55, 32, 48, 49, 53, 55, 32, 76, 108, 32, 76, 32, 85, 32, 111, 108, 100, 10, 48, 49, 53, 56, 32, 48, 49, 53, 56, 32, 76, 117, 32, 76, 32, 85, 32, 111, 108, 100, 10, 48, 49, 53,
  57, 32, 48, 49, 53, 57, 32, 76, 108, 32, 76, 32, 85, 32, 111, 108, 100, 10, 48, 49, 53, 65, 32, 48, 49, 53, 65, 32, 76, 117, 32, 76, 32, 85, 32, 111, 108, 100, 10, 48, 49, 53, 66, 32, 48, 49, 53, 66, 32, 76, 108, 32, 76, 32, 85, 32, 111, 108, 100, 10,
  48, 49, 53, 67, 32, 48, 49, 53, 67, 32, 76, 117, 32, 76, 32, 85, 32, 111, 108, 100, 10, 48, 49, 53, 68, 32, 48, 49, 53, 68, 32, 76, 108, 32, 76, 32, 85, 32, 111, 108, 100, 10, 48, 49, 53, 69, 32, 48, 49, 53, 69, 32, 76, 117, 32, 76, 32, 85, 32, 111,
  108, 100, 10, 48, 49, 53, 70, 32, 48, 49, 53, 70, 32, 76, 108, 32, 76, 32, 85, 32, 111, 108, 100, 10, 48, 49, 54, 48, 32, 48, 49, 54, 48, 32, 76, 117, 32, 76, 32, 85, 32, 111, 108, 100, 10, 48, 49, 54, 49, 32, 48, 49, 54, 49, 32, 76, 108, 32, 76, 32,
  85, 32, 111, 108, 100, 10, 48, 49, 54, 50, 32, 48, 49, 54, 50, 32, 76, 117, 32, 76, 32, 85, 32, 111, 108, 100, 10, 48, 49, 54, 51, 32, 48, 49, 54, 51, 32, 76, 108, 32, 76, 32, 85, 32, 111, 108, 100, 10, 48, 49, 54, 52, 32, 48, 49, 54, 52, 32, 76, 117,
  32, 76, 32, 85, 32, 111, 108, 100, 10, 48, 49, 54, 53, 32, 48, 49, 54, 53, 32, 76, 108, 32, 76, 32, 85, 32, 111, 108, 100, 10, 48, 49, 54, 54, 32, 48, 49, 54, 54, 32, 76, 117, 32, 76, 32, 85, 32, 111, 108, 100, 10, 48, 49, 54, 55, 32, 48, 49, 54, 55,
  32, 76, 108, 32, 76, 32, 85, 32, 111, 108, 100, 10, 48, 49, 54, 56, 32, 48, 49, 54, 56, 32, 76, 117, 32, 76, 32, 85, 32, 111, 108, 100, 10, 48, 49, 54, 57, 32, 48, 49, 54, 57, 32, 76, 108, 32, 76, 32, 85, 32, 111, 108, 100, 10, 48, 49, 54, 65, 32, 48,
  49, 54, 65, 32, 76, 117, 32, 76, 32, 85, 32, 111, 108, 100, 10, 48, 49, 54, 66, 32, 48, 49, 54, 66, 32, 76, 108, 32, 76, 32, 85, 32, 111, 108, 100, 10, 48, 49, 54, 67, 32, 48, 49, 54, 67, 32, 76, 117, 32, 76, 32, 85, 32, 111, 108, 100, 10, 48, 49, 54,
  68, 32, 48, 49, 54, 68, 32, 76, 108, 32, 76, 32, 85, 32, 111, 108, 100, 10, 48, 49, 54, 69, 32, 48, 49, 54, 69, 32, 76, 117, 32, 76, 32, 85, 32, 111, 108, 100, 10, 48, 49, 54, 70, 32, 48, 49, 54, 70, 32, 76, 108, 32, 76, 32, 85, 32, 111, 108, 100, 10,
  48, 49, 55, 48, 32, 48, 49, 55, 48, 32, 76, 117, 32, 76, 32, 85, 32, 111, 108, 100, 10, 48, 49, 55, 49, 32, 48, 49, 55, 49, 32, 76, 108, 32, 76, 32, 85, 32, 111, 108, 100, 10, 48, 49, 55, 50, 32, 48, 49, 55, 50, 32, 76, 117, 32, 76, 32, 85, 32, 111,
  108, 100, 10, 48, 49, 55, 51, 32, 48, 49, 55, 51, 32, 76, 108, 32, 76, 32, 85, 32, 111, 108, 100, 10, 48, 49, 55, 52, 32, 48, 49, 55, 52, 32, 76, 117, 32, 76, 32, 85, 32, 111, 108, 100, 10, 48, 49, 55, 53, 32, 48, 49, 55, 53, 32, 76, 108, 32, 76, 32,
  85, 32, 111, 108, 100, 10, 48, 49, 55, 54, 32, 48, 49, 55, 54, 32, 76, 117, 32, 76, 32, 85, 32, 111, 108, 100, 10, 48, 49, 55, 55, 32, 48, 49, 55, 55, 32, 76, 108, 32, 76, 32, 85, 32, 111, 108, 100, 10, 48, 49, 55, 56, 32, 48, 49, 55, 57, 32, 76, 117,
  32, 76, 32, 85, 32, 111, 108, 100, 10, 48, 49, 55, 65, 32, 48, 49, 55, 65, 32, 76, 108, 32, 76, 32, 85, 32, 111, 108, 100, 10, 48, 49, 55, 66, 32, 48, 49, 55, 66, 32, 76, 117, 32, 76, 32, 85, 32, 111, 108, 100, 10, 48, 49, 55, 67, 32, 48, 49, 55, 67,
  32, 76, 108, 32, 76, 32, 85, 32, 111, 108, 100, 10, 48, 49, 55, 68, 32, 48, 49, 55, 68, 32, 76, 117, 32, 76, 32, 85, 32, 111, 108, 100, 10, 48, 49, 55, 69, 32, 48, 49, 55, 70, 32, 76, 108, 32, 76, 32, 85, 32, 111, 108, 100, 10, 48, 49, 67, 52, 32, 48,
  49, 67, 52, 32, 76, 117, 32, 76, 32, 85, 32, 111, 108, 100, 10, 48, 49, 67, 53, 32, 48, 49, 67, 53, 32, 76, 116, 32, 76, 32, 85, 32, 111, 108, 100, 10, 48, 49, 67, 54, 32, 48, 49, 67, 54, 32, 76, 108, 32, 76, 32, 85, 32, 111, 108, 100, 10, 48, 49, 67,
  55, 32, 48, 49, 67, 55, 32, 76, 117, 32, 76, 32, 85, 32, 111, 108, 100, 10, 48, 49, 67, 56, 32, 48, 49, 67, 56, 32, 76, 116, 32, 76, 32, 85, 32, 111, 108, 100, 10, 48, 49, 67, 57, 32, 48, 49, 67, 57, 32, 76, 108, 32, 76, 32, 85, 32, 111, 108, 100, 10,
  48, 49, 68, 53, 32, 48, 49, 68, 53, 32, 76, 117, 32, 76, 32, 85, 32, 111, 108, 100, 10, 48, 49, 68, 54, 32, 48, 49, 68, 54, 32, 76, 108, 32, 76, 32, 85, 32, 111, 108, 100, 10, 48, 49, 68, 55, 32, 48, 49, 68, 55, 32, 76, 117, 32, 76, 32, 85, 32, 111,
  108, 100, 10, 48, 49, 68, 56, 32, 48, 49, 68, 56, 32, 76, 108, 32, 76, 32, 85, 32, 111, 108, 100, 10, 48, 49, 68, 57, 32, 48, 49, 68, 57, 32, 76, 117, 32, 76, 32, 85, 32, 111, 108, 100, 10, 48, 49, 68, 65, 32, 48, 49, 68, 65, 32, 76, 108, 32, 76, 32,
  85, 32, 111, 108, 100, 10, 48, 49, 68, 66, 32, 48, 49, 68, 66, 32, 76, 117, 32, 76, 32, 85, 32, 111, 108, 100, 10, 48, 49, 68, 67, 32, 48, 49, 68, 67, 32, 76, 108, 32, 76, 32, 85, 32, 111, 108, 100, 10, 48, 50, 50, 49, 32, 48, 50, 50, 49, 32, 76, 108,
  32, 76, 32, 85, 32, 110, 101, 119, 10, 48, 50, 54, 54, 32, 48, 50, 54, 54, 32, 76, 108, 32, 76, 32, 85, 32, 111, 108, 100, 10, 48, 50, 66, 48, 32, 48, 50, 66, 49, 32, 76, 109, 32, 76, 32, 85, 32, 111, 108, 100, 10, 48, 50, 66, 67, 32, 48, 50, 66, 67,
  32, 76, 109, 32, 76, 32, 85, 32, 111, 108, 100, 10, 48, 50, 68, 56, 32, 48, 50, 68, 68, 32, 83, 107, 32, 79, 78, 32, 85, 32, 111, 108, 100, 10, 48, 51, 48, 48, 32, 48, 51, 52, 55, 32, 77, 110, 32, 78, 83, 77, 32, 84, 32, 111, 108, 100, 10, 48, 51, 53,
  56, 32, 48, 51, 53, 56, 32, 77, 110, 32, 78, 83, 77, 32, 84, 32, 110, 101, 119, 10, 48, 51, 55, 53, 32, 48, 51, 55, 53, 32, 83, 107, 32, 79, 78, 32, 85, 32, 111, 108, 100, 10, 48, 51, 55, 69, 32, 48, 51, 55, 69, 32, 80, 111, 32, 79, 78, 32, 85, 32,
  111, 108, 100, 10, 48, 51, 56, 52, 32, 48, 51, 56, 53, 32, 83, 107, 32, 79, 78, 32, 85, 32, 111, 108, 100, 10, 48, 51, 56, 54, 32, 48, 51, 56, 54, 32, 76, 117, 32, 76, 32, 85, 32, 111, 108, 100, 10, 48, 51, 56, 55, 32, 48, 51, 56, 55, 32, 80, 111, 32,
  79, 78, 32, 85, 32, 111, 108, 100, 10, 48, 51, 56, 56, 32, 48, 51, 56, 65, 32, 76, 117, 32, 76, 32, 85, 32, 111, 108, 100, 10, 48, 51, 56, 67, 32, 48, 51, 56, 67, 32, 76, 117, 32, 76, 32, 85, 32, 111, 108, 100, 10, 48, 51, 56, 69, 32, 48, 51, 56, 70,
  32, 76, 117, 32, 76, 32, 85, 32, 111, 108, 100, 10, 48, 51, 57, 48, 32, 48, 51, 57, 48, 32, 76, 108, 32, 76, 32, 85, 32, 111, 108, 100, 10, 48, 51, 57, 49, 32, 48, 51, 65, 49, 32, 76, 117, 32, 76, 32, 85, 32, 111, 108, 100, 10, 48, 51, 65, 51, 32, 48,
  51, 65, 66, 32, 76, 117, 32, 76, 32, 85, 32, 111, 108, 100, 10, 48, 51, 65, 67, 32, 48, 51, 67, 69, 32, 76, 108, 32, 76, 32, 85, 32, 111, 108, 100, 10, 48, 51, 68, 48, 32, 48, 51, 68, 49, 32, 76, 108, 32, 76, 32, 85, 32, 111, 108, 100, 10, 48, 52, 48,
  48, 32, 48, 52, 50, 70, 32, 76, 117, 32, 76, 32, 85, 32, 111, 108, 100, 10, 48, 52, 51, 48, 32, 48, 52, 53, 70, 32, 76, 108, 32, 76, 32, 85, 32, 111, 108, 100, 10, 48, 53, 66, 48, 32, 48, 53, 66, 57, 32, 77, 110, 32, 78, 83, 77, 32, 84, 32, 111, 108,
  100, 10, 48, 53, 66, 66, 32, 48, 53, 66, 68, 32, 77, 110, 32, 78, 83, 77, 32, 84, 32, 111, 108, 100, 10, 48, 53, 66, 69, 32, 48, 53, 66, 69, 32, 80, 100, 32, 82, 32, 85, 32, 111, 108, 100, 10, 48, 53, 66, 70, 32, 48, 53, 66, 70, 32, 77, 110, 32, 78,
  83, 77, 32, 84, 32, 111, 108, 100, 10, 48, 53, 67, 49, 32, 48, 53, 67, 50, 32, 77, 110, 32, 78, 83, 77, 32, 84, 32, 111, 108, 100, 10, 48, 53, 68, 48, 32, 48, 53, 69, 65, 32, 76, 111, 32, 82, 32, 85, 32, 111, 108, 100, 10, 48, 53, 70, 51, 32, 48, 53,
  70, 52, 32, 80, 111, 32, 82, 32, 85, 32, 111, 108, 100, 10, 48, 54, 48, 67, 32, 48, 54, 48, 67, 32, 80, 111, 32, 67, 83, 32, 85, 32, 111, 108, 100, 10, 48, 54, 49, 66, 32, 48, 54, 49, 66, 32, 80, 111, 32, 65, 76, 32, 85, 32, 111, 108, 100, 10, 48, 54,
  50, 48, 32, 48, 54, 50, 48, 32, 76, 111, 32, 65, 76, 32, 68, 32, 110, 101, 119, 10, 48, 54, 50, 49, 32, 48, 54, 50, 49, 32, 76, 111, 32, 65, 76, 32, 85, 32, 111, 108, 100, 10, 48, 54, 50, 50, 32, 48, 54, 50, 53, 32, 76, 111, 32, 65, 76, 32, 82, 32,
  111, 108, 100, 10, 48, 54, 50, 54, 32, 48, 54, 50, 54, 32, 76, 111, 32, 65, 76, 32, 68, 32, 111, 108, 100, 10, 48, 54, 50, 55, 32, 48, 54, 50, 55, 32, 76, 111, 32, 65, 76, 32, 82, 32, 111, 108, 100, 10, 48, 54, 50, 56, 32, 48, 54, 50, 56, 32, 76, 111,
  32, 65, 76, 32, 68, 32, 111, 108, 100, 10, 48, 54, 50, 57, 32, 48, 54, 50, 57, 32, 76, 111, 32, 65, 76, 32, 82, 32, 111, 108, 100, 10, 48, 54, 50, 65, 32, 48, 54, 50, 69, 32, 76, 111, 32, 65, 76, 32, 68, 32, 111, 108, 100, 10, 48, 54, 50, 70, 32, 48,
  54, 51, 50, 32, 76, 111, 32, 65, 76, 32, 82, 32, 111, 108, 100, 10, 48, 54, 51, 51, 32, 48, 54, 51, 65, 32, 76, 111, 32, 65, 76, 32, 68, 32, 111, 108, 100, 10, 48, 54, 52, 48, 32, 48, 54, 52, 48, 32, 76, 109, 32, 65, 76, 32, 67, 32, 111, 108, 100, 10,
  48, 54, 52, 49, 32, 48, 54, 52, 55, 32, 76, 111, 32, 65, 76, 32, 68, 32, 111, 108, 100, 10, 48, 54, 52, 56, 32, 48, 54, 52, 56, 32, 76, 111, 32, 65, 76, 32, 82, 32, 111, 108, 100, 10, 48, 54, 52, 57, 32, 48, 54, 52, 65, 32, 76, 111, 32, 65, 76, 32,
  68, 32, 111, 108, 100, 10, 48, 54, 52, 66, 32, 48, 54, 53, 53, 32, 77, 110, 32, 78, 83, 77, 32, 84, 32, 111, 108, 100, 10, 48, 54, 54, 48, 32, 48, 54, 54, 57, 32, 78, 100, 32, 65, 78, 32, 85, 32, 111, 108, 100, 10, 48, 54, 54, 65, 32, 48, 54, 54, 65,
  32, 80, 111, 32, 69, 84, 32, 85, 32, 111, 108, 100, 10, 48, 54, 68, 68, 32, 48, 54, 68, 68, 32, 67, 102, 32, 65, 76, 32, 85, 32, 111, 108, 100, 10, 48, 54, 70, 48, 32, 48, 54, 70, 57, 32, 78, 100, 32, 69, 78, 32, 85, 32, 111, 108, 100, 10, 48, 57, 49,
  53, 32, 48, 57, 49, 55, 32, 76, 111, 32, 76, 32, 85, 32, 111, 108, 100, 10, 48, 57, 51, 67, 32, 48, 57, 51, 67, 32, 77, 110, 32, 78, 83, 77, 32, 84, 32, 111, 108, 100, 10, 48, 57, 52, 68, 32, 48, 57, 52, 68, 32, 77, 110, 32, 78, 83, 77, 32, 84, 32,
  111, 108, 100, 10, 48, 57, 53, 56, 32, 48, 57, 53, 65, 32, 76, 111, 32, 76, 32, 85, 32, 111, 108, 100, 10, 48, 57, 54, 54, 32, 48, 57, 54, 70, 32, 78, 100, 32, 76, 32, 85, 32, 111, 108, 100, 10, 49, 49, 48, 48, 32, 49, 49, 49, 50, 32, 76, 111, 32, 76,
  32, 85, 32, 111, 108, 100, 10, 49, 49, 54, 49, 32, 49, 49, 55, 53, 32, 76, 111, 32, 76, 32, 85, 32, 111, 108, 100, 10, 49, 49, 65, 56, 32, 49, 49, 67, 50, 32, 76, 111, 32, 76, 32, 85, 32, 111, 108, 100, 10, 49, 69, 48, 48, 32, 49, 69, 48, 48, 32, 76,
  117, 32, 76, 32, 85, 32, 111, 108, 100, 10, 49, 69, 48, 49, 32, 49, 69, 48, 49, 32, 76, 108, 32, 76, 32, 85, 32, 111, 108, 100, 10, 49, 69, 48, 50, 32, 49, 69, 48, 50, 32, 76, 117, 32, 76, 32, 85, 32, 111, 108, 100, 10, 49, 69, 48, 51, 32, 49, 69, 48,
  51, 32, 76, 108, 32, 76, 32, 85, 32, 111, 108, 100, 10, 49, 69, 48, 52, 32, 49, 69, 48, 52, 32, 76, 117, 32, 76, 32, 85, 32, 111, 108, 100, 10, 49, 69, 48, 53, 32, 49, 69, 48, 53, 32, 76, 108, 32, 76, 32, 85, 32, 111, 108, 100, 10, 49, 69, 48, 54, 32,
  49, 69, 48, 54, 32, 76, 117, 32, 76, 32, 85, 32, 111, 108, 100, 10, 49, 69, 48, 55, 32, 49, 69, 48, 55, 32, 76, 108, 32, 76, 32, 85, 32, 111, 108, 100, 10, 49, 69, 48, 56, 32, 49, 69, 48, 56, 32, 76, 117, 32, 76, 32, 85, 32, 111, 108, 100, 10, 49, 69,
  48, 57, 32, 49, 69, 48, 57, 32, 76, 108, 32, 76, 32, 85, 32, 111, 108, 100, 10, 49, 69, 48, 65, 32, 49, 69, 48, 65, 32, 76, 117, 32, 76, 32, 85, 32, 111, 108, 100, 10, 49, 69, 48, 66, 32, 49, 69, 48, 66, 32, 76, 108, 32, 76, 32, 85, 32, 111, 108, 100,
  10, 49, 69, 57, 69, 32, 49, 69, 57, 69, 32, 76, 117, 32, 76, 32, 85, 32, 110, 101, 119, 10, 49, 69, 65, 48, 32, 49, 69, 65, 48, 32, 76, 117, 32, 76, 32, 85, 32, 111, 108, 100, 10, 49, 69, 65, 49, 32, 49, 69, 65, 49, 32, 76, 108, 32, 76, 32, 85, 32,
  111, 108, 100, 10, 49, 69, 65, 50, 32, 49, 69, 65, 50, 32, 76, 117, 32, 76, 32, 85, 32, 111, 108, 100, 10, 49, 69, 65, 51, 32, 49, 69, 65, 51, 32, 76, 108, 32, 76, 32, 85, 32, 111, 108, 100, 10, 49, 69, 65, 52, 32, 49, 69, 65, 52, 32, 76, 117, 32, 76,
  32, 85, 32, 111, 108, 100, 10, 49, 69, 65, 53, 32, 49, 69, 65, 53, 32, 76, 108, 32, 76, 32, 85, 32, 111, 108, 100, 10, 49, 69, 65, 54, 32, 49, 69, 65, 54, 32, 76, 117, 32, 76, 32, 85, 32, 111, 108, 100, 10, 49, 69, 65, 55, 32, 49, 69, 65, 55, 32, 76,
  108, 32, 76, 32, 85, 32, 111, 108, 100, 10, 50, 48, 48, 48, 32, 50, 48, 48, 65, 32, 90, 115, 32, 87, 83, 32, 85, 32, 111, 108, 100, 10, 50, 48, 48, 66, 32, 50, 48, 48, 66, 32, 67, 102, 32, 66, 78, 32, 84, 32, 111, 108, 100, 10, 50, 48, 48, 67, 32, 50,
  48, 48, 67, 32, 67, 102, 32, 66, 78, 32, 85, 32, 111, 108, 100, 10, 50, 48, 48, 68, 32, 50, 48, 48, 68, 32, 67, 102, 32, 66, 78, 32, 67, 32, 111, 108, 100, 10, 50, 48, 48, 69, 32, 50, 48, 48, 69, 32, 67, 102, 32, 76, 32, 84, 32, 111, 108, 100, 10, 50,
  48, 48, 70, 32, 50, 48, 48, 70, 32, 67, 102, 32, 82, 32, 84, 32, 111, 108, 100, 10, 50, 48, 49, 48, 32, 50, 48, 49, 53, 32, 80, 100, 32, 79, 78, 32, 85, 32, 111, 108, 100, 10, 50, 48, 49, 56, 32, 50, 48, 49, 56, 32, 80, 105, 32, 79, 78, 32, 85, 32,
  111, 108, 100, 10, 50, 48, 49, 57, 32, 50, 48, 49, 57, 32, 80, 102, 32, 79, 78, 32, 85, 32, 111, 108, 100, 10, 50, 48, 49, 65, 32, 50, 48, 49, 65, 32, 80, 115, 32, 79, 78, 32, 85, 32, 111, 108, 100, 10, 50, 48, 49, 66, 32, 50, 48, 49, 67, 32, 80, 105,
  32, 79, 78, 32, 85, 32, 111, 108, 100, 10, 50, 48, 49, 68, 32, 50, 48, 49, 68, 32, 80, 102, 32, 79, 78, 32, 85, 32, 111, 108, 100, 10, 50, 48, 50, 48, 32, 50, 48, 50, 50, 32, 80, 111, 32, 79, 78, 32, 85, 32, 111, 108, 100, 10, 50, 48, 50, 52, 32, 50,
  48, 50, 54, 32, 80, 111, 32, 79, 78, 32, 85, 32, 111, 108, 100, 10, 50, 48, 50, 56, 32, 50, 48, 50, 56, 32, 90, 108, 32, 87, 83, 32, 85, 32, 111, 108, 100, 10, 50, 48, 50, 57, 32, 50, 48, 50, 57, 32, 90, 112, 32, 66, 32, 85, 32, 111, 108, 100, 10, 50,
  48, 50, 65, 32, 50, 48, 50, 69, 32, 67, 102, 32, 66, 78, 32, 84, 32, 111, 108, 100, 10, 50, 48, 50, 70, 32, 50, 48, 50, 70, 32, 90, 115, 32, 67, 83, 32, 85, 32, 111, 108, 100, 10, 50, 48, 52, 52, 32, 50, 48, 52, 52, 32, 83, 109, 32, 67, 83, 32, 85,
  32, 111, 108, 100, 10, 50, 48, 53, 70, 32, 50, 48, 53, 70, 32, 90, 115, 32, 87, 83, 32, 85, 32, 111, 108, 100, 10, 50, 48, 54, 48, 32, 50, 48, 54, 51, 32, 67, 102, 32, 66, 78, 32, 84, 32, 111, 108, 100, 10, 50, 48, 54, 65, 32, 50, 48, 54, 70, 32, 67,
  102, 32, 66, 78, 32, 84, 32, 111, 108, 100, 10, 50, 48, 55, 48, 32, 50, 48, 55, 48, 32, 78, 111, 32, 69, 78, 32, 85, 32, 111, 108, 100, 10, 50, 48, 55, 52, 32, 50, 48, 55, 57, 32, 78, 111, 32, 69, 78, 32, 85, 32, 111, 108, 100, 10, 50, 48, 65, 67, 32,
  50, 48, 65, 67, 32, 83, 99, 32, 69, 84, 32, 85, 32, 111, 108, 100, 10, 50, 48, 66, 57, 32, 50, 48, 66, 57, 32, 83, 99, 32, 69, 84, 32, 85, 32, 110, 101, 119, 10, 50, 49, 48, 48, 32, 50, 49, 48, 49, 32, 83, 111, 32, 79, 78, 32, 85, 32, 111, 108, 100,
  10, 50, 49, 50, 54, 32, 50, 49, 50, 54, 32, 76, 117, 32, 76, 32, 85, 32, 111, 108, 100, 10, 50, 49, 50, 65, 32, 50, 49, 50, 66, 32, 76, 117, 32, 76, 32, 85, 32, 111, 108, 100, 10, 50, 49, 54, 48, 32, 50, 49, 54, 51, 32, 78, 108, 32, 76, 32, 85, 32,
  111, 108, 100, 10, 50, 49, 55, 48, 32, 50, 49, 55, 51, 32, 78, 108, 32, 76, 32, 85, 32, 111, 108, 100, 10, 50, 49, 57, 48, 32, 50, 49, 57, 52, 32, 83, 109, 32, 79, 78, 32, 85, 32, 111, 108, 100, 10, 50, 50, 54, 48, 32, 50, 50, 54, 48, 32, 83, 109, 32,
  79, 78, 32, 85, 32, 111, 108, 100, 10, 50, 52, 54, 48, 32, 50, 52, 54, 50, 32, 78, 111, 32, 79, 78, 32, 85, 32, 111, 108, 100, 10, 51, 48, 48, 48, 32, 51, 48, 48, 48, 32, 90, 115, 32, 87, 83, 32, 85, 32, 111, 108, 100, 10, 51, 48, 48, 49, 32, 51, 48,
  48, 50, 32, 80, 111, 32, 79, 78, 32, 85, 32, 111, 108, 100, 10, 51, 48, 48, 53, 32, 51, 48, 48, 53, 32, 76, 109, 32, 76, 32, 85, 32, 111, 108, 100, 10, 51, 48, 48, 55, 32, 51, 48, 48, 55, 32, 78, 108, 32, 76, 32, 85, 32, 111, 108, 100, 10, 51, 48, 52,
  49, 32, 51, 48, 57, 52, 32, 76, 111, 32, 76, 32, 85, 32, 111, 108, 100, 10, 51, 48, 57, 57, 32, 51, 48, 57, 65, 32, 77, 110, 32, 78, 83, 77, 32, 84, 32, 111, 108, 100, 10, 51, 48, 65, 49, 32, 51, 48, 70, 65, 32, 76, 111, 32, 76, 32, 85, 32, 111, 108,
  100, 10, 51, 48, 70, 66, 32, 51, 48, 70, 66, 32, 80, 111, 32, 79, 78, 32, 85, 32, 111, 108, 100, 10, 51, 48, 70, 67, 32, 51, 48, 70, 67, 32, 76, 109, 32, 76, 32, 85, 32, 111, 108, 100, 10, 52, 69, 48, 48, 32, 52, 69, 49, 70, 32, 76, 111, 32, 76, 32,
  85, 32, 111, 108, 100, 10, 65, 67, 48, 48, 32, 68, 55, 65, 51, 32, 76, 111, 32, 76, 32, 85, 32, 111, 108, 100, 10, 69, 48, 48, 48, 32, 70, 56, 70, 70, 32, 67, 111, 32, 76, 32, 85, 32, 111, 108, 100, 10, 70, 66, 48, 48, 32, 70, 66, 48, 52, 32, 76, 108,
  32, 76, 32, 85, 32, 111, 108, 100, 10, 70, 66, 49, 68, 32, 70, 66, 49, 68, 32, 76, 111, 32, 82, 32, 85, 32, 111, 108, 100, 10, 70, 66, 50, 65, 32, 70, 66, 50, 66, 32, 76, 111, 32, 82, 32, 85, 32, 111, 108, 100, 10, 70, 69, 70, 70, 32, 70, 69, 70, 70,
  32, 67, 102, 32, 66, 78, 32, 84, 32, 111, 108, 100, 10, 70, 70, 48, 49, 32, 70, 70, 48, 50, 32, 80, 111, 32, 79, 78, 32, 85, 32, 111, 108, 100, 10, 70, 70, 48, 51, 32, 70, 70, 48, 51, 32, 80, 111, 32, 69, 84, 32, 85, 32, 111, 108, 100, 10, 70, 70, 48,
  52, 32, 70, 70, 48, 52, 32, 83, 99, 32, 69, 84, 32, 85, 32, 111, 108, 100, 10, 70, 70, 48, 53, 32, 70, 70, 48, 53, 32, 80, 111, 32, 69, 84, 32, 85, 32, 111, 108, 100, 10, 70, 70, 48, 54, 32, 70, 70, 48, 55, 32, 80, 111, 32, 79, 78, 32, 85, 32, 111,
  108, 100, 10, 70, 70, 48, 56, 32, 70, 70, 48, 56, 32, 80, 115, 32, 79, 78, 32, 85, 32, 111, 108, 100, 10, 70, 70, 48, 57, 32, 70, 70, 48, 57, 32, 80, 101, 32, 79, 78, 32, 85, 32, 111, 108, 100, 10, 70, 70, 48, 65, 32, 70, 70, 48, 65, 32, 80, 111, 32,
  79, 78, 32, 85, 32, 111, 108, 100, 10, 70, 70, 48, 66, 32, 70, 70, 48, 66, 32, 83, 109, 32, 69, 83, 32, 85, 32, 111, 108, 100, 10, 70, 70, 48, 67, 32, 70, 70, 48, 67, 32, 80, 111, 32, 67, 83, 32, 85, 32, 111, 108, 100, 10, 70, 70, 48, 68, 32, 70, 70,
  48, 68, 32, 80, 100, 32, 69, 83, 32, 85, 32, 111, 108, 100, 10, 70, 70, 48, 69, 32, 70, 70, 48, 70, 32, 80, 111, 32, 67, 83, 32, 85, 32, 111, 108, 100, 10, 70, 70, 49, 48, 32, 70, 70, 49, 57, 32, 78, 100, 32, 69, 78, 32, 85, 32, 111, 108, 100, 10, 70,
  70, 49, 65, 32, 70, 70, 49, 65, 32, 80, 111, 32, 67, 83, 32, 85, 32, 111, 108, 100, 10, 70, 70, 49, 66, 32, 70, 70, 49, 66, 32, 80, 111, 32, 79, 78, 32, 85, 32, 111, 108, 100, 10, 70, 70, 49, 67, 32, 70, 70, 49, 69, 32, 83, 109, 32, 79, 78, 32, 85,
  32, 111, 108, 100, 10, 70, 70, 49, 70, 32, 70, 70, 50, 48, 32, 80, 111, 32, 79, 78, 32, 85, 32, 111, 108, 100, 10, 70, 70, 50, 49, 32, 70, 70, 51, 65, 32, 76, 117, 32, 76, 32, 85, 32, 111, 108, 100, 10, 70, 70, 51, 66, 32, 70, 70, 51, 66, 32, 80, 115,
  32, 79, 78, 32, 85, 32, 111, 108, 100, 10, 70, 70, 51, 67, 32, 70, 70, 51, 67, 32, 80, 111, 32, 79, 78, 32, 85, 32, 111, 108, 100, 10, 70, 70, 51, 68, 32, 70, 70, 51, 68, 32, 80, 101, 32, 79, 78, 32, 85, 32, 111, 108, 100, 10, 70, 70, 51, 69, 32, 70,
  70, 51, 69, 32, 83, 107, 32, 79, 78, 32, 85, 32, 111, 108, 100, 10, 70, 70, 51, 70, 32, 70, 70, 51, 70, 32, 80, 99, 32, 79, 78, 32, 85, 32, 111, 108, 100, 10, 70, 70, 52, 48, 32, 70, 70, 52, 48, 32, 83, 107, 32, 79, 78, 32, 85, 32, 111, 108, 100, 10,
  70, 70, 52, 49, 32, 70, 70, 53, 65, 32, 76, 108, 32, 76, 32, 85, 32, 111, 108, 100, 10, 70, 70, 53, 66, 32, 70, 70, 53, 66, 32, 80, 115, 32, 79, 78, 32, 85, 32, 111, 108, 100, 10, 70, 70, 53, 67, 32, 70, 70, 53, 67, 32, 83, 109, 32, 79, 78, 32, 85,
  32, 111, 108, 100, 10, 70, 70, 53, 68, 32, 70, 70, 53, 68, 32, 80, 101, 32, 79, 78, 32, 85, 32, 111, 108, 100, 10, 70, 70, 53, 69, 32, 70, 70, 53, 69, 32, 83, 109, 32, 79, 78, 32, 85, 32, 111, 108, 100, 10, 70, 70, 55, 49, 32, 70, 70, 56, 65, 32, 76,
  111, 32, 76, 32, 85, 32, 111, 108, 100, 10, 70, 70, 57, 69, 32, 70, 70, 57, 70, 32, 76, 109, 32, 76, 32, 85, 32, 111, 108, 100, 10, 70, 70, 70, 57, 32, 70, 70, 70, 66, 32, 67, 102, 32, 66, 78, 32, 84, 32, 111, 108, 100, 10, 70, 70, 70, 67, 32, 70, 70,
  70, 68, 32, 83, 111, 32, 79, 78, 32, 85, 32, 111, 108, 100, 10, 49, 68, 49, 53, 55, 32, 49, 68, 49, 53, 56, 32, 83, 111, 32, 76, 32, 85, 32, 111, 108, 100, 10, 49, 68, 49, 53, 69, 32, 49, 68, 49, 53, 69, 32, 83, 111, 32, 76, 32, 85, 32, 111, 108, 100,
  10, 49, 68, 49, 54, 53, 32, 49, 68, 49, 54, 53, 32, 77, 99, 32, 76, 32, 85, 32, 111, 108, 100, 10, 49, 70, 54, 48, 48, 32, 49, 70, 54, 52, 70, 32, 83, 111, 32, 79, 78, 32, 85, 32, 110, 101, 119, 10, 69, 48, 48, 48, 49, 32, 69, 48, 48, 48, 49, 32,
  67, 102, 32, 66, 78, 32, 84, 32, 111, 108, 100, 10, 69, 48, 48, 50, 48, 32, 69, 48, 48, 55, 70, 32, 67, 102, 32, 66, 78, 32, 84, 32, 111, 108, 100, 10, 70, 48, 48, 48, 48, 32, 70, 70, 70, 70, 68, 32, 67, 111, 32, 76, 32, 85, 32, 111, 108, 100, 10, 49,
  48, 48, 48, 48, 48, 32, 49, 48, 70, 70, 70, 68, 32, 67, 111, 32, 76, 32, 85, 32, 111, 108, 100]
def txC : ByteArray := ByteArray.mk #[
  48, 51, 48, 48, 32, 48, 51, 49, 52, 32, 50, 51, 48, 10, 48, 51, 49, 53, 32, 48, 51, 49, 53, 32, 50, 51, 50, 10, 48, 51, 49, 54, 32, 48, 51, 49, 57, 32, 50, 50, 48, 10, 48, 51, 49, 65, 32, 48, 51, 49, 65, 32, 50, 51, 50, 10, 48, 51, 49, 66,
  32, 48, 51, 49, 66, 32, 50, 49, 54, 10, 48, 51, 49, 67, 32, 48, 51, 50, 48, 32, 50, 50, 48, 10, 48, 51, 50, 49, 32, 48, 51, 50, 50, 32, 50, 48, 50, 10, 48, 51, 50, 51, 32, 48, 51, 50, 54, 32, 50, 50, 48, 10, 48, 51, 50, 55, 32, 48, 51, 50,
  56, 32, 50, 48, 50, 10, 48, 51, 50, 57, 32, 48, 51, 51, 51, 32, 50, 50, 48, 10, 48, 51, 51, 52, 32, 48, 51, 51, 56, 32, 49, 10, 48, 51, 51, 57, 32, 48, 51, 51, 67, 32, 50, 50, 48, 10, 48, 51, 51, 68, 32, 48, 51, 52, 52, 32, 50, 51, 48, 10,
  48, 51, 52, 53, 32, 48, 51, 52, 53, 32, 50, 52, 48, 10, 48, 51, 52, 54, 32, 48, 51, 52, 54, 32, 50, 51, 48, 10, 48, 51, 52, 55, 32, 48, 51, 52, 55, 32, 50, 50, 48, 10, 48, 51, 53, 56, 32, 48, 51, 53, 56, 32, 50, 51, 50, 10, 48, 53, 66, 48,
  32, 48, 53, 66, 48, 32, 49, 48, 10, 48, 53, 66, 49, 32, 48, 53, 66, 49, 32, 49, 49, 10, 48, 53, 66, 50, 32, 48, 53, 66, 50, 32, 49, 50, 10, 48, 53, 66, 51, 32, 48, 53, 66, 51, 32, 49, 51, 10, 48, 53, 66, 52, 32, 48, 53, 66, 52, 32, 49, 52,
  10, 48, 53, 66, 53, 32, 48, 53, 66, 53, 32, 49, 53, 10, 48, 53, 66, 54, 32, 48, 53, 66, 54, 32, 49, 54, 10, 48, 53, 66, 55, 32, 48, 53, 66, 55, 32, 49, 55, 10, 48, 53, 66, 56, 32, 48, 53, 66, 56, 32, 49, 56, 10, 48, 53, 66, 57, 32, 48, 53,
  66, 57, 32, 49, 57, 10, 48, 53, 66, 66, 32, 48, 53, 66, 66, 32, 50, 48, 10, 48, 53, 66, 67, 32, 48, 53, 66, 67, 32, 50, 49, 10, 48, 53, 66, 68, 32, 48, 53, 66, 68, 32, 50, 50, 10, 48, 53, 66, 70, 32, 48, 53, 66, 70, 32, 50, 51, 10, 48, 53,
  67, 49, 32, 48, 53, 67, 49, 32, 50, 52, 10, 48, 53, 67, 50, 32, 48, 53, 67, 50, 32, 50, 53, 10, 48, 54, 52, 66, 32, 48, 54, 52, 66, 32, 50, 55, 10, 48, 54, 52, 67, 32, 48, 54, 52, 67, 32, 50, 56, 10, 48, 54, 52, 68, 32, 48, 54, 52, 68, 32,
  50, 57, 10, 48, 54, 52, 69, 32, 48, 54, 52, 69, 32, 51, 48, 10, 48, 54, 52, 70, 32, 48, 54, 52, 70, 32, 51, 49, 10, 48, 54, 53, 48, 32, 48, 54, 53, 48, 32, 51, 50, 10, 48, 54, 53, 49, 32, 48, 54, 53, 49, 32, 51, 51, 10, 48, 54, 53, 50, 32,
  48, 54, 53, 50, 32, 51, 52, 10, 48, 54, 53, 51, 32, 48, 54, 53, 52, 32, 50, 51, 48, 10, 48, 54, 53, 53, 32, 48, 54, 53, 53, 32, 50, 50, 48, 10, 48, 57, 51, 67, 32, 48, 57, 51, 67, 32, 55, 10, 48, 57, 52, 68, 32, 48, 57, 52, 68, 32, 57, 10,
  51, 48, 57, 57, 32, 51, 48, 57, 65, 32, 56, 10, 49, 68, 49, 54, 53, 32, 49, 68, 49, 54, 53, 32, 50, 49, 54]
def txL : ByteArray := ByteArray.mk #[
  48, 48, 52, 49, 32, 48, 48, 53, 65, 32, 48, 48, 54, 49, 10, 48, 48, 67, 54, 32, 48, 48, 67, 54, 32, 48, 48, 69, 54, 10, 48, 48, 68, 48, 32, 48, 48, 68, 48, 32, 48, 48, 70, 48, 10, 48, 48, 68, 56, 32, 48, 48, 68, 56, 32, 48, 48, 70, 56, 10,
  48, 48, 68, 69, 32, 48, 48, 68, 69, 32, 48, 48, 70, 69, 10, 48, 49, 49, 48, 32, 48, 49, 49, 48, 32, 48, 49, 49, 49, 10, 48, 49, 50, 54, 32, 48, 49, 50, 54, 32, 48, 49, 50, 55, 10, 48, 49, 51, 50, 32, 48, 49, 51, 50, 32, 48, 49, 51, 51, 10,
  48, 49, 51, 70, 32, 48, 49, 51, 70, 32, 48, 49, 52, 48, 10, 48, 49, 52, 49, 32, 48, 49, 52, 49, 32, 48, 49, 52, 50, 10, 48, 49, 52, 65, 32, 48, 49, 52, 65, 32, 48, 49, 52, 66, 10, 48, 49, 53, 50, 32, 48, 49, 53, 50, 32, 48, 49, 53, 51, 10,
  48, 49, 54, 54, 32, 48, 49, 54, 54, 32, 48, 49, 54, 55, 10, 48, 49, 67, 52, 32, 48, 49, 67, 52, 32, 48, 49, 67, 54, 10, 48, 49, 67, 53, 32, 48, 49, 67, 53, 32, 48, 49, 67, 54, 10, 48, 49, 67, 55, 32, 48, 49, 67, 55, 32, 48, 49, 67, 57, 10,
  48, 49, 67, 56, 32, 48, 49, 67, 56, 32, 48, 49, 67, 57, 10, 48, 51, 57, 49, 32, 48, 51, 65, 49, 32, 48, 51, 66, 49, 10, 48, 51, 65, 51, 32, 48, 51, 65, 57, 32, 48, 51, 67, 51, 10, 48, 52, 48, 50, 32, 48, 52, 48, 50, 32, 48, 52, 53, 50, 10,
  48, 52, 48, 52, 32, 48, 52, 48, 54, 32, 48, 52, 53, 52, 10, 48, 52, 48, 56, 32, 48, 52, 48, 66, 32, 48, 52, 53, 56, 10, 48, 52, 48, 70, 32, 48, 52, 48, 70, 32, 48, 52, 53, 70, 10, 48, 52, 49, 48, 32, 48, 52, 49, 56, 32, 48, 52, 51, 48, 10,
  48, 52, 49, 65, 32, 48, 52, 50, 70, 32, 48, 52, 51, 65, 10, 49, 69, 57, 69, 32, 49, 69, 57, 69, 32, 48, 48, 68, 70, 10, 50, 49, 54, 48, 32, 50, 49, 54, 51, 32, 50, 49, 55, 48, 10, 70, 70, 50, 49, 32, 70, 70, 51, 65, 32, 70, 70, 52, 49]
def txW : ByteArray := ByteArray.mk #[
  51, 48, 48, 48, 32, 51, 48, 48, 48, 32, 48, 48, 50, 48, 10, 70, 70, 48, 49, 32, 70, 70, 53, 69, 32, 48, 48, 50, 49, 10, 70, 70, 55, 49, 32, 70, 70, 55, 49, 32, 51, 48, 65, 50, 10, 70, 70, 55, 50, 32, 70, 70, 55, 50, 32, 51, 48, 65, 52, 10,
  70, 70, 55, 51, 32, 70, 70, 55, 51, 32, 51, 48, 65, 54, 10, 70, 70, 55, 52, 32, 70, 70, 55, 52, 32, 51, 48, 65, 56, 10, 70, 70, 55, 53, 32, 70, 70, 55, 53, 32, 51, 48, 65, 65, 10, 70, 70, 55, 54, 32, 70, 70, 55, 54, 32, 51, 48, 65, 66, 10,
  70, 70, 55, 55, 32, 70, 70, 55, 55, 32, 51, 48, 65, 68, 10, 70, 70, 55, 56, 32, 70, 70, 55, 56, 32, 51, 48, 65, 70, 10, 70, 70, 55, 57, 32, 70, 70, 55, 57, 32, 51, 48, 66, 49, 10, 70, 70, 55, 65, 32, 70, 70, 55, 65, 32, 51, 48, 66, 51, 10,
  70, 70, 55, 66, 32, 70, 70, 55, 66, 32, 51, 48, 66, 53, 10, 70, 70, 55, 67, 32, 70, 70, 55, 67, 32, 51, 48, 66, 55, 10, 70, 70, 55, 68, 32, 70, 70, 55, 68, 32, 51, 48, 66, 57, 10, 70, 70, 55, 69, 32, 70, 70, 55, 69, 32, 51, 48, 66, 66, 10,
  70, 70, 55, 70, 32, 70, 70, 55, 70, 32, 51, 48, 66, 68, 10, 70, 70, 56, 48, 32, 70, 70, 56, 48, 32, 51, 48, 66, 70, 10, 70, 70, 56, 49, 32, 70, 70, 56, 49, 32, 51, 48, 67, 49, 10, 70, 70, 56, 50, 32, 70, 70, 56, 50, 32, 51, 48, 67, 52, 10,
  70, 70, 56, 51, 32, 70, 70, 56, 51, 32, 51, 48, 67, 54, 10, 70, 70, 56, 52, 32, 70, 70, 56, 52, 32, 51, 48, 67, 56, 10, 70, 70, 56, 53, 32, 70, 70, 56, 53, 32, 51, 48, 67, 65, 10, 70, 70, 56, 54, 32, 70, 70, 56, 54, 32, 51, 48, 67, 66, 10,
  70, 70, 56, 55, 32, 70, 70, 56, 55, 32, 51, 48, 67, 67, 10, 70, 70, 56, 56, 32, 70, 70, 56, 56, 32, 51, 48, 67, 68, 10, 70, 70, 56, 57, 32, 70, 70, 56, 57, 32, 51, 48, 67, 69, 10, 70, 70, 56, 65, 32, 70, 70, 56, 65, 32, 51, 48, 67, 70, 10,
  70, 70, 57, 69, 32, 70, 70, 57, 69, 32, 51, 48, 57, 57, 10, 70, 70, 57, 70, 32, 70, 70, 57, 70, 32, 51, 48, 57, 65]
def txS : ByteArray := ByteArray.mk #[
  78, 79, 84, 72, 73, 78, 71, 32, 48, 48, 65, 68, 32, 48, 48, 65, 68, 10, 78, 79, 84, 72, 73, 78, 71, 32, 50, 48, 48, 66, 32, 50, 48, 48, 68, 10, 78, 79, 84, 72, 73, 78, 71, 32, 50, 48, 54, 48, 32, 50, 48, 54, 48, 10, 78, 79, 84, 72, 73, 78,
  71, 32, 70, 69, 70, 70, 32, 70, 69, 70, 70, 10, 83, 80, 65, 67, 69, 32, 48, 48, 65, 48, 32, 48, 48, 65, 48, 10, 83, 80, 65, 67, 69, 32, 50, 48, 48, 48, 32, 50, 48, 48, 66, 10, 83, 80, 65, 67, 69, 32, 50, 48, 50, 70, 32, 50, 48, 50, 70, 10,
  83, 80, 65, 67, 69, 32, 50, 48, 53, 70, 32, 50, 48, 53, 70, 10, 83, 80, 65, 67, 69, 32, 51, 48, 48, 48, 32, 51, 48, 48, 48, 10, 67, 79, 78, 84, 82, 79, 76, 32, 48, 48, 48, 48, 32, 48, 48, 49, 70, 10, 67, 79, 78, 84, 82, 79, 76, 32, 48, 48,
  55, 70, 32, 48, 48, 57, 70, 10, 67, 79, 78, 84, 82, 79, 76, 32, 48, 54, 68, 68, 32, 48, 54, 68, 68, 10, 67, 79, 78, 84, 82, 79, 76, 32, 50, 48, 48, 67, 32, 50, 48, 48, 68, 10, 67, 79, 78, 84, 82, 79, 76, 32, 50, 48, 50, 56, 32, 50, 48, 50,
  57, 10, 67, 79, 78, 84, 82, 79, 76, 32, 50, 48, 54, 48, 32, 50, 48, 54, 51, 10, 67, 79, 78, 84, 82, 79, 76, 32, 50, 48, 54, 65, 32, 50, 48, 54, 70, 10, 67, 79, 78, 84, 82, 79, 76, 32, 70, 69, 70, 70, 32, 70, 69, 70, 70, 10, 67, 79, 78, 84,
  82, 79, 76, 32, 70, 70, 70, 57, 32, 70, 70, 70, 67, 10, 80, 82, 73, 86, 65, 84, 69, 32, 69, 48, 48, 48, 32, 70, 56, 70, 70, 10, 80, 82, 73, 86, 65, 84, 69, 32, 70, 48, 48, 48, 48, 32, 70, 70, 70, 70, 68, 10, 80, 82, 73, 86, 65, 84, 69, 32,
  49, 48, 48, 48, 48, 48, 32, 49, 48, 70, 70, 70, 68, 10, 80, 76, 65, 73, 78, 32, 70, 70, 70, 57, 32, 70, 70, 70, 68, 10, 83, 72, 79, 87, 78, 32, 48, 51, 52, 48, 32, 48, 51, 52, 49, 10, 83, 72, 79, 87, 78, 32, 50, 48, 48, 69, 32, 50, 48, 48,
  70, 10, 83, 72, 79, 87, 78, 32, 50, 48, 50, 65, 32, 50, 48, 50, 69, 10, 83, 72, 79, 87, 78, 32, 50, 48, 54, 65, 32, 50, 48, 54, 70, 10, 84, 65, 71, 32, 69, 48, 48, 48, 49, 32, 69, 48, 48, 48, 49, 10, 84, 65, 71, 32, 69, 48, 48, 50, 48, 32,
  69, 48, 48, 55, 70, 10, 73, 71, 78, 79, 82, 69, 68, 32, 48, 48, 65, 68, 32, 48, 48, 65, 68, 10, 73, 71, 78, 79, 82, 69, 68, 32, 50, 48, 48, 66, 32, 50, 48, 48, 70, 10, 73, 71, 78, 79, 82, 69, 68, 32, 50, 48, 50, 65, 32, 50, 48, 50, 69, 10,
  73, 71, 78, 79, 82, 69, 68, 32, 50, 48, 54, 48, 32, 50, 48, 54, 51, 10, 73, 71, 78, 79, 82, 69, 68, 32, 50, 48, 54, 65, 32, 50, 48, 54, 70, 10, 73, 71, 78, 79, 82, 69, 68, 32, 70, 69, 70, 70, 32, 70, 69, 70, 70, 10, 73, 71, 78, 79, 82, 69,
  68, 32, 69, 48, 48, 48, 49, 32, 69, 48, 48, 48, 49, 10, 73, 71, 78, 79, 82, 69, 68, 32, 69, 48, 48, 50, 48, 32, 69, 48, 48, 55, 70, 10, 74, 65, 77, 79, 32, 49, 49, 48, 48, 32, 49, 49, 49, 50, 10, 74, 65, 77, 79, 32, 49, 49, 54, 49, 32, 49,
  49, 55, 53, 10, 74, 65, 77, 79, 32, 49, 49, 65, 56, 32, 49, 49, 67, 50, 10, 71, 82, 69, 69, 75, 32, 48, 51, 55, 53, 32, 48, 51, 55, 69, 10, 71, 82, 69, 69, 75, 32, 48, 51, 56, 52, 32, 48, 51, 56, 54, 10, 71, 82, 69, 69, 75, 32, 48, 51, 56,
  56, 32, 48, 51, 68, 49, 10, 71, 82, 69, 69, 75, 32, 50, 49, 50, 54, 32, 50, 49, 50, 54, 10, 72, 69, 66, 82, 69, 87, 32, 48, 53, 66, 48, 32, 48, 53, 70, 52, 10, 72, 69, 66, 82, 69, 87, 32, 70, 66, 49, 68, 32, 70, 66, 50, 66, 10, 75, 65, 78,
  65, 32, 51, 48, 48, 53, 32, 51, 48, 48, 55, 10, 75, 65, 78, 65, 32, 51, 48, 52, 49, 32, 51, 48, 57, 52, 10, 75, 65, 78, 65, 32, 51, 48, 65, 49, 32, 51, 48, 70, 65, 10, 75, 65, 78, 65, 32, 52, 69, 48, 48, 32, 52, 69, 49, 70, 10, 75, 65, 78,
  65, 32, 70, 70, 55, 49, 32, 70, 70, 56, 65]

/-- what the given charts say -/
structure Gi (itR itC itL itW itS : List It) : Prop where
  r : rsV rgOf upW (lwV txR) (lwV txR).length = (itR, 0)
  c : rsV wtOf upW (lwV txC) (lwV txC).length = (itC, 0)
  l : rsV ruOf upW (lwV txL) (lwV txL).length = (itL, 0)
  w : rsV ruOf upW (lwV txW) (lwV txW).length = (itW, 0)
  s : rsV nmOf anyW (lwV txS) (lwV txS).length = (itS, 0)
theorem gi_of {α : Type} {of : List ByteArray → Option α} {bh : α → α → Bool} {n : Nat} {s : ByteArray} (h : goodV of bh n s = true) : ∃ its, rsV of bh (lwV s) (lwV s).length = (its, 0) := by
  unfold goodV at h
  rw [Bool.and_eq_true, Bool.and_eq_true] at h
  exact okV_all h.2.2
theorem gdR : goodV rgK upW 300 txR = true := by kernel_rfl
theorem gdC : goodV wtOf upW 40 txC = true := by kernel_rfl
theorem gdL : goodV ruOf upW 20 txL = true := by kernel_rfl
theorem gdW : goodV ruOf upW 20 txW = true := by kernel_rfl
theorem gdS : goodV nmOf anyW 30 txS = true := by kernel_rfl
theorem gi_ex : ∃ itR itC itL itW itS, Gi itR itC itL itW itS := by
  have h1 := gdR
  rw [rgK_eq] at h1
  obtain ⟨a, ha⟩ := gi_of h1
  obtain ⟨b, hb⟩ := gi_of gdC
  obtain ⟨c, hc⟩ := gi_of gdL
  obtain ⟨d, hd⟩ := gi_of gdW
  obtain ⟨e, he⟩ := gi_of gdS
  exact ⟨a, b, c, d, e, ha, hb, hc, hd, he⟩
theorem gi_is {α : Type} {of : List ByteArray → Option α} {bh : α → α → Bool} {ls : List (List ByteArray)} {n at_ : Nat} {a b : List α} (h : rsV of bh ls n = (a, 0)) (h2 : rsV of bh ls n = (b, at_)) : b = a := by
  rw [h] at h2; cases h2; rfl
theorem gi_len {α : Type} {of : List ByteArray → Option α} {bh : α → α → Bool} {s : ByteArray} {its : List α} (h : rsV of bh (lwV s) (lwV s).length = (its, 0)) (hs : s.size ≤ 1000000) : its.length ≤ 1000001 := by
  have h1 := rsV_len h
  have h2 := lwV_cap s
  omega

/-- a row of items in memory, and its slice -/
structure RwI (w : World) (lo : Nat) (C : It → Array Value) (its : List It) (s : Option Addr × Nat × Nat) : Prop where
  len : s.2.1 = its.length
  at_ : (s.1 = none ∧ its = [] ∧ s.2.2 = 0) ∨ ∃ g, s.1 = some ⟨g, 0, none⟩ ∧ lo ≤ g ∧ ∀ j u, (rowC C its)[j]? = some u → w.cell? ⟨g, j, none⟩ = some u
theorem RwI.below {w w' : World} {lo : Nat} {C : It → Array Value} {its : List It} {s : Option Addr × Nat × Nat} (h : RwI w lo C its s) (hb : Below w.heap.size w w') : RwI w' lo C its s :=
  ⟨h.len, by
    rcases h.at_ with h | ⟨g, h1, h2, h3⟩
    · exact Or.inl h
    · exact Or.inr ⟨g, h1, h2, fun j u hj => cellX hb (h3 j u hj)⟩⟩
theorem RwI.set {w : World} {lo N i : Nat} {v : Value} {C : It → Array Value} {its : List It} {s : Option Addr × Nat × Nat} (h : RwI w lo C its s) (hn : N < lo) : RwI (w.setCell ⟨N, i, none⟩ v) lo C its s :=
  ⟨h.len, by
    rcases h.at_ with h | ⟨g, h1, h2, h3⟩
    · exact Or.inl h
    · exact Or.inr ⟨g, h1, h2, fun j u hj => by
        have hne : g ≠ N := by omega
        have e := h3 j u hj
        unfold World.cell? at e ⊢
        rw [Below.heap_setCell _ _ _ _ hne]
        exact e⟩⟩
theorem RwI.of {w : World} {base e size cap : Nat} {ad : Option Addr} {C : It → Array Value} {its : List It} (h : w.ownsRow base e size (.slice ad its.length cap) its.length (rowC C its)) : RwI w base C its (ad, its.length, cap) :=
  ⟨rfl, by
    obtain ⟨n, hn⟩ : ∃ n, its.length = n := ⟨_, rfl⟩
    rw [hn] at h
    rcases h.2 with ⟨hx, h0⟩ | ⟨g', cap', cur, hx, hb, hg, h1, h2, h3, h4⟩
    · cases hx
      exact Or.inl ⟨rfl, List.length_eq_zero_iff.1 (by omega), rfl⟩
    · cases hx
      refine Or.inr ⟨g', rfl, hb, fun j u hj => cell_of_heap hg ?_⟩
      rw [← h4, List.getElem?_take] at hj
      split at hj
      · simpa using hj
      · cases hj⟩
theorem RwI.low {w : World} {lo b : Nat} {C : It → Array Value} {its : List It} {s : Option Addr × Nat × Nat} (h : RwI w lo C its s) (hl : b ≤ lo) : RwI w b C its s :=
  ⟨h.len, by
    rcases h.at_ with h | ⟨g, h1, h2, h3⟩
    · exact Or.inl h
    · exact Or.inr ⟨g, h1, Nat.le_trans hl h2, h3⟩⟩
/-- such rows -/
def AllR (w : World) (lo : Nat) (L : List ((It → Array Value) × List It × (Option Addr × Nat × Nat))) : Prop := ∀ p ∈ L, RwI w lo p.1 p.2.1 p.2.2
theorem AllR.nil (w : World) (lo : Nat) : AllR w lo [] := fun p hp => by cases hp
theorem AllR.below {w w' : World} {lo : Nat} {L : List ((It → Array Value) × List It × (Option Addr × Nat × Nat))} (h : AllR w lo L) (hb : Below w.heap.size w w') : AllR w' lo L := fun p hp => (h p hp).below hb
theorem AllR.set {w : World} {lo N i : Nat} {v : Value} {L : List ((It → Array Value) × List It × (Option Addr × Nat × Nat))} (h : AllR w lo L) (hn : N < lo) : AllR (w.setCell ⟨N, i, none⟩ v) lo L := fun p hp => (h p hp).set hn
theorem AllR.low {w : World} {lo b : Nat} {L : List ((It → Array Value) × List It × (Option Addr × Nat × Nat))} (h : AllR w lo L) (hl : b ≤ lo) : AllR w b L := fun p hp => (h p hp).low hl
theorem AllR.add {w w' : World} {lo e size cap : Nat} {L : List ((It → Array Value) × List It × (Option Addr × Nat × Nat))} {ad : Option Addr} {C : It → Array Value} {its itX : List It} (h : AllR w lo L) (hb : Below w.heap.size w w') (hI : its = itX) (ho : w'.ownsRow w.heap.size e size (.slice ad its.length cap) its.length (rowC C its)) (hl : lo ≤ w.heap.size) : AllR w' lo ((C, itX, (ad, its.length, cap)) :: L) := fun p hp => by
  rcases List.mem_cons.1 hp with rfl | hp
  · subst hI
    obtain ⟨h1, h2⟩ := RwI.of ho
    refine ⟨h1, ?_⟩
    rcases h2 with h2 | ⟨g, a, b, c⟩
    · exact Or.inl h2
    · exact Or.inr ⟨g, a, Nat.le_trans hl b, c⟩
  · exact (h p hp).below hb
theorem AllR.five {w : World} {lo : Nat} {p1 p2 p3 p4 p5 : (It → Array Value) × List It × (Option Addr × Nat × Nat)} (h : AllR w lo [p1, p2, p3, p4, p5]) : RwI w lo p1.1 p1.2.1 p1.2.2 ∧ RwI w lo p2.1 p2.2.1 p2.2.2 ∧ RwI w lo p3.1 p3.2.1 p3.2.2 ∧ RwI w lo p4.1 p4.2.1 p4.2.2 ∧ RwI w lo p5.1 p5.2.1 p5.2.2 :=
  ⟨h _ (by simp), h _ (by simp), h _ (by simp), h _ (by simp), h _ (by simp)⟩
end Go.Proofs.YtgalmlelnolodaaGreatDoor
