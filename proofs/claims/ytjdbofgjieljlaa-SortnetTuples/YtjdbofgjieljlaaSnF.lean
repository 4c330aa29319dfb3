/- Contracts of package sortnet's read, falls, write and settle, over this seat's translation. Conditions: places within the arena; the log has at most a thousand million events. The contract of package sortnet's settle, over this seat's translation: two tuples are exchanged if the first one's key is above the second one's; the same is noted either way. Conditions: the lanes are within the arena and have no word in common; the log has at most some hundred million events. -/
import Derived.Test.YtjdbofgjieljlaaSnD
import Derived.Test.YtjdbofgjieljlaaCtW
import Derived.Test.YtjdbofgjieljlaaArD
import Derived.Test.YtjdbofgjieljlaaSnS
import Derived.Deep.RegionHeld3
namespace Go.Proofs.Ytjdbofgjieljlaa
open Go.RowKit

abbrev dv (p q : Int) (lo hi : Nat) : Value := .agg #[.int .i64 p, .int .i64 q, .int .u32 (lo : Int), .int .u32 (hi : Int)]
abbrev dvo (p q : Int) (lo hi : Nat) : Obj := .cells #[.int .i64 p, .int .i64 q, .int .u32 (lo : Int), .int .u32 (hi : Int)] 121 (0, 0)
theorem load_at {A : Ars} {L i : Nat} (h : L + i < A.top) : A.loadV ((L : Int) + (i : Int)) = A.word (L + i) ∧ A.load ((L : Int) + (i : Int)) = A.loadN (L + i) := by
  have hf : A.fits ((L : Int) + (i : Int)) 1 = true := by rw [Ars.fits_iff]; omega
  have e : ((L : Int) + (i : Int)).toNat = L + i := by omega
  unfold Ars.loadV Ars.load
  rw [if_pos hf, if_pos hf, e]; exact ⟨rfl, rfl⟩

theorem duo_put {w : World} {g : Nat} {a b c d x0 x1 x2 x3 : Value} {t : TypeId} (hb : w.heap[g]? = some (.cells #[a, b, c, d] t (0, 0))) :
    ((((w.setCell ⟨g, 0, none⟩ x0).setCell ⟨g, 1, none⟩ x1).setCell ⟨g, 2, none⟩ x2).setCell ⟨g, 3, none⟩ x3).heap[g]? = some (.cells #[x0, x1, x2, x3] t (0, 0)) := by
  have h0 := heap_setCell_at w g 0 _ _ _ x0 hb
  have h1 := heap_setCell_at _ g 1 _ _ _ x1 h0
  have h2 := heap_setCell_at _ g 2 _ _ _ x2 h1
  have h3 := heap_setCell_at _ g 3 _ _ _ x3 h2
  rw [h3]; rfl

set_option maxHeartbeats 800000 in
theorem read_any (h : Hn) (F : Nat → Prop) (A : Ars) (L i j : Nat) (w : World) (a : Ar w h F A) (h1 : L + i < A.top) (h2 : L + j < A.top) (hn : A.es.length ≤ 900000000) :
    Calls Try.prog 88 #[arPtr h, .int .i64 (L : Int), .int .i64 (i : Int), .int .i64 (j : Int)] w fun e w' => e = .returned (dv ((L : Int) + i) ((L : Int) + j) (A.word (L + i)) (A.word (L + j))) ∧ ∃ F', Ar w' h F' ((A.loadN (L + i)).loadN (L + j)) ∧ Step w F w' F' := by
  have hb1 := a.ok.1
  have hb2 := a.ok.2.1
  have HA := hid a
  have hnF : ¬ F w.heap.size := fun x => by have := a.lt _ x; omega
  clear a
  obtain ⟨e1, e2⟩ := load_at (A := A) h1
  obtain ⟨e3, e4⟩ := load_at (A := A.loadN (L + i)) (L := L) (i := j) h2
  have H1 := hid e1
  have H2 := hid e2
  have H3 := hid (show (A.loadN (L + i)).loadV ((L : Int) + (j : Int)) = A.word (L + j) from e3)
  have H4 := hid e4
  clear e1 e2 e3 e4
  go_enter Try.func88, Try.ntmps88
  go_wp2_with fail
  refine (ar_load h F A ((L : Int) + (i : Int)) _ (HA.out.alloc _) (by omega) (by omega)).mono ?_
  rintro e w1 ⟨rfl, F1, a1, s1⟩
  rw [H1.out]
  rw [H2.out] at a1
  have A1 := hid a1
  have S1 := hid s1
  clear a1 s1
  go_wp2_with fail
  refine (ar_load h F1 (A.loadN (L + i)) ((L : Int) + (j : Int)) _ A1.out (by omega) (by simp [Ars.loadN, Ars.note]; omega)).mono ?_
  rintro e w2 ⟨rfl, F2, a2, s2⟩
  rw [H3.out]
  rw [H4.out] at a2
  have A2 := hid a2
  have S2 := hid (S1.out.trans s2)
  clear a2 s2
  have hblk := S2.out.heap (i := w.heap.size) (heap_alloc_at _ _) hnF
  have c0 := cell_of_heap (i := 0) hblk rfl
  have c1 := cell_of_heap (i := 1) hblk rfl
  have c2 := cell_of_heap (i := 2) hblk rfl
  have c3 := cell_of_heap (i := 3) hblk rfl
  have g0 := frozen_of_heap (i := 0) hblk
  have g1 := frozen_of_heap (i := 1) hblk
  have g2 := frozen_of_heap (i := 2) hblk
  have g3 := frozen_of_heap (i := 3) hblk
  have HBK := hid hblk
  clear hblk
  go_wp2
  have hb3 := duo_put (x0 := .int .i64 ((L : Int) + i)) (x1 := .int .i64 ((L : Int) + j)) (x2 := .int .u32 (A.word (L + i) : Int)) (x3 := .int .u32 (A.word (L + j) : Int)) HBK.out
  have hF2 : ¬ F2 w.heap.size := S2.out.out hnF (by simp)
  have a3 := (((A2.out.setOther ⟨w.heap.size, 0, none⟩ (.int .i64 ((L : Int) + i)) hF2).setOther ⟨w.heap.size, 1, none⟩ (.int .i64 ((L : Int) + j)) hF2).setOther ⟨w.heap.size, 2, none⟩ (.int .u32 (A.word (L + i) : Int)) hF2).setOther ⟨w.heap.size, 3, none⟩ (.int .u32 (A.word (L + j) : Int)) hF2
  have s3 := (((((Step.refl w F).alloc _).trans S2.out).setNew ⟨w.heap.size, 0, none⟩ (.int .i64 ((L : Int) + i)) (Nat.le_refl _)).setNew ⟨w.heap.size, 1, none⟩ (.int .i64 ((L : Int) + j)) (Nat.le_refl _)).setNew ⟨w.heap.size, 2, none⟩ (.int .u32 (A.word (L + i) : Int)) (Nat.le_refl _) |>.setNew ⟨w.heap.size, 3, none⟩ (.int .u32 (A.word (L + j) : Int)) (Nat.le_refl _)
  clear c0 c1 c2 c3 g0 g1 g2 g3
  generalize (((w2.setCell ⟨w.heap.size, 0, none⟩ (.int .i64 ((L : Int) + i))).setCell ⟨w.heap.size, 1, none⟩ (.int .i64 ((L : Int) + j))).setCell ⟨w.heap.size, 2, none⟩ (.int .u32 (A.word (L + i) : Int))).setCell ⟨w.heap.size, 3, none⟩ (.int .u32 (A.word (L + j) : Int)) = w3 at *
  have c0 := cell_of_heap (i := 0) hb3 rfl
  have c1 := cell_of_heap (i := 1) hb3 rfl
  have c2 := cell_of_heap (i := 2) hb3 rfl
  have c3 := cell_of_heap (i := 3) hb3 rfl
  exact bodyPost_ret (v := dv ((L : Int) + i) ((L : Int) + j) (A.word (L + i)) (A.word (L + j))) (by simp [results, Try.results88, go_sem, c0, c1, c2, c3]) rfl ⟨rfl, F2, a3, s3⟩

set_option maxHeartbeats 800000 in
theorem falls_any (p q : Int) (lo hi : Nat) (w : World) (h1 : lo < 4294967296) (h2 : hi < 4294967296) :
    Calls Try.prog 91 #[dv p q lo hi] w fun e w' => e = .returned (sec (mk (decide (hi < lo)) : Nat)) ∧ Below w.heap.size w w' := by
  go_enter Try.func91, Try.ntmps91
  go_wp2_with fail
  have hb := heap_alloc_at (w.alloc (dvo p q lo hi)) (.cells #[.int .u32 0] 47 (0, 0))
  rw [World.size_alloc] at hb
  refine (lt_any hi lo _ h2 h1).mono ?_
  rintro e w1 ⟨rfl, hB⟩
  have hb1 := (hB.block (w.heap.size + 1) (by simp)).trans hb
  have HB1 := hid hb1
  have HB := hid hB
  have c0 := cell_of_heap (i := 0) hb1 rfl
  have g0 := frozen_of_heap (i := 0) hb1
  clear hB hb hb1
  go_wp2
  have hb2 := heap_setCell_at _ _ 0 _ _ _ (.int .u32 (mk (decide (hi < lo)) : Nat)) HB1.out
  have d0 := cell_of_heap (i := 0) hb2 rfl
  refine bodyPost_ret (v := sec (mk (decide (hi < lo)) : Nat)) (by simp [results, Try.results91, go_sem, d0]) rfl ⟨rfl, ?_⟩
  exact ((((Below.refl _ w).alloc (Nat.le_refl _) _).alloc (by simp) _).trans (HB.out.mono (by simp; omega))).setCell (p := ⟨w.heap.size + 1, 0, none⟩) (by simp) _

theorem selW_pick (b : Bool) (x y : Nat) (h1 : x < 4294967296) (h2 : y < 4294967296) : selW (mk b) x y = pick b x y := by
  cases b
  · exact selW_no x y h2
  · exact selW_yes x y h1
theorem store_at {A : Ars} {p v : Nat} (h : p < A.top) : A.store (p : Int) v = A.storeN p v := by
  have hf : A.fits (p : Int) 1 = true := by rw [Ars.fits_iff]; omega
  unfold Ars.store
  rw [if_pos hf]; rfl
set_option maxHeartbeats 1600000 in
theorem write_any (h : Hn) (F : Nat → Prop) (A : Ars) (p q lo hi : Nat) (b : Bool) (w : World) (a : Ar w h F A) (h1 : p < A.top) (h2 : q < A.top) (h3 : lo < 4294967296) (h4 : hi < 4294967296) (hn : A.es.length ≤ 900000000) :
    Calls Try.prog 93 #[dv (p : Int) (q : Int) lo hi, arPtr h, sec (mk b : Nat)] w fun e w' => e = .returned (.tuple #[]) ∧ ∃ F', Ar w' h F' ((A.storeN p (pick b hi lo)).storeN q (pick b lo hi)) ∧ Step w F w' F' := by
  have hb1 := a.ok.1
  have hb2 := a.ok.2.1
  have HA := hid a
  have hnF : ¬ F w.heap.size := fun x => by have := a.lt _ x; omega
  have hnF1 : ¬ F (w.heap.size + 1) := fun x => by have := a.lt _ x; omega
  have hm := mk_lt b
  have HS1 := hid (selW_pick b hi lo h4 h3)
  have HS2 := hid (selW_pick b lo hi h3 h4)
  have hp1 := pick_lt (b := b) h4 h3
  have hp2 := pick_lt (b := b) h3 h4
  have HE1 := hid (store_at (A := A) (v := pick b hi lo) h1)
  have HE2 := hid (store_at (A := A.storeN p (pick b hi lo)) (v := pick b lo hi) (p := q) h2)
  clear a
  generalize mk b = m at *
  go_enter Try.func93, Try.ntmps93
  go_wp2_with fail
  have HBX := hid (show ((w.alloc (dvo p q lo hi)).alloc (sb m)).heap[w.heap.size]? = some (dvo p q lo hi) by rw [heap_alloc_old _ _ _ (by simp)]; exact heap_alloc_at _ _)
  have HBY := hid (show ((w.alloc (dvo p q lo hi)).alloc (sb m)).heap[w.heap.size + 1]? = some (sb m) by have := heap_alloc_at (w.alloc (dvo p q lo hi)) (sb m); rw [World.size_alloc] at this; exact this)
  have HA1 := hid (show Ar ((w.alloc (dvo p q lo hi)).alloc (sb m)) h F A from (HA.out.alloc _).alloc _)
  have HST := hid (show Step w F ((w.alloc (dvo p q lo hi)).alloc (sb m)) F from ((Step.refl _ _).alloc _).alloc _)
  generalize ((w.alloc (dvo p q lo hi)).alloc (sb m)) = w1 at *
  have k0 : w1.cell? ⟨w.heap.size, 0, none⟩ = some (.int .i64 (p : Int)) := cell_of_heap HBX.out rfl
  have k2 : w1.cell? ⟨w.heap.size, 2, none⟩ = some (.int .u32 (lo : Int)) := cell_of_heap HBX.out rfl
  have k3 : w1.cell? ⟨w.heap.size, 3, none⟩ = some (.int .u32 (hi : Int)) := cell_of_heap HBX.out rfl
  have km : w1.cell? ⟨w.heap.size + 1, 0, none⟩ = some (.int .u32 (m : Int)) := cell_of_heap HBY.out rfl
  have KB := hid (show ∀ w' : World, Below w1.heap.size w1 w' → w'.cell? ⟨w.heap.size, 0, none⟩ = some (.int .i64 (p : Int)) ∧ w'.cell? ⟨w.heap.size, 2, none⟩ = some (.int .u32 (lo : Int)) ∧ w'.cell? ⟨w.heap.size, 3, none⟩ = some (.int .u32 (hi : Int)) ∧ w'.cell? ⟨w.heap.size + 1, 0, none⟩ = some (.int .u32 (m : Int)) from fun w' hb => ⟨cell_below hb k0 (cell_block_lt k0), cell_below hb k2 (cell_block_lt k2), cell_below hb k3 (cell_block_lt k3), cell_below hb km (cell_block_lt km)⟩)
  clear k0 k2 k3 km
  go_region_held3 (fun w' => w'.cell? ⟨w.heap.size, 0, none⟩ = some (.int .i64 (p : Int)) ∧ w'.cell? ⟨w.heap.size, 2, none⟩ = some (.int .u32 (lo : Int)) ∧ w'.cell? ⟨w.heap.size, 3, none⟩ = some (.int .u32 (hi : Int)) ∧ w'.cell? ⟨w.heap.size + 1, 0, none⟩ = some (.int .u32 (m : Int)))
    (first | (exact KX.out) | (exact KB.out _ (by repeat (first | exact Below.refl _ _ | refine blw_alloc ?_ | refine blw_drew ?_ | assumption))) | (go_keep))
    (first
      | (go_at_call 107; refine (sel_any m hi lo _ hm h4 h3).mono ?_; rintro e w' ⟨rfl, rfl⟩; rw [HS1.out])
      | (go_at_call 54; refine (ar_store h F A p (pick b hi lo) _ ((((((HA1.out.alloc _).alloc _).alloc _).alloc _).alloc _).drew) (by omega) hp1 (by omega)).mono ?_; rintro e w2 ⟨rfl, F2, a2, s2⟩; have hs2 := ((((((Step.refl w1 F).alloc _).alloc _).alloc _).alloc _).alloc _).drew.trans s2; have hbx2 := hs2.heap HBX.out hnF; have hby2 := hs2.heap HBY.out hnF1; have KX := hid (show w2.cell? ⟨w.heap.size, 0, none⟩ = some (.int .i64 (p : Int)) ∧ w2.cell? ⟨w.heap.size, 2, none⟩ = some (.int .u32 (lo : Int)) ∧ w2.cell? ⟨w.heap.size, 3, none⟩ = some (.int .u32 (hi : Int)) ∧ w2.cell? ⟨w.heap.size + 1, 0, none⟩ = some (.int .u32 (m : Int)) from ⟨cell_of_heap hbx2 rfl, cell_of_heap hbx2 rfl, cell_of_heap hbx2 rfl, cell_of_heap hby2 rfl⟩)))
  rw [HE1.out] at a2
  have A2 := hid a2
  have S2 := hid (HST.out.trans hs2)
  have HBX2 := hid hbx2
  have HBY2 := hid hby2
  have hnF2 : ¬ F2 w.heap.size := hs2.out hnF (lt_of_heap HBX.out)
  have hnF3 : ¬ F2 (w.heap.size + 1) := hs2.out hnF1 (lt_of_heap HBY.out)
  rename_i hHeld
  clear a2 s2 hs2 hbx2 hby2 KX KB HBX HBY HA1 HST hHeld
  go_wp2_with fail
  have k0 : w2.cell? ⟨w.heap.size, 1, none⟩ = some (.int .i64 (q : Int)) := cell_of_heap HBX2.out rfl
  have k2 : w2.cell? ⟨w.heap.size, 2, none⟩ = some (.int .u32 (lo : Int)) := cell_of_heap HBX2.out rfl
  have k3 : w2.cell? ⟨w.heap.size, 3, none⟩ = some (.int .u32 (hi : Int)) := cell_of_heap HBX2.out rfl
  have km : w2.cell? ⟨w.heap.size + 1, 0, none⟩ = some (.int .u32 (m : Int)) := cell_of_heap HBY2.out rfl
  have KB := hid (show ∀ w' : World, Below w2.heap.size w2 w' → w'.cell? ⟨w.heap.size, 1, none⟩ = some (.int .i64 (q : Int)) ∧ w'.cell? ⟨w.heap.size, 2, none⟩ = some (.int .u32 (lo : Int)) ∧ w'.cell? ⟨w.heap.size, 3, none⟩ = some (.int .u32 (hi : Int)) ∧ w'.cell? ⟨w.heap.size + 1, 0, none⟩ = some (.int .u32 (m : Int)) from fun w' hb => ⟨cell_below hb k0 (cell_block_lt k0), cell_below hb k2 (cell_block_lt k2), cell_below hb k3 (cell_block_lt k3), cell_below hb km (cell_block_lt km)⟩)
  clear k0 k2 k3 km
  go_region_held3 (fun w' => w'.cell? ⟨w.heap.size, 1, none⟩ = some (.int .i64 (q : Int)) ∧ w'.cell? ⟨w.heap.size, 2, none⟩ = some (.int .u32 (lo : Int)) ∧ w'.cell? ⟨w.heap.size, 3, none⟩ = some (.int .u32 (hi : Int)) ∧ w'.cell? ⟨w.heap.size + 1, 0, none⟩ = some (.int .u32 (m : Int)))
    (first | (exact KX.out) | (exact KB.out _ (by repeat (first | exact Below.refl _ _ | refine blw_alloc ?_ | refine blw_drew ?_ | assumption))) | (go_keep))
    (first
      | (go_at_call 107; refine (sel_any m lo hi _ hm h3 h4).mono ?_; rintro e w' ⟨rfl, rfl⟩; rw [HS2.out])
      | (go_at_call 54; refine (ar_store h F2 (A.storeN p (pick b hi lo)) q (pick b lo hi) _ ((((((A2.out.alloc _).alloc _).alloc _).alloc _).alloc _).drew) (by omega) hp2 (by rw [Ars.storeN_eslen]; omega)).mono ?_; rintro e w3 ⟨rfl, F3, a3, s3⟩; have hs3 := ((((((Step.refl w2 F2).alloc _).alloc _).alloc _).alloc _).alloc _).drew.trans s3; have hbx3 := hs3.heap HBX2.out hnF2; have hby3 := hs3.heap HBY2.out hnF3; have KX := hid (show w3.cell? ⟨w.heap.size, 1, none⟩ = some (.int .i64 (q : Int)) ∧ w3.cell? ⟨w.heap.size, 2, none⟩ = some (.int .u32 (lo : Int)) ∧ w3.cell? ⟨w.heap.size, 3, none⟩ = some (.int .u32 (hi : Int)) ∧ w3.cell? ⟨w.heap.size + 1, 0, none⟩ = some (.int .u32 (m : Int)) from ⟨cell_of_heap hbx3 rfl, cell_of_heap hbx3 rfl, cell_of_heap hbx3 rfl, cell_of_heap hby3 rfl⟩)))
  rw [HE2.out] at a3
  have A3 := hid a3
  have S3 := hid (S2.out.trans hs3)
  rename_i hHeld
  clear a3 s3 hs3 hbx3 hby3 KX KB hHeld
  go_wp2
  go_end0
  exact ⟨rfl, F3, A3.out, S3.out⟩

theorem add_nil (x : Addr) : x.add 0 = x := by simp [Addr.add]
theorem below1 (w : World) (o : Obj) : Below w.heap.size w (w.alloc o) := (Below.refl _ w).alloc (Nat.le_refl _) o
theorem later {w w' : World} {a : Addr} {v : Value} (hb : Below w.heap.size w w') (h : w.cell? a = some v) : w'.cell? a = some v := cell_below hb h (cell_block_lt h)
theorem mask_swap (p q r : Bool) : orW (mk p) (andW (mk q) (mk r)) = mk (p || (q && r)) := by cases p <;> cases q <;> cases r <;> decide
theorem key_swap (x y u v : Nat) (h1 : u < 4294967296) (h2 : v < 4294967296) : (decide (y < x) || (x == y && decide (v < u))) = decide (y * 4294967296 + v < x * 4294967296 + u) := by
  rw [Bool.eq_iff_iff]
  simp only [Bool.or_eq_true, Bool.and_eq_true, decide_eq_true_eq, beq_iff_eq]
  omega

def LaneCells (w : World) (x : Addr) (zs : List Int) : Prop := ∀ k (hk : k < zs.length), w.cell? (x.add k) = some (.int .i64 zs[k])

/-- the taking of an operation whose temporary is named -/
theorem take_at {P : Program} {md : Region.Mode} {ops : Array Oper} {Q : Exit → Go.Act → World → Prop} {S : World → Prop} {i : Nat} {oi : Oper} {d : Option Tmp} {v : Value} {fuel : Nat} {listed : Array Bool} {a : Go.Act} {w : World} (hi : ops[i]? = some oi) (hd : oi.dst = d)
    (hs : Region.noSelect ops = true) (hf : Region.free md ops listed i = true) (hr : (Region.ready md ops listed).contains i = true)
    (hQ : ∀ c a w, Q (.panic c) (a.put d v) w → Q (.panic c) a w) (hy : YieldsIf P ops S oi v a) (hS : S w)
    (h : wpAnyH P md ops Q S fuel (listed.setIfInBounds i true) (a.put d v) w) : wpAnyH P md ops Q S (fuel + 1) listed a w := by
  subst hd; exact wpAnyH_take hi hs hf hr hQ hy hS h
theorem add2 (x : Addr) (k : Nat) : (x.add 2).add k = ⟨x.block, x.off + 2 + k, none⟩ := by
  have h1 : x.add 2 = ⟨x.block, x.off + 2, none⟩ := rfl
  rw [h1]; simp [Addr.add]
theorem tenth {a b c d e f g h i j : Prop} (x : a ∧ b ∧ c ∧ d ∧ e ∧ f ∧ g ∧ h ∧ i ∧ j) : j := x.2.2.2.2.2.2.2.2.2
set_option maxHeartbeats 3200000 in
theorem settle_any (h : Hn) (F : Nat → Prop) (A : Ars) (n i j a0 a1 : Nat) (rest : List Nat) (x : Addr) (cap : Nat) (w : World) (a : Ar w h F A) (hij : i < j) (hj : j < n) (hin : ∀ L ∈ a0 :: a1 :: rest, L + n ≤ A.top) (hp : (a0 :: a1 :: rest).Pairwise (Apart n))
    (hlen : rest.length ≤ 1000) (hcap : rest.length + 2 ≤ cap) (hcap2 : cap ≤ 9223372036854775807) (hL : LaneCells w x ((a0 :: a1 :: rest).map fun (L : Nat) => (L : Int))) (hx : ¬ F x.block) (hn : A.es.length ≤ 800000000) :
    Calls Try.prog 59 #[arPtr h, .int .i64 (i : Int), .int .i64 (j : Int), .slice (some x) (rest.length + 2) cap] w fun e w' => e = .returned (.tuple #[]) ∧ ∃ F' A', Ar w' h F' A' ∧ Step w F w' F' ∧
      Grew A A' ((a0 :: a1 :: rest).foldl (stepF (decide (tkey (tup A.word (a0 :: a1 :: rest) j) < tkey (tup A.word (a0 :: a1 :: rest) i))) i j) A.word) (evS i j (a0 :: a1 :: rest)) := by
  have hb1 := a.ok.1
  have hb2 := a.ok.2.1
  have HA := hid a
  have hw := fun k => Ars.word_lt a.ok k
  have l0 : w.cell? x = some (.int .i64 (a0 : Int)) := (add_nil x) ▸ hL 0 (by simp)
  have l1 : w.cell? ⟨x.block, x.off + 1, none⟩ = some (.int .i64 (a1 : Int)) := hL 1 (by simp)
  have HL := hid hL
  have t0 : a0 + n ≤ A.top := hin a0 (by simp)
  have t1 : a1 + n ≤ A.top := hin a1 (by simp)
  have HIN := hid hin
  have HP := hid hp
  have HAP := hid (show Apart n a0 a1 from (List.pairwise_cons.1 hp).1 a1 (by simp))
  have HK := hid (key_swap (A.word (a0 + i)) (A.word (a0 + j)) (A.word (a1 + i)) (A.word (a1 + j)) (hw _) (hw _))
  have HTK := hid (show ∀ z, tkey (tup A.word (a0 :: a1 :: rest) z) = A.word (a0 + z) * 4294967296 + A.word (a1 + z) from fun z => by simp [tkey, tup])
  rw [HTK.out, HTK.out, ← HK.out]
  have x0 := hw (a0 + i)
  have x1 := hw (a0 + j)
  have x2 := hw (a1 + i)
  have x3 := hw (a1 + j)
  have HRD0 := hid (fun F w a => read_any h F A a0 i j w a (by omega) (by omega) (by omega))
  have HRD1 := hid (fun F w a => read_any h F (rdA A (a0 + i) (a0 + j)) a1 i j w a (by show a1 + i < A.top; omega) (by show a1 + j < A.top; omega) (by rw [rdA_es]; simp [evR]; omega))
  have HW0 := hid (fun b F w a => write_any h F (rdA (rdA A (a0 + i) (a0 + j)) (a1 + i) (a1 + j)) (a0 + i) (a0 + j) (A.word (a0 + i)) (A.word (a0 + j)) b w a (by show a0 + i < A.top; omega) (by show a0 + j < A.top; omega) x0 x1 (by rw [rdA_es, rdA_es]; simp [evR]; omega))
  have HW1 := hid (fun b F w a => write_any h F (wrA (rdA (rdA A (a0 + i) (a0 + j)) (a1 + i) (a1 + j)) (a0 + i) (a0 + j) (A.word (a0 + i)) (A.word (a0 + j)) b) (a1 + i) (a1 + j) (A.word (a1 + i)) (A.word (a1 + j)) b w a (by show a1 + i < A.top; omega) (by show a1 + j < A.top; omega) x2 x3 (by rw [wrA_es, rdA_es, rdA_es]; simp [evR, evW]; omega))
  clear a hL hin hp hw
  obtain ⟨c0, hc0⟩ : ∃ c, A.word (a0 + i) = c := ⟨_, rfl⟩
  obtain ⟨c1, hc1⟩ : ∃ c, A.word (a0 + j) = c := ⟨_, rfl⟩
  obtain ⟨c2, hc2⟩ : ∃ c, A.word (a1 + i) = c := ⟨_, rfl⟩
  obtain ⟨c3, hc3⟩ : ∃ c, A.word (a1 + j) = c := ⟨_, rfl⟩
  rw [hc0] at x0 HK HRD0 HW0 HW1 ⊢
  rw [hc1] at x1 HK HRD0 HW0 HW1 ⊢
  rw [hc2] at x2 HK HW1 ⊢
  rw [hc3] at x3 HK HW1 ⊢
  have HRD1 := hid (show ∀ F w, Ar w h F (rdA A (a0 + i) (a0 + j)) → Calls Try.prog 88 #[arPtr h, .int .i64 (a1 : Int), .int .i64 (i : Int), .int .i64 (j : Int)] w fun e w' => e = .returned (dv ((a1 : Int) + i) ((a1 : Int) + j) c2 c3) ∧ ∃ F', Ar w' h F' (rdA (rdA A (a0 + i) (a0 + j)) (a1 + i) (a1 + j)) ∧ Step w F w' F' from fun F w a => by
    have := HRD1.out F w a
    rw [rdA_word, rdA_word, hc2, hc3] at this; exact this)
  have HC := hid (show A.word (a0 + i) = c0 ∧ A.word (a0 + j) = c1 ∧ A.word (a1 + i) = c2 ∧ A.word (a1 + j) = c3 from ⟨hc0, hc1, hc2, hc3⟩)
  clear hc0 hc1 hc2 hc3 HTK HK
  simp only [Int.natCast_add] at HW0 HW1
  have HMK := hid (mask_swap (decide (c1 < c0)) (c0 == c1) (decide (c3 < c2)))
  have HFA := hid (fun p q w => falls_any p q c0 c1 w x0 x1)
  have HFB := hid (fun p q w => falls_any p q c2 c3 w x2 x3)
  have HEQ := hid (fun w => eq_any c0 c1 w x0 x1)
  have m1l := mk_lt (decide (c1 < c0))
  have m2l := mk_lt (c0 == c1)
  have m3l := mk_lt (decide (c3 < c2))
  obtain ⟨b, hbe⟩ : ∃ b, (decide (c1 < c0) || (c0 == c1 && decide (c3 < c2))) = b := ⟨_, rfl⟩
  rw [hbe] at HMK ⊢
  obtain ⟨m1, hm1⟩ : ∃ m, mk (decide (c1 < c0)) = m := ⟨_, rfl⟩
  obtain ⟨m2, hm2⟩ : ∃ m, mk (c0 == c1) = m := ⟨_, rfl⟩
  obtain ⟨m3, hm3⟩ : ∃ m, mk (decide (c3 < c2)) = m := ⟨_, rfl⟩
  rw [hm1] at HMK HFA m1l
  rw [hm2] at HMK HEQ m2l
  rw [hm3] at HMK HFB m3l
  clear hbe hm1 hm2 hm3
  go_enter Try.func59, Try.ntmps59
  go_wp2_with fail
  refine (HRD0.out F _ HA.out).mono ?_
  rintro e w1 ⟨rfl, F1, A1, s1⟩
  have HA1 := hid A1
  have l1' := later (below1 w1 (dvo ((a0 : Int) + i) ((a0 : Int) + j) c0 c1)) (s1.cell l1 hx)
  have HS1 := hid s1
  clear A1 s1
  go_wp2_with fail
  have HX1 := hid (heap_alloc_at w1 (dvo ((a0 : Int) + i) ((a0 : Int) + j) c0 c1))
  refine (HRD1.out F1 _ (HA1.out.alloc _)).mono ?_
  rintro e w2 ⟨rfl, F2, A2, s2⟩
  have hnF : ¬ F1 w1.heap.size := fun z => by have := HA1.out.lt _ z; omega
  have HX2 := hid (s2.heap HX1.out hnF)
  have HA2 := hid A2
  have HS2 := hid ((HS1.out.alloc _).trans s2)
  have HXL := hid (show w1.heap.size < w2.heap.size from lt_of_heap HX2.out)
  clear A2 s2 l1'
  have HX3 := hid (heap_alloc_at w2 (dvo ((a1 : Int) + i) ((a1 : Int) + j) c2 c3))
  have HX4 := hid ((heap_alloc_old w2 (dvo ((a1 : Int) + i) ((a1 : Int) + j) c2 c3) _ HXL.out).trans HX2.out)
  have y2 : (w2.alloc (dvo ((a1 : Int) + i) ((a1 : Int) + j) c2 c3)).cell? ⟨w1.heap.size, 2, none⟩ = some (.int .u32 (c0 : Int)) := cell_of_heap HX4.out rfl
  have y3 : (w2.alloc (dvo ((a1 : Int) + i) ((a1 : Int) + j) c2 c3)).cell? ⟨w1.heap.size, 3, none⟩ = some (.int .u32 (c1 : Int)) := cell_of_heap HX4.out rfl
  go_wp2_with fail
  refine (HEQ.out _).mono ?_
  rintro e w3 ⟨rfl, hB3⟩
  have HB3 := hid hB3
  clear hB3 y2 y3
  go_wp2_with fail
  have HY1 := hid (show (w3.alloc (sb (m2 : Int))).heap[w1.heap.size]? = some (dvo ((a0 : Int) + i) ((a0 : Int) + j) c0 c1) from ((below1 w3 _).block _ (Nat.lt_of_lt_of_le (lt_of_heap HX4.out) HB3.out.size)).trans ((HB3.out.block _ (lt_of_heap HX4.out)).trans HX4.out))
  have HY2 := hid (show (w3.alloc (sb (m2 : Int))).heap[w2.heap.size]? = some (dvo ((a1 : Int) + i) ((a1 : Int) + j) c2 c3) from ((below1 w3 _).block _ (Nat.lt_of_lt_of_le (lt_of_heap HX3.out) HB3.out.size)).trans ((HB3.out.block _ (lt_of_heap HX3.out)).trans HX3.out))
  have HY3 := hid (heap_alloc_at w3 (sb (m2 : Int)))
  have HF2 := hid (show ∀ q, F2 q → q < w2.heap.size from HA2.out.lt)
  have HS24 := hid (show w2.heap.size < w3.heap.size from Nat.lt_of_lt_of_le (by simp) HB3.out.size)
  have HA4 := hid (show Ar (w3.alloc (sb (m2 : Int))) h F2 (rdA (rdA A (a0 + i) (a0 + j)) (a1 + i) (a1 + j)) from ((HA2.out.alloc _).below HB3.out).alloc _)
  have HS4 := hid (show Step w F (w3.alloc (sb (m2 : Int))) F2 from ((HS2.out.alloc _).trans (Step.ofBelow HB3.out)).alloc _)
  generalize w3.alloc (sb (m2 : Int)) = w4 at *
  clear HX1 HX2 HX3 HX4 HB3 HA2 HS2
  have KI := hid (show ∀ w' : World, Below w4.heap.size w4 w' → w'.cell? ⟨w1.heap.size, 0, none⟩ = some (.int .i64 ((a0 : Int) + i)) ∧ w'.cell? ⟨w1.heap.size, 1, none⟩ = some (.int .i64 ((a0 : Int) + j)) ∧ w'.cell? ⟨w1.heap.size, 2, none⟩ = some (.int .u32 (c0 : Int)) ∧ w'.cell? ⟨w1.heap.size, 3, none⟩ = some (.int .u32 (c1 : Int)) ∧ w'.cell? ⟨w2.heap.size, 0, none⟩ = some (.int .i64 ((a1 : Int) + i)) ∧ w'.cell? ⟨w2.heap.size, 1, none⟩ = some (.int .i64 ((a1 : Int) + j)) ∧ w'.cell? ⟨w2.heap.size, 2, none⟩ = some (.int .u32 (c2 : Int)) ∧ w'.cell? ⟨w2.heap.size, 3, none⟩ = some (.int .u32 (c3 : Int)) ∧ w'.cell? ⟨w3.heap.size, 0, none⟩ = some (.int .u32 (m2 : Int)) ∧ Below w4.heap.size w4 w' from fun w' hb => ⟨later hb (cell_of_heap HY1.out rfl), later hb (cell_of_heap HY1.out rfl), later hb (cell_of_heap HY1.out rfl), later hb (cell_of_heap HY1.out rfl), later hb (cell_of_heap HY2.out rfl), later hb (cell_of_heap HY2.out rfl), later hb (cell_of_heap HY2.out rfl), later hb (cell_of_heap HY2.out rfl), later hb (cell_of_heap HY3.out rfl), hb⟩)
  refine Code.wp_mono (Q := fun e a' w' => ∃ g, e = Exit.normal ∧ a' = { tmps := #[arPtr h, .int .i64 (i : Int), .int .i64 (j : Int), Value.slice (some x) (rest.length + 2) cap, undef, undef, undef, undef, .pointer (some ⟨w1.heap.size, 0, none⟩), .pointer (some ⟨w2.heap.size, 0, none⟩), .pointer (some ⟨w3.heap.size, 0, none⟩), .pointer (some ⟨g, 0, none⟩), undef, undef, arPtr h, Value.slice (some x) (rest.length + 2) cap, .pointer (some x), .int .i64 (a0 : Int), .int .i64 (i : Int), .int .i64 (j : Int), Value.agg #[.int .i64 ((a0 : Int) + i), .int .i64 ((a0 : Int) + j), .int .u32 (c0 : Int), .int .u32 (c1 : Int)], arPtr h, Value.slice (some x) (rest.length + 2) cap, .pointer (some ⟨x.block, x.off + 1, none⟩), .int .i64 (a1 : Int), .int .i64 (i : Int), .int .i64 (j : Int), Value.agg #[.int .i64 ((a1 : Int) + i), .int .i64 ((a1 : Int) + j), .int .u32 (c2 : Int), .int .u32 (c3 : Int)], .pointer (some ⟨w1.heap.size, 2, none⟩), .agg #[.int .u32 (c0 : Int)], .pointer (some ⟨w1.heap.size, 3, none⟩), .agg #[.int .u32 (c1 : Int)], sec m2, Value.agg #[.int .i64 ((a0 : Int) + i), .int .i64 ((a0 : Int) + j), .int .u32 (c0 : Int), .int .u32 (c1 : Int)], sec m1, .agg #[.int .u32 (m2 : Int)], Value.agg #[.int .i64 ((a1 : Int) + i), .int .i64 ((a1 : Int) + j), .int .u32 (c2 : Int), .int .u32 (c3 : Int)], sec m3, sec (andW m2 m3 : Nat), sec (mk b : Nat), undef, undef, undef, undef, undef, undef, undef, undef, undef, undef, undef, undef, undef, undef, undef, undef, undef, undef, undef, undef, undef, undef, undef, undef], defers := [] } ∧ Below w4.heap.size w4 w' ∧ w'.heap[g]? = some (sb (mk b : Int)) ∧ w2.heap.size < g) ?post ?reg
  case reg =>
    refine wp_region_held_drew (S := (fun w' => w'.cell? ⟨w1.heap.size, 0, none⟩ = some (.int .i64 ((a0 : Int) + i)) ∧ w'.cell? ⟨w1.heap.size, 1, none⟩ = some (.int .i64 ((a0 : Int) + j)) ∧ w'.cell? ⟨w1.heap.size, 2, none⟩ = some (.int .u32 (c0 : Int)) ∧ w'.cell? ⟨w1.heap.size, 3, none⟩ = some (.int .u32 (c1 : Int)) ∧ w'.cell? ⟨w2.heap.size, 0, none⟩ = some (.int .i64 ((a1 : Int) + i)) ∧ w'.cell? ⟨w2.heap.size, 1, none⟩ = some (.int .i64 ((a1 : Int) + j)) ∧ w'.cell? ⟨w2.heap.size, 2, none⟩ = some (.int .u32 (c2 : Int)) ∧ w'.cell? ⟨w2.heap.size, 3, none⟩ = some (.int .u32 (c3 : Int)) ∧ w'.cell? ⟨w3.heap.size, 0, none⟩ = some (.int .u32 (m2 : Int)) ∧ Below w4.heap.size w4 w')) (by kernel_rfl) (KI.out _ (blw_drew (Below.refl _ _))) (fun hHeld => ?_)
    refine take_at (i := 0) (d := some 33) (v := ?_) rfl rfl (by kernel_rfl) (by kernel_rfl) (by kernel_rfl) (fun _ _ _ h => by obtain ⟨_, h, _⟩ := h; cases h) (Or.inl ⟨by rfl, ?_⟩) (by assumption) ?_
    rotate_left
    · (intro w hSw; (try dsimp only at hSw); go_simp; try (with_reducible rfl))
    simp only [Act.put, List.setIfInBounds_toArray, List.set_cons_zero, List.set_cons_succ]
    refine take_at (i := 2) (d := some 35) (v := ?_) rfl rfl (by kernel_rfl) (by kernel_rfl) (by kernel_rfl) (fun _ _ _ h => by obtain ⟨_, h, _⟩ := h; cases h) (Or.inl ⟨by rfl, ?_⟩) (by assumption) ?_
    rotate_left
    · (intro w hSw; (try dsimp only at hSw); go_simp; try (with_reducible rfl))
    simp only [Act.put, List.setIfInBounds_toArray, List.set_cons_zero, List.set_cons_succ]
    refine take_at (i := 3) (d := some 36) (v := ?_) rfl rfl (by kernel_rfl) (by kernel_rfl) (by kernel_rfl) (fun _ _ _ h => by obtain ⟨_, h, _⟩ := h; cases h) (Or.inl ⟨by rfl, ?_⟩) (by assumption) ?_
    rotate_left
    · (intro w hSw; (try dsimp only at hSw); go_simp; try (with_reducible rfl))
    simp only [Act.put, List.setIfInBounds_toArray, List.set_cons_zero, List.set_cons_succ]
    refine wpAnyH_ready (rs := [1, 7]) (by kernel_rfl) (by simp) ?_
    refine AllReadyH.cons rfl (fun K hK => ?_) (AllReadyH.cons rfl (fun K hK => ?_) AllReadyH.nil)
    · go_simp
      refine (HFA.out ((a0 : Int) + i) ((a0 : Int) + j) _).mono ?_
      rintro e u01 ⟨rfl, hb⟩
      have Bu01 := hid (show Below w4.heap.size w4 u01 from chainB hb (blw_drew (Below.refl _ _)))
      clear hb hHeld
      go_wp2_with fail
      refine hK.out _ _ (KI.out _ Bu01.out) (fun hHeld => ?_)
      clear hK K
      try simp only [Act.put, List.setIfInBounds_toArray, List.set_cons_zero, List.set_cons_succ]
      refine wpAnyH_ready (rs := [4, 7]) (by kernel_rfl) (by simp) ?_
      refine AllReadyH.cons rfl (fun K hK => ?_) (AllReadyH.cons rfl (fun K hK => ?_) AllReadyH.nil)
      · go_simp
        refine (HFB.out ((a1 : Int) + i) ((a1 : Int) + j) _).mono ?_
        rintro e u04 ⟨rfl, hb⟩
        have Bu04 := hid (show Below w4.heap.size w4 u04 from chainB hb Bu01.out)
        clear hb hHeld
        go_wp2_with fail
        refine hK.out _ _ (KI.out _ Bu04.out) (fun hHeld => ?_)
        clear hK K
        try simp only [Act.put, List.setIfInBounds_toArray, List.set_cons_zero, List.set_cons_succ]
        refine wpAnyH_ready (rs := [5, 7]) (by kernel_rfl) (by simp) ?_
        refine AllReadyH.cons rfl (fun K hK => ?_) (AllReadyH.cons rfl (fun K hK => ?_) AllReadyH.nil)
        · go_simp
          refine (and_b m2 m3 _ m2l m3l).mono ?_
          rintro e u05 ⟨rfl, hb⟩
          have Bu05 := hid (show Below w4.heap.size w4 u05 from chainB hb Bu04.out)
          clear hb hHeld
          go_wp2_with fail
          refine hK.out _ _ (KI.out _ Bu05.out) (fun hHeld => ?_)
          clear hK K
          try simp only [Act.put, List.setIfInBounds_toArray, List.set_cons_zero, List.set_cons_succ]
          refine wpAnyH_ready (rs := [6, 7]) (by kernel_rfl) (by simp) ?_
          refine AllReadyH.cons rfl (fun K hK => ?_) (AllReadyH.cons rfl (fun K hK => ?_) AllReadyH.nil)
          · go_simp
            refine (or_b m1 (andW m2 m3) _ m1l (andW_lt m2l)).mono ?_
            rintro e u06 ⟨rfl, hb⟩
            rw [HMK.out]
            have Bu06 := hid (show Below w4.heap.size w4 u06 from chainB hb Bu05.out)
            clear hb hHeld
            go_wp2_with fail
            refine hK.out _ _ (KI.out _ Bu06.out) (fun hHeld => ?_)
            clear hK K
            try simp only [Act.put, List.setIfInBounds_toArray, List.set_cons_zero, List.set_cons_succ]
            refine wpAnyH_ready (rs := [7]) (by kernel_rfl) (by simp) ?_
            refine AllReadyH.cons rfl (fun K hK => ?_) AllReadyH.nil
            go_simp
            go_wp2_with fail
            refine hK.out _ _ (KI.out _ (blw_alloc Bu06.out)) (fun hHeld => ?_)
            clear hK K hHeld
            try simp only [Act.put, List.setIfInBounds_toArray, List.set_cons_zero, List.set_cons_succ]
            have Gv14 := hid (show (u06.alloc (.cells #[.int .u32 0] 47)).heap[u06.heap.size]? = some (.cells #[.int .u32 0] 47 (0, 0)) from heap_alloc_at u06 _)
            have Bv14 := hid (show Below w4.heap.size w4 (u06.alloc (.cells #[.int .u32 0] 47)) from (blw_alloc Bu06.out))
            have Lv14 := hid (show w4.heap.size ≤ u06.heap.size from Bu06.out.size)
            generalize (u06.alloc (.cells #[.int .u32 0] 47)) = v14 at *
            have hHeld := KI.out _ Bv14.out
            refine wpAnyH_ready (rs := [8]) (by kernel_rfl) (by simp) ?_
            refine AllReadyH.cons rfl (fun K hK => ?_) AllReadyH.nil
            have sc : v14.cell? ⟨u06.heap.size, 0, none⟩ = some (.int .u32 0) := cell_of_heap Gv14.out rfl
            have sf : v14.frozen? ⟨u06.heap.size, 0, none⟩ = false := frozen_of_heap Gv14.out
            clear hHeld
            go_simp
            go_wp2_with fail
            refine hK.out _ _ (KI.out _ (Below.setCell (p := ⟨u06.heap.size, 0, none⟩) Bv14.out Lv14.out _)) (fun hHeld => ?_)
            clear hK K
            try simp only [Act.put, List.setIfInBounds_toArray, List.set_cons_zero, List.set_cons_succ]
            refine wpAnyH_done (by kernel_rfl) ?_ _
            exact ⟨u06.heap.size, rfl, rfl, Below.setCell (p := ⟨u06.heap.size, 0, none⟩) Bv14.out Lv14.out _, by rw [heap_setCell_at _ _ _ _ _ _ _ Gv14.out]; rfl, Nat.lt_of_lt_of_le (lt_of_heap HY2.out) Lv14.out⟩
          · go_simp
            go_wp2_with fail
            refine hK.out _ _ (KI.out _ (blw_alloc Bu05.out)) (fun hHeld => ?_)
            clear hK K hHeld
            try simp only [Act.put, List.setIfInBounds_toArray, List.set_cons_zero, List.set_cons_succ]
            have Gv13 := hid (show (u05.alloc (.cells #[.int .u32 0] 47)).heap[u05.heap.size]? = some (.cells #[.int .u32 0] 47 (0, 0)) from heap_alloc_at u05 _)
            have Bv13 := hid (show Below w4.heap.size w4 (u05.alloc (.cells #[.int .u32 0] 47)) from (blw_alloc Bu05.out))
            have Lv13 := hid (show w4.heap.size ≤ u05.heap.size from Bu05.out.size)
            generalize (u05.alloc (.cells #[.int .u32 0] 47)) = v13 at *
            have hHeld := KI.out _ Bv13.out
            refine wpAnyH_ready (rs := [6]) (by kernel_rfl) (by simp) ?_
            refine AllReadyH.cons rfl (fun K hK => ?_) AllReadyH.nil
            go_simp
            refine (or_b m1 (andW m2 m3) _ m1l (andW_lt m2l)).mono ?_
            rintro e u16 ⟨rfl, hb⟩
            rw [HMK.out]
            have Bu16 := hid (show Below w4.heap.size w4 u16 from chainB hb Bv13.out)
            have Gu16 := hid (show u16.heap[u05.heap.size]? = some (.cells #[.int .u32 0] 47 (0, 0)) from (hb.block _ (lt_of_heap Gv13.out)).trans Gv13.out)
            clear hb hHeld
            go_wp2_with fail
            refine hK.out _ _ (KI.out _ Bu16.out) (fun hHeld => ?_)
            clear hK K
            try simp only [Act.put, List.setIfInBounds_toArray, List.set_cons_zero, List.set_cons_succ]
            refine wpAnyH_ready (rs := [8]) (by kernel_rfl) (by simp) ?_
            refine AllReadyH.cons rfl (fun K hK => ?_) AllReadyH.nil
            have sc : u16.cell? ⟨u05.heap.size, 0, none⟩ = some (.int .u32 0) := cell_of_heap Gu16.out rfl
            have sf : u16.frozen? ⟨u05.heap.size, 0, none⟩ = false := frozen_of_heap Gu16.out
            clear hHeld
            go_simp
            go_wp2_with fail
            refine hK.out _ _ (KI.out _ (Below.setCell (p := ⟨u05.heap.size, 0, none⟩) Bu16.out Lv13.out _)) (fun hHeld => ?_)
            clear hK K
            try simp only [Act.put, List.setIfInBounds_toArray, List.set_cons_zero, List.set_cons_succ]
            refine wpAnyH_done (by kernel_rfl) ?_ _
            exact ⟨u05.heap.size, rfl, rfl, Below.setCell (p := ⟨u05.heap.size, 0, none⟩) Bu16.out Lv13.out _, by rw [heap_setCell_at _ _ _ _ _ _ _ Gu16.out]; rfl, Nat.lt_of_lt_of_le (lt_of_heap HY2.out) Lv13.out⟩
        · go_simp
          go_wp2_with fail
          refine hK.out _ _ (KI.out _ (blw_alloc Bu04.out)) (fun hHeld => ?_)
          clear hK K hHeld
          try simp only [Act.put, List.setIfInBounds_toArray, List.set_cons_zero, List.set_cons_succ]
          have Gv12 := hid (show (u04.alloc (.cells #[.int .u32 0] 47)).heap[u04.heap.size]? = some (.cells #[.int .u32 0] 47 (0, 0)) from heap_alloc_at u04 _)
          have Bv12 := hid (show Below w4.heap.size w4 (u04.alloc (.cells #[.int .u32 0] 47)) from (blw_alloc Bu04.out))
          have Lv12 := hid (show w4.heap.size ≤ u04.heap.size from Bu04.out.size)
          generalize (u04.alloc (.cells #[.int .u32 0] 47)) = v12 at *
          have hHeld := KI.out _ Bv12.out
          refine wpAnyH_ready (rs := [5]) (by kernel_rfl) (by simp) ?_
          refine AllReadyH.cons rfl (fun K hK => ?_) AllReadyH.nil
          go_simp
          refine (and_b m2 m3 _ m2l m3l).mono ?_
          rintro e u15 ⟨rfl, hb⟩
          have Bu15 := hid (show Below w4.heap.size w4 u15 from chainB hb Bv12.out)
          have Gu15 := hid (show u15.heap[u04.heap.size]? = some (.cells #[.int .u32 0] 47 (0, 0)) from (hb.block _ (lt_of_heap Gv12.out)).trans Gv12.out)
          clear hb hHeld
          go_wp2_with fail
          refine hK.out _ _ (KI.out _ Bu15.out) (fun hHeld => ?_)
          clear hK K
          try simp only [Act.put, List.setIfInBounds_toArray, List.set_cons_zero, List.set_cons_succ]
          refine wpAnyH_ready (rs := [6]) (by kernel_rfl) (by simp) ?_
          refine AllReadyH.cons rfl (fun K hK => ?_) AllReadyH.nil
          go_simp
          refine (or_b m1 (andW m2 m3) _ m1l (andW_lt m2l)).mono ?_
          rintro e u16 ⟨rfl, hb⟩
          rw [HMK.out]
          have Bu16 := hid (show Below w4.heap.size w4 u16 from chainB hb Bu15.out)
          have Gu16 := hid (show u16.heap[u04.heap.size]? = some (.cells #[.int .u32 0] 47 (0, 0)) from (hb.block _ (lt_of_heap Gu15.out)).trans Gu15.out)
          clear hb hHeld
          go_wp2_with fail
          refine hK.out _ _ (KI.out _ Bu16.out) (fun hHeld => ?_)
          clear hK K
          try simp only [Act.put, List.setIfInBounds_toArray, List.set_cons_zero, List.set_cons_succ]
          refine wpAnyH_ready (rs := [8]) (by kernel_rfl) (by simp) ?_
          refine AllReadyH.cons rfl (fun K hK => ?_) AllReadyH.nil
          have sc : u16.cell? ⟨u04.heap.size, 0, none⟩ = some (.int .u32 0) := cell_of_heap Gu16.out rfl
          have sf : u16.frozen? ⟨u04.heap.size, 0, none⟩ = false := frozen_of_heap Gu16.out
          clear hHeld
          go_simp
          go_wp2_with fail
          refine hK.out _ _ (KI.out _ (Below.setCell (p := ⟨u04.heap.size, 0, none⟩) Bu16.out Lv12.out _)) (fun hHeld => ?_)
          clear hK K
          try simp only [Act.put, List.setIfInBounds_toArray, List.set_cons_zero, List.set_cons_succ]
          refine wpAnyH_done (by kernel_rfl) ?_ _
          exact ⟨u04.heap.size, rfl, rfl, Below.setCell (p := ⟨u04.heap.size, 0, none⟩) Bu16.out Lv12.out _, by rw [heap_setCell_at _ _ _ _ _ _ _ Gu16.out]; rfl, Nat.lt_of_lt_of_le (lt_of_heap HY2.out) Lv12.out⟩
      · go_simp
        go_wp2_with fail
        refine hK.out _ _ (KI.out _ (blw_alloc Bu01.out)) (fun hHeld => ?_)
        clear hK K hHeld
        try simp only [Act.put, List.setIfInBounds_toArray, List.set_cons_zero, List.set_cons_succ]
        have Gv11 := hid (show (u01.alloc (.cells #[.int .u32 0] 47)).heap[u01.heap.size]? = some (.cells #[.int .u32 0] 47 (0, 0)) from heap_alloc_at u01 _)
        have Bv11 := hid (show Below w4.heap.size w4 (u01.alloc (.cells #[.int .u32 0] 47)) from (blw_alloc Bu01.out))
        have Lv11 := hid (show w4.heap.size ≤ u01.heap.size from Bu01.out.size)
        generalize (u01.alloc (.cells #[.int .u32 0] 47)) = v11 at *
        have hHeld := KI.out _ Bv11.out
        refine wpAnyH_ready (rs := [4]) (by kernel_rfl) (by simp) ?_
        refine AllReadyH.cons rfl (fun K hK => ?_) AllReadyH.nil
        go_simp
        refine (HFB.out ((a1 : Int) + i) ((a1 : Int) + j) _).mono ?_
        rintro e u14 ⟨rfl, hb⟩
        have Bu14 := hid (show Below w4.heap.size w4 u14 from chainB hb Bv11.out)
        have Gu14 := hid (show u14.heap[u01.heap.size]? = some (.cells #[.int .u32 0] 47 (0, 0)) from (hb.block _ (lt_of_heap Gv11.out)).trans Gv11.out)
        clear hb hHeld
        go_wp2_with fail
        refine hK.out _ _ (KI.out _ Bu14.out) (fun hHeld => ?_)
        clear hK K
        try simp only [Act.put, List.setIfInBounds_toArray, List.set_cons_zero, List.set_cons_succ]
        refine wpAnyH_ready (rs := [5]) (by kernel_rfl) (by simp) ?_
        refine AllReadyH.cons rfl (fun K hK => ?_) AllReadyH.nil
        go_simp
        refine (and_b m2 m3 _ m2l m3l).mono ?_
        rintro e u15 ⟨rfl, hb⟩
        have Bu15 := hid (show Below w4.heap.size w4 u15 from chainB hb Bu14.out)
        have Gu15 := hid (show u15.heap[u01.heap.size]? = some (.cells #[.int .u32 0] 47 (0, 0)) from (hb.block _ (lt_of_heap Gu14.out)).trans Gu14.out)
        clear hb hHeld
        go_wp2_with fail
        refine hK.out _ _ (KI.out _ Bu15.out) (fun hHeld => ?_)
        clear hK K
        try simp only [Act.put, List.setIfInBounds_toArray, List.set_cons_zero, List.set_cons_succ]
        refine wpAnyH_ready (rs := [6]) (by kernel_rfl) (by simp) ?_
        refine AllReadyH.cons rfl (fun K hK => ?_) AllReadyH.nil
        go_simp
        refine (or_b m1 (andW m2 m3) _ m1l (andW_lt m2l)).mono ?_
        rintro e u16 ⟨rfl, hb⟩
        rw [HMK.out]
        have Bu16 := hid (show Below w4.heap.size w4 u16 from chainB hb Bu15.out)
        have Gu16 := hid (show u16.heap[u01.heap.size]? = some (.cells #[.int .u32 0] 47 (0, 0)) from (hb.block _ (lt_of_heap Gu15.out)).trans Gu15.out)
        clear hb hHeld
        go_wp2_with fail
        refine hK.out _ _ (KI.out _ Bu16.out) (fun hHeld => ?_)
        clear hK K
        try simp only [Act.put, List.setIfInBounds_toArray, List.set_cons_zero, List.set_cons_succ]
        refine wpAnyH_ready (rs := [8]) (by kernel_rfl) (by simp) ?_
        refine AllReadyH.cons rfl (fun K hK => ?_) AllReadyH.nil
        have sc : u16.cell? ⟨u01.heap.size, 0, none⟩ = some (.int .u32 0) := cell_of_heap Gu16.out rfl
        have sf : u16.frozen? ⟨u01.heap.size, 0, none⟩ = false := frozen_of_heap Gu16.out
        clear hHeld
        go_simp
        go_wp2_with fail
        refine hK.out _ _ (KI.out _ (Below.setCell (p := ⟨u01.heap.size, 0, none⟩) Bu16.out Lv11.out _)) (fun hHeld => ?_)
        clear hK K
        try simp only [Act.put, List.setIfInBounds_toArray, List.set_cons_zero, List.set_cons_succ]
        refine wpAnyH_done (by kernel_rfl) ?_ _
        exact ⟨u01.heap.size, rfl, rfl, Below.setCell (p := ⟨u01.heap.size, 0, none⟩) Bu16.out Lv11.out _, by rw [heap_setCell_at _ _ _ _ _ _ _ Gu16.out]; rfl, Nat.lt_of_lt_of_le (lt_of_heap HY2.out) Lv11.out⟩
    · go_simp
      go_wp2_with fail
      refine hK.out _ _ (KI.out _ (blw_drew (blw_alloc (Below.refl _ _)))) (fun hHeld => ?_)
      clear hK K hHeld
      try simp only [Act.put, List.setIfInBounds_toArray, List.set_cons_zero, List.set_cons_succ]
      have Gv10 := hid (show (w4.alloc (.cells #[.int .u32 0] 47)).drew.heap[w4.heap.size]? = some (.cells #[.int .u32 0] 47 (0, 0)) from heap_alloc_at w4 _)
      have Bv10 := hid (show Below w4.heap.size w4 (w4.alloc (.cells #[.int .u32 0] 47)).drew from (blw_drew (blw_alloc (Below.refl _ _))))
      have Lv10 := hid (show w4.heap.size ≤ w4.heap.size from Nat.le_refl _)
      generalize (w4.alloc (.cells #[.int .u32 0] 47)).drew = v10 at *
      have hHeld := KI.out _ Bv10.out
      refine wpAnyH_ready (rs := [1]) (by kernel_rfl) (by simp) ?_
      refine AllReadyH.cons rfl (fun K hK => ?_) AllReadyH.nil
      go_simp
      refine (HFA.out ((a0 : Int) + i) ((a0 : Int) + j) _).mono ?_
      rintro e u11 ⟨rfl, hb⟩
      have Bu11 := hid (show Below w4.heap.size w4 u11 from chainB hb Bv10.out)
      have Gu11 := hid (show u11.heap[w4.heap.size]? = some (.cells #[.int .u32 0] 47 (0, 0)) from (hb.block _ (lt_of_heap Gv10.out)).trans Gv10.out)
      clear hb hHeld
      go_wp2_with fail
      refine hK.out _ _ (KI.out _ Bu11.out) (fun hHeld => ?_)
      clear hK K
      try simp only [Act.put, List.setIfInBounds_toArray, List.set_cons_zero, List.set_cons_succ]
      refine wpAnyH_ready (rs := [4]) (by kernel_rfl) (by simp) ?_
      refine AllReadyH.cons rfl (fun K hK => ?_) AllReadyH.nil
      go_simp
      refine (HFB.out ((a1 : Int) + i) ((a1 : Int) + j) _).mono ?_
      rintro e u14 ⟨rfl, hb⟩
      have Bu14 := hid (show Below w4.heap.size w4 u14 from chainB hb Bu11.out)
      have Gu14 := hid (show u14.heap[w4.heap.size]? = some (.cells #[.int .u32 0] 47 (0, 0)) from (hb.block _ (lt_of_heap Gu11.out)).trans Gu11.out)
      clear hb hHeld
      go_wp2_with fail
      refine hK.out _ _ (KI.out _ Bu14.out) (fun hHeld => ?_)
      clear hK K
      try simp only [Act.put, List.setIfInBounds_toArray, List.set_cons_zero, List.set_cons_succ]
      refine wpAnyH_ready (rs := [5]) (by kernel_rfl) (by simp) ?_
      refine AllReadyH.cons rfl (fun K hK => ?_) AllReadyH.nil
      go_simp
      refine (and_b m2 m3 _ m2l m3l).mono ?_
      rintro e u15 ⟨rfl, hb⟩
      have Bu15 := hid (show Below w4.heap.size w4 u15 from chainB hb Bu14.out)
      have Gu15 := hid (show u15.heap[w4.heap.size]? = some (.cells #[.int .u32 0] 47 (0, 0)) from (hb.block _ (lt_of_heap Gu14.out)).trans Gu14.out)
      clear hb hHeld
      go_wp2_with fail
      refine hK.out _ _ (KI.out _ Bu15.out) (fun hHeld => ?_)
      clear hK K
      try simp only [Act.put, List.setIfInBounds_toArray, List.set_cons_zero, List.set_cons_succ]
      refine wpAnyH_ready (rs := [6]) (by kernel_rfl) (by simp) ?_
      refine AllReadyH.cons rfl (fun K hK => ?_) AllReadyH.nil
      go_simp
      refine (or_b m1 (andW m2 m3) _ m1l (andW_lt m2l)).mono ?_
      rintro e u16 ⟨rfl, hb⟩
      rw [HMK.out]
      have Bu16 := hid (show Below w4.heap.size w4 u16 from chainB hb Bu15.out)
      have Gu16 := hid (show u16.heap[w4.heap.size]? = some (.cells #[.int .u32 0] 47 (0, 0)) from (hb.block _ (lt_of_heap Gu15.out)).trans Gu15.out)
      clear hb hHeld
      go_wp2_with fail
      refine hK.out _ _ (KI.out _ Bu16.out) (fun hHeld => ?_)
      clear hK K
      try simp only [Act.put, List.setIfInBounds_toArray, List.set_cons_zero, List.set_cons_succ]
      refine wpAnyH_ready (rs := [8]) (by kernel_rfl) (by simp) ?_
      refine AllReadyH.cons rfl (fun K hK => ?_) AllReadyH.nil
      have sc : u16.cell? ⟨w4.heap.size, 0, none⟩ = some (.int .u32 0) := cell_of_heap Gu16.out rfl
      have sf : u16.frozen? ⟨w4.heap.size, 0, none⟩ = false := frozen_of_heap Gu16.out
      clear hHeld
      go_simp
      go_wp2_with fail
      refine hK.out _ _ (KI.out _ (Below.setCell (p := ⟨w4.heap.size, 0, none⟩) Bu16.out Lv10.out _)) (fun hHeld => ?_)
      clear hK K
      try simp only [Act.put, List.setIfInBounds_toArray, List.set_cons_zero, List.set_cons_succ]
      refine wpAnyH_done (by kernel_rfl) ?_ _
      exact ⟨w4.heap.size, rfl, rfl, Below.setCell (p := ⟨w4.heap.size, 0, none⟩) Bu16.out Lv10.out _, by rw [heap_setCell_at _ _ _ _ _ _ _ Gu16.out]; rfl, Nat.lt_of_lt_of_le (lt_of_heap HY2.out) Lv10.out⟩
  rintro e a' w9 ⟨g, rfl, rfl, hB9, hg9, hgl⟩
  have HZ := hid hB9
  have HZ3 := hid hg9
  have HG8 := hid hgl
  clear hB9 hg9 hgl
  have HZ1 := hid ((HZ.out.block _ (lt_of_heap HY1.out)).trans HY1.out)
  have HZ2 := hid ((HZ.out.block _ (lt_of_heap HY2.out)).trans HY2.out)
  have HA9 := hid (HA4.out.below HZ.out)
  have HS9 := hid (HS4.out.trans (Step.ofBelow HZ.out))
  have nf2 : ¬ F2 w2.heap.size := fun z => by have := HF2.out _ z; omega
  have nf8 : ¬ F2 g := fun z => by have := HF2.out _ z; have := HG8.out; omega
  clear KI HY1 HY2 HY3 HA4 HS4 HZ
  have k0 : w9.cell? ⟨w1.heap.size, 0, none⟩ = some (.int .i64 ((a0 : Int) + i)) := cell_of_heap HZ1.out rfl
  have k1 : w9.cell? ⟨w1.heap.size, 1, none⟩ = some (.int .i64 ((a0 : Int) + j)) := cell_of_heap HZ1.out rfl
  have k2 : w9.cell? ⟨w1.heap.size, 2, none⟩ = some (.int .u32 (c0 : Int)) := cell_of_heap HZ1.out rfl
  have k3 : w9.cell? ⟨w1.heap.size, 3, none⟩ = some (.int .u32 (c1 : Int)) := cell_of_heap HZ1.out rfl
  have k4 : w9.cell? ⟨g, 0, none⟩ = some (.int .u32 (mk b : Int)) := cell_of_heap HZ3.out rfl
  go_wp2_with fail
  refine (HW0.out b F2 _ HA9.out).mono ?_
  rintro e wa ⟨rfl, F3, A3, s3⟩
  clear k0 k1 k2 k3 k4
  have HA10 := hid (show Ar wa h F3 (wrA (rdA (rdA A (a0 + i) (a0 + j)) (a1 + i) (a1 + j)) (a0 + i) (a0 + j) c0 c1 b) from A3)
  have HS10 := hid (HS9.out.trans s3)
  have HZ4 := hid (s3.heap HZ2.out nf2)
  have HZ5 := hid (s3.heap HZ3.out nf8)
  have nf3 : ¬ F3 g := s3.out nf8 (lt_of_heap HZ3.out)
  clear A3 s3 HZ1 HZ2 HZ3 HA9 HS9
  have k0 : wa.cell? ⟨w2.heap.size, 0, none⟩ = some (.int .i64 ((a1 : Int) + i)) := cell_of_heap HZ4.out rfl
  have k1 : wa.cell? ⟨w2.heap.size, 1, none⟩ = some (.int .i64 ((a1 : Int) + j)) := cell_of_heap HZ4.out rfl
  have k2 : wa.cell? ⟨w2.heap.size, 2, none⟩ = some (.int .u32 (c2 : Int)) := cell_of_heap HZ4.out rfl
  have k3 : wa.cell? ⟨w2.heap.size, 3, none⟩ = some (.int .u32 (c3 : Int)) := cell_of_heap HZ4.out rfl
  have k4 : wa.cell? ⟨g, 0, none⟩ = some (.int .u32 (mk b : Int)) := cell_of_heap HZ5.out rfl
  go_wp2_with fail
  refine (HW1.out b F3 _ HA10.out).mono ?_
  rintro e wb ⟨rfl, F4, A4, s4⟩
  clear k0 k1 k2 k3 k4
  have HA11 := hid (show Ar wb h F4 (wrA (wrA (rdA (rdA A (a0 + i) (a0 + j)) (a1 + i) (a1 + j)) (a0 + i) (a0 + j) c0 c1 b) (a1 + i) (a1 + j) c2 c3 b) from A4)
  have HS11 := hid (HS10.out.trans s4)
  have HZ6 := hid (s4.heap HZ5.out nf3)
  have nf4 : ¬ F4 g := s4.out nf3 (lt_of_heap HZ5.out)
  clear A4 s4 HZ4 HZ5 HA10 HS10
  have HWD := hid (show (wrA (rdA (rdA A (a0 + i) (a0 + j)) (a1 + i) (a1 + j)) (a0 + i) (a0 + j) c0 c1 b).word = stepF b i j A.word a0 from wrA_word (rdA (rdA A (a0 + i) (a0 + j)) (a1 + i) (a1 + j)) a0 i j b c0 c1 (by omega) (by show a0 + i < A.ws.length; omega) (by show a0 + j < A.ws.length; omega) HC.out.1.symm HC.out.2.1.symm)
  have hgr := (((grew_rd A (a0 + i) (a0 + j)).trans (grew_rd (rdA A (a0 + i) (a0 + j)) (a1 + i) (a1 + j))).trans
    (grew_wr (rdA (rdA A (a0 + i) (a0 + j)) (a1 + i) (a1 + j)) a0 i j b c0 c1 (by omega) (by show a0 + i < A.ws.length; omega) (by show a0 + j < A.ws.length; omega) HC.out.1.symm HC.out.2.1.symm)).trans
    (grew_wr (wrA (rdA (rdA A (a0 + i) (a0 + j)) (a1 + i) (a1 + j)) (a0 + i) (a0 + j) c0 c1 b) a1 i j b c2 c3 (by omega) (by rw [wrA_wl]; show a1 + i < A.ws.length; omega) (by rw [wrA_wl]; show a1 + j < A.ws.length; omega)
      (by rw [HWD.out]; unfold stepF; have := HAP.out.d; rw [if_neg (by omega), if_neg (by omega)]; exact HC.out.2.2.1.symm)
      (by rw [HWD.out]; unfold stepF; have := HAP.out.d; rw [if_neg (by omega), if_neg (by omega)]; exact HC.out.2.2.2.symm))
  rw [HWD.out] at hgr
  have HGR := hid (show Grew A (wrA (wrA (rdA (rdA A (a0 + i) (a0 + j)) (a1 + i) (a1 + j)) (a0 + i) (a0 + j) c0 c1 b) (a1 + i) (a1 + j) c2 c3 b) (stepF b i j (stepF b i j A.word a0) a1) (evR (a0 + i) (a0 + j) ++ evR (a1 + i) (a1 + j) ++ evW (a0 + i) (a0 + j) ++ evW (a1 + i) (a1 + j)) from hgr)
  clear hgr HWD
  generalize wrA (wrA (rdA (rdA A (a0 + i) (a0 + j)) (a1 + i) (a1 + j)) (a0 + i) (a0 + j) c0 c1 b) (a1 + i) (a1 + j) c2 c3 b = B at *
  have HBE := hid (show B.es.length = A.es.length + 8 by rw [HGR.out.es]; simp [evR, evW])
  clear HRD0 HRD1 HW0 HW1 HMK HFA HFB HEQ HC l0 l1
  by_cases hcp : cap = 2
  · have hr0 : rest = [] := List.eq_nil_of_length_eq_zero (by omega)
    subst hr0
    subst hcp
    go_wp2_with fail
    go_loopw [51] (fun c wr => c = .int .i64 0 ∧ wr = wb) (fun _ _ => 0)
    case atStart => exact ⟨rfl, rfl⟩
    case round =>
      obtain ⟨rfl, rfl⟩ := hrel
      go_wp2
      go_end0
      exact ⟨rfl, F4, B, HA11.out, HS11.out, by simpa [evS] using HGR.out⟩
  · have HCL := hid (show ∀ k (hk : k < rest.length), ∀ w' F', Step w F w' F' → w'.cell? ⟨x.block, x.off + 2 + k, none⟩ = some (.int .i64 (rest[k] : Int)) from fun k hk w' F' s => by
      have h1 : w.cell? (x.add (k + 2)) = some (.int .i64 (rest[k] : Int)) := by
        have := HL.out (k + 2) (by simpa using hk)
        simpa using this
      rw [Nat.add_comm k 2, ← Addr.add_add] at h1
      have h2 := s.cell h1 (by rw [add_block]; exact hx)
      rw [add2 x k] at h2; exact h2)
    clear HL
    go_wp2_with fail
    go_loopw [51] (fun c wr => ∃ (k : Nat) (F5 : Nat → Prop) (A5 : Ars), k ≤ rest.length ∧ c = .int .i64 (k : Int) ∧ Ar wr h F5 A5 ∧ Step w F wr F5 ∧ Grew B A5 ((rest.take k).foldl (stepF b i j) B.word) ((rest.take k).flatMap (evL i j)) ∧ wr.heap[g]? = some (sb (mk b : Int)) ∧ ¬ F5 g) (fun c _ => rest.length - (intOf c).toNat)
    case atStart => exact ⟨0, F4, B, Nat.zero_le _, rfl, HA11.out, HS11.out, Grew.refl B, HZ6.out, nf4⟩
    case round =>
      clear HA11 HS11 HZ6 nf4
      obtain ⟨k, F5, A5, hk, rfl, a5, s5, g5, hg5, nf5⟩ := hrel
      by_cases hlt : k < rest.length
      · have HSC := hid (HCL.out k hlt _ _ s5)
        have htk : rest.take (k + 1) = rest.take k ++ [rest[k]] := List.take_succ_eq_append_getElem hlt
        have hLt : rest[k] + n ≤ A.top := HIN.out _ (List.mem_cons_of_mem _ (List.mem_cons_of_mem _ (List.getElem_mem hlt)))
        obtain ⟨L, hLe⟩ : ∃ L, rest[k] = L := ⟨_, rfl⟩
        rw [hLe] at HSC htk hLt
        have hcl := HSC.out
        have htp : A5.top = A.top := g5.top.trans HGR.out.top
        have hwl : A5.ws.length = A.ws.length := g5.wl.trans HGR.out.wl
        have hes : A5.es.length ≤ 800005000 := by
          rw [g5.es, List.length_append, HBE.out, evL_len]; simp; omega
        have HRD := hid (fun F w a => read_any h F A5 L i j w a (by omega) (by omega) (by omega))
        have HWR := hid (fun F w a => write_any h F (rdA A5 (L + i) (L + j)) (L + i) (L + j) (A5.word (L + i)) (A5.word (L + j)) b w a (by show L + i < A5.top; omega) (by show L + j < A5.top; omega) (Ars.word_lt a5.ok _) (Ars.word_lt a5.ok _) (by rw [rdA_es]; simp [evR]; omega))
        simp only [Int.natCast_add] at HWR
        have HG6 := hid (show Grew B (wrA (rdA A5 (L + i) (L + j)) (L + i) (L + j) (A5.word (L + i)) (A5.word (L + j)) b) ((rest.take (k + 1)).foldl (stepF b i j) B.word) ((rest.take (k + 1)).flatMap (evL i j)) by
          have h1 := (g5.trans (grew_rd A5 (L + i) (L + j))).trans (grew_wr (rdA A5 (L + i) (L + j)) L i j b (A5.word (L + i)) (A5.word (L + j)) (by omega) (by show L + i < A5.ws.length; omega) (by show L + j < A5.ws.length; omega) rfl rfl)
          rw [htk, List.foldl_append, List.flatMap_append, ← g5.word]
          refine ⟨h1.top, h1.wl, h1.word, ?_⟩
          rw [h1.es]; simp [evL])
        have HA5 := hid a5
        have HS5 := hid s5
        have HZ7 := hid hg5
        have k4 : wr.cell? ⟨g, 0, none⟩ = some (.int .u32 (mk b : Int)) := cell_of_heap hg5 rfl
        have K4 := hid k4
        have hgl := lt_of_heap hg5
        generalize A5.word (L + i) = lo at *
        generalize A5.word (L + j) = hi at *
        clear a5 s5 g5 hg5 htk hLe HSC k4 htp hwl hes
        go_wp2_with fail
        go_region_held3 (fun w' => w'.cell? ⟨g, 0, none⟩ = some (.int .u32 (mk b : Int)))
          (first | (exact K4.out) | (exact cell_of_heap hg7 rfl) | (exact cell_of_heap hg6 rfl))
          (first
            | (go_at_call 88; refine (HRD.out F5 _ HA5.out.drew).mono ?_; rintro e w6 ⟨rfl, F6, a6, s6⟩; have s6' := (Step.refl wr F5).drew.trans s6; have hg6 := s6'.heap HZ7.out nf5; have nf6 := s6'.out nf5 hgl)
            | (go_at_call 93; refine (HWR.out F6 _ a6).mono ?_; rintro e w7 ⟨rfl, F7, a7, s7⟩; have hg7 := s7.heap hg6 nf6))
        have HA7 := hid a7
        have HS7 := hid (HS5.out.trans (s6'.trans s7))
        have HZ8 := hid hg7
        have nf7 : ¬ F7 g := s7.out nf6 (lt_of_heap hg6)
        rename_i hHeld
        clear a6 s6 s6' hg6 a7 s7 hg7 hHeld
        go_wp2
        go_roundw
        case rel => exact ⟨k + 1, F7, _, by omega, by go_num, HA7.out, HS7.out, HG6.out, HZ8.out, nf7⟩
        case measure => simp [intOf]; omega
      · have hke : k = rest.length := by omega
        subst hke
        rw [List.take_length] at g5
        have HG5 := hid g5
        have HA5 := hid a5
        have HS5 := hid s5
        clear a5 s5 g5 hg5
        go_wp2
        go_end0
        refine ⟨rfl, F5, A5, HA5.out, HS5.out, ?_⟩
        have h1 := HGR.out.trans HG5.out
        rw [HGR.out.word] at h1
        exact h1
end Go.Proofs.Ytjdbofgjieljlaa
