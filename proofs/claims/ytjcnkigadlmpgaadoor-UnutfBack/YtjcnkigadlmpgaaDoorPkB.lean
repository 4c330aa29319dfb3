/- Contracts of package pack's read and write, over this seat's translation. Conditions: places within the arena; a bit's number below 20; the log has at most some hundred million events. -/
import Derived.Test.YtjcnkigadlmpgaaDoorPkA
import Derived.Deep.CutRange
namespace Go.Proofs.YtjcnkigadlmpgaaDoor
open Go.RowKit

theorem cell_blk {w : World} {a : Addr} {v : Value} (h : w.cell? a = some v) : a.block < w.heap.size := by
  rcases Nat.lt_or_ge a.block w.heap.size with hlt | hge
  · exact hlt
  · simp [World.cell?, Array.getElem?_eq_none hge] at h
theorem heap_drew (w : World) : w.drew.heap = w.heap := rfl
theorem heap_alloc_get (w : World) (o : Obj) (i : Nat) : (w.alloc o).heap[i]? = if i = w.heap.size then some o else w.heap[i]? := by
  by_cases h : i = w.heap.size
  · rw [if_pos h, h]; exact heap_alloc_at w o
  · rw [if_neg h]
    rcases Nat.lt_or_ge i w.heap.size with h1 | h1
    · exact heap_alloc_old _ _ _ h1
    · have : w.heap[i]? = none := Array.getElem?_eq_none h1
      rw [this]
      exact Array.getElem?_eq_none (by rw [World.size_alloc]; omega)
theorem ld_at {A : Ars} {L i : Nat} (h : L + i < A.top) : A.loadV ((L : Int) + (i : Int)) = A.word (L + i) ∧ A.load ((L : Int) + (i : Int)) = A.loadN (L + i) := by
  have hf : A.fits ((L : Int) + (i : Int)) 1 = true := by rw [Ars.fits_iff]; omega
  have e : ((L : Int) + (i : Int)).toNat = L + i := by omega
  unfold Ars.loadV Ars.load
  rw [if_pos hf, if_pos hf, e]; exact ⟨rfl, rfl⟩
theorem w64_nat (z : Int) (h0 : 0 ≤ z) (h1 : z ≤ 10000000) : wrap64 z = z := by unfold wrap64; omega
theorem pow_small (s : Nat) (hs : s < 20) : ∃ p : Nat, 2 ^ s = p ∧ p ≤ 524288 ∧ 1 ≤ p ∧ wrap64 ((2 : Int) ^ s) = (p : Int) := by
  have h1 : 2 ^ s ≤ 2 ^ 19 := Nat.pow_le_pow_right (n := 2) (by decide) (show s ≤ 19 from Nat.le_of_lt_succ hs)
  rw [show 2 ^ 19 = 524288 from rfl] at h1
  refine ⟨2 ^ s, rfl, h1, Nat.two_pow_pos s, ?_⟩
  have h2 : ((2 : Int) ^ s) = ((2 ^ s : Nat) : Int) := by simp
  rw [h2]
  generalize 2 ^ s = q at *
  exact w64_nat _ (by omega) (by omega)
theorem duo3_put {w : World} {g : Nat} {a b c x0 x1 x2 : Value} {t : TypeId} (hb : w.heap[g]? = some (.cells #[a, b, c] t (0, 0))) :
    (((w.setCell ⟨g, 0, none⟩ x0).setCell ⟨g, 1, none⟩ x1).setCell ⟨g, 2, none⟩ x2).heap[g]? = some (.cells #[x0, x1, x2] t (0, 0)) := by
  have h0 := heap_setCell_at w g 0 _ _ _ x0 hb
  have h1 := heap_setCell_at _ g 1 _ _ _ x1 h0
  have h2 := heap_setCell_at _ g 2 _ _ _ x2 h1
  rw [h2]; rfl
theorem st_at {A : Ars} {L i v : Nat} (h : L + i < A.top) : A.store ((L : Int) + (i : Int)) v = A.storeN (L + i) v := by
  have hf : A.fits ((L : Int) + (i : Int)) 1 = true := by rw [Ars.fits_iff]; omega
  have e : ((L : Int) + (i : Int)).toNat = L + i := by omega
  unfold Ars.store
  rw [if_pos hf, e]
/-- an arena behind a read -/
def rdP (A : Ars) (n s L i : Nat) : Ars := if i + 2 ^ s < n then (A.loadN (L + i)).loadN (L + (i + 2 ^ s)) else A.loadN (L + i)
theorem grew_rdP (A : Ars) (n s L i : Nat) : Grew A (rdP A n s L i) A.word (evRd n s L i) := by
  unfold rdP evRd
  by_cases h : i + 2 ^ s < n
  · rw [if_pos h, if_pos h]; exact ⟨rfl, rfl, rfl, by simp [Ars.loadN, Ars.note, evLd]⟩
  · rw [if_neg h, if_neg h]; exact ⟨rfl, rfl, rfl, by simp [Ars.loadN, Ars.note, evLd]⟩
abbrev dpV (p : Int) (x y : Nat) : Value := .agg #[.int .i64 p, .int .u32 (x : Int), .int .u32 (y : Int)]
abbrev dpO (p : Int) (x y : Nat) : Obj := .cells #[.int .i64 p, .int .u32 (x : Int), .int .u32 (y : Int)] 114 (0, 0)

set_option maxHeartbeats 1600000 in
theorem pread_any (h : Hn) (F : Nat → Prop) (A : Ars) (n s L i : Nat) (w : World) (a : Ar w h F A) (hs : s < 20) (hn : n ≤ 49152) (hi : i < n) (hL : L + n ≤ A.top) (he : A.es.length ≤ 900000000) :
    Calls Tryd.prog 76 #[stV h n s, .int .i64 (L : Int), .int .i64 (i : Int)] w fun e w' => e = .returned (dpV ((L : Int) + i) (A.word (L + i)) (ahead n s (fun i => A.word (L + i)) i)) ∧ ∃ F', Ar w' h F' (rdP A n s L i) ∧ Step w F w' F' := by
  have hb1 := a.ok.1
  have hb2 := a.ok.2.1
  have HA := hid a
  have hnF : ∀ i, w.heap.size ≤ i → ¬ F i := fun i hi x => by have := a.lt _ x; omega
  have HNF := hid hnF
  obtain ⟨e1, e2⟩ := ld_at (A := A) (L := L) (i := i) (by omega)
  have H1 := hid e1
  have H2 := hid e2
  obtain ⟨p, hpe, hp0, hp1, hw1⟩ := pow_small s hs
  have HW1 := hid hw1
  clear hw1
  unfold rdP ahead
  rw [hpe]
  have hw2 : wrap64 ((i : Int) + wrap64 ((2 : Int) ^ s)) = ((i + p : Nat) : Int) := by
    rw [HW1.out]; exact w64_nat _ (by omega) (by omega)
  obtain ⟨q, hq⟩ : ∃ q, i + p = q := ⟨_, rfl⟩
  rw [hq] at hw2 ⊢
  have hq2 : q ≤ 600000 := by omega
  have HW2 := hid hw2
  clear hpe hw2 HW1 hp0 hp1 hq
  clear e1 e2 a hnF
  by_cases hlt : q < n
  · rw [if_pos hlt, if_pos hlt]
    have HLT := hid hlt
    clear hlt
    go_enter Tryd.func76, Tryd.ntmps76
    go_wp2_with fail
    refine (ar_load h F A ((L : Int) + (i : Int)) _ ((HA.out.alloc _).alloc _) (by omega) (by omega)).mono ?_
    rintro e w1 ⟨rfl, F1, a1, s1⟩
    rw [H1.out]
    rw [H2.out] at a1
    have A1 := hid a1
    have S1 := hid s1
    have hbx := s1.heap (i := w.heap.size) (by rw [heap_alloc_old _ _ _ (by simp)]; exact heap_alloc_at _ _) (HNF.out _ (Nat.le_refl _))
    have hby := s1.heap (i := w.heap.size + 1) (by have := heap_alloc_at (w.alloc (stO h n s)) (dpO 0 0 0); rw [World.size_alloc] at this; exact this) (HNF.out _ (by omega))
    have k0 := cell_of_heap (i := 0) hbx rfl
    have k1 := cell_of_heap (i := 1) hbx rfl
    have k2 := cell_of_heap (i := 2) hbx rfl
    have hl1 : w.heap.size + 1 < w1.heap.size := lt_of_heap hby
    have hl0 : w.heap.size < w1.heap.size := by omega
    have y0 := cell_of_heap (i := 0) hby rfl
    have y1 := cell_of_heap (i := 1) hby rfl
    have y2 := cell_of_heap (i := 2) hby rfl
    have g0 := frozen_of_heap (i := 0) hby
    have g1 := frozen_of_heap (i := 1) hby
    have g2 := frozen_of_heap (i := 2) hby
    have HBX := hid hbx
    have HBY := hid hby
    have HFY := hid (s1.out (HNF.out (w.heap.size + 1) (by omega)) (show w.heap.size + 1 < _ by simp))
    have hne : w.heap.size + 1 ≠ w1.heap.size := by omega
    clear a1 s1 hbx hby
    have hlt := HLT.out
    obtain ⟨e3, e4⟩ := ld_at (A := A.loadN (L + i)) (L := L) (i := q) (show L + q < A.top by omega)
    have H3 := hid (show (A.loadN (L + i)).loadV ((L : Int) + (q : Int)) = A.word (L + q) from e3)
    have H4 := hid (show (A.loadN (L + i)).load ((L : Int) + (q : Int)) = (A.loadN (L + i)).loadN (L + q) from e4)
    clear e3 e4
    have hlt2 : (q : Int) < (n : Int) := by omega
    have HW3 := hid (show wrap64 ((L : Int) + (q : Int)) = (L : Int) + (q : Int) from w64_nat _ (by omega) (by omega))
    have HBD := hid (show (L : Int) + (q : Int) < 9223372036854775808 by omega)
    clear hL hb1 hb2 hlt hn hi
    have hw2 := HW2.out
    go_wp2_with fail
    clear hw2
    rw [HW3.out]
    refine (ar_load h F1 (A.loadN (L + i)) ((L : Int) + (q : Int)) _ (A1.out.alloc _) HBD.out (by simp [Ars.loadN, Ars.note]; omega)).mono ?_
    rintro e w2 ⟨rfl, F2, a2, s2⟩
    rw [H3.out]
    rw [H4.out] at a2
    have A2 := hid a2
    have hF1d : ¬ F1 w1.heap.size := fun x => by have := A1.out.lt _ x; omega
    have hbd := s2.heap (i := w1.heap.size) (heap_alloc_at _ _) hF1d
    have hby2 := s2.heap (i := w.heap.size + 1) (by rw [heap_alloc_old _ _ _ hl1]; exact HBY.out) HFY.out
    have d0 := cell_of_heap (i := 0) hbd rfl
    have d1 := cell_of_heap (i := 1) hbd rfl
    have d2 := cell_of_heap (i := 2) hbd rfl
    have f2 := frozen_of_heap (i := 2) hbd
    replace y0 := cell_of_heap (i := 0) hby2 rfl
    replace y1 := cell_of_heap (i := 1) hby2 rfl
    replace y2 := cell_of_heap (i := 2) hby2 rfl
    replace g0 := frozen_of_heap (i := 0) hby2
    replace g1 := frozen_of_heap (i := 1) hby2
    replace g2 := frozen_of_heap (i := 2) hby2
    have HFZ := hid (s2.out HFY.out (show w.heap.size + 1 < _ by simp; omega))
    have HFD := hid (s2.out hF1d (show w1.heap.size < _ by simp))
    have HBZ := hid (show (w2.setCell ⟨w1.heap.size, 2, none⟩ (.int .u32 (A.word (L + q) : Int))).heap[w.heap.size + 1]? = some (dpO 0 0 0) by rw [heap_setCell_other _ _ _ _ hne]; exact hby2)
    have S2 := hid (((((Step.refl w F).alloc _).alloc _).trans S1.out).trans (((Step.refl w1 F1).alloc (dpO ((L : Int) + i) (A.word (L + i)) 0)).trans s2))
    have A3 := hid (A2.out.setOther ⟨w1.heap.size, 2, none⟩ (.int .u32 (A.word (L + q) : Int)) HFD.out)
    have S3 := hid (S2.out.setNew ⟨w1.heap.size, 2, none⟩ (.int .u32 (A.word (L + q) : Int)) (by show w.heap.size ≤ w1.heap.size; omega))
    clear a2 s2 hbd hby2 hF1d
    go_wp2
    have hb3 := duo3_put (x0 := .int .i64 ((L : Int) + i)) (x1 := .int .u32 (A.word (L + i) : Int)) (x2 := .int .u32 (A.word (L + q) : Int)) HBZ.out
    have a3 := ((A3.out.setOther ⟨w.heap.size + 1, 0, none⟩ (.int .i64 ((L : Int) + i)) HFZ.out).setOther ⟨w.heap.size + 1, 1, none⟩ (.int .u32 (A.word (L + i) : Int)) HFZ.out).setOther ⟨w.heap.size + 1, 2, none⟩ (.int .u32 (A.word (L + q) : Int)) HFZ.out
    have s3 := ((S3.out.setNew ⟨w.heap.size + 1, 0, none⟩ (.int .i64 ((L : Int) + i)) (by simp)).setNew ⟨w.heap.size + 1, 1, none⟩ (.int .u32 (A.word (L + i) : Int)) (by simp)).setNew ⟨w.heap.size + 1, 2, none⟩ (.int .u32 (A.word (L + q) : Int)) (by simp)
    clear y0 y1 y2 g0 g1 g2 k0 k1 k2
    generalize (((w2.setCell ⟨w1.heap.size, 2, none⟩ (.int .u32 (A.word (L + q) : Int))).setCell ⟨w.heap.size + 1, 0, none⟩ (.int .i64 ((L : Int) + i))).setCell ⟨w.heap.size + 1, 1, none⟩ (.int .u32 (A.word (L + i) : Int))).setCell ⟨w.heap.size + 1, 2, none⟩ (.int .u32 (A.word (L + q) : Int)) = w5 at *
    have c0 := cell_of_heap (i := 0) hb3 rfl
    have c1 := cell_of_heap (i := 1) hb3 rfl
    have c2 := cell_of_heap (i := 2) hb3 rfl
    exact bodyPost_ret (v := dpV ((L : Int) + i) (A.word (L + i)) (A.word (L + q))) (by simp [results, Tryd.results76, go_sem, c0, c1, c2]) rfl ⟨rfl, F2, a3, s3⟩
  · rw [if_neg hlt, if_neg hlt]
    have HLT := hid hlt
    clear hlt
    go_enter Tryd.func76, Tryd.ntmps76
    go_wp2_with fail
    refine (ar_load h F A ((L : Int) + (i : Int)) _ ((HA.out.alloc _).alloc _) (by omega) (by omega)).mono ?_
    rintro e w1 ⟨rfl, F1, a1, s1⟩
    rw [H1.out]
    rw [H2.out] at a1
    have A1 := hid a1
    have S1 := hid s1
    have hbx := s1.heap (i := w.heap.size) (by rw [heap_alloc_old _ _ _ (by simp)]; exact heap_alloc_at _ _) (HNF.out _ (Nat.le_refl _))
    have hby := s1.heap (i := w.heap.size + 1) (by have := heap_alloc_at (w.alloc (stO h n s)) (dpO 0 0 0); rw [World.size_alloc] at this; exact this) (HNF.out _ (by omega))
    have k0 := cell_of_heap (i := 0) hbx rfl
    have k1 := cell_of_heap (i := 1) hbx rfl
    have k2 := cell_of_heap (i := 2) hbx rfl
    have hl1 : w.heap.size + 1 < w1.heap.size := lt_of_heap hby
    have hl0 : w.heap.size < w1.heap.size := by omega
    have y0 := cell_of_heap (i := 0) hby rfl
    have y1 := cell_of_heap (i := 1) hby rfl
    have y2 := cell_of_heap (i := 2) hby rfl
    have g0 := frozen_of_heap (i := 0) hby
    have g1 := frozen_of_heap (i := 1) hby
    have g2 := frozen_of_heap (i := 2) hby
    have HBX := hid hbx
    have HBY := hid hby
    have HFY := hid (s1.out (HNF.out (w.heap.size + 1) (by omega)) (show w.heap.size + 1 < _ by simp))
    have hne : w.heap.size + 1 ≠ w1.heap.size := by omega
    clear a1 s1 hbx hby
    have hlt2 : decide ((q : Int) < (n : Int)) = false := decide_eq_false (by have := HLT.out; omega)
    clear hL hb1 hb2 hn hi
    have hw2 := HW2.out
    go_wp2
    clear hw2
    have HFZ := HFY
    have hb3 := duo3_put (x0 := .int .i64 ((L : Int) + i)) (x1 := .int .u32 (A.word (L + i) : Int)) (x2 := .int .u32 0) HBY.out
    have a3 := ((A1.out.setOther ⟨w.heap.size + 1, 0, none⟩ (.int .i64 ((L : Int) + i)) HFZ.out).setOther ⟨w.heap.size + 1, 1, none⟩ (.int .u32 (A.word (L + i) : Int)) HFZ.out).setOther ⟨w.heap.size + 1, 2, none⟩ (.int .u32 0) HFZ.out
    have s3 := ((((((Step.refl w F).alloc _).alloc _).trans S1.out).setNew ⟨w.heap.size + 1, 0, none⟩ (.int .i64 ((L : Int) + i)) (by simp)).setNew ⟨w.heap.size + 1, 1, none⟩ (.int .u32 (A.word (L + i) : Int)) (by simp)).setNew ⟨w.heap.size + 1, 2, none⟩ (.int .u32 0) (by simp)
    clear y0 y1 y2 g0 g1 g2 k0 k1 k2
    generalize ((w1.setCell ⟨w.heap.size + 1, 0, none⟩ (.int .i64 ((L : Int) + i))).setCell ⟨w.heap.size + 1, 1, none⟩ (.int .u32 (A.word (L + i) : Int))).setCell ⟨w.heap.size + 1, 2, none⟩ (.int .u32 0) = w5 at *
    have hb4 : (w5.alloc (.cells #[.int .i64 ((L : Int) + i), .int .u32 (A.word (L + i) : Int), .int .u32 0] 114 (0, 0))).heap[w.heap.size + 1]? = _ := (heap_alloc_old _ _ _ (lt_of_heap hb3)).trans hb3
    have c0 := cell_of_heap (i := 0) hb4 rfl
    have c1 := cell_of_heap (i := 1) hb4 rfl
    have c2 := cell_of_heap (i := 2) hb4 rfl
    exact bodyPost_ret (v := dpV ((L : Int) + i) (A.word (L + i)) 0) (by simp only [results, Tryd.results76]; simp [go_sem, c0, c1, c2]) rfl ⟨rfl, F1, a3.alloc _, s3.alloc _⟩

set_option maxHeartbeats 1600000 in
theorem pwrite_any (h : Hn) (F : Nat → Prop) (A : Ars) (L i x y : Nat) (g c : Bool) (w : World) (a : Ar w h F A) (h1 : L + i < A.top) (hx : x < 4294967296) (hy : y < 4294967296) (hn : A.es.length ≤ 900000000) :
    Calls Tryd.prog 78 #[dpV ((L : Int) + i) x y, arPtr h, sec (mk g : Nat), sec (mk c : Nat)] w fun e w' => e = .returned (.tuple #[]) ∧ ∃ F', Ar w' h F' (A.storeN (L + i) (mix g c x y)) ∧ Step w F w' F' := by
  have hb1 := a.ok.1
  have hb2 := a.ok.2.1
  have HA := hid a
  have HNF := hid (show ∀ i, w.heap.size ≤ i → ¬ F i from fun i hi x => by have := a.lt _ x; omega)
  have hg := mk_lt g
  have hc := mk_lt c
  have hm := mix_lt (g := g) (c := c) hx hy
  have HW := hid (mix_w g c x y hx hy)
  have HE := hid (st_at (A := A) (v := mix g c x y) h1)
  have HZ := hid (show andW (notW (mk g)) x < 4294967296 from andW_lt (notW_lt hg))
  have HNG := hid (notW_lt hg)
  clear a
  generalize mk g = mg at *
  generalize mk c = mc at *
  generalize mix g c x y = m at *
  go_enter Tryd.func78, Tryd.ntmps78
  go_wp2_with fail
  have HBX := hid (show (((w.alloc (dpO ((L : Int) + i) x y)).alloc (sb mg)).alloc (sb mc)).heap[w.heap.size]? = some (dpO ((L : Int) + i) x y) from (by simp only [heap_alloc_get, World.size_alloc]; repeat (first | rw [if_pos trivial] | rw [if_pos rfl] | rw [if_neg (by omega)])))
  have HBG := hid (show (((w.alloc (dpO ((L : Int) + i) x y)).alloc (sb mg)).alloc (sb mc)).heap[w.heap.size + 1]? = some (sb mg) from (by simp only [heap_alloc_get, World.size_alloc]; repeat (first | rw [if_pos trivial] | rw [if_pos rfl] | rw [if_neg (by omega)])))
  have HBC := hid (show (((w.alloc (dpO ((L : Int) + i) x y)).alloc (sb mg)).alloc (sb mc)).heap[w.heap.size + 1 + 1]? = some (sb mc) from (by simp only [heap_alloc_get, World.size_alloc]; repeat (first | rw [if_pos trivial] | rw [if_pos rfl] | rw [if_neg (by omega)])))
  have HA1 := hid (show Ar (((w.alloc (dpO ((L : Int) + i) x y)).alloc (sb mg)).alloc (sb mc)) h F A from ((HA.out.alloc _).alloc _).alloc _)
  have HST := hid (show Step w F (((w.alloc (dpO ((L : Int) + i) x y)).alloc (sb mg)).alloc (sb mc)) F from (((Step.refl _ _).alloc _).alloc _).alloc _)
  generalize (((w.alloc (dpO ((L : Int) + i) x y)).alloc (sb mg)).alloc (sb mc)) = w1 at *
  have k1 : w1.cell? ⟨w.heap.size, 1, none⟩ = some (.int .u32 (x : Int)) := cell_of_heap HBX.out rfl
  have km : w1.cell? ⟨w.heap.size + 1, 0, none⟩ = some (.int .u32 (mg : Int)) := cell_of_heap HBG.out rfl
  have KB := hid (show ∀ w' : World, Below w1.heap.size w1 w' → w'.cell? ⟨w.heap.size, 1, none⟩ = some (.int .u32 (x : Int)) ∧ w'.cell? ⟨w.heap.size + 1, 0, none⟩ = some (.int .u32 (mg : Int)) from fun w' hb => ⟨cell_below hb k1 (cell_blk k1), cell_below hb km (cell_blk km)⟩)
  clear k1 km
  go_cut [8] from 9 to 13 (fun p wx => ∃ z, w1.heap.size ≤ z ∧ p = .pointer (some ⟨z, 0, none⟩) ∧ wx.heap[z]? = some (sb ((andW (notW mg) x : Nat) : Int)) ∧ Below w1.heap.size w1 wx)
  case first =>
    go_region_held3 (fun w' => w'.cell? ⟨w.heap.size, 1, none⟩ = some (.int .u32 (x : Int)) ∧ w'.cell? ⟨w.heap.size + 1, 0, none⟩ = some (.int .u32 (mg : Int)))
      (first | (exact KB.out _ (by repeat (first | exact Below.refl _ _ | refine blw_alloc ?_ | refine blw_drew ?_ | assumption))) | (go_keep))
      (first | (go_at_call 32; refine (not_any mg _ hg).mono ?_; rintro e w' ⟨rfl, rfl⟩) | (go_at_call 31; refine (and_any (notW mg) x _ HNG.out hx).mono ?_; rintro e w' ⟨rfl, rfl⟩))
    all_goals
      go_wp2_with fail
      go_meet
      case rel => exact ⟨_, by omega, rfl, (by simp only [heap_drew, heap_alloc_get, World.size_alloc]; repeat (first | rw [if_pos trivial] | rw [if_pos rfl] | rw [if_neg (by omega)])), (by repeat (first | exact Below.refl _ _ | refine blw_alloc ?_ | refine blw_drew ?_ | assumption))⟩
  case rest =>
    obtain ⟨z, hz, rfl, hbz, hB⟩ := hcut
    have HBZ := hid hbz
    have HX2 := hid (hB.block w.heap.size (lt_of_heap HBX.out) |>.trans HBX.out)
    have HC2 := hid (hB.block (w.heap.size + 1 + 1) (lt_of_heap HBC.out) |>.trans HBC.out)
    have HA2 := hid (HA1.out.below hB)
    have HS2 := hid (HST.out.trans (Step.ofBelow hB))
    have HFz := hid (show ¬ F z from fun x => by have := HA1.out.lt z x; omega)
    have k0 : wc.cell? ⟨w.heap.size, 0, none⟩ = some (.int .i64 ((L : Int) + i)) := cell_of_heap HX2.out rfl
    have k2 : wc.cell? ⟨w.heap.size, 2, none⟩ = some (.int .u32 (y : Int)) := cell_of_heap HX2.out rfl
    have kc : wc.cell? ⟨w.heap.size + 1 + 1, 0, none⟩ = some (.int .u32 (mc : Int)) := cell_of_heap HC2.out rfl
    have kz : wc.cell? ⟨z, 0, none⟩ = some (.int .u32 ((andW (notW mg) x : Nat) : Int)) := cell_of_heap hbz rfl
    clear hbz hB KB HBX HBG HBC HA1 HST hz
    have KB := hid (show ∀ w' : World, Below wc.heap.size wc w' → w'.cell? ⟨w.heap.size, 0, none⟩ = some (.int .i64 ((L : Int) + i)) ∧ w'.cell? ⟨w.heap.size, 2, none⟩ = some (.int .u32 (y : Int)) ∧ w'.cell? ⟨w.heap.size + 1 + 1, 0, none⟩ = some (.int .u32 (mc : Int)) ∧ w'.cell? ⟨z, 0, none⟩ = some (.int .u32 ((andW (notW mg) x : Nat) : Int)) from fun w' hb => ⟨cell_below hb k0 (cell_blk k0), cell_below hb k2 (cell_blk k2), cell_below hb kc (cell_blk kc), cell_below hb kz (cell_blk kz)⟩)
    clear k0 k2 kc kz
    generalize andW (notW mg) x = st at *
    go_wp2_with fail
    go_region_held3 (fun w' => w'.cell? ⟨w.heap.size, 0, none⟩ = some (.int .i64 ((L : Int) + i)) ∧ w'.cell? ⟨w.heap.size, 2, none⟩ = some (.int .u32 (y : Int)) ∧ w'.cell? ⟨w.heap.size + 1 + 1, 0, none⟩ = some (.int .u32 (mc : Int)) ∧ w'.cell? ⟨z, 0, none⟩ = some (.int .u32 (st : Int)))
      (first | (exact KX.out) | (exact KB.out _ (by repeat (first | exact Below.refl _ _ | refine blw_alloc ?_ | refine blw_drew ?_ | assumption))) | (go_keep))
      (first
        | (go_at_call 67; refine (sel_any mc y st _ hc hy HZ.out).mono ?_; rintro e w' ⟨rfl, rfl⟩; rw [HW.out])
        | (go_at_call 30; refine (ar_store h F A ((L : Int) + i) m _ ((((((HA2.out.alloc _).alloc _).alloc _).alloc _).alloc _).drew) (by omega) hm (by omega)).mono ?_; rintro e w3 ⟨rfl, F3, a3, s3⟩; have hs3 := ((((((Step.refl wc F).alloc _).alloc _).alloc _).alloc _).alloc _).drew.trans s3; have hbx3 := hs3.heap HX2.out (HNF.out _ (Nat.le_refl _)); have hbc3 := hs3.heap HC2.out (HNF.out _ (by omega)); have hbz3 := hs3.heap HBZ.out HFz.out; have KX := hid (show w3.cell? ⟨w.heap.size, 0, none⟩ = some (.int .i64 ((L : Int) + i)) ∧ w3.cell? ⟨w.heap.size, 2, none⟩ = some (.int .u32 (y : Int)) ∧ w3.cell? ⟨w.heap.size + 1 + 1, 0, none⟩ = some (.int .u32 (mc : Int)) ∧ w3.cell? ⟨z, 0, none⟩ = some (.int .u32 (st : Int)) from ⟨cell_of_heap hbx3 rfl, cell_of_heap hbx3 rfl, cell_of_heap hbc3 rfl, cell_of_heap hbz3 rfl⟩)))
    rw [HE.out] at a3
    have A3 := hid a3
    have S3 := hid (HS2.out.trans hs3)
    rename_i hHeld
    clear a3 s3 hs3 hbx3 hbc3 hbz3 KX KB hHeld
    go_wp2
    go_end0
    exact ⟨rfl, F3, A3.out, S3.out⟩
end Go.Proofs.YtjcnkigadlmpgaaDoor
