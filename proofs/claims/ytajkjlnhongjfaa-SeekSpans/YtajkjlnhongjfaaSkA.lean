/- Package seek's small words (within, gather), the laws' is, and the document's Has and All, over this seat's translation. No conditions but the words' bounds. -/
import Derived.Test.YtajkjlnhongjfaaCtW
import Derived.Test.YtajkjlnhongjfaaFs
import Derived.Test.YtajkjlnhongjfaaLg
import Derived.Test.YtajkjlnhongjfaaIv
import Derived.Deep.RegionHeld3
import Derived.Deep.LoopGhost
import Derived.BigQuiet
import Derived.Deep.QuietTactic
namespace Go.Proofs.Ytajkjlnhongjfaa
open Go.RowKit

/-- a span -/
structure Sp where
  f : Nat
  l : Nat
def Sp.has (s : Sp) (x : Nat) : Bool := decide (s.f ≤ x) && decide (x ≤ s.l)
theorem notor_mk (a b : Bool) : notW (orW (mk a) (mk b)) = mk (!(a || b)) := by cases a <;> cases b <;> decide
theorem within_w (s : Sp) (x : Nat) : notW (orW (mk (decide (x < s.f))) (mk (decide (s.l < x)))) = mk (s.has x) := by
  rw [notor_mk]
  congr 1
  unfold Sp.has
  rw [Bool.eq_iff_iff]; simp
/-- what is gathered -/
def gat (up : Nat) (yes : Bool) (v : Nat) : Nat := up ||| (if yes then v else 0)
theorem gat_lt {up v : Nat} {yes : Bool} (h : up < 4294967296) (hv : v < 4294967296) : gat up yes v < 4294967296 := by
  unfold gat; exact or32 h (by split <;> omega)
theorem gat_w (up : Nat) (yes : Bool) (v : Nat) (hv : v < 4294967296) : orW up (andW (mk yes) v) = gat up yes v := by
  unfold gat orW andW
  congr 1
  cases yes
  · simp [mk]
  · have h : 4294967295 &&& v = v := by rw [Nat.and_comm, show (4294967295 : Nat) = 2 ^ 32 - 1 from rfl, Nat.and_two_pow_sub_one_eq_mod]; exact Nat.mod_eq_of_lt hv
    simp [mk, h]
theorem cell_blk {w : World} {b i : Nat} {v : Value} (h : w.cell? ⟨b, i, none⟩ = some v) : b < w.heap.size := lt_of_cell h
theorem belowCat {a b c : World} (h : Below a.heap.size a b) (k : Below b.heap.size b c) : Below a.heap.size a c := chainB k h

theorem hp_get (w : World) (o : Obj) (i : Nat) : (w.alloc o).heap[i]? = if i = w.heap.size then some o else w.heap[i]? := by
  split
  · next h => subst h; exact heap_alloc_at _ _
  · next h =>
    rcases Nat.lt_or_ge i w.heap.size with hl | hl
    · exact heap_alloc_old _ _ _ hl
    · rw [Array.getElem?_eq_none hl, Array.getElem?_eq_none (by simp; omega)]
theorem cell_sb {w : World} {g : Nat} {v : Int} (h : w.heap[g]? = some (sb v)) : w.cell? ⟨g, 0, none⟩ = some (.int .u32 v) := cell_of_heap h rfl
theorem hp_drew (w : World) : w.drew.heap = w.heap := rfl
theorem blw_set {a w : World} {p : Addr} (u : Value) (h : Below a.heap.size a w) (hp : a.heap.size ≤ p.block) : Below a.heap.size a (w.setCell p u) := h.setCell hp u

set_option maxHeartbeats 1600000 in
theorem gather_any (up v : Nat) (yes : Bool) (w : World) (hu : up < 4294967296) (hv : v < 4294967296) :
    Calls Try.prog 24 #[sec up, sec (mk yes : Nat), u32 v] w fun e w' => e = .returned (sec (gat up yes v : Nat)) ∧ Below w.heap.size w w' := by
  have HG := hid (gat_w up yes v hv)
  have hy := mk_lt yes
  have ha : andW (mk yes) v < 4294967296 := andW_lt hy
  generalize mk yes = y at *
  go_enter Try.func24, Try.ntmps24
  go_wp2_with fail
  go_region_held3 (fun w' => w'.cell? ⟨w.heap.size, 0, none⟩ = some (.int .u32 (up : Int)) ∧ w'.cell? ⟨w.heap.size + 1, 0, none⟩ = some (.int .u32 (y : Int)))
    (first | (exact ⟨cell_sb (by simp only [hp_get, hp_drew, World.size_alloc]; repeat (first | rw [if_pos trivial] | rw [if_pos rfl] | rw [if_neg (by omega)])), cell_sb (by simp only [hp_get, hp_drew, World.size_alloc]; repeat (first | rw [if_pos trivial] | rw [if_pos rfl] | rw [if_neg (by omega)]))⟩) | (go_keep))
    (first | (go_at_call 8; refine (of_any _ _).mono ?_; rintro e w' ⟨rfl, rfl⟩) | (go_at_call 31; refine (and_any y v _ hy hv).mono ?_; rintro e w' ⟨rfl, rfl⟩) | (go_at_call 22; refine (or_any up (andW y v) _ hu ha).mono ?_; rintro e w' ⟨rfl, rfl⟩; rw [HG.out]))
  go_wp2
  exact bodyPost_ret (v := sec (gat up yes v : Nat)) (by simp [results, Try.results24, go_sem]) rfl ⟨rfl, (by repeat (first | exact Below.refl _ _ | refine blw_alloc ?_ | refine blw_drew ?_ | assumption))⟩

abbrev spV (s : Sp) : Value := .agg #[.int .u32 (s.f : Int), .int .u32 (s.l : Int)]
abbrev spO (s : Sp) : Obj := .cells #[.int .u32 (s.f : Int), .int .u32 (s.l : Int)] 44 (0, 0)
theorem cell_sp {w : World} {g : Nat} {s : Sp} (h : w.heap[g]? = some (spO s)) : w.cell? ⟨g, 0, none⟩ = some (.int .u32 (s.f : Int)) ∧ w.cell? ⟨g, 1, none⟩ = some (.int .u32 (s.l : Int)) := ⟨cell_of_heap h rfl, cell_of_heap h rfl⟩
set_option maxHeartbeats 1600000 in
theorem within_any (s : Sp) (x : Nat) (w : World) (hf : s.f < 4294967296) (hl : s.l < 4294967296) (hx : x < 4294967296) :
    Calls Try.prog 27 #[spV s, sec x] w fun e w' => e = .returned (sec (mk (s.has x) : Nat)) ∧ Below w.heap.size w w' := by
  have HG := hid (within_w s x)
  have m1 := mk_lt (decide (x < s.f))
  have m2 := mk_lt (decide (s.l < x))
  have HL1 := hid (fun w => lt_any x s.f w hx hf)
  have HL2 := hid (fun w => lt_any s.l x w hl hx)
  generalize hy1 : mk (decide (x < s.f)) = y1 at *
  generalize hy2 : mk (decide (s.l < x)) = y2 at *
  have ho := orW_lt m1 m2
  have HO := hid (fun w => or_b y1 y2 w m1 m2)
  have HN := hid (fun w => not_b (orW y1 y2) w ho)
  clear hy1 hy2
  go_enter Try.func27, Try.ntmps27
  go_wp2_with fail
  have H0 := hid (show (((w.alloc (spO s)).alloc (sb x)).alloc (sb 0)).heap[w.heap.size]? = some (spO s) from (by simp only [hp_get, World.size_alloc]; repeat (first | rw [if_pos trivial] | rw [if_pos rfl] | rw [if_neg (by omega)])))
  have H1 := hid (show (((w.alloc (spO s)).alloc (sb x)).alloc (sb 0)).heap[w.heap.size + 1]? = some (sb x) from (by simp only [hp_get, World.size_alloc]; repeat (first | rw [if_pos trivial] | rw [if_pos rfl] | rw [if_neg (by omega)])))
  have H2 := hid (show (((w.alloc (spO s)).alloc (sb x)).alloc (sb 0)).heap[w.heap.size + 1 + 1]? = some (sb 0) from (by simp only [hp_get, World.size_alloc]; repeat (first | rw [if_pos trivial] | rw [if_pos rfl] | rw [if_neg (by omega)])))
  have HB := hid (show Below w.heap.size w (((w.alloc (spO s)).alloc (sb x)).alloc (sb 0)) from (by repeat (first | exact Below.refl _ _ | refine blw_alloc ?_ | refine blw_drew ?_ | assumption)))
  generalize ((w.alloc (spO s)).alloc (sb x)).alloc (sb 0) = w1 at *
  have HW2 := hid (show w.heap.size + 1 + 1 ≤ w1.heap.size from Nat.le_of_lt (lt_of_heap H2.out))
  have KB := hid (show ∀ w' : World, Below (w.heap.size + 1 + 1) w1 w' → w'.cell? ⟨w.heap.size, 0, none⟩ = some (.int .u32 (s.f : Int)) ∧ w'.cell? ⟨w.heap.size, 1, none⟩ = some (.int .u32 (s.l : Int)) ∧ w'.cell? ⟨w.heap.size + 1, 0, none⟩ = some (.int .u32 (x : Int)) from fun w' hb =>
    ⟨(cell_sp ((hb.block _ (by omega)).trans H0.out)).1, (cell_sp ((hb.block _ (by omega)).trans H0.out)).2, cell_sb ((hb.block _ (by omega)).trans H1.out)⟩)
  go_region_held3 (fun w' => w'.cell? ⟨w.heap.size, 0, none⟩ = some (.int .u32 (s.f : Int)) ∧ w'.cell? ⟨w.heap.size, 1, none⟩ = some (.int .u32 (s.l : Int)) ∧ w'.cell? ⟨w.heap.size + 1, 0, none⟩ = some (.int .u32 (x : Int)))
    (first | (exact KX.out) | (exact KB.out _ ((hB5.mono HW2.out).setCell (Nat.le_refl _) _)) | (refine KB.out _ (Below.mono ?_ HW2.out); (repeat (first | with_reducible exact Below.refl _ _ | with_reducible exact hB5 | with_reducible exact hB4 | with_reducible exact hB3 | with_reducible exact hB2 | with_reducible refine blw_alloc ?_ | with_reducible refine blw_drew ?_)); done) | (go_keep))
    (first
      | (go_at_call 8; refine (of_any _ _).mono ?_; rintro e w' ⟨rfl, rfl⟩)
      | (go_at_call 36; have hB2' := hB2; refine (HL2.out _).mono ?_; rintro e w3 ⟨rfl, hB3⟩; replace hB3 := belowCat (show Below w1.heap.size w1 _ from blw_alloc hB2) hB3)
      | (go_at_call 36; refine (HL1.out _).mono ?_; rintro e w2 ⟨rfl, hB2⟩; replace hB2 := belowCat (show Below w1.heap.size w1 _ from blw_alloc (blw_drew (Below.refl _ _))) hB2)
      | (go_at_call 22; refine (HO.out _).mono ?_; rintro e w4 ⟨rfl, hB4⟩; replace hB4 := belowCat hB3 hB4)
      | (go_at_call 35; refine (HN.out _).mono ?_; rintro e w5 ⟨rfl, hB5⟩; replace hB5 := belowCat hB4 hB5; rw [HG.out]; have HQ := hid ((hB5.block _ (lt_of_heap H2.out)).trans H2.out); have hq1 := cell_sb HQ.out; have hq2 := frozen_of_heap (i := 0) HQ.out))
  go_wp2
  have hb9 := heap_setCell_at _ _ 0 _ _ _ (.int .u32 (mk (s.has x) : Nat)) HQ.out
  have d0 := cell_of_heap (i := 0) hb9 rfl
  exact bodyPost_ret (v := sec (mk (s.has x) : Nat)) (by simp only [results, Try.results27]; simp [go_sem, d0]) rfl ⟨rfl, blw_set _ (belowCat HB.out hB5) (by show w.heap.size ≤ w.heap.size + 1 + 1; omega)⟩

/-- the laws' is -/
theorem noted_blw {g : Nat} {ob : Option Nat} {n B : Nat} {xs e : List Value} {w w' : World} (h : Noted g ob n xs e w w') (hB : B ≤ w.heap.size) (hg : B ≤ g) (hob : ∀ k, ob = some k → B ≤ k) : Below B w w' := by
  obtain ⟨k, _, _, h3⟩ := h
  exact h3.below hB (fun i hi x => x.elim (fun x => by omega) (fun x => by have := hob _ x; omega))
set_option maxHeartbeats 800000 in
theorem is_any (v u : Nat) (w : World) : Calls Try.prog 10 #[sec v, u32 u] w fun e w' => e = .returned (.bool (v == u)) ∧ Below w.heap.size w w' := by
  have HL := hid (show LogAt ((w.alloc (sb v)).alloc (.cells #[.slice none 0 0] 77)).drew (w.heap.size + 1) none 0 [] by
    have := newlog_at (w.alloc (sb v))
    rw [World.size_alloc] at this
    exact this.kept (S := fun _ => False) (Fr.refl _ _).drew (fun x => x) (fun _ _ x => x))
  go_enter Try.func10, Try.ntmps10
  go_wp2
  go_region_with (first | (go_at_call 25; refine (newlog_any _).mono ?_; rintro e w1 ⟨rfl, rfl⟩) | (go_at_call 26; refine (release_any (w.heap.size + 1) none 0 [] v _ HL.out (by decide)).mono ?_; rintro e w1 ⟨rfl, hN⟩))
  all_goals
    go_wp2
    go_ret
    refine ⟨ret_bool (by rw [Bool.eq_iff_iff]; simp; omega), ?_⟩
    exact Below.trans (by repeat (first | exact Below.refl _ _ | refine blw_alloc ?_ | refine blw_drew ?_ | assumption)) (noted_blw hN (by simp; omega) (by omega) (by intro k hk; cases hk))

set_option maxHeartbeats 400000 in
theorem all_any (b : Bool) (w : World) : Calls Try.prog 11 #[.bool b] w fun e w' => e = .returned (u32 (mk b : Nat)) ∧ w' = w := by
  cases b
  all_goals
    go_enter Try.func11, Try.ntmps11
    go_wp2
    go_ret
    exact ⟨rfl, rfl⟩

set_option maxHeartbeats 400000 in
theorem has_any (s : Sp) (x : Nat) (w : World) : Calls Try.prog 30 #[spV s, u32 x] w fun e w' => e = .returned (.bool (s.has x)) ∧ w' = w.alloc (spO s) := by
  unfold Sp.has
  go_enter Try.func30, Try.ntmps30
  by_cases h1 : s.f ≤ x
  · by_cases h2 : x ≤ s.l
    · go_wp2
      go_ret
      exact ⟨ret_bool (by simp [h1, h2]), rfl⟩
    · go_wp2
      go_ret
      exact ⟨ret_bool (by simp [h1, h2]), rfl⟩
  · go_wp2
    go_ret
    exact ⟨ret_bool (by simp [h1]), rfl⟩
end Go.Proofs.Ytajkjlnhongjfaa
