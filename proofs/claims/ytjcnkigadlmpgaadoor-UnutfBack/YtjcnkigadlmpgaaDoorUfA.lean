/- Contracts of package utf's between, choose and follow, over this seat's translation. Conditions: the words' bounds. -/
import Derived.Test.YtjcnkigadlmpgaaDoorUfP
import Derived.Test.YtjcnkigadlmpgaaDoorCtW
import Derived.Test.YtjcnkigadlmpgaaDoorCtH
import Derived.Test.YtjcnkigadlmpgaaDoorIv
import Derived.Deep.RegionHeld3
import Derived.Deep.LoopGhost
import Derived.BigQuiet
import Derived.Deep.QuietTactic
namespace Go.Proofs.YtjcnkigadlmpgaaDoor
open Go.RowKit
set_option linter.unusedVariables false

structure Us.ok (s : Us) : Prop where
  p : s.pt < 4294967296
  m : s.mo < 4294967296
  l : s.lo < 4294967296
  h : s.hi < 4294967296
abbrev usV (s : Us) : Value := .agg #[.int .u32 s.pt, .int .u32 s.mo, .int .u32 s.lo, .int .u32 s.hi]
abbrev usC (s : Us) : Array Value := #[.int .u32 s.pt, .int .u32 s.mo, .int .u32 s.lo, .int .u32 s.hi]
abbrev usO (s : Us) : Obj := .cells (usC s) 82 (0, 0)
def us00 : Us := us 0 0 0 0
theorem us_okay {p m l h : Nat} (h1 : p < 4294967296) (h2 : m < 4294967296) (h3 : l < 4294967296) (h4 : h < 4294967296) : (us p m l h).ok := ⟨h1, h2, h3, h4⟩
theorem us00_ok : us00.ok := us_okay (by decide) (by decide) (by decide) (by decide)
theorem cho_ok {c : Bool} {s t : Us} (h1 : s.ok) (h2 : t.ok) : (cho c s t).ok := by unfold cho; split <;> assumption
theorem notor_mk (a b : Bool) : notW (orW (mk a) (mk b)) = mk (!(a || b)) := by cases a <;> cases b <;> decide
theorem btw_w (b lo hi : Nat) : notW (orW (mk (decide (b < lo))) (mk (decide (hi < b)))) = mk (btw b lo hi) := notor_mk _ _

set_option maxHeartbeats 1600000 in
theorem between_any (b lo hi : Nat) (w : World) (hb : b < 4294967296) (hl : lo < 4294967296) (hh : hi < 4294967296) :
    Calls Tryd.prog 79 #[sec b, sec lo, sec hi] w fun e w' => e = .returned (sec (mk (btw b lo hi) : Nat)) ∧ Below w.heap.size w w' := by
  have HG := hid (btw_w b lo hi)
  have m1 := mk_lt (decide (b < lo))
  have m2 := mk_lt (decide (hi < b))
  have HL1 := hid (fun w => lt_any b lo w hb hl)
  have HL2 := hid (fun w => lt_any hi b w hh hb)
  generalize hy1 : mk (decide (b < lo)) = y1 at *
  generalize hy2 : mk (decide (hi < b)) = y2 at *
  have HO := hid (fun w => or_b y1 y2 w m1 m2)
  have HN := hid (fun w => not_b (orW y1 y2) w (orW_lt m1 m2))
  clear hy1 hy2 m1 m2
  go_enter Tryd.func79, Tryd.ntmps79
  go_wp2_with fail
  have H0 := hid (show ((((w.alloc (sb b)).alloc (sb lo)).alloc (sb hi)).alloc (sb 0)).heap[w.heap.size]? = some (sb b) from (by simp only [hp_get, World.size_alloc]; repeat (first | rw [if_pos trivial] | rw [if_pos rfl] | rw [if_neg (by omega)])))
  have H1 := hid (show ((((w.alloc (sb b)).alloc (sb lo)).alloc (sb hi)).alloc (sb 0)).heap[w.heap.size + 1]? = some (sb lo) from (by simp only [hp_get, World.size_alloc]; repeat (first | rw [if_pos trivial] | rw [if_pos rfl] | rw [if_neg (by omega)])))
  have H2 := hid (show ((((w.alloc (sb b)).alloc (sb lo)).alloc (sb hi)).alloc (sb 0)).heap[w.heap.size + 1 + 1]? = some (sb hi) from (by simp only [hp_get, World.size_alloc]; repeat (first | rw [if_pos trivial] | rw [if_pos rfl] | rw [if_neg (by omega)])))
  have H3 := hid (show ((((w.alloc (sb b)).alloc (sb lo)).alloc (sb hi)).alloc (sb 0)).heap[w.heap.size + 1 + 1 + 1]? = some (sb 0) from (by simp only [hp_get, World.size_alloc]; repeat (first | rw [if_pos trivial] | rw [if_pos rfl] | rw [if_neg (by omega)])))
  have HB := hid (show Below w.heap.size w ((((w.alloc (sb b)).alloc (sb lo)).alloc (sb hi)).alloc (sb 0)) from (by repeat (first | exact Below.refl _ _ | refine blw_alloc ?_ | refine blw_drew ?_ | assumption)))
  generalize (((w.alloc (sb b)).alloc (sb lo)).alloc (sb hi)).alloc (sb 0) = w1 at *
  have HW := hid (show w.heap.size + 1 + 1 + 1 ≤ w1.heap.size from Nat.le_of_lt (lt_of_heap H3.out))
  have KB := hid (show ∀ w' : World, Below (w.heap.size + 1 + 1 + 1) w1 w' → w'.cell? ⟨w.heap.size, 0, none⟩ = some (.int .u32 (b : Int)) ∧ w'.cell? ⟨w.heap.size + 1, 0, none⟩ = some (.int .u32 (lo : Int)) ∧ w'.cell? ⟨w.heap.size + 1 + 1, 0, none⟩ = some (.int .u32 (hi : Int)) from fun w' hb =>
    ⟨cell_s1 ((hb.block _ (by omega)).trans H0.out), cell_s1 ((hb.block _ (by omega)).trans H1.out), cell_s1 ((hb.block _ (by omega)).trans H2.out)⟩)
  refine wp_region_held_drew (S := (fun w' => w'.cell? ⟨w.heap.size, 0, none⟩ = some (.int .u32 (b : Int)) ∧ w'.cell? ⟨w.heap.size + 1, 0, none⟩ = some (.int .u32 (lo : Int)) ∧ w'.cell? ⟨w.heap.size + 1 + 1, 0, none⟩ = some (.int .u32 (hi : Int)))) (by kernel_rfl) (KB.out _ ((blw_drew (Below.refl _ _)).mono HW.out)) (fun hHeld => ?_)
  refine tk_at (i := 0) (d := some 7) (v := ?_) rfl rfl (by kernel_rfl) (by kernel_rfl) (by kernel_rfl) (fun _ _ _ h => h) (Or.inl ⟨by rfl, ?_⟩) (by assumption) ?_
  rotate_left
  · (intro w hSw; (try dsimp only at hSw); go_simp; try (with_reducible rfl))
  simp only [Act.put, List.setIfInBounds_toArray, List.set_cons_zero, List.set_cons_succ]
  refine tk_at (i := 1) (d := some 8) (v := ?_) rfl rfl (by kernel_rfl) (by kernel_rfl) (by kernel_rfl) (fun _ _ _ h => h) (Or.inl ⟨by rfl, ?_⟩) (by assumption) ?_
  rotate_left
  · (intro w hSw; (try dsimp only at hSw); go_simp; try (with_reducible rfl))
  simp only [Act.put, List.setIfInBounds_toArray, List.set_cons_zero, List.set_cons_succ]
  refine tk_at (i := 3) (d := some 10) (v := ?_) rfl rfl (by kernel_rfl) (by kernel_rfl) (by kernel_rfl) (fun _ _ _ h => h) (Or.inl ⟨by rfl, ?_⟩) (by assumption) ?_
  rotate_left
  · (intro w hSw; (try dsimp only at hSw); go_simp; try (with_reducible rfl))
  simp only [Act.put, List.setIfInBounds_toArray, List.set_cons_zero, List.set_cons_succ]
  refine tk_at (i := 4) (d := some 11) (v := ?_) rfl rfl (by kernel_rfl) (by kernel_rfl) (by kernel_rfl) (fun _ _ _ h => h) (Or.inl ⟨by rfl, ?_⟩) (by assumption) ?_
  rotate_left
  · (intro w hSw; (try dsimp only at hSw); go_simp; try (with_reducible rfl))
  simp only [Act.put, List.setIfInBounds_toArray, List.set_cons_zero, List.set_cons_succ]
  refine wpAnyH_ready (rs := [2]) (by kernel_rfl) (by simp) ?_
  refine AllReadyH.cons rfl (fun K hK => ?_) AllReadyH.nil
  go_simp
  refine (HL1.out _).mono ?_
  rintro e w2 ⟨rfl, hBd⟩
  have B2 := hid (belowCat (blw_drew (Below.refl _ _)) hBd)
  clear hBd
  go_wp2_with fail
  refine hK.out _ _ (KB.out _ (B2.out.mono HW.out)) (fun hHeld => ?_)
  clear hK K
  try simp only [Act.put, List.setIfInBounds_toArray, List.set_cons_zero, List.set_cons_succ]
  refine wpAnyH_ready (rs := [5]) (by kernel_rfl) (by simp) ?_
  refine AllReadyH.cons rfl (fun K hK => ?_) AllReadyH.nil
  go_simp
  refine (HL2.out _).mono ?_
  rintro e w3 ⟨rfl, hBd⟩
  have B3 := hid (belowCat B2.out hBd)
  clear hBd
  go_wp2_with fail
  refine hK.out _ _ (KB.out _ (B3.out.mono HW.out)) (fun hHeld => ?_)
  clear hK K
  try simp only [Act.put, List.setIfInBounds_toArray, List.set_cons_zero, List.set_cons_succ]
  refine wpAnyH_ready (rs := [6]) (by kernel_rfl) (by simp) ?_
  refine AllReadyH.cons rfl (fun K hK => ?_) AllReadyH.nil
  go_simp
  refine (HO.out _).mono ?_
  rintro e w4 ⟨rfl, hBd⟩
  have B4 := hid (belowCat B3.out hBd)
  clear hBd
  go_wp2_with fail
  refine hK.out _ _ (KB.out _ (B4.out.mono HW.out)) (fun hHeld => ?_)
  clear hK K
  try simp only [Act.put, List.setIfInBounds_toArray, List.set_cons_zero, List.set_cons_succ]
  refine wpAnyH_ready (rs := [7]) (by kernel_rfl) (by simp) ?_
  refine AllReadyH.cons rfl (fun K hK => ?_) AllReadyH.nil
  go_simp
  refine (HN.out _).mono ?_
  rintro e w5 ⟨rfl, hBd⟩
  have B5 := hid (belowCat B4.out hBd)
  rw [HG.out]
  clear hBd
  have HQ := hid ((B5.out.block _ (lt_of_heap H3.out)).trans H3.out)
  have hq1 := cell_s1 HQ.out
  have hq2 := frozen_of_heap (i := 0) HQ.out
  go_wp2_with fail
  refine hK.out _ _ (KB.out _ (B5.out.mono HW.out)) (fun hHeld => ?_)
  clear hK K
  try simp only [Act.put, List.setIfInBounds_toArray, List.set_cons_zero, List.set_cons_succ]
  refine wpAnyH_ready (rs := [8]) (by kernel_rfl) (by simp) ?_
  refine AllReadyH.cons rfl (fun K hK => ?_) AllReadyH.nil
  go_simp
  go_wp2_with fail
  refine hK.out _ _ (KB.out _ ((B5.out.mono HW.out).setCell (Nat.le_refl _) _)) (fun hHeld => ?_)
  clear hK K
  try simp only [Act.put, List.setIfInBounds_toArray, List.set_cons_zero, List.set_cons_succ]
  refine wpAnyH_done (by kernel_rfl) ?_ _
  clear hHeld
  go_wp2
  have hb9 := heap_setCell_at _ _ 0 _ _ _ (.int .u32 (mk (btw b lo hi) : Nat)) HQ.out
  have d0 := cell_of_heap (i := 0) hb9 rfl
  exact bodyPost_ret (v := sec (mk (btw b lo hi) : Nat)) (by simp only [results, Tryd.results79]; simp [go_sem, d0]) rfl ⟨rfl, (belowCat HB.out B5.out).setCell (by show w.heap.size ≤ w.heap.size + 1 + 1 + 1; omega) _⟩

theorem sel_c (c : Bool) (a b : Nat) (w : World) (ha : a < 4294967296) (hb : b < 4294967296) : Calls Tryd.prog 67 #[sec (mk c : Nat), sec a, sec b] w fun e w' => e = .returned (sec ((if c then a else b : Nat) : Int)) ∧ Below w.heap.size w w' :=
  (sel_b (mk c) a b w (mk_lt c) ha hb).mono fun e w' ⟨he, hB⟩ => ⟨by
    rw [he]
    cases c
    · rw [selW_no a b hb]; rfl
    · rw [selW_yes a b ha]; rfl, hB⟩
theorem cho_pt (c : Bool) (s t : Us) : (cho c s t).pt = if c then s.pt else t.pt := by cases c <;> rfl
theorem cho_mo (c : Bool) (s t : Us) : (cho c s t).mo = if c then s.mo else t.mo := by cases c <;> rfl
theorem cho_lo (c : Bool) (s t : Us) : (cho c s t).lo = if c then s.lo else t.lo := by cases c <;> rfl
theorem cho_hi (c : Bool) (s t : Us) : (cho c s t).hi = if c then s.hi else t.hi := by cases c <;> rfl
theorem cell_us {w : World} {g : Nat} {s : Us} (h : w.heap[g]? = some (usO s)) : w.cell? ⟨g, 0, none⟩ = some (.int .u32 s.pt) ∧ w.cell? ⟨g, 1, none⟩ = some (.int .u32 s.mo) ∧ w.cell? ⟨g, 2, none⟩ = some (.int .u32 s.lo) ∧ w.cell? ⟨g, 3, none⟩ = some (.int .u32 s.hi) := ⟨cell_of_heap h rfl, cell_of_heap h rfl, cell_of_heap h rfl, cell_of_heap h rfl⟩
theorem us_eta (s : Us) : us s.pt s.mo s.lo s.hi = s := by cases s; rfl

set_option maxHeartbeats 3200000 in
theorem choose_any (c : Bool) (s t : Us) (w : World) (hs : s.ok) (ht : t.ok) :
    Calls Tryd.prog 68 #[sec (mk c : Nat), usV s, usV t] w fun e w' => e = .returned (usV (cho c s t)) ∧ Below w.heap.size w w' := by
  have HS1 := hid (fun w => cho_pt c s t ▸ sel_c c s.pt t.pt w hs.p ht.p)
  have HS2 := hid (fun w => cho_mo c s t ▸ sel_c c s.mo t.mo w hs.m ht.m)
  have HS3 := hid (fun w => cho_lo c s t ▸ sel_c c s.lo t.lo w hs.l ht.l)
  have HS4 := hid (fun w => cho_hi c s t ▸ sel_c c s.hi t.hi w hs.h ht.h)
  clear hs ht
  obtain ⟨r, hr⟩ : ∃ r, cho c s t = r := ⟨_, rfl⟩
  rw [hr] at HS1 HS2 HS3 HS4 ⊢
  clear hr
  obtain ⟨m, hm⟩ : ∃ m, mk c = m := ⟨_, rfl⟩
  rw [hm] at HS1 HS2 HS3 HS4 ⊢
  clear hm
  go_enter Tryd.func68, Tryd.ntmps68
  go_wp2_with fail
  have H0 := hid (show ((((w.alloc (sb m)).alloc (usO s)).alloc (usO t)).alloc (usO us00)).heap[w.heap.size]? = some (sb m) from (by simp only [hp_get, World.size_alloc]; repeat (first | rw [if_pos trivial] | rw [if_pos rfl] | rw [if_neg (by omega)])))
  have H1 := hid (show ((((w.alloc (sb m)).alloc (usO s)).alloc (usO t)).alloc (usO us00)).heap[w.heap.size + 1]? = some (usO s) from (by simp only [hp_get, World.size_alloc]; repeat (first | rw [if_pos trivial] | rw [if_pos rfl] | rw [if_neg (by omega)])))
  have H2 := hid (show ((((w.alloc (sb m)).alloc (usO s)).alloc (usO t)).alloc (usO us00)).heap[w.heap.size + 1 + 1]? = some (usO t) from (by simp only [hp_get, World.size_alloc]; repeat (first | rw [if_pos trivial] | rw [if_pos rfl] | rw [if_neg (by omega)])))
  have H3 := hid (show ((((w.alloc (sb m)).alloc (usO s)).alloc (usO t)).alloc (usO us00)).heap[w.heap.size + 1 + 1 + 1]? = some (usO us00) from (by simp only [hp_get, World.size_alloc]; repeat (first | rw [if_pos trivial] | rw [if_pos rfl] | rw [if_neg (by omega)])))
  have HB := hid (show Below w.heap.size w ((((w.alloc (sb m)).alloc (usO s)).alloc (usO t)).alloc (usO us00)) from (by repeat (first | exact Below.refl _ _ | refine blw_alloc ?_ | refine blw_drew ?_ | assumption)))
  rw [show (Obj.cells #[.int .u32 0, .int .u32 0, .int .u32 0, .int .u32 0] 82) = usO us00 from rfl]
  generalize (((w.alloc (sb m)).alloc (usO s)).alloc (usO t)).alloc (usO us00) = w1 at *
  have HW := hid (show w.heap.size + 1 + 1 + 1 ≤ w1.heap.size from Nat.le_of_lt (lt_of_heap H3.out))
  have KB := hid (show ∀ w' : World, Below (w.heap.size + 1 + 1 + 1) w1 w' → w'.cell? ⟨w.heap.size, 0, none⟩ = some (.int .u32 (m : Int)) ∧ (w'.cell? ⟨w.heap.size + 1, 0, none⟩ = some (.int .u32 s.pt) ∧ w'.cell? ⟨w.heap.size + 1, 1, none⟩ = some (.int .u32 s.mo) ∧ w'.cell? ⟨w.heap.size + 1, 2, none⟩ = some (.int .u32 s.lo) ∧ w'.cell? ⟨w.heap.size + 1, 3, none⟩ = some (.int .u32 s.hi)) ∧ (w'.cell? ⟨w.heap.size + 1 + 1, 0, none⟩ = some (.int .u32 t.pt) ∧ w'.cell? ⟨w.heap.size + 1 + 1, 1, none⟩ = some (.int .u32 t.mo) ∧ w'.cell? ⟨w.heap.size + 1 + 1, 2, none⟩ = some (.int .u32 t.lo) ∧ w'.cell? ⟨w.heap.size + 1 + 1, 3, none⟩ = some (.int .u32 t.hi)) from fun w' hb =>
    ⟨cell_s1 ((hb.block _ (by omega)).trans H0.out), cell_us ((hb.block _ (by omega)).trans H1.out), cell_us ((hb.block _ (by omega)).trans H2.out)⟩)
  refine wp_region_held_drew (S := (fun w' => w'.cell? ⟨w.heap.size, 0, none⟩ = some (.int .u32 (m : Int)) ∧ (w'.cell? ⟨w.heap.size + 1, 0, none⟩ = some (.int .u32 s.pt) ∧ w'.cell? ⟨w.heap.size + 1, 1, none⟩ = some (.int .u32 s.mo) ∧ w'.cell? ⟨w.heap.size + 1, 2, none⟩ = some (.int .u32 s.lo) ∧ w'.cell? ⟨w.heap.size + 1, 3, none⟩ = some (.int .u32 s.hi)) ∧ (w'.cell? ⟨w.heap.size + 1 + 1, 0, none⟩ = some (.int .u32 t.pt) ∧ w'.cell? ⟨w.heap.size + 1 + 1, 1, none⟩ = some (.int .u32 t.mo) ∧ w'.cell? ⟨w.heap.size + 1 + 1, 2, none⟩ = some (.int .u32 t.lo) ∧ w'.cell? ⟨w.heap.size + 1 + 1, 3, none⟩ = some (.int .u32 t.hi)))) (by kernel_rfl) (KB.out _ ((blw_drew (Below.refl _ _)).mono HW.out)) (fun hHeld => ?_)
  refine tk_at (i := 0) (d := some 7) (v := ?_) rfl rfl (by kernel_rfl) (by kernel_rfl) (by kernel_rfl) (fun _ _ _ h => h) (Or.inl ⟨by rfl, ?_⟩) (by assumption) ?_
  rotate_left
  · (intro w hSw; (try dsimp only at hSw); go_simp; try (with_reducible rfl))
  simp only [Act.put, List.setIfInBounds_toArray, List.set_cons_zero, List.set_cons_succ]
  refine tk_at (i := 1) (d := some 8) (v := ?_) rfl rfl (by kernel_rfl) (by kernel_rfl) (by kernel_rfl) (fun _ _ _ h => h) (Or.inl ⟨by rfl, ?_⟩) (by assumption) ?_
  rotate_left
  · (intro w hSw; (try dsimp only at hSw); go_simp; try (with_reducible rfl))
  simp only [Act.put, List.setIfInBounds_toArray, List.set_cons_zero, List.set_cons_succ]
  refine tk_at (i := 2) (d := some 9) (v := ?_) rfl rfl (by kernel_rfl) (by kernel_rfl) (by kernel_rfl) (fun _ _ _ h => h) (Or.inl ⟨by rfl, ?_⟩) (by assumption) ?_
  rotate_left
  · (intro w hSw; (try dsimp only at hSw); go_simp; try (with_reducible rfl))
  simp only [Act.put, List.setIfInBounds_toArray, List.set_cons_zero, List.set_cons_succ]
  refine tk_at (i := 3) (d := some 10) (v := ?_) rfl rfl (by kernel_rfl) (by kernel_rfl) (by kernel_rfl) (fun _ _ _ h => h) (Or.inl ⟨by rfl, ?_⟩) (by assumption) ?_
  rotate_left
  · (intro w hSw; (try dsimp only at hSw); go_simp; try (with_reducible rfl))
  simp only [Act.put, List.setIfInBounds_toArray, List.set_cons_zero, List.set_cons_succ]
  refine tk_at (i := 4) (d := some 11) (v := ?_) rfl rfl (by kernel_rfl) (by kernel_rfl) (by kernel_rfl) (fun _ _ _ h => h) (Or.inl ⟨by rfl, ?_⟩) (by assumption) ?_
  rotate_left
  · (intro w hSw; (try dsimp only at hSw); go_simp; try (with_reducible rfl))
  simp only [Act.put, List.setIfInBounds_toArray, List.set_cons_zero, List.set_cons_succ]
  refine tk_at (i := 6) (d := some 13) (v := ?_) rfl rfl (by kernel_rfl) (by kernel_rfl) (by kernel_rfl) (fun _ _ _ h => h) (Or.inl ⟨by rfl, ?_⟩) (by assumption) ?_
  rotate_left
  · (intro w hSw; (try dsimp only at hSw); go_simp; try (with_reducible rfl))
  simp only [Act.put, List.setIfInBounds_toArray, List.set_cons_zero, List.set_cons_succ]
  refine tk_at (i := 7) (d := some 14) (v := ?_) rfl rfl (by kernel_rfl) (by kernel_rfl) (by kernel_rfl) (fun _ _ _ h => h) (Or.inl ⟨by rfl, ?_⟩) (by assumption) ?_
  rotate_left
  · (intro w hSw; (try dsimp only at hSw); go_simp; try (with_reducible rfl))
  simp only [Act.put, List.setIfInBounds_toArray, List.set_cons_zero, List.set_cons_succ]
  refine tk_at (i := 8) (d := some 15) (v := ?_) rfl rfl (by kernel_rfl) (by kernel_rfl) (by kernel_rfl) (fun _ _ _ h => h) (Or.inl ⟨by rfl, ?_⟩) (by assumption) ?_
  rotate_left
  · (intro w hSw; (try dsimp only at hSw); go_simp; try (with_reducible rfl))
  simp only [Act.put, List.setIfInBounds_toArray, List.set_cons_zero, List.set_cons_succ]
  refine tk_at (i := 9) (d := some 16) (v := ?_) rfl rfl (by kernel_rfl) (by kernel_rfl) (by kernel_rfl) (fun _ _ _ h => h) (Or.inl ⟨by rfl, ?_⟩) (by assumption) ?_
  rotate_left
  · (intro w hSw; (try dsimp only at hSw); go_simp; try (with_reducible rfl))
  simp only [Act.put, List.setIfInBounds_toArray, List.set_cons_zero, List.set_cons_succ]
  refine tk_at (i := 10) (d := some 17) (v := ?_) rfl rfl (by kernel_rfl) (by kernel_rfl) (by kernel_rfl) (fun _ _ _ h => h) (Or.inl ⟨by rfl, ?_⟩) (by assumption) ?_
  rotate_left
  · (intro w hSw; (try dsimp only at hSw); go_simp; try (with_reducible rfl))
  simp only [Act.put, List.setIfInBounds_toArray, List.set_cons_zero, List.set_cons_succ]
  refine tk_at (i := 12) (d := some 19) (v := ?_) rfl rfl (by kernel_rfl) (by kernel_rfl) (by kernel_rfl) (fun _ _ _ h => h) (Or.inl ⟨by rfl, ?_⟩) (by assumption) ?_
  rotate_left
  · (intro w hSw; (try dsimp only at hSw); go_simp; try (with_reducible rfl))
  simp only [Act.put, List.setIfInBounds_toArray, List.set_cons_zero, List.set_cons_succ]
  refine tk_at (i := 13) (d := some 20) (v := ?_) rfl rfl (by kernel_rfl) (by kernel_rfl) (by kernel_rfl) (fun _ _ _ h => h) (Or.inl ⟨by rfl, ?_⟩) (by assumption) ?_
  rotate_left
  · (intro w hSw; (try dsimp only at hSw); go_simp; try (with_reducible rfl))
  simp only [Act.put, List.setIfInBounds_toArray, List.set_cons_zero, List.set_cons_succ]
  refine tk_at (i := 14) (d := some 21) (v := ?_) rfl rfl (by kernel_rfl) (by kernel_rfl) (by kernel_rfl) (fun _ _ _ h => h) (Or.inl ⟨by rfl, ?_⟩) (by assumption) ?_
  rotate_left
  · (intro w hSw; (try dsimp only at hSw); go_simp; try (with_reducible rfl))
  simp only [Act.put, List.setIfInBounds_toArray, List.set_cons_zero, List.set_cons_succ]
  refine tk_at (i := 15) (d := some 22) (v := ?_) rfl rfl (by kernel_rfl) (by kernel_rfl) (by kernel_rfl) (fun _ _ _ h => h) (Or.inl ⟨by rfl, ?_⟩) (by assumption) ?_
  rotate_left
  · (intro w hSw; (try dsimp only at hSw); go_simp; try (with_reducible rfl))
  simp only [Act.put, List.setIfInBounds_toArray, List.set_cons_zero, List.set_cons_succ]
  refine tk_at (i := 16) (d := some 23) (v := ?_) rfl rfl (by kernel_rfl) (by kernel_rfl) (by kernel_rfl) (fun _ _ _ h => h) (Or.inl ⟨by rfl, ?_⟩) (by assumption) ?_
  rotate_left
  · (intro w hSw; (try dsimp only at hSw); go_simp; try (with_reducible rfl))
  simp only [Act.put, List.setIfInBounds_toArray, List.set_cons_zero, List.set_cons_succ]
  refine tk_at (i := 18) (d := some 25) (v := ?_) rfl rfl (by kernel_rfl) (by kernel_rfl) (by kernel_rfl) (fun _ _ _ h => h) (Or.inl ⟨by rfl, ?_⟩) (by assumption) ?_
  rotate_left
  · (intro w hSw; (try dsimp only at hSw); go_simp; try (with_reducible rfl))
  simp only [Act.put, List.setIfInBounds_toArray, List.set_cons_zero, List.set_cons_succ]
  refine tk_at (i := 19) (d := some 26) (v := ?_) rfl rfl (by kernel_rfl) (by kernel_rfl) (by kernel_rfl) (fun _ _ _ h => h) (Or.inl ⟨by rfl, ?_⟩) (by assumption) ?_
  rotate_left
  · (intro w hSw; (try dsimp only at hSw); go_simp; try (with_reducible rfl))
  simp only [Act.put, List.setIfInBounds_toArray, List.set_cons_zero, List.set_cons_succ]
  refine tk_at (i := 20) (d := some 27) (v := ?_) rfl rfl (by kernel_rfl) (by kernel_rfl) (by kernel_rfl) (fun _ _ _ h => h) (Or.inl ⟨by rfl, ?_⟩) (by assumption) ?_
  rotate_left
  · (intro w hSw; (try dsimp only at hSw); go_simp; try (with_reducible rfl))
  simp only [Act.put, List.setIfInBounds_toArray, List.set_cons_zero, List.set_cons_succ]
  refine tk_at (i := 21) (d := some 28) (v := ?_) rfl rfl (by kernel_rfl) (by kernel_rfl) (by kernel_rfl) (fun _ _ _ h => h) (Or.inl ⟨by rfl, ?_⟩) (by assumption) ?_
  rotate_left
  · (intro w hSw; (try dsimp only at hSw); go_simp; try (with_reducible rfl))
  simp only [Act.put, List.setIfInBounds_toArray, List.set_cons_zero, List.set_cons_succ]
  refine tk_at (i := 22) (d := some 29) (v := ?_) rfl rfl (by kernel_rfl) (by kernel_rfl) (by kernel_rfl) (fun _ _ _ h => h) (Or.inl ⟨by rfl, ?_⟩) (by assumption) ?_
  rotate_left
  · (intro w hSw; (try dsimp only at hSw); go_simp; try (with_reducible rfl))
  simp only [Act.put, List.setIfInBounds_toArray, List.set_cons_zero, List.set_cons_succ]
  refine wpAnyH_ready (rs := [5]) (by kernel_rfl) (by simp) ?_
  refine AllReadyH.cons rfl (fun K hK => ?_) AllReadyH.nil
  go_simp
  refine (HS1.out _).mono ?_
  rintro e w2 ⟨rfl, hBd⟩
  have B2 := hid (belowCat (blw_drew (Below.refl _ _)) hBd)
  clear hBd
  go_wp2_with fail
  refine hK.out _ _ (KB.out _ (B2.out.mono HW.out)) (fun hHeld => ?_)
  clear hK K
  try simp only [Act.put, List.setIfInBounds_toArray, List.set_cons_zero, List.set_cons_succ]
  refine wpAnyH_ready (rs := [11]) (by kernel_rfl) (by simp) ?_
  refine AllReadyH.cons rfl (fun K hK => ?_) AllReadyH.nil
  go_simp
  refine (HS2.out _).mono ?_
  rintro e w3 ⟨rfl, hBd⟩
  have B3 := hid (belowCat B2.out hBd)
  clear hBd
  go_wp2_with fail
  refine hK.out _ _ (KB.out _ (B3.out.mono HW.out)) (fun hHeld => ?_)
  clear hK K
  try simp only [Act.put, List.setIfInBounds_toArray, List.set_cons_zero, List.set_cons_succ]
  refine wpAnyH_ready (rs := [17]) (by kernel_rfl) (by simp) ?_
  refine AllReadyH.cons rfl (fun K hK => ?_) AllReadyH.nil
  go_simp
  refine (HS3.out _).mono ?_
  rintro e w4 ⟨rfl, hBd⟩
  have B4 := hid (belowCat B3.out hBd)
  clear hBd
  go_wp2_with fail
  refine hK.out _ _ (KB.out _ (B4.out.mono HW.out)) (fun hHeld => ?_)
  clear hK K
  try simp only [Act.put, List.setIfInBounds_toArray, List.set_cons_zero, List.set_cons_succ]
  refine wpAnyH_ready (rs := [23]) (by kernel_rfl) (by simp) ?_
  refine AllReadyH.cons rfl (fun K hK => ?_) AllReadyH.nil
  go_simp
  refine (HS4.out _).mono ?_
  rintro e w5 ⟨rfl, hBd⟩
  have B5 := hid (belowCat B4.out hBd)
  clear hBd
  have HQ := hid ((B5.out.block _ (lt_of_heap H3.out)).trans H3.out)
  have hq := cell_us HQ.out
  have f0 := frozen_of_heap (i := 0) HQ.out
  have f1 := frozen_of_heap (i := 1) HQ.out
  have f2 := frozen_of_heap (i := 2) HQ.out
  have f3 := frozen_of_heap (i := 3) HQ.out
  obtain ⟨q0, q1, q2, q3⟩ := hq
  go_wp2_with fail
  refine hK.out _ _ (KB.out _ (B5.out.mono HW.out)) (fun hHeld => ?_)
  clear hK K
  try simp only [Act.put, List.setIfInBounds_toArray, List.set_cons_zero, List.set_cons_succ]
  refine wpAnyH_ready (rs := [24]) (by kernel_rfl) (by simp) ?_
  refine AllReadyH.cons rfl (fun K hK => ?_) AllReadyH.nil
  go_simp
  go_wp2_with fail
  refine hK.out _ _ (KB.out _ (B5.out.mono HW.out)) (fun hHeld => ?_)
  clear hK K
  try simp only [Act.put, List.setIfInBounds_toArray, List.set_cons_zero, List.set_cons_succ]
  refine wpAnyH_ready (rs := [25]) (by kernel_rfl) (by simp) ?_
  refine AllReadyH.cons rfl (fun K hK => ?_) AllReadyH.nil
  go_simp
  go_wp2_with fail
  refine hK.out _ _ (KB.out _ (((((B5.out.mono HW.out).setCell (Nat.le_refl _) _).setCell (Nat.le_refl _) _).setCell (Nat.le_refl _) _).setCell (Nat.le_refl _) _)) (fun hHeld => ?_)
  clear hK K
  try simp only [Act.put, List.setIfInBounds_toArray, List.set_cons_zero, List.set_cons_succ]
  refine wpAnyH_done (by kernel_rfl) ?_ _
  clear hHeld
  go_wp2
  have hb9 := vset4 (a := .int .u32 r.pt) (b := .int .u32 r.mo) (c := .int .u32 r.lo) (d := .int .u32 r.hi) HQ.out
  obtain ⟨d0, d1, d2, d3⟩ := cell_us (s := r) hb9
  exact bodyPost_ret (v := usV r) (by simp only [results, Tryd.results68]; simp [go_sem, d0, d1, d2, d3]) rfl ⟨rfl, ((((belowCat HB.out B5.out).setCell (by show w.heap.size ≤ w.heap.size + 1 + 1 + 1; omega) _).setCell (by show w.heap.size ≤ w.heap.size + 1 + 1 + 1; omega) _).setCell (by show w.heap.size ≤ w.heap.size + 1 + 1 + 1; omega) _).setCell (by show w.heap.size ≤ w.heap.size + 1 + 1 + 1; omega) _⟩
end Go.Proofs.YtjcnkigadlmpgaaDoor
