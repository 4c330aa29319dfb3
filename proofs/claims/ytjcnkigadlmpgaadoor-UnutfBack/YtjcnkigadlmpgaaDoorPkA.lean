/- Contracts of package pack's whole and asks, over this seat's translation. Conditions: the words' bounds; a bit's number below 32. -/
import Derived.Test.YtjcnkigadlmpgaaDoorPkP
import Derived.Test.YtjcnkigadlmpgaaDoorFs
import Derived.Test.YtjcnkigadlmpgaaDoorArD
import Derived.Deep.RegionHeld3
import Derived.Deep.LoopGhost
import Derived.BigQuiet
import Derived.Deep.QuietTactic
namespace Go.Proofs.YtjcnkigadlmpgaaDoor
open Go.RowKit

set_option maxHeartbeats 1600000 in
theorem whole_any (x : Nat) (w : World) (hx : x < 4294967296) :
    Calls Tryd.prog 74 #[sec x] w fun e w' => e = .returned (sec (mk (x % 2 == 1) : Nat)) ∧ Below w.heap.size w w' := by
  have HW := hid (whole_w x hx)
  go_enter Tryd.func74, Tryd.ntmps74
  go_wp2_with fail
  go_region_with (first | (go_at_call 22; refine (of_any _ _).mono ?_; rintro e w' ⟨rfl, rfl⟩) | (go_at_call 31; refine (and_any x 1 _ hx (by decide)).mono ?_; rintro e w' ⟨rfl, rfl⟩) | (go_at_call 75; refine (sub_any 0 (andW x 1) _ (by decide) (andW_lt hx)).mono ?_; rintro e w' ⟨rfl, rfl⟩; rw [HW.out]))
  all_goals
    go_wp2
    exact bodyPost_ret (v := sec (mk (x % 2 == 1) : Nat)) (by simp [results, Tryd.results74, go_sem]) rfl ⟨rfl, (by repeat (first | exact Below.refl _ _ | refine blw_alloc ?_ | refine blw_drew ?_ | assumption))⟩

abbrev stV (h : Hn) (n s : Nat) : Value := .agg #[arPtr h, .int .i64 (n : Int), .int .i64 (s : Int)]
abbrev stO (h : Hn) (n s : Nat) : Obj := .cells #[arPtr h, .int .i64 (n : Int), .int .i64 (s : Int)] 96 (0, 0)
set_option maxHeartbeats 800000 in
theorem asks_any (h : Hn) (n s x : Nat) (w : World) (hs : s < 32) (hx : x < 4294967296) :
    Calls Tryd.prog 77 #[stV h n s, sec x] w fun e w' => e = .returned (sec (mk (x.testBit s) : Nat)) ∧ Below w.heap.size w w' := by
  have HW := hid (shr_odd x s hx hs)
  have HS := hid (fun w => shr_any x (s : Int) w hx)
  have hl := shr_lt x s hx
  rw [Int.toNat_natCast] at HS
  go_enter Tryd.func77, Tryd.ntmps77
  go_wp2_with fail
  refine (HS.out _).mono ?_
  rintro e w1 ⟨rfl, hw1⟩
  subst w1
  go_wp2_with fail
  refine (whole_any _ _ hl).mono ?_
  rw [HW.out]
  rintro e w1 ⟨rfl, hB⟩
  have hb := heap_alloc_at ((w.alloc (stO h n s)).alloc (sb x)) (.cells #[.int .u32 0] 32 (0, 0))
  simp only [World.size_alloc] at hb
  have hb1 : w1.heap[w.heap.size + 1 + 1]? = some (.cells #[.int .u32 0] 32 (0, 0)) := (hB.block (w.heap.size + 1 + 1) (by simp)).trans (by rw [heap_alloc_old _ _ _ (by simp), heap_alloc_old _ _ _ (by simp), heap_alloc_old _ _ _ (by simp)]; exact hb)
  have HB1 := hid hb1
  have HB := hid hB
  have c0 := cell_of_heap (i := 0) hb1 rfl
  have g0 := frozen_of_heap (i := 0) hb1
  clear hB hb hb1
  go_wp2
  have hb2 := heap_setCell_at _ _ 0 _ _ _ (.int .u32 (mk (x.testBit s) : Nat)) HB1.out
  have d0 := cell_of_heap (i := 0) hb2 rfl
  refine bodyPost_ret (v := sec (mk (x.testBit s) : Nat)) (by simp [results, Tryd.results77, go_sem, d0]) rfl ⟨rfl, ?_⟩
  refine Below.setCell (p := ⟨w.heap.size + 1 + 1, 0, none⟩) (Below.trans ?_ (HB.out.mono ?_)) ?_ _
  · exact (by repeat (first | exact Below.refl _ _ | refine blw_alloc ?_ | refine blw_drew ?_ | assumption))
  · simp; omega
  · simp; omega
end Go.Proofs.YtjcnkigadlmpgaaDoor
