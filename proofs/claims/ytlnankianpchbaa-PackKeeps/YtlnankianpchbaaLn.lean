/- Contracts of package ct's log, the rest: Load, Store, Take, Give, Blind, Released, over this seat's translation. Conditions: the log has at most a thousand million events. -/
import Derived.Test.YtlnankianpchbaaLm
namespace Go.Proofs.Ytlnankianpchbaa
open Go.RowKit

/-- a number brought to 0 up to 2^32 - 1 -/
def cnt (n : Int) : Int := if 4294967295 < (if n < 0 then 0 else n) then 4294967295 else (if n < 0 then 0 else n)
theorem cnt_bd (n : Int) : 0 ≤ cnt n ∧ cnt n ≤ 4294967295 := by unfold cnt; omega
theorem cnt_cases (n : Int) : (n < 0 ∧ cnt n = 0) ∨ (0 ≤ n ∧ n ≤ 4294967295 ∧ cnt n = n) ∨ (4294967295 < n ∧ cnt n = 4294967295) := by unfold cnt; omega

set_option maxHeartbeats 400000 in
theorem count_any (n : Int) (w : World) :
    Calls Try.prog 55 #[.int .i64 n] w fun e w' => e = .returned (u32 (cnt n)) ∧ w' = w := by
  rcases cnt_cases n with ⟨h1, h2⟩ | ⟨h1, h2, h3⟩ | ⟨h1, h2⟩
  · rw [h2]; clear h2
    go_enter Try.func55, Try.ntmps55
    go_wp2
    go_ret
    exact ⟨rfl, rfl⟩
  · rw [h3]; clear h3
    go_enter Try.func55, Try.ntmps55
    go_wp2
    go_ret
    exact ⟨ret_int (by first | rfl | (simp only [IntKind.wrap_u32']; omega)), rfl⟩
  · rw [h2]; clear h2
    go_enter Try.func55, Try.ntmps55
    go_wp2
    go_ret
    exact ⟨rfl, rfl⟩

set_option maxHeartbeats 400000 in
theorem load_any (g : Nat) (ob : Option Nat) (n : Nat) (xs : List Value) (at_ : Int) (w : World) (h : LogAt w g ob n xs) (hn : n ≤ 1000000000) :
    Calls Try.prog 75 #[.pointer (some ⟨g, 0, none⟩), .int .i64 at_] w fun e w' => e = .returned (.tuple #[]) ∧ Noted g ob n xs (ev 1 at_ 0) w w' := by
  have HL : Hid (LogAt w g ob n xs) := h
  clear h
  go_enter Try.func75, Try.ntmps75
  go_wp2_with fail
  refine (note_any g ob n xs 1 at_ 0 _ HL.out hn).mono ?_
  rintro e w1 ⟨rfl, hN⟩
  have HN : Hid (Noted g ob n xs (ev 1 at_ 0) w w1) := hN
  clear hN
  go_wp2
  go_end0
  exact ⟨rfl, HN.out⟩
set_option maxHeartbeats 400000 in
theorem store_any (g : Nat) (ob : Option Nat) (n : Nat) (xs : List Value) (at_ : Int) (w : World) (h : LogAt w g ob n xs) (hn : n ≤ 1000000000) :
    Calls Try.prog 56 #[.pointer (some ⟨g, 0, none⟩), .int .i64 at_] w fun e w' => e = .returned (.tuple #[]) ∧ Noted g ob n xs (ev 2 at_ 0) w w' := by
  have HL : Hid (LogAt w g ob n xs) := h
  clear h
  go_enter Try.func56, Try.ntmps56
  go_wp2_with fail
  refine (note_any g ob n xs 2 at_ 0 _ HL.out hn).mono ?_
  rintro e w1 ⟨rfl, hN⟩
  have HN : Hid (Noted g ob n xs (ev 2 at_ 0) w w1) := hN
  clear hN
  go_wp2
  go_end0
  exact ⟨rfl, HN.out⟩
set_option maxHeartbeats 400000 in
theorem take_any (g : Nat) (ob : Option Nat) (n : Nat) (xs : List Value) (at_ c : Int) (w : World) (h : LogAt w g ob n xs) (hn : n ≤ 1000000000) :
    Calls Try.prog 30 #[.pointer (some ⟨g, 0, none⟩), .int .i64 at_, .int .i64 c] w fun e w' => e = .returned (.tuple #[]) ∧ Noted g ob n xs (ev 4 at_ (cnt c)) w w' := by
  have HL : Hid (LogAt w g ob n xs) := h
  clear h
  go_enter Try.func30, Try.ntmps30
  go_wp2_with fail
  refine (count_any c _).mono ?_
  rintro e w1 ⟨rfl, rfl⟩
  go_wp2_with fail
  refine (note_any g ob n xs 4 at_ (cnt c) _ HL.out hn).mono ?_
  rintro e w1 ⟨rfl, hN⟩
  have HN : Hid (Noted g ob n xs (ev 4 at_ (cnt c)) _ w1) := hN
  clear hN
  go_wp2
  go_end0
  exact ⟨rfl, HN.out⟩
set_option maxHeartbeats 400000 in
theorem give_any (g : Nat) (ob : Option Nat) (n : Nat) (xs : List Value) (at_ c : Int) (w : World) (h : LogAt w g ob n xs) (hn : n ≤ 1000000000) :
    Calls Try.prog 74 #[.pointer (some ⟨g, 0, none⟩), .int .i64 at_, .int .i64 c] w fun e w' => e = .returned (.tuple #[]) ∧ Noted g ob n xs (ev 5 at_ (cnt c)) w w' := by
  have HL : Hid (LogAt w g ob n xs) := h
  clear h
  go_enter Try.func74, Try.ntmps74
  go_wp2_with fail
  refine (count_any c _).mono ?_
  rintro e w1 ⟨rfl, rfl⟩
  go_wp2_with fail
  refine (note_any g ob n xs 5 at_ (cnt c) _ HL.out hn).mono ?_
  rintro e w1 ⟨rfl, hN⟩
  have HN : Hid (Noted g ob n xs (ev 5 at_ (cnt c)) _ w1) := hN
  clear hN
  go_wp2
  go_end0
  exact ⟨rfl, HN.out⟩
end Go.Proofs.Ytlnankianpchbaa
