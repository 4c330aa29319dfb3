/- Contracts of the document's own answers for words (package sabretacheref01), over this seat's translation. No conditions but the words' bounds. -/
import Derived.Test.YteiienkneojleaaCtA
namespace Go.Proofs.Yteiienkneojleaa
open Go.RowKit

set_option maxHeartbeats 400000 in
theorem pow_any (n : Nat) (w : World) (hn : n < 32) :
    Calls Try.prog 50 #[.int .i64 n] w fun e w' => e = .returned (u32 (p2 n : Int)) ∧ w' = w := by
  go_enter Try.func50, Try.ntmps50
  go_wp2
  go_loop [3, 4] (fun p i => ∃ k : Nat, k ≤ n ∧ i = .int .i64 k ∧ p = .int .u32 (p2 k : Int)) (fun _ i => n - (intOf i).toNat)
  case atStart => exact ⟨0, Nat.zero_le _, rfl, rfl⟩
  case round =>
    obtain ⟨k, hk, rfl, rfl⟩ := hrel
    by_cases hlt : k < n
    · have hp := p2_succ k
      have HP : Hid (((p2 k : Int) * 2) % 4294967296 = (p2 (k + 1) : Int)) := by
        have h2 := p2_le (k + 1) (by omega)
        unfold Hid; omega
      clear hp
      go_wp2
      go_round
      case rel => exact ⟨k + 1, by omega, by go_num, by rw [← HP.out]⟩
      case measure => simp [intOf]; omega
    · have e : k = n := by omega
      subst e
      go_wp2
      go_ret
      exact ⟨rfl, rfl⟩

theorem bit_div (v k : Nat) (hk : k < 32) : ((v : Int) / (p2 k : Int) % 2 == 1) = bitI v (k : Int) := by
  rw [bitI_nat v k hk, Nat.testBit_eq_decide_div_mod_eq]
  rw [Bool.eq_iff_iff]
  simp only [beq_iff_eq, decide_eq_true_eq, p2]
  have e : (v : Int) / ((2 ^ k : Nat) : Int) = ((v / 2 ^ k : Nat) : Int) := rfl
  rw [e]; omega

set_option maxHeartbeats 400000 in
theorem bit_any (v : Nat) (n : Int) (w : World) :
    Calls Try.prog 42 #[u32 v, .int .i64 n] w fun e w' => e = .returned (.bool (bitI v n)) ∧ w' = w := by
  by_cases h0 : 0 ≤ n
  · by_cases h1 : n < 32
    · obtain ⟨k, rfl⟩ := Int.eq_ofNat_of_zero_le h0
      have hp := p2_pos k
      go_enter Try.func42, Try.ntmps42
      go_wp2_with (go_at_call 50; refine (pow_any k _ (by omega)).mono ?_; rintro e w' ⟨rfl, rfl⟩)
      go_ret
      exact ⟨ret_bool (bit_div v k (by omega)), rfl⟩
    · have hf : bitI v n = false := by simp [bitI, h1]
      rw [hf]
      go_enter Try.func42, Try.ntmps42
      go_wp2
      go_ret
      exact ⟨rfl, rfl⟩
  · have hf : bitI v n = false := by simp [bitI, h0]
    rw [hf]
    go_enter Try.func42, Try.ntmps42
    go_wp2
    go_ret
    exact ⟨rfl, rfl⟩

/-- 32 bools, of which the first k are f's -/
def boolL (f : Nat → Bool) (k : Nat) : List Value := (List.range 32).map fun i => .bool (decide (i < k) && f i)
def boolA (f : Nat → Bool) (k : Nat) : Array Value := (boolL f k).toArray
theorem boolA_at (f : Nat → Bool) (i : Nat) (hi : i < 32) : (boolA f 32)[i]? = some (.bool (f i)) := by
  simp [boolA, boolL, hi]
theorem boolA_size (f : Nat → Bool) (k : Nat) : (boolA f k).size = 32 := by simp [boolA, boolL]

set_option maxHeartbeats 400000 in
theorem word_any (f : Nat → Bool) (w : World) :
    Calls Try.prog 43 #[.agg (boolA f 32)] w fun e w' => e = .returned (u32 (wordOf f 32 : Int)) ∧ w' = w.alloc (.cells (boolA f 32) 61) := by
  have hc : ∀ i : Nat, i < 32 → (w.alloc (.cells (boolA f 32) 61)).cell? ⟨w.heap.size, i, none⟩ = some (.bool (f i)) := fun i hi => by
    rw [World.cell?_alloc_at _ _ _ _ rfl]; exact boolA_at f i hi
  go_enter Try.func43, Try.ntmps43
  go_wp2
  go_loopw [3, 4] (fun v i wr => ∃ k : Nat, k ≤ 32 ∧ i = .int .i64 k ∧ v = .int .u32 (wordOf f k : Int) ∧ wr = w.alloc (.cells (boolA f 32) 61)) (fun _ i _ => 32 - (intOf i).toNat)
  case atStart => exact ⟨0, Nat.zero_le _, rfl, rfl, rfl⟩
  case round =>
    obtain ⟨k, hk, rfl, rfl, rfl⟩ := hrel
    by_cases hlt : k < 32
    · have hck := hc k hlt
      clear hc
      cases hf : f k
      · have HW : Hid (wordOf f (k + 1) = wordOf f k) := by unfold Hid; simp [wordOf, hf]
        rw [hf] at hck
        clear hf
        go_wp2_with (go_at_call 50; refine (pow_any k _ hlt).mono ?_; rintro e w' ⟨rfl, rfl⟩)
        go_roundw
        case rel => exact ⟨k + 1, by omega, by go_num, by rw [HW.out], by trivial⟩
        case measure => simp [intOf]; omega
      · have HW : Hid (((wordOf f k : Int) + (p2 k : Int)) % 4294967296 = (wordOf f (k + 1) : Int)) := by
          have h1 := wordOf_lt f (k + 1)
          have h2 : 2 ^ (k + 1) ≤ 2 ^ 32 := Nat.pow_le_pow_right (by decide) (by omega)
          have h3 : wordOf f (k + 1) = wordOf f k + p2 k := by simp [wordOf, hf]
          unfold Hid; omega
        rw [hf] at hck
        clear hf
        go_wp2_with (go_at_call 50; refine (pow_any k _ hlt).mono ?_; rintro e w' ⟨rfl, rfl⟩)
        go_roundw
        case rel => exact ⟨k + 1, by omega, by go_num, by rw [← HW.out], by trivial⟩
        case measure => simp [intOf]; omega
    · have e : k = 32 := by omega
      subst e
      clear hc
      go_wp2
      go_ret
      exact ⟨rfl, rfl⟩
end Go.Proofs.Yteiienkneojleaa
