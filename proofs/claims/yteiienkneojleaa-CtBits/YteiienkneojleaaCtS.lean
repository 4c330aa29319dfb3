/- Contracts of the document's own words of bits (Both, Move, Rot, Sel, All of package sabretacheref01), over this seat's translation. No conditions but the numbers' bounds. -/
import Derived.Test.YteiienkneojleaaCtR
namespace Go.Proofs.Yteiienkneojleaa
open Go.RowKit

theorem boolA_get (f : Nat → Bool) (k i : Nat) : (boolA f k)[i]? = if i < 32 then some (.bool (decide (i < k) && f i)) else none := by
  simp only [boolA, boolL, List.getElem?_toArray, List.getElem?_map]
  by_cases h : i < 32
  · simp [h]
  · simp [h]
theorem boolA_set (f : Nat → Bool) (k : Nat) (hk : k < 32) : (boolA f k).setIfInBounds k (.bool (f k)) = boolA f (k + 1) := by
  apply Array.ext_getElem?
  intro i
  rw [Array.getElem?_setIfInBounds, boolA_get, boolA_get, boolA_size]
  by_cases e : k = i
  · subst e; simp [hk]
  · have : decide (i < k) = decide (i < k + 1) := by rw [decide_eq_decide]; omega
    simp [e, this]
theorem boolA_zero (f : Nat → Bool) : boolA f 0 = Array.replicate 32 (.bool false) := by
  apply Array.ext
  · simp [boolA_size]
  · intro i h1 h2; simp [boolA, boolL]

set_option maxHeartbeats 400000 in
theorem move_any (a : Nat) (n : Int) (w : World) (h1 : -32 ≤ n) (h2 : n ≤ 32) :
    Calls Try.prog 22 #[u32 a, .int .i64 n] w fun e w' => e = .returned (u32 (wordOf (fun i : Nat => bitI a ((i : Int) + n)) 32 : Int)) ∧ Below w.heap.size w w' := by
  obtain ⟨f, hf⟩ : ∃ f : Nat → Bool, f = fun i : Nat => bitI a ((i : Int) + n) := ⟨_, rfl⟩
  have HF : Hid (∀ i : Nat, bitI a ((i : Int) + n) = f i) := by unfold Hid; intro i; rw [hf]
  rw [← hf]
  clear hf
  go_enter Try.func22, Try.ntmps22
  go_wp2
  go_loopw [6] (fun i wr => ∃ k : Nat, k ≤ 32 ∧ i = .int .i64 k ∧ wr = w.alloc (.cells (boolA f k) 61)) (fun i _ => 32 - (intOf i).toNat)
  case atStart => exact ⟨0, Nat.zero_le _, rfl, by rw [boolA_zero]; rfl⟩
  case round =>
    obtain ⟨k, hk, rfl, rfl⟩ := hrel
    by_cases hlt : k < 32
    · have hs := boolA_size f k
      have HS : Hid (_) := boolA_set f k hlt
      go_wp2_with (go_at_call 42; refine (bit_any a ((k : Int) + n) _).mono ?_; rintro e w' ⟨rfl, rfl⟩)
      go_roundw
      case rel => exact ⟨k + 1, by omega, by go_num, by rw [← HS.out, ← HF.out]⟩
      case measure => simp [intOf]; omega
    · have e : k = 32 := by omega
      subst e
      have hld : (w.alloc (.cells (boolA f 32) 61)).heap[w.heap.size]? = some (.cells (boolA f 32) 61) := by show (w.heap.push _)[w.heap.size]? = _; simp
      go_wp2_with (first | (go_at_call 43; refine (word_any f _).mono ?_; rintro e w' ⟨rfl, rfl⟩) | (refine wpList_load_row rfl 61 _ rfl w.heap.size rfl 61 _ (0, 0) _ hld Try.underlying61 rfl (by rw [boolA_size]; kernel_rfl) ?_))
      go_ret
      exact ⟨rfl, (by repeat (first | exact Below.refl _ _ | refine blw_alloc ?_ | refine blw_drew ?_ | assumption))⟩

set_option maxHeartbeats 400000 in
theorem bothand_any (a b : Nat) (w : World) :
    Calls Try.prog 13 #[u32 a, u32 b, .int .i64 0] w fun e w' => e = .returned (u32 (wordOf (fun i : Nat => bitI a (i : Int) && bitI b (i : Int)) 32 : Int)) ∧ Below w.heap.size w w' := by
  obtain ⟨f, hf⟩ : ∃ f : Nat → Bool, f = fun i : Nat => bitI a (i : Int) && bitI b (i : Int) := ⟨_, rfl⟩
  have HF : Hid (∀ i : Nat, (bitI a (i : Int) && bitI b (i : Int)) = f i) := by unfold Hid; intro i; rw [hf]
  rw [← hf]
  clear hf
  go_enter Try.func13, Try.ntmps13
  go_wp2
  go_loopw [8] (fun i wr => ∃ k : Nat, k ≤ 32 ∧ i = .int .i64 k ∧ wr = w.alloc (.cells (boolA f k) 61)) (fun i _ => 32 - (intOf i).toNat)
  case atStart => exact ⟨0, Nat.zero_le _, rfl, by rw [boolA_zero]; rfl⟩
  case round =>
    obtain ⟨k, hk, rfl, rfl⟩ := hrel
    by_cases hlt : k < 32
    · have hs := boolA_size f k
      have HS : Hid (_) := boolA_set f k hlt
      have HX := HF.out k
      clear HF
      obtain ⟨x, hx⟩ : ∃ x, x = bitI a (k : Int) := ⟨_, rfl⟩
      obtain ⟨y, hy⟩ : ∃ y, y = bitI b (k : Int) := ⟨_, rfl⟩
      have HX2 : Hid (_) := hx
      have HY2 : Hid (_) := hy
      rw [← hx, ← hy] at HX
      have HX3 : Hid (_) := HX
      clear HX hx hy
      go_wp2_with fail
      refine (bit_any a (k : Int) _).mono ?_
      rintro e w1 ⟨rfl, rfl⟩
      rw [← HX2.out]
      go_wp2_with fail
      refine (bit_any b (k : Int) _).mono ?_
      rintro e w1 ⟨rfl, rfl⟩
      rw [← HY2.out]
      cases x
      all_goals cases y
      all_goals
        go_wp2
        go_roundw
        case rel => exact ⟨k + 1, by omega, by go_num, by rw [← HS.out, ← HX3.out]; rfl⟩
        case measure => simp [intOf]; omega
    · have e : k = 32 := by omega
      subst e
      have hld : (w.alloc (.cells (boolA f 32) 61)).heap[w.heap.size]? = some (.cells (boolA f 32) 61) := by show (w.heap.push _)[w.heap.size]? = _; simp
      go_wp2_with (first | (go_at_call 43; refine (word_any f _).mono ?_; rintro e w' ⟨rfl, rfl⟩) | (refine wpList_load_row rfl 61 _ rfl w.heap.size rfl 61 _ (0, 0) _ hld Try.underlying61 rfl (by rw [boolA_size]; kernel_rfl) ?_))
      go_ret
      exact ⟨rfl, (by repeat (first | exact Below.refl _ _ | refine blw_alloc ?_ | refine blw_drew ?_ | assumption))⟩

set_option maxHeartbeats 400000 in
theorem bothor_any (a b : Nat) (w : World) :
    Calls Try.prog 13 #[u32 a, u32 b, .int .i64 1] w fun e w' => e = .returned (u32 (wordOf (fun i : Nat => bitI a (i : Int) || bitI b (i : Int)) 32 : Int)) ∧ Below w.heap.size w w' := by
  obtain ⟨f, hf⟩ : ∃ f : Nat → Bool, f = fun i : Nat => bitI a (i : Int) || bitI b (i : Int) := ⟨_, rfl⟩
  have HF : Hid (∀ i : Nat, (bitI a (i : Int) || bitI b (i : Int)) = f i) := by unfold Hid; intro i; rw [hf]
  rw [← hf]
  clear hf
  go_enter Try.func13, Try.ntmps13
  go_wp2
  go_loopw [8] (fun i wr => ∃ k : Nat, k ≤ 32 ∧ i = .int .i64 k ∧ wr = w.alloc (.cells (boolA f k) 61)) (fun i _ => 32 - (intOf i).toNat)
  case atStart => exact ⟨0, Nat.zero_le _, rfl, by rw [boolA_zero]; rfl⟩
  case round =>
    obtain ⟨k, hk, rfl, rfl⟩ := hrel
    by_cases hlt : k < 32
    · have hs := boolA_size f k
      have HS : Hid (_) := boolA_set f k hlt
      have HX := HF.out k
      clear HF
      obtain ⟨x, hx⟩ : ∃ x, x = bitI a (k : Int) := ⟨_, rfl⟩
      obtain ⟨y, hy⟩ : ∃ y, y = bitI b (k : Int) := ⟨_, rfl⟩
      have HX2 : Hid (_) := hx
      have HY2 : Hid (_) := hy
      rw [← hx, ← hy] at HX
      have HX3 : Hid (_) := HX
      clear HX hx hy
      go_wp2_with fail
      refine (bit_any a (k : Int) _).mono ?_
      rintro e w1 ⟨rfl, rfl⟩
      rw [← HX2.out]
      go_wp2_with fail
      refine (bit_any b (k : Int) _).mono ?_
      rintro e w1 ⟨rfl, rfl⟩
      rw [← HY2.out]
      cases x
      all_goals cases y
      all_goals
        go_wp2
        go_roundw
        case rel => exact ⟨k + 1, by omega, by go_num, by rw [← HS.out, ← HX3.out]; rfl⟩
        case measure => simp [intOf]; omega
    · have e : k = 32 := by omega
      subst e
      have hld : (w.alloc (.cells (boolA f 32) 61)).heap[w.heap.size]? = some (.cells (boolA f 32) 61) := by show (w.heap.push _)[w.heap.size]? = _; simp
      go_wp2_with (first | (go_at_call 43; refine (word_any f _).mono ?_; rintro e w' ⟨rfl, rfl⟩) | (refine wpList_load_row rfl 61 _ rfl w.heap.size rfl 61 _ (0, 0) _ hld Try.underlying61 rfl (by rw [boolA_size]; kernel_rfl) ?_))
      go_ret
      exact ⟨rfl, (by repeat (first | exact Below.refl _ _ | refine blw_alloc ?_ | refine blw_drew ?_ | assumption))⟩

set_option maxHeartbeats 400000 in
theorem bothxor_any (a b : Nat) (w : World) :
    Calls Try.prog 13 #[u32 a, u32 b, .int .i64 2] w fun e w' => e = .returned (u32 (wordOf (fun i : Nat => bitI a (i : Int) != bitI b (i : Int)) 32 : Int)) ∧ Below w.heap.size w w' := by
  obtain ⟨f, hf⟩ : ∃ f : Nat → Bool, f = fun i : Nat => bitI a (i : Int) != bitI b (i : Int) := ⟨_, rfl⟩
  have HF : Hid (∀ i : Nat, (bitI a (i : Int) != bitI b (i : Int)) = f i) := by unfold Hid; intro i; rw [hf]
  rw [← hf]
  clear hf
  go_enter Try.func13, Try.ntmps13
  go_wp2
  go_loopw [8] (fun i wr => ∃ k : Nat, k ≤ 32 ∧ i = .int .i64 k ∧ wr = w.alloc (.cells (boolA f k) 61)) (fun i _ => 32 - (intOf i).toNat)
  case atStart => exact ⟨0, Nat.zero_le _, rfl, by rw [boolA_zero]; rfl⟩
  case round =>
    obtain ⟨k, hk, rfl, rfl⟩ := hrel
    by_cases hlt : k < 32
    · have hs := boolA_size f k
      have HS : Hid (_) := boolA_set f k hlt
      have HX := HF.out k
      clear HF
      obtain ⟨x, hx⟩ : ∃ x, x = bitI a (k : Int) := ⟨_, rfl⟩
      obtain ⟨y, hy⟩ : ∃ y, y = bitI b (k : Int) := ⟨_, rfl⟩
      have HX2 : Hid (_) := hx
      have HY2 : Hid (_) := hy
      rw [← hx, ← hy] at HX
      have HX3 : Hid (_) := HX
      clear HX hx hy
      go_wp2_with fail
      refine (bit_any a (k : Int) _).mono ?_
      rintro e w1 ⟨rfl, rfl⟩
      rw [← HX2.out]
      go_wp2_with fail
      refine (bit_any b (k : Int) _).mono ?_
      rintro e w1 ⟨rfl, rfl⟩
      rw [← HY2.out]
      cases x
      all_goals cases y
      all_goals
        go_wp2
        go_roundw
        case rel => exact ⟨k + 1, by omega, by go_num, by rw [← HS.out, ← HX3.out]; rfl⟩
        case measure => simp [intOf]; omega
    · have e : k = 32 := by omega
      subst e
      have hld : (w.alloc (.cells (boolA f 32) 61)).heap[w.heap.size]? = some (.cells (boolA f 32) 61) := by show (w.heap.push _)[w.heap.size]? = _; simp
      go_wp2_with (first | (go_at_call 43; refine (word_any f _).mono ?_; rintro e w' ⟨rfl, rfl⟩) | (refine wpList_load_row rfl 61 _ rfl w.heap.size rfl 61 _ (0, 0) _ hld Try.underlying61 rfl (by rw [boolA_size]; kernel_rfl) ?_))
      go_ret
      exact ⟨rfl, (by repeat (first | exact Below.refl _ _ | refine blw_alloc ?_ | refine blw_drew ?_ | assumption))⟩

theorem set_twice (A : Array Value) (k : Nat) (u v : Value) : (A.setIfInBounds k u).setIfInBounds k v = A.setIfInBounds k v := by
  apply Array.ext_getElem?
  intro i
  simp only [Array.getElem?_setIfInBounds, Array.size_setIfInBounds]
  split <;> rfl

set_option maxHeartbeats 400000 in
theorem selref_any (m a b : Nat) (w : World) :
    Calls Try.prog 30 #[u32 m, u32 a, u32 b] w fun e w' => e = .returned (u32 (wordOf (fun i : Nat => if bitI m (i : Int) then bitI a (i : Int) else bitI b (i : Int)) 32 : Int)) ∧ Below w.heap.size w w' := by
  obtain ⟨f, hf⟩ : ∃ f : Nat → Bool, f = fun i : Nat => if bitI m (i : Int) then bitI a (i : Int) else bitI b (i : Int) := ⟨_, rfl⟩
  have HF : Hid (∀ i : Nat, (if bitI m (i : Int) then bitI a (i : Int) else bitI b (i : Int)) = f i) := by unfold Hid; intro i; rw [hf]
  rw [← hf]
  clear hf
  go_enter Try.func30, Try.ntmps30
  go_wp2
  go_loopw [8] (fun i wr => ∃ k : Nat, k ≤ 32 ∧ i = .int .i64 k ∧ wr = w.alloc (.cells (boolA f k) 61)) (fun i _ => 32 - (intOf i).toNat)
  case atStart => exact ⟨0, Nat.zero_le _, rfl, by rw [boolA_zero]; rfl⟩
  case round =>
    obtain ⟨k, hk, rfl, rfl⟩ := hrel
    by_cases hlt : k < 32
    · have hs := boolA_size f k
      have HS : Hid (_) := boolA_set f k hlt
      have HX := HF.out k
      clear HF
      obtain ⟨x, hx⟩ : ∃ x, x = bitI a (k : Int) := ⟨_, rfl⟩
      obtain ⟨y, hy⟩ : ∃ y, y = bitI b (k : Int) := ⟨_, rfl⟩
      obtain ⟨z, hz⟩ : ∃ z, z = bitI m (k : Int) := ⟨_, rfl⟩
      have HX2 : Hid (_) := hx
      have HY2 : Hid (_) := hy
      have HZ2 : Hid (_) := hz
      rw [← hx, ← hy, ← hz] at HX
      have HX3 : Hid (_) := HX
      clear HX hx hy hz
      go_wp2_with fail
      refine (bit_any b (k : Int) _).mono ?_
      rintro e w1 ⟨rfl, rfl⟩
      rw [← HY2.out]
      go_wp2_with fail
      refine (bit_any m (k : Int) _).mono ?_
      rintro e w1 ⟨rfl, rfl⟩
      rw [← HZ2.out]
      cases z
      · go_wp2
        go_roundw
        case rel => exact ⟨k + 1, by omega, by go_num, by rw [← HS.out, ← HX3.out]; rfl⟩
        case measure => simp [intOf]; omega
      · go_wp2_with fail
        refine (bit_any a (k : Int) _).mono ?_
        rintro e w1 ⟨rfl, rfl⟩
        rw [← HX2.out]
        go_wp2
        go_roundw
        case rel => exact ⟨k + 1, by omega, by go_num, by rw [← HS.out, ← HX3.out]; first | (rw [set_twice]; rfl) | rfl⟩
        case measure => simp [intOf]; omega
    · have e : k = 32 := by omega
      subst e
      have hld : (w.alloc (.cells (boolA f 32) 61)).heap[w.heap.size]? = some (.cells (boolA f 32) 61) := by show (w.heap.push _)[w.heap.size]? = _; simp
      go_wp2_with (first | (go_at_call 43; refine (word_any f _).mono ?_; rintro e w' ⟨rfl, rfl⟩) | (refine wpList_load_row rfl 61 _ rfl w.heap.size rfl 61 _ (0, 0) _ hld Try.underlying61 rfl (by rw [boolA_size]; kernel_rfl) ?_))
      go_ret
      exact ⟨rfl, (by repeat (first | exact Below.refl _ _ | refine blw_alloc ?_ | refine blw_drew ?_ | assumption))⟩

set_option maxHeartbeats 400000 in
theorem all_any (yes : Bool) (w : World) :
    Calls Try.prog 17 #[.bool yes] w fun e w' => e = .returned (u32 (mk yes : Int)) ∧ w' = w := by
  cases yes
  all_goals
    go_enter Try.func17, Try.ntmps17
    go_wp2
    go_ret
    exact ⟨rfl, rfl⟩

theorem tmod_cases (n : Int) (r : Nat) (hn : n % 32 = (r : Int)) : (n.tmod 32 = (r : Int) ∧ 0 ≤ n.tmod 32) ∨ (n.tmod 32 = (r : Int) - 32 ∧ n.tmod 32 < 0) := by
  rw [Int.tmod_eq_emod]
  split
  · left; omega
  · right; simp; omega

def rotW (a r : Nat) : Nat := wordOf (fun i : Nat => bitI (wordOf (fun i : Nat => bitI a ((i : Int) + (r : Int))) 32) (i : Int) || bitI (wordOf (fun i : Nat => bitI a ((i : Int) + ((r : Int) - 32))) 32) (i : Int)) 32
set_option maxHeartbeats 400000 in
theorem rotref_any (a r : Nat) (n : Int) (w : World) (hn : n % 32 = (r : Int)) :
    Calls Try.prog 25 #[u32 a, .int .i64 n] w fun e w' => e = .returned (u32 (rotW a r : Int)) ∧ Below w.heap.size w w' := by
  have hr : (r : Int) < 32 := by omega
  rcases tmod_cases n r hn with ⟨e1, e2⟩ | ⟨e1, e2⟩
  all_goals
    rw [e1] at e2
    clear hn
    go_enter Try.func25, Try.ntmps25
    go_wp2_with fail
    refine (move_any a (r : Int) _ (by omega) (by omega)).mono ?_
    rintro e w1 ⟨rfl, hb1⟩
    go_wp2_with fail
    refine (move_any a ((r : Int) - 32) _ (by omega) (by omega)).mono ?_
    rintro e w2 ⟨rfl, hb2⟩
    go_wp2_with fail
    refine (bothor_any _ _ _).mono ?_
    rintro e w3 ⟨rfl, hb3⟩
    go_wp2
    go_ret
    exact ⟨rfl, (hb1.trans (hb2.mono hb1.size)).trans (hb3.mono (Nat.le_trans hb1.size hb2.size))⟩
end Go.Proofs.Yteiienkneojleaa
