/- The document's Has, End and Carry (layer 5), over this seat's translation. Conditions: at most a million words. -/
import Derived.Test.YtjdbofgjieljlaaScN
namespace Go.Proofs.Ytjdbofgjieljlaa
open Go.RowKit

set_option maxHeartbeats 400000 in
theorem has5_any (v : Nat) (w : World) : Calls Try.prog 76 #[u32 v] w fun e w' => e = .returned (.bool (v % 2 == 1)) ∧ w' = w := by
  go_enter Try.func76, Try.ntmps76
  go_wp2
  go_ret
  exact ⟨ret_bool (by rw [Bool.eq_iff_iff]; simp; omega), rfl⟩
def od (m : List Nat) (k : Nat) : Bool := m.getD k 0 % 2 == 1
def eA (m : List Nat) : Nat → Bool
  | 0 => false
  | k + 1 => eA m k || od m k
def eV (l m : List Nat) (b : Bool) : Nat → Nat
  | 0 => 0
  | k + 1 => if od m k && (b || !eA m k) then l.getD k 0 else eV l m b k
theorem od_at {m : List Nat} {k : Nat} (h : k < m.length) : (m[k] % 2 == 1) = od m k := by unfold od; simp [List.getD, h]

set_option maxHeartbeats 1600000 in
theorem end_any (ad ae : Option Addr) (c d : Nat) (l m : List Nat) (b : Bool) (w : World) (h1 : U32s w ad l) (h2 : U32s w ae m) (hm : m.length = l.length) (hn : l.length ≤ 1000000) :
    Calls Try.prog 42 #[.slice ad l.length c, .slice ae l.length d, .bool b] w fun e w' => e = .returned (.tuple #[u32 (eV l m b l.length : Nat), .bool (eA m l.length)]) ∧ w' = w := by
  have H1 := hid h1
  have H2 := hid h2
  have HM := hid hm
  clear h1 h2 hm
  go_enter Try.func42, Try.ntmps42
  go_wp2_with fail
  go_loopw [8, 9, 10] (fun v t ci wr => ∃ k : Nat, k ≤ l.length ∧ v = .int .u32 (eV l m b k : Nat) ∧ t = .bool (eA m k) ∧ ci = .int .i64 (k : Int) ∧ wr = w) (fun _ _ ci _ => l.length - (intOf ci).toNat)
  case atStart => exact ⟨0, Nat.zero_le _, rfl, rfl, rfl, rfl⟩
  case round =>
    obtain ⟨k, hk, rfl, rfl, rfl, rfl⟩ := hrel
    by_cases hlt : k < l.length
    · obtain ⟨x, rfl, hx⟩ := H1.out k hlt
      obtain ⟨y, rfl, hy⟩ := H2.out k (by rw [HM.out]; exact hlt)
      have hmk : k < m.length := by rw [HM.out]; exact hlt
      have HAS := hid (show eA m (k + 1) = (eA m k || od m k) from rfl)
      have HVS := hid (show eV l m b (k + 1) = if od m k && (b || !eA m k) then l[k] else eV l m b k by show (if od m k && (b || !eA m k) then l.getD k 0 else eV l m b k) = _; simp [List.getD, hlt])
      have HH := hid (fun w => has5_any m[k] w)
      rw [od_at hmk] at HH
      obtain ⟨o, ho⟩ : ∃ o, od m k = o := ⟨_, rfl⟩
      obtain ⟨t, ht⟩ : ∃ t, eA m k = t := ⟨_, rfl⟩
      rw [ho] at HAS HVS HH
      rw [ht] at HAS HVS ⊢
      obtain ⟨xv, hxv⟩ : ∃ xv, l[k] = xv := ⟨_, rfl⟩
      obtain ⟨yv, hyv⟩ : ∃ yv, m[k] = yv := ⟨_, rfl⟩
      rw [hxv] at hx HVS
      rw [hyv] at hy HH
      clear ho ht hxv hyv hmk
      go_wp2_with fail
      refine (HH.out _).mono ?_
      rintro e w1 ⟨rfl, hw1⟩
      subst w1
      cases o
      · cases t
        · go_wp2_with (go_at_call 76; refine (HH.out _).mono ?_; rintro e w1 ⟨rfl, hw1⟩; subst w1)
          go_roundw
          case rel => exact ⟨k + 1, by omega, by rw [HVS.out]; simp, by rw [HAS.out]; rfl, by go_num, trivial⟩
          case measure => simp [intOf]; omega
        · go_wp2_with (go_at_call 76; refine (HH.out _).mono ?_; rintro e w1 ⟨rfl, hw1⟩; subst w1)
          go_roundw
          case rel => exact ⟨k + 1, by omega, by rw [HVS.out]; simp, by rw [HAS.out]; rfl, by go_num, trivial⟩
          case measure => simp [intOf]; omega
      · cases t
        · cases b
          · go_wp2_with (go_at_call 76; refine (HH.out _).mono ?_; rintro e w1 ⟨rfl, hw1⟩; subst w1)
            go_roundw
            case rel => exact ⟨k + 1, by omega, by rw [HVS.out]; simp, by rw [HAS.out]; rfl, by go_num, trivial⟩
            case measure => simp [intOf]; omega
          · go_wp2_with (go_at_call 76; refine (HH.out _).mono ?_; rintro e w1 ⟨rfl, hw1⟩; subst w1)
            go_roundw
            case rel => exact ⟨k + 1, by omega, by rw [HVS.out]; simp, by rw [HAS.out]; rfl, by go_num, trivial⟩
            case measure => simp [intOf]; omega
        · cases b
          · go_wp2_with (go_at_call 76; refine (HH.out _).mono ?_; rintro e w1 ⟨rfl, hw1⟩; subst w1)
            go_roundw
            case rel => exact ⟨k + 1, by omega, by rw [HVS.out]; simp, by rw [HAS.out]; rfl, by go_num, trivial⟩
            case measure => simp [intOf]; omega
          · go_wp2_with (go_at_call 76; refine (HH.out _).mono ?_; rintro e w1 ⟨rfl, hw1⟩; subst w1)
            go_roundw
            case rel => exact ⟨k + 1, by omega, by rw [HVS.out]; simp, by rw [HAS.out]; rfl, by go_num, trivial⟩
            case measure => simp [intOf]; omega
    · have hke : k = l.length := by omega
      subst hke
      go_wp2
      exact bodyPost_ret (v := .tuple #[.int .u32 (eV l m b l.length : Nat), .bool (eA m l.length)]) (by simp [results, Try.results42, go_sem]) rfl ⟨rfl, rfl⟩
end Go.Proofs.Ytjdbofgjieljlaa
