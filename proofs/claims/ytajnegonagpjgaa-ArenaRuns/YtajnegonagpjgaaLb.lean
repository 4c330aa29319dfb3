/- The contract of ct.Blank, over this seat's translation. Conditions: at most a thousand million words. -/
import Derived.Test.YtajnegonagpjgaaLo
namespace Go.Proofs.Ytajnegonagpjgaa
open Go.RowKit

/-- all words or'ed -/
def orAll : List Nat → Nat
  | [] => 0
  | x :: l => orAll l ||| x
theorem orAll_lt (l : List Nat) (h : ∀ x ∈ l, x < 4294967296) : orAll l < 4294967296 := by
  induction l with
  | nil => exact (by decide : (0 : Nat) < 4294967296)
  | cons x l ih => exact or32 (ih fun y hy => h y (List.mem_cons_of_mem _ hy)) (h x (List.mem_cons_self ..))
theorem or_zero (a b : Nat) : (a ||| b) = 0 ↔ a = 0 ∧ b = 0 := by
  constructor
  · intro h
    have ha : a ≤ a ||| b := Nat.left_le_or
    have hb : b ≤ a ||| b := Nat.right_le_or
    omega
  · rintro ⟨rfl, rfl⟩; rfl
theorem orAll_zero (l : List Nat) : (orAll l == 0) = l.all (· == 0) := by
  induction l with
  | nil => rfl
  | cons x l ih => rw [Bool.eq_iff_iff] at *; simp only [orAll, beq_iff_eq, List.all_cons, Bool.and_eq_true, or_zero] at *; rw [ih]; exact And.comm
def orK (l : List Nat) (k : Nat) : Nat := orAll (l.take k).reverse
theorem orK_succ (l : List Nat) (k : Nat) (h : k < l.length) : orK l (k + 1) = orK l k ||| l[k] := by
  unfold orK; rw [List.take_succ_eq_append_getElem h, List.reverse_append]; rfl
theorem orK_all (l : List Nat) : (orK l l.length == 0) = l.all (· == 0) := by
  unfold orK; rw [List.take_of_length_le (Nat.le_refl _), orAll_zero]; simp
theorem orK_lt (l : List Nat) (k : Nat) (h : ∀ x ∈ l, x < 4294967296) : orK l k < 4294967296 :=
  orAll_lt _ fun x hx => h x (List.mem_of_mem_take (List.mem_reverse.1 hx))

abbrev secs (l : List Nat) : List Value := l.map fun (x : Nat) => .int .u32 (x : Int)

set_option maxHeartbeats 800000 in
theorem blank_any (v : Value) (l : List Nat) (w : World) (h : w.ownsRow 0 58 1 v l.length (secs l)) (hl : ∀ x ∈ l, x < 4294967296) (hn : l.length ≤ 1000000000) :
    Calls Try.prog 39 #[v] w fun e w' => e = .returned (.bool (l.all (· == 0))) ∧ Below w.heap.size w w' := by
  obtain ⟨ad, cap, rfl, hc⟩ : ∃ ad cap, v = .slice ad l.length cap ∧ (∀ k (hk : k < l.length), ∃ g, ad = some ⟨g, 0, none⟩ ∧ w.cell? ⟨g, k, none⟩ = some (.int .u32 (l[k] : Int))) := by
    rcases h.2 with ⟨rfl, h0⟩ | ⟨g', cap, cur, rfl, _⟩
    · exact ⟨none, 0, by rw [h0], fun k hk => by omega⟩
    · refine ⟨_, cap, rfl, fun k hk => ⟨g', rfl, ?_⟩⟩
      have := h.cells rfl k (.int .u32 (l[k] : Int)) (by simp [hk])
      by_cases h0 : k = 0
      · subst h0; exact this
      · simpa [Addr.add, h0] using this
  clear h
  go_enter Try.func39, Try.ntmps39
  go_wp2
  go_loopw [3, 8] (fun s i wr => ∃ k : Nat, k ≤ l.length ∧ i = .int .i64 k ∧ s = .int .u32 (orK l k : Int) ∧ Below w.heap.size w wr) (fun _ i _ => l.length - (intOf i).toNat)
  case atStart => exact ⟨0, Nat.zero_le _, rfl, rfl, Below.refl _ _⟩
  case round =>
    obtain ⟨k, hk, rfl, rfl, hB⟩ := hrel
    by_cases hlt : k < l.length
    · obtain ⟨g, rfl, hcell⟩ := hc k hlt
      replace hcell := cell_later hB hcell
      have HO : Hid (bits .or .u32 (orK l k : Int) (l[k] : Int) = (orK l (k + 1) : Int)) := by
        unfold Hid; rw [u32_or_nat _ _ (orK_lt _ _ hl) (hl _ (List.getElem_mem hlt)), orK_succ l k hlt]
      clear hc hl
      go_wp2
      go_roundw
      case rel => exact ⟨k + 1, by omega, by go_num, by rw [HO.out], chainB (by repeat (first | exact Below.refl _ _ | refine blw_alloc ?_ | refine blw_drew ?_ | assumption)) hB⟩
      case measure => simp [intOf]; omega
    · have e : k = l.length := by omega
      subst e
      clear hc hl
      go_wp2
      go_ret
      exact ⟨ret_bool (by rw [← orK_all]; rw [Bool.eq_iff_iff]; simp), hB⟩

end Go.Proofs.Ytajnegonagpjgaa
