/- The contract of ct.Blank, over this seat's translation. Conditions: at most a thousand million words. -/
import Derived.Test.YtjcnkigadlmpgaaDoorLo
namespace Go.Proofs.YtjcnkigadlmpgaaDoor
open Go.RowKit

/-- all words or'ed -/
def orAll : List Nat → Nat
  | [] => 0
  | x :: l => orAll l ||| x
theorem orAll_lt (l : List Nat) (h : ∀ x ∈ l, x < 4294967296) : orAll l < 4294967296 := by
  induction l with
  | nil => exact (by decide : (0 : Nat) < 4294967296)
  | cons x l ih => exact or32 (ih fun y hy => h y (List.mem_cons_of_mem _ hy)) (h x (List.mem_cons_self ..))
theorem or_zero (a b : Nat) : (a ||| b) = 0 ↔ a = 0 ∧ b = 0 := by
  constructor
  · intro h
    have ha : a ≤ a ||| b := Nat.left_le_or
    have hb : b ≤ a ||| b := Nat.right_le_or
    omega
  · rintro ⟨rfl, rfl⟩; rfl
theorem orAll_zero (l : List Nat) : (orAll l == 0) = l.all (· == 0) := by
  induction l with
  | nil => rfl
  | cons x l ih => rw [Bool.eq_iff_iff] at *; simp only [orAll, beq_iff_eq, List.all_cons, Bool.and_eq_true, or_zero] at *; rw [ih]; exact And.comm
def orK (l : List Nat) (k : Nat) : Nat := orAll (l.take k).reverse
theorem orK_succ (l : List Nat) (k : Nat) (h : k < l.length) : orK l (k + 1) = orK l k ||| l[k] := by
  unfold orK; rw [List.take_succ_eq_append_getElem h, List.reverse_append]; rfl
theorem orK_all (l : List Nat) : (orK l l.length == 0) = l.all (· == 0) := by
  unfold orK; rw [List.take_of_length_le (Nat.le_refl _), orAll_zero]; simp
theorem orK_lt (l : List Nat) (k : Nat) (h : ∀ x ∈ l, x < 4294967296) : orK l k < 4294967296 :=
  orAll_lt _ fun x hx => h x (List.mem_of_mem_take (List.mem_reverse.1 hx))

abbrev secs (l : List Nat) : List Value := l.map fun (x : Nat) => .int .u32 (x : Int)

end Go.Proofs.YtjcnkigadlmpgaaDoor
