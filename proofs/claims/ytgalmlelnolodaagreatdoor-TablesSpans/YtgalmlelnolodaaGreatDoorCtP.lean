/- Plain facts on words of 32 bits: masks, bit by bit words, moves, turns. Nothing of the program is named here. No conditions but the words' bounds. -/
import Derived.WalkKit
import Derived.Laws.BitsAllLaws
namespace Go.Proofs.YtgalmlelnolodaaGreatDoor
open Go.RowKit

theorem ret_int {k : IntKind} {a b : Int} (h : a = b) : Ending.returned (.int k a) = .returned (.int k b) := by rw [h]
theorem ret_bool {a b : Bool} (h : a = b) : Ending.returned (.bool a) = .returned (.bool b) := by rw [h]

/-- a power of two, closed to the walk -/
def p2 (k : Nat) : Nat := 2 ^ k
theorem p2_pos (k : Nat) : 0 < p2 k := Nat.two_pow_pos k
theorem p2_succ (k : Nat) : p2 (k + 1) = p2 k * 2 := Nat.pow_succ ..
theorem p2_le (k : Nat) (h : k < 32) : p2 k ≤ 2147483648 := Nat.pow_le_pow_right (n := 2) (by decide) (show k ≤ 31 by omega)

/-- a mask -/
def mk (b : Bool) : Nat := if b then 4294967295 else 0
theorem mk_lt (b : Bool) : mk b < 4294967296 := by cases b <;> decide

/-- the word of bits -/
def wordOf (f : Nat → Bool) : Nat → Nat
  | 0 => 0
  | k + 1 => wordOf f k + (if f k then p2 k else 0)
theorem wordOf_lt (f : Nat → Bool) (k : Nat) : wordOf f k < 2 ^ k := by
  induction k with
  | zero => exact Nat.one_pos
  | succ k ih => simp only [wordOf, Nat.pow_succ, p2]; split <;> omega
theorem wordOf_bit (f : Nat → Bool) (k i : Nat) : (wordOf f k).testBit i = (decide (i < k) && f i) := by
  induction k with
  | zero => simp [wordOf]
  | succ k ih =>
    have hl := wordOf_lt f k
    simp only [wordOf, p2]
    by_cases hi : i < k
    · have e : (wordOf f k + (if f k then 2 ^ k else 0)).testBit i = (wordOf f k).testBit i := by
        split
        · rw [Nat.add_comm]; exact Nat.testBit_two_pow_add_gt hi _
        · rfl
      rw [e, ih]; simp [hi, Nat.lt_succ_of_lt hi]
    · by_cases he : i = k
      · subst he
        cases hf : f i
        · simp [ih]
        · simp only [if_true]; rw [Nat.add_comm, Nat.testBit_two_pow_add_eq, ih]; simp
      · have hlt : wordOf f k + (if f k then 2 ^ k else 0) < 2 ^ i := by
          have h1 : wordOf f (k + 1) < 2 ^ (k + 1) := wordOf_lt f (k + 1)
          simp only [wordOf, p2] at h1
          exact Nat.lt_of_lt_of_le h1 (Nat.pow_le_pow_right (by decide) (by omega))
        rw [Nat.testBit_lt_two_pow hlt]
        have : ¬ i < k + 1 := by omega
        simp [this]
theorem wordOf_eq (f : Nat → Bool) (x : Nat) (hx : x < 4294967296) (h : ∀ i, i < 32 → f i = x.testBit i) : wordOf f 32 = x := by
  apply Nat.eq_of_testBit_eq
  intro i
  rw [wordOf_bit]
  by_cases hi : i < 32
  · simp [hi, h i hi]
  · have : x < 2 ^ i := Nat.lt_of_lt_of_le hx (by have := Nat.pow_le_pow_right (n := 2) (by decide) (show 32 ≤ i by omega); simpa using this)
    simp [hi, Nat.testBit_lt_two_pow this]
theorem wordOf_congr (f g : Nat → Bool) (k : Nat) (h : ∀ i, i < k → f i = g i) : wordOf f k = wordOf g k := by
  induction k with
  | zero => rfl
  | succ k ih => simp only [wordOf]; rw [ih (fun i hi => h i (by omega)), h k (by omega)]

/-- a bit of a word, as the document has it -/
def bitI (v : Nat) (n : Int) : Bool := decide (0 ≤ n) && decide (n < 32) && v.testBit n.toNat
theorem bitI_nat (v k : Nat) (hk : k < 32) : bitI v (k : Int) = v.testBit k := by simp [bitI]; omega

/-- the top bit -/
theorem top01 (x : Nat) (h : x < 4294967296) : x / 2147483648 = 0 ∧ x < 2147483648 ∨ x / 2147483648 = 1 ∧ 2147483648 ≤ x := by omega
theorem and_top (a b : Nat) : (a &&& b) / 2147483648 = a / 2147483648 &&& b / 2147483648 := by have := @Nat.and_div_two_pow a b 31; simpa using this
theorem or_top (a b : Nat) : (a ||| b) / 2147483648 = a / 2147483648 ||| b / 2147483648 := by have := @Nat.or_div_two_pow a b 31; simpa using this
theorem xor_top (a b : Nat) : (a ^^^ b) / 2147483648 = a / 2147483648 ^^^ b / 2147483648 := by have := @Nat.xor_div_two_pow a b 31; simpa using this
theorem and32 {a b : Nat} (ha : a < 4294967296) : a &&& b < 4294967296 := Nat.lt_of_le_of_lt Nat.and_le_left ha
theorem or32 {a b : Nat} (ha : a < 4294967296) (hb : b < 4294967296) : a ||| b < 4294967296 := Nat.or_lt_two_pow (n := 32) ha hb
theorem xor32 {a b : Nat} (ha : a < 4294967296) (hb : b < 4294967296) : a ^^^ b < 4294967296 := Nat.xor_lt_two_pow (n := 32) ha hb

theorem xor_zero (a b : Nat) : a ^^^ b = 0 ↔ a = b :=
  ⟨fun h => by have := congrArg (· ^^^ b) h; simpa [Nat.xor_assoc] using this, fun h => by simp [h]⟩
theorem xor_beq (a b : Nat) : ((a ^^^ b) == 0) = (a == b) := by rw [Bool.eq_iff_iff]; simp [xor_zero]

/-- what is made of words: closed to the walk -/
def andW (a b : Nat) : Nat := a &&& b
def orW (a b : Nat) : Nat := a ||| b
def xorW (a b : Nat) : Nat := a ^^^ b
def notW (a : Nat) : Nat := 4294967295 ^^^ a
def addW (a b : Nat) : Nat := (a + b) % 4294967296
def subW (a b : Nat) : Nat := (a + 4294967296 - b) % 4294967296
def selW (m a b : Nat) : Nat := (a &&& m) ||| (b &&& (4294967295 - m))
theorem andW_lt {a b : Nat} (ha : a < 4294967296) : andW a b < 4294967296 := and32 ha
theorem orW_lt {a b : Nat} (ha : a < 4294967296) (hb : b < 4294967296) : orW a b < 4294967296 := or32 ha hb
theorem xorW_lt {a b : Nat} (ha : a < 4294967296) (hb : b < 4294967296) : xorW a b < 4294967296 := xor32 ha hb
theorem notW_lt {a : Nat} (ha : a < 4294967296) : notW a < 4294967296 := xor32 (by decide) ha
theorem addW_lt (a b : Nat) : addW a b < 4294967296 := Nat.mod_lt _ (by decide)
theorem subW_lt (a b : Nat) : subW a b < 4294967296 := Nat.mod_lt _ (by decide)
theorem selW_lt {m a b : Nat} (ha : a < 4294967296) (hb : b < 4294967296) : selW m a b < 4294967296 := or32 (and32 ha) (and32 hb)
theorem selW_yes (a b : Nat) (ha : a < 4294967296) : selW (mk true) a b = a := by
  have h : a &&& 4294967295 = a := by rw [show (4294967295 : Nat) = 2 ^ 32 - 1 from rfl, Nat.and_two_pow_sub_one_eq_mod]; exact Nat.mod_eq_of_lt ha
  simp [selW, mk, h]
theorem selW_no (a b : Nat) (hb : b < 4294967296) : selW (mk false) a b = b := by
  have h : b &&& 4294967295 = b := by rw [show (4294967295 : Nat) = 2 ^ 32 - 1 from rfl, Nat.and_two_pow_sub_one_eq_mod]; exact Nat.mod_eq_of_lt hb
  simp [selW, mk, h]
theorem xorW_beq (a b : Nat) : (xorW a b == 0) = (a == b) := xor_beq a b

theorem max_u32 : IntKind.u32.max = ((4294967295 : Nat) : Int) := by decide
theorem not_form (a : Nat) (ha : a < 4294967296) : bits .xor .u32 IntKind.u32.max (a : Int) = ((4294967295 ^^^ a : Nat) : Int) := by
  rw [max_u32]; exact u32_xor_nat _ _ (by decide) ha
theorem neg_form (a : Nat) (ha : a < 4294967296) : (-(a : Int)) % 4294967296 = (((4294967296 - a) % 4294967296 : Nat) : Int) := by omega
theorem sub_form (a b : Nat) (ha : a < 4294967296) (hb : b < 4294967296) : ((a : Int) - (b : Int)) % 4294967296 = (((a + 4294967296 - b) % 4294967296 : Nat) : Int) := by omega

theorem zero_form (a : Nat) (ha : a < 4294967296) :
    (-bits .xor .u32 (bits .or .u32 (a : Int) (-(a : Int) % 4294967296) / 2147483648) 1) % 4294967296 = ((mk (a == 0) : Nat) : Int) := by
  have hn : (4294967296 - a) % 4294967296 < 4294967296 := Nat.mod_lt _ (by decide)
  rw [neg_form a ha, u32_or_nat _ _ ha hn]
  have ho := or32 ha hn
  have e1 : ((a ||| (4294967296 - a) % 4294967296 : Nat) : Int) / 2147483648 = (((a ||| (4294967296 - a) % 4294967296) / 2147483648 : Nat) : Int) := by omega
  rw [e1, or_top, show (1 : Int) = ((1 : Nat) : Int) from rfl]
  have t1 := top01 a ha
  have t2 := top01 _ hn
  by_cases h0 : a = 0
  · subst h0; decide
  · have hx : a / 2147483648 ||| (4294967296 - a) % 4294967296 / 2147483648 = 1 := by
      rcases t1 with ⟨x1, y1⟩ | ⟨x1, y1⟩ <;> rcases t2 with ⟨x2, y2⟩ | ⟨x2, y2⟩ <;> rw [x1, x2]
      · exfalso; omega
      · rfl
      · rfl
      · rfl
    rw [hx, u32_xor_nat _ _ (by decide) (by decide)]
    simp [mk, h0]

theorem lt_form (a b : Nat) (ha : a < 4294967296) (hb : b < 4294967296) :
    (-(bits .or .u32 (bits .and .u32 (bits .xor .u32 IntKind.u32.max (a : Int)) (b : Int)) (bits .and .u32 (bits .xor .u32 IntKind.u32.max (bits .xor .u32 (a : Int) (b : Int))) (((a : Int) - (b : Int)) % 4294967296)) / 2147483648)) % 4294967296
      = ((mk (decide (a < b)) : Nat) : Int) := by
  have hd : (a + 4294967296 - b) % 4294967296 < 4294967296 := Nat.mod_lt _ (by decide)
  have hm : (4294967295 : Nat) < 4294967296 := by decide
  rw [not_form a ha, u32_xor_nat _ _ ha hb, not_form _ (xor32 ha hb), sub_form a b ha hb, u32_and_nat _ _ (xor32 hm ha) hb, u32_and_nat _ _ (xor32 hm (xor32 ha hb)) hd,
    u32_or_nat _ _ (and32 (xor32 hm ha)) (and32 (xor32 hm (xor32 ha hb)))]
  have e1 : ∀ x : Nat, (x : Int) / 2147483648 = ((x / 2147483648 : Nat) : Int) := fun x => by omega
  rw [e1, or_top, and_top, and_top, xor_top, xor_top, xor_top]
  have t1 := top01 a ha
  have t2 := top01 b hb
  have t3 := top01 _ hd
  rcases t1 with ⟨x1, y1⟩ | ⟨x1, y1⟩ <;> rcases t2 with ⟨x2, y2⟩ | ⟨x2, y2⟩ <;> rcases t3 with ⟨x3, y3⟩ | ⟨x3, y3⟩ <;> rw [x1, x2, x3] <;> by_cases h : a < b <;> simp [mk, h] <;> omega

theorem sel_form (m a b : Nat) (hm : m < 4294967296) (ha : a < 4294967296) (hb : b < 4294967296) :
    bits .or .u32 (bits .and .u32 (a : Int) (m : Int)) (bits .andNot .u32 (b : Int) (m : Int)) = (((a &&& m) ||| (b &&& (4294967295 - m)) : Nat) : Int) := by
  rw [u32_and_nat _ _ ha hm, u32_andNot_nat _ _ hb hm, u32_or_nat _ _ (and32 ha) (and32 hb)]
end Go.Proofs.YtgalmlelnolodaaGreatDoor
