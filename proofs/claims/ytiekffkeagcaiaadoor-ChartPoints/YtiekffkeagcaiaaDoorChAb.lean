/- Numbers of base 16 as texts: formatBits, over this seat's translation. Conditions: a number up to 1114111. -/
import Derived.Test.YtiekffkeagcaiaaDoorChAa
import Derived.Laws.Bits64b
namespace Go.Proofs.YtiekffkeagcaiaaDoor
open Go.RowKit
set_option linter.unusedVariables false

def hxd (d : Nat) : UInt8 := if d < 10 then (48 + d).toUInt8 else (87 + d).toUInt8
def hxl : Nat → Nat → List UInt8
  | 0, n => [hxd (n % 16)]
  | f + 1, n => if n < 16 then [hxd n] else hxl f (n / 16) ++ [hxd (n % 16)]
def byV (l : List UInt8) : List Value := l.map fun b => .int .u8 (b.toNat : Int)
theorem hex_at {y : Nat} (hy : y < 16) (h : y < (⟨#[48, 49, 50, 51, 52, 53, 54, 55, 56, 57, 97, 98, 99, 100, 101, 102, 103, 104, 105, 106, 107, 108, 109, 110, 111, 112, 113, 114, 115, 116, 117, 118, 119, 120, 121, 122]⟩ : ByteArray).size) :
    (⟨#[48, 49, 50, 51, 52, 53, 54, 55, 56, 57, 97, 98, 99, 100, 101, 102, 103, 104, 105, 106, 107, 108, 109, 110, 111, 112, 113, 114, 115, 116, 117, 118, 119, 120, 121, 122]⟩ : ByteArray)[y] = hxd y := by
  have : y = 0 ∨ y = 1 ∨ y = 2 ∨ y = 3 ∨ y = 4 ∨ y = 5 ∨ y = 6 ∨ y = 7 ∨ y = 8 ∨ y = 9 ∨ y = 10 ∨ y = 11 ∨ y = 12 ∨ y = 13 ∨ y = 14 ∨ y = 15 := by omega
  rcases this with rfl | rfl | rfl | rfl | rfl | rfl | rfl | rfl | rfl | rfl | rfl | rfl | rfl | rfl | rfl | rfl <;> rfl
theorem hxl_step {f x : Nat} (h : 16 ≤ x) : hxl (f + 1) x = hxl f (x / 16) ++ [hxd (x % 16)] := by rw [hxl, if_neg (by omega)]
theorem hxl_last {f x : Nat} (h : x < 16) : hxl f x = [hxd x] := by
  cases f with
  | zero => rw [hxl, Nat.mod_eq_of_lt h]
  | succ f => rw [hxl, if_pos h]
set_option maxHeartbeats 1600000 in
set_option maxRecDepth 2000 in
theorem bits16_any (n : Nat) (w : World) (t : Tz w) (hn : n ≤ 1114111) :
    Calls Tryd.prog 51 #[.slice none 0 0, .int .u64 (n : Int), .int .i64 16, .bool false, .bool false] w fun e w' => e = .returned (.tuple #[.slice none 0 0, .string ⟨(hxl 8 n).toArray⟩]) ∧ Below w.heap.size w w' := by
  have T0 := hid t
  clear t
  have HP := hid (fun w => isPow_any w)
  have HT := hid (fun w t => tz_any w t)
  go_enter Tryd.func51, Tryd.ntmps51
  go_wp2_with fail
  refine (HP.out _).mono ?_
  rintro e w' ⟨rfl, rfl⟩
  go_wp2_with fail
  refine (HT.out _ (T0.out.below ((Below.refl _ _).alloc (Nat.le_refl _) _))).mono ?_
  rintro e w' ⟨rfl, rfl⟩
  go_wp2_with fail
  have hz0 : (w.alloc (.cells Tryd.zeroCells116 116)).heap[w.heap.size]? = some (.cells Tryd.zeroCells116 116 (0, 0)) := heap_alloc_at _ _
  go_loopw [1, 13] (fun u i wr => ∃ (x j : Nat) (ds : List UInt8) (cs : Array Value), u = .int .u64 (x : Int) ∧ i = .int .i64 (j : Int) ∧ j + ds.length = 65 ∧ x * 16 ^ ds.length ≤ 1114111 ∧ (1 ≤ x ∨ ds.length = 0) ∧ hxl 8 n = hxl (8 - ds.length) x ++ ds ∧ wr.heap[w.heap.size]? = some (.cells cs 116 (0, 0)) ∧ cs.size = 65 ∧ cs.toList.drop j = byV ds ∧ Below w.heap.size w wr) (fun u _ _ => (intOf u).toNat)
  case atStart =>
    refine ⟨n, 65, [], _, rfl, rfl, rfl, by simpa using hn, Or.inr rfl, by simp, hz0, by kernel_rfl, ?_, (Below.refl _ _).alloc (Nat.le_refl _) _⟩
    kernel_rfl
  case round =>
    obtain ⟨x, j, ds, cs, rfl, rfl, hj, hx, hp, hh, hc, hcs, hd, hB⟩ := hrel
    have HB := hid hB
    have HC := hid hc
    have HH := hid hh
    have HD := hid hd
    have HX := hid hx
    have HJ := hid hj
    have hx6 : x ≤ 1114111 := Nat.le_trans (Nat.le_mul_of_pos_right _ (Nat.pow_pos (by decide))) hx
    by_cases hlt : 16 ≤ x
    · have hL : ds.length ≤ 4 := by
        apply Classical.byContradiction
        intro h
        have h1 : 16 ^ 5 ≤ 16 ^ ds.length := Nat.pow_le_pow_right (by decide) (by omega)
        have h2 : 16 * 16 ^ 5 ≤ x * 16 ^ ds.length := Nat.mul_le_mul hlt h1
        omega
      obtain ⟨q, rfl⟩ : ∃ q, j = q + 1 := ⟨j - 1, by omega⟩
      obtain ⟨y, hy⟩ : ∃ y, x % 16 = y := ⟨_, rfl⟩
      have hy16 : y < 16 := by omega
      have hand : bits .and .u64 (x : Int) 15 = (y : Int) := by
        rw [show (15 : Int) = ((15 : Nat) : Int) from rfl, bits_and_u64_nat x 15 (by omega) (by decide), Nat.and_two_pow_sub_one_eq_mod x 4]
        exact congrArg _ hy
      obtain ⟨old, hold⟩ : ∃ v, cs[q]? = some v := ⟨cs[q]'(by omega), by rw [Array.getElem?_eq_getElem]⟩
      have kc : wr.cell? ⟨w.heap.size, q, none⟩ = some old := cell_of_heap hc hold
      have kf := frozen_of_heap (i := q) hc
      have hq65 : q < 65 := by omega
      have hx16 : (16 : Int) ≤ (x : Int) := by omega
      have HL4 := hid hL
      have HY := hid hy
      have H16 := hid hy16
      have HCS := hid hcs
      have HLT := hid hlt
      clear hB hc hh hd hx hj hlt hL hold hy hcs hp
      go_wp2_with fail
      go_roundw
      case rel =>
        refine ⟨x / 16, q, hxd y :: ds, cs.setIfInBounds q (.int .u8 ((hxd y).toNat : Int)), by go_num, rfl, ?_, ?_, Or.inl (by have := HLT.out; omega), ?_, ?_, by simp [HCS.out], ?_, HB.out.setCell (p := ⟨w.heap.size, q, none⟩) (Nat.le_refl _) _⟩
        · have := HJ.out; rw [List.length_cons]; omega
        · rw [List.length_cons, Nat.pow_succ', ← Nat.mul_assoc]
          exact Nat.le_trans (Nat.mul_le_mul_right _ (Nat.div_mul_le_self x 16)) HX.out
        · have h8 : 8 - ds.length = (8 - (hxd y :: ds).length) + 1 := by have := HL4.out; rw [List.length_cons]; omega
          rw [HH.out, h8, hxl_step HLT.out, HY.out, List.append_assoc]
          rfl
        · rw [hex_at H16.out]
          exact heap_setCell_at _ _ _ _ _ _ _ HC.out
        · have hs : q < cs.toList.length := by have := HCS.out; simp; omega
          rw [Array.toList_setIfInBounds, List.drop_eq_getElem_cons (by simpa using hs), List.getElem_set_self, List.drop_set_of_lt (by omega), HD.out]
          rfl
      case measure => have := HLT.out; simp [intOf]; omega
    · obtain ⟨q, rfl⟩ : ∃ q, j = q + 1 := ⟨j - 1, by
        have : ds.length ≤ 5 := by
          apply Classical.byContradiction
          intro h
          rcases hp with h0 | h0
          · have h1 : 16 ^ 6 ≤ 16 ^ ds.length := Nat.pow_le_pow_right (by decide) (by omega)
            have h2 : 1 * 16 ^ 6 ≤ x * 16 ^ ds.length := Nat.mul_le_mul h0 h1
            omega
          · omega
        omega⟩
      obtain ⟨old, hold⟩ : ∃ v, cs[q]? = some v := ⟨cs[q]'(by omega), by rw [Array.getElem?_eq_getElem]⟩
      have kc : wr.cell? ⟨w.heap.size, q, none⟩ = some old := cell_of_heap hc hold
      have kf := frozen_of_heap (i := q) hc
      have hq65 : q < 65 := by omega
      have hx16 : ((16 : Int) ≤ (x : Int)) = False := eq_false (by omega)
      have hx15 : x < 16 := by omega
      have H15 := hid hx15
      have HCS := hid hcs
      clear hB hc hh hd hx hj hlt hold hcs hp hx6
      have hdr : (cs.setIfInBounds q (.int .u8 ((hxd x).toNat : Int))).toList.drop q = byV (hxd x :: ds) := by
        have hs : q < cs.toList.length := by have := HCS.out; simp; omega
        rw [Array.toList_setIfInBounds, List.drop_eq_getElem_cons (by simpa using hs), List.getElem_set_self, List.drop_set_of_lt (by omega), HD.out]
        rfl
      have HDR := hid hdr
      have hal : Tryd.prog.arrayLen 116 = 65 := by simp [Program.arrayLen, Tryd.underlying116]
      have hsl : ∀ W, (Instr.sliceAt 116 (.pointer (some ⟨w.heap.size, 0, none⟩)) (some (.int .i64 (q : Int))) none none).run Tryd.prog W = .ok (.slice (some ⟨w.heap.size, q, none⟩) (65 - q) (65 - q)) W := fun W => by
        rw [run_sliceAt_array_l W 116 ⟨w.heap.size, 0, none⟩ (by simp [Program.arrayLen, Program.elem, Tryd.underlying116]) .i64 (q : Int) (by omega) (by rw [hal]; omega)]
        go_simp
        omega
      have HSL := hid hsl
      clear hdr hal hsl
      go_wp2_with fail
      rw [hex_at H15.out]
      obtain ⟨W2, hW2⟩ : ∃ W2, wr.setCell ⟨w.heap.size, q, none⟩ (.int .u8 ((hxd x).toNat : Int)) = W2 := ⟨_, rfl⟩
      have HC2 := hid (show W2.heap[w.heap.size]? = some (.cells (cs.setIfInBounds q (.int .u8 ((hxd x).toNat : Int))) 116 (0, 0)) from by rw [← hW2]; exact heap_setCell_at _ _ _ _ _ _ _ HC.out)
      have HB2 := hid (show Below w.heap.size w W2 from by rw [← hW2]; exact HB.out.setCell (p := ⟨w.heap.size, q, none⟩) (Nat.le_refl _) _)
      rw [hW2]
      clear hW2 kc kf
      have hcv := run_convert_bytes_back (P := Tryd.prog) W2 55 9 5 ⟨w.heap.size, q, none⟩ (65 - q) (hxd x :: ds) Tryd.underlying55 Tryd.underlying5 Tryd.underlying9 (fun j hj => by
        rw [show (⟨w.heap.size, q, none⟩ : Addr).add j = ⟨w.heap.size, q + j, none⟩ by unfold Addr.add; split <;> simp_all]
        refine cell_of_heap HC2.out ?_
        have h1 : ((cs.setIfInBounds q (.int .u8 ((hxd x).toNat : Int))).toList.drop q)[j]? = some (.int .u8 (((hxd x :: ds)[j]).toNat : Int)) := by rw [HDR.out]; unfold byV; rw [List.getElem?_map, List.getElem?_eq_getElem hj]; rfl
        rw [List.getElem?_drop] at h1
        rw [← Array.getElem?_toList]; exact h1)
      rw [show (hxd x :: ds).length = 65 - q by have := HJ.out; rw [List.length_cons]; omega] at hcv
      have hlt : hxl 8 n = hxd x :: ds := by rw [HH.out, hxl_last H15.out]; rfl
      rw [← hlt] at hcv
      have HLL := hid hlt
      rw [HSL.out]
      clear hlt
      go_wp2
      exact bodyPost_ret (v := .tuple #[.slice none 0 0, .string ⟨(hxl 8 n).toArray⟩]) (by simp [results, Tryd.results51, go_sem]) rfl ⟨rfl, HB2.out⟩
set_option maxHeartbeats 800000 in
theorem format16i_any (n : Nat) (w : World) (t : Tz w) (hn : n ≤ 1114111) :
    Calls Tryd.prog 34 #[.int .u64 (n : Int), .int .i64 16] w fun e w' => e = .returned (.string ⟨(hxl 8 n).toArray⟩) ∧ Below w.heap.size w w' := by
  have HC := hid (bits16_any n w t hn)
  clear t
  go_enter Tryd.func34, Tryd.ntmps34
  go_wp2_with fail
  refine HC.out.mono ?_
  rintro e w' ⟨rfl, hB⟩
  have HB := hid hB
  clear hB
  go_wp2
  go_ret
  exact ⟨rfl, HB.out⟩
set_option maxHeartbeats 800000 in
theorem format16_any (n : Nat) (w : World) (t : Tz w) (hn : n ≤ 1114111) :
    Calls Tryd.prog 19 #[.int .u64 (n : Int), .int .i64 16] w fun e w' => e = .returned (.string ⟨(hxl 8 n).toArray⟩) ∧ Below w.heap.size w w' := by
  have HC := hid (format16i_any n w t hn)
  clear t
  go_enter Tryd.func19, Tryd.ntmps19
  go_wp2_with fail
  refine HC.out.mono ?_
  rintro e w' ⟨rfl, hB⟩
  have HB := hid hB
  clear hB
  go_wp2
  go_ret
  exact ⟨rfl, HB.out⟩
end Go.Proofs.YtiekffkeagcaiaaDoor
