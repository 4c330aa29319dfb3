/- Points as words (chart's wordOf), over this seat's translation. Conditions: a point. -/
import Derived.Test.YtiekffkeagcaiaaDoorChAb
import Derived.Test.YtiekffkeagcaiaaDoorShL
namespace Go.Proofs.YtiekffkeagcaiaaDoor
open Go.RowKit
set_option linter.unusedVariables false

theorem hxd_ascii : ∀ d, d < 16 → (hxd d).toNat < 128 := by decide
theorem hxl_ascii : ∀ (f n : Nat) (b : UInt8), b ∈ hxl f n → b.toNat < 128
  | 0, n, b, h => by
    rw [hxl, List.mem_singleton] at h
    subst h; exact hxd_ascii _ (Nat.mod_lt _ (by decide))
  | f + 1, n, b, h => by
    rw [hxl] at h
    split at h
    · rename_i hn
      rw [List.mem_singleton] at h
      subst h; exact hxd_ascii _ hn
    · rcases List.mem_append.1 h with h | h
      · exact hxl_ascii f _ b h
      · rw [List.mem_singleton] at h
        subst h; exact hxd_ascii _ (Nat.mod_lt _ (by decide))
theorem hxl_len : ∀ (f n : Nat), (hxl f n).length ≤ f + 1
  | 0, n => by rw [hxl]; simp
  | f + 1, n => by
    rw [hxl]
    split
    · simp
    · have := hxl_len f (n / 16)
      rw [List.length_append]; simp; omega
def wrd (n : Nat) : ByteArray := (⟨(Lib.repeatL [48] (4 - (hxl 8 n).length)).toArray⟩ : ByteArray) ++ ⟨(Lib.toUpperA (hxl 8 n)).toArray⟩
set_option maxHeartbeats 1600000 in
theorem wordOf_any (n : Nat) (w : World) (t : Tz w) (hn : n ≤ 1114111) :
    Calls Tryd.prog 10 #[.int .u32 (n : Int)] w fun e w' => e = .returned (.string (wrd n)) ∧ Below w.heap.size w w' := by
  have HF := hid (format16_any n w t hn)
  have HL := hid (hxl_len 8 n)
  have HU := hid (fun w => Tryd.strings_ToUpper_ascii ⟨(hxl 8 n).toArray⟩ w (by have := hxl_len 8 n; show (hxl 8 n).toArray.size ≤ _; simp; omega) (fun j b h => hxl_ascii 8 n b (List.mem_of_getElem? (by simpa using h))))
  have hul : (Lib.toUpperA (hxl 8 n)).length = (hxl 8 n).length := by simp [Lib.toUpperA]
  have HW := hid (show wrd n = (⟨(Lib.repeatL [48] (4 - (hxl 8 n).length)).toArray⟩ : ByteArray) ++ ⟨(Lib.toUpperA (hxl 8 n)).toArray⟩ from rfl)
  obtain ⟨l, hl⟩ : ∃ l, hxl 8 n = l := ⟨_, rfl⟩
  rw [hl] at HF HL HU HW hul
  obtain ⟨m, hm⟩ : ∃ m, l.length = m := ⟨_, rfl⟩
  rw [hm] at HL HW hul
  obtain ⟨U, hU⟩ : ∃ U : ByteArray, (⟨(Lib.toUpperA l).toArray⟩ : ByteArray) = U := ⟨_, rfl⟩
  have hus : U.size = m := by rw [← hU]; show (Lib.toUpperA l).toArray.size = m; simpa using hul
  obtain ⟨c, hc⟩ : ∃ c, 4 - m = c := ⟨_, rfl⟩
  have HR := hid (fun w => Tryd.strings_Repeat ⟨#[48]⟩ c w (by omega) (by show 1 * c ≤ _; omega))
  have HU2 := hid (show ∀ w, Calls Tryd.prog 18 #[.string ⟨l.toArray⟩] w fun e w' => e = .returned (.string U) ∧ Below w.heap.size w w' from fun w => (HU.out w).mono fun e w' h => ⟨by rw [h.1, ← hU], h.2⟩)
  rw [hU, hc] at HW
  have hmax : max 0 (4 - (m : Int)) = (c : Int) := by omega
  have hm9 : m ≤ 9 := HL.out
  have hn32 : n ≤ 1114111 := hn
  clear hU HU hul hl hm hc t
  go_enter Tryd.func10, Tryd.ntmps10
  go_wp2_with fail
  refine HF.out.mono ?_
  rintro e w1 ⟨rfl, hB⟩
  have B1 := hid hB
  clear hB
  go_wp2_with fail
  refine (HU2.out _).mono ?_
  rintro e w2 ⟨rfl, hB⟩
  have B2 := hid (belowCat B1.out hB)
  clear hB
  go_wp2_with fail
  refine (HR.out _).mono ?_
  rintro e w3 ⟨rfl, hB⟩
  have B3 := hid (belowCat B2.out hB)
  obtain ⟨A, hA⟩ : ∃ A : ByteArray, (⟨(Lib.repeatL (⟨#[48]⟩ : ByteArray).data.toList c).toArray⟩ : ByteArray) = A := ⟨_, rfl⟩
  have has : A.size = c := by rw [← hA]; show (Lib.repeatL [48] c).toArray.size = c; simp [Lib.repeatL_length]
  have HW2 := hid (show wrd n = A ++ U from by rw [HW.out, ← hA])
  have hc4 : c ≤ 4 := by omega
  have hsum : ¬ (9223372036854775807 < A.size + U.size) := by omega
  rw [hA]
  clear hB hA hus has hmax
  go_wp2
  exact bodyPost_ret (v := .string (A ++ U)) (by simp [results, Tryd.results10, go_sem]) rfl ⟨by rw [HW2.out], B3.out⟩
end Go.Proofs.YtiekffkeagcaiaaDoor
