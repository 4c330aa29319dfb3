/- The contracts of package chart's isCategory, isName, isEdition, isSign, and of the document's all and number, over this seat's translation. Conditions: none but a word's size. -/
import Derived.Test.YtiekffkeagcaiaaGreatDoorChC
namespace Go.Proofs.YtiekffkeagcaiaaGreatDoor
open Go.RowKit
set_option linter.unusedVariables false

theorem ctV_bytes {s : ByteArray} (h2 : s.size = 2) (g0 : 0 < s.size) (g1 : 1 < s.size) (a b : Nat) (ha : s[0].toNat = a) (hb : s[1].toNat = b) : ctV (bs s) = (isU a && isL b) := by
  have e0 : (bs s).getD 0 0 = a := (bs_at (by omega)).trans ha
  have e1 : (bs s).getD 1 0 = b := (bs_at (by omega)).trans hb
  unfold ctV isU isL
  rw [bs_len, e0, e1, ← Bool.decide_and]
  exact decide_eq_decide.2 (by omega)
theorem ctV_no {s : ByteArray} (h2 : s.size ≠ 2) : ctV (bs s) = false := by
  unfold ctV; rw [bs_len]; exact decide_eq_false (by omega)
set_option maxHeartbeats 1600000 in
theorem isCategory_any (s : ByteArray) (w : World) (hs : s.size ≤ 4000000000) :
    Calls Tryz.prog 46 #[.string s] w fun e w' => e = .returned (.bool (ctV (bs s))) ∧ w' = w := by
  by_cases h2 : s.size = 2
  · have g0 : 0 < s.size := by omega
    have g1 : 1 < s.size := by omega
    obtain ⟨a, ha⟩ : ∃ a, s[0].toNat = a := ⟨_, rfl⟩
    obtain ⟨b, hb⟩ : ∃ b, s[1].toNat = b := ⟨_, rfl⟩
    have ha8 : a < 256 := by rw [← ha]; exact s[0].toNat_lt
    have hb8 : b < 256 := by rw [← hb]; exact s[1].toNat_lt
    rw [ctV_bytes h2 g0 g1 a b ha hb]
    have e2 : ((s.size : Int) == 2) = true := by simp [h2]
    clear h2
    cases hu : isU a
    · have HU := hid hu
      clear hu
      go_enter Tryz.func46, Tryz.ntmps46
      go_wp2_with fail
      refine (capital_any a _ ha8).mono ?_
      rintro e w' ⟨rfl, hw⟩
      subst w'
      rw [HU.out]
      go_wp2
      go_ret
      exact ⟨rfl, rfl⟩
    · have HU := hid hu
      clear hu
      go_enter Tryz.func46, Tryz.ntmps46
      go_wp2_with fail
      refine (capital_any a _ ha8).mono ?_
      rintro e w' ⟨rfl, hw⟩
      subst w'
      rw [HU.out]
      go_wp2_with fail
      refine (small_any b _ hb8).mono ?_
      rintro e w' ⟨rfl, hw⟩
      subst w'
      go_wp2
      go_ret
      exact ⟨rfl, rfl⟩
  · rw [ctV_no h2]
    have e2 : ((s.size : Int) == 2) = false := by simp; omega
    clear h2
    go_enter Tryz.func46, Tryz.ntmps46
    go_wp2
    go_ret
    exact ⟨rfl, rfl⟩
/-- so far all bytes are between lo and hi -/
def alK (lo hi : Nat) (l : List Nat) (k : Nat) : Bool := (l.take k).all fun b => decide (lo ≤ b ∧ b ≤ hi)
theorem alK_step {lo hi : Nat} {l : List Nat} {k : Nat} (hk : k < l.length) (h : alK lo hi l k = true) (hx : lo ≤ l.getD k 0 ∧ l.getD k 0 ≤ hi) : alK lo hi l (k + 1) = true := by
  unfold alK at *
  rw [List.take_add_one, List.all_append, h, List.getElem?_eq_getElem hk]
  rw [List.getD_eq_getElem?_getD, List.getElem?_eq_getElem hk] at hx
  simpa using hx
theorem alV_no {lo hi : Nat} {l : List Nat} {k : Nat} (hk : k < l.length) (hx : ¬ (lo ≤ l.getD k 0 ∧ l.getD k 0 ≤ hi)) : alV lo hi l = false := by
  unfold alV
  rw [List.getD_eq_getElem?_getD, List.getElem?_eq_getElem hk] at hx
  rw [List.all_eq_false]
  exact ⟨l[k], List.getElem_mem hk, by simpa using hx⟩
theorem alK_all {lo hi : Nat} {l : List Nat} (h : alK lo hi l l.length = true) : alV lo hi l = true := by unfold alK at h; rw [List.take_length] at h; exact h
set_option maxHeartbeats 1600000 in
theorem isName_any (s : ByteArray) (m : Nat) (w : World) (hs : s.size ≤ 4000000000) (hm : m ≤ 100) :
    Calls Tryz.prog 47 #[.string s, .int .i64 (m : Int)] w fun e w' => e = .returned (.bool (nmV m (bs s))) ∧ w' = w := by
  by_cases h1 : s.size < 1
  · rw [show nmV m (bs s) = false by unfold nmV; rw [bs_len, decide_eq_false (by omega), Bool.false_and]]
    go_enter Tryz.func47, Tryz.ntmps47
    go_wp2
    go_ret
    exact ⟨rfl, rfl⟩
  by_cases h2 : m < s.size
  · rw [show nmV m (bs s) = false by unfold nmV; rw [bs_len, decide_eq_false (by omega), Bool.false_and]]
    go_enter Tryz.func47, Tryz.ntmps47
    go_wp2
    go_ret
    exact ⟨rfl, rfl⟩
  have hE : nmV m (bs s) = alV 65 90 (bs s) := by unfold nmV; rw [bs_len, decide_eq_true (by omega), Bool.true_and]
  rw [hE]
  obtain ⟨T, hT⟩ : ∃ T, alV 65 90 (bs s) = T := ⟨_, rfl⟩
  rw [hT]
  have HT := hid hT
  have h2' : ¬ (m : Int) < (s.size : Int) := by omega
  clear hE hT
  go_enter Tryz.func47, Tryz.ntmps47
  go_wp2_with fail
  go_loopw [17] (fun c wr => ∃ k : Nat, k ≤ s.size ∧ c = .int .i64 (k : Int) ∧ alK 65 90 (bs s) k = true ∧ wr = w) (fun c _ => s.size - (intOf c).toNat)
  case atStart => exact ⟨0, Nat.zero_le _, rfl, rfl, rfl⟩
  case round =>
    obtain ⟨k, hk, rfl, hp, rfl⟩ := hrel
    have HP := hid hp
    by_cases hlt : k < s.size
    · have hxk := bs_at hlt
      have hx8 : (s[k]).toNat < 256 := (s[k]).toNat_lt
      obtain ⟨x, hx⟩ : ∃ x, (s[k]).toNat = x := ⟨_, rfl⟩
      rw [hx] at hxk hx8
      have hkl : k < (bs s).length := by rw [bs_len]; exact hlt
      have HXK := hid hxk
      have HKL := hid hkl
      clear hp hxk hkl
      cases hd : isU x with
      | false =>
        have HD := hid hd
        clear hd
        go_wp2_with fail
        refine (capital_any x _ hx8).mono ?_
        rintro e w' ⟨rfl, hw⟩
        subst w'
        rw [HD.out]
        go_wp2
        go_ret
        exact ⟨retB (by rw [← HT.out, alV_no HKL.out (by rw [HXK.out]; exact of_decide_eq_false HD.out)]), rfl⟩
      | true =>
        have HD := hid hd
        clear hd
        go_wp2_with fail
        refine (capital_any x _ hx8).mono ?_
        rintro e w' ⟨rfl, hw⟩
        subst w'
        rw [HD.out]
        go_wp2
        go_roundw
        case rel => exact ⟨k + 1, by omega, by go_num, alK_step HKL.out HP.out (by rw [HXK.out]; exact of_decide_eq_true HD.out), trivial⟩
        case measure => simp [intOf]; omega
    · have hke : k = s.size := by omega
      subst hke
      clear hp
      go_wp2
      go_ret
      exact ⟨retB (by rw [← HT.out, alK_all (by rw [bs_len]; exact HP.out)]), rfl⟩
set_option maxHeartbeats 1600000 in
theorem isEdition_any (s : ByteArray) (w : World) :
    Calls Tryz.prog 49 #[.string s] w fun e w' => e = .returned (.bool (edV s)) ∧ w' = w := by
  by_cases h1 : s.toList = [111, 108, 100]
  · rw [show edV s = true by unfold edV; rw [h1]; rfl]
    go_enter Tryz.func49, Tryz.ntmps49
    go_wp2
    go_ret
    exact ⟨rfl, rfl⟩
  · unfold edV
    go_enter Tryz.func49, Tryz.ntmps49
    go_wp2
    go_ret
    exact ⟨rfl, rfl⟩
set_option maxHeartbeats 1600000 in
theorem isSign_any (s : ByteArray) (w : World) :
    Calls Tryz.prog 56 #[.string s] w fun e w' => e = .returned (.bool (sgV s)) ∧ w' = w := by
  by_cases h1 : s.toList = [61]
  · rw [show sgV s = true by unfold sgV; rw [h1]; rfl]
    go_enter Tryz.func56, Tryz.ntmps56
    go_wp2
    go_ret
    exact ⟨rfl, rfl⟩
  · by_cases h2 : s.toList = [33]
    · rw [show sgV s = true by unfold sgV; rw [h2]; rfl]
      go_enter Tryz.func56, Tryz.ntmps56
      go_wp2
      go_ret
      exact ⟨rfl, rfl⟩
    · unfold sgV
      go_enter Tryz.func56, Tryz.ntmps56
      go_wp2
      go_ret
      exact ⟨rfl, rfl⟩
set_option maxHeartbeats 1600000 in
theorem all_any (s : ByteArray) (lo hi a b : Nat) (w : World) (hs : s.size ≤ 4000000000) (h1 : lo < 256) (h2 : hi < 256) (ha : a ≤ 100) (hb : b ≤ 100) :
    Calls Tryz.prog 26 #[.string s, .int .u8 (lo : Int), .int .u8 (hi : Int), .int .i64 (a : Int), .int .i64 (b : Int)] w fun e w' => e = .returned (.bool (alV lo hi (bs s) && decide (a ≤ s.size ∧ s.size ≤ b))) ∧ w' = w := by
  obtain ⟨T, hT⟩ : ∃ T, alV lo hi (bs s) = T := ⟨_, rfl⟩
  rw [hT]
  have HT := hid hT
  clear hT
  go_enter Tryz.func26, Tryz.ntmps26
  go_wp2_with fail
  go_loopw [11] (fun c wr => ∃ k : Nat, k ≤ s.size ∧ c = .int .i64 (k : Int) ∧ alK lo hi (bs s) k = true ∧ wr = w) (fun c _ => s.size - (intOf c).toNat)
  case atStart => exact ⟨0, Nat.zero_le _, rfl, rfl, rfl⟩
  case round =>
    obtain ⟨k, hk, rfl, hp, rfl⟩ := hrel
    have HP := hid hp
    by_cases hlt : k < s.size
    · have hxk := bs_at hlt
      have hx8 : (s[k]).toNat < 256 := (s[k]).toNat_lt
      obtain ⟨x, hx⟩ : ∃ x, (s[k]).toNat = x := ⟨_, rfl⟩
      rw [hx] at hxk hx8
      have hkl : k < (bs s).length := by rw [bs_len]; exact hlt
      have HXK := hid hxk
      have HKL := hid hkl
      clear hp hxk hkl
      by_cases hd : x < lo
      · go_wp2
        go_ret
        exact ⟨retB (by rw [← HT.out, alV_no HKL.out (by rw [HXK.out]; omega)]; rfl), rfl⟩
      · by_cases hd2 : hi < x
        · go_wp2
          go_ret
          exact ⟨retB (by rw [← HT.out, alV_no HKL.out (by rw [HXK.out]; omega)]; rfl), rfl⟩
        · go_wp2
          go_roundw
          case rel => exact ⟨k + 1, by omega, by go_num, alK_step HKL.out HP.out (by rw [HXK.out]; omega), trivial⟩
          case measure => simp [intOf]; omega
    · have hke : k = s.size := by omega
      subst hke
      have HT1 := hid (show T = true by rw [← HT.out, alK_all (by rw [bs_len]; exact HP.out)])
      clear hp
      by_cases g1 : a ≤ s.size
      · go_wp2
        go_ret
        exact ⟨retB (by rw [HT1.out, Bool.true_and]; exact decide_eq_decide.2 (by omega)), rfl⟩
      · go_wp2
        go_ret
        exact ⟨retB (by rw [HT1.out, Bool.true_and]; exact (decide_eq_false (by omega)).symm), rfl⟩
end Go.Proofs.YtiekffkeagcaiaaGreatDoor
