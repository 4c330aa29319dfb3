/- The contract of the document's number, over this seat's translation. Conditions: none but a word's size. -/
import Derived.Test.YtiekffkeagcaiaaGreatDoorChD
namespace Go.Proofs.YtiekffkeagcaiaaGreatDoor
open Go.RowKit
set_option linter.unusedVariables false

theorem alV_at {lo hi : Nat} {l : List Nat} (h : alV lo hi l = true) {k : Nat} (hk : k < l.length) : lo ≤ l.getD k 0 ∧ l.getD k 0 ≤ hi := by
  unfold alV at h
  rw [List.all_eq_true] at h
  rw [List.getD_eq_getElem?_getD, List.getElem?_eq_getElem hk]
  simpa using h l[k] (List.getElem_mem hk)
theorem dcV_lt {l : List Nat} (h : alV 48 57 l = true) : ∀ k, k ≤ l.length → dcV l k < 10 ^ k := by
  intro k
  induction k with
  | zero => intro _; show (0 : Nat) < 10 ^ 0; decide
  | succ k ih =>
    intro hk
    have h1 := ih (by omega)
    have h2 := alV_at h (k := k) (by omega)
    rw [dcV, Nat.pow_succ]
    omega
theorem clV_no {s : ByteArray} (h : ¬ ((1 ≤ s.size ∧ s.size ≤ 3) ∧ alV 48 57 (bs s) = true ∧ (bs s).getD 0 0 ≠ 48)) : clV (bs s) = none := by
  unfold clV
  rw [bs_len, if_neg (fun x => h ⟨x.1, x.2.1, x.2.2.1⟩)]
theorem clV_in {s : ByteArray} (h1 : 1 ≤ s.size ∧ s.size ≤ 3) (h2 : alV 48 57 (bs s) = true) (h3 : (bs s).getD 0 0 ≠ 48) : clV (bs s) = if dcV (bs s) s.size ≤ 254 then some (dcV (bs s) s.size) else none := by
  unfold clV
  rw [bs_len]
  by_cases h : dcV (bs s) s.size ≤ 254
  · rw [if_pos ⟨h1, h2, h3, h⟩, if_pos h]
  · rw [if_neg (fun x => h x.2.2.2), if_neg h]
set_option maxHeartbeats 1600000 in
theorem number_any (s : ByteArray) (w : World) (hs : s.size ≤ 4000000000) :
    Calls Tryz.prog 33 #[.string s] w fun e w' => e = .returned (.int .i64 (((clV (bs s)).getD 0 : Nat) : Int)) ∧ w' = w := by
  have HA := hid (all_any s 48 57 1 3 w hs (by decide) (by decide) (by decide) (by decide))
  by_cases h1 : (alV 48 57 (bs s) && decide (1 ≤ s.size ∧ s.size ≤ 3)) = true
  · rw [h1] at HA
    have ha : alV 48 57 (bs s) = true := by cases hv : alV 48 57 (bs s); rw [hv] at h1; cases h1; rfl
    have hz : 1 ≤ s.size ∧ s.size ≤ 3 := by rw [ha, Bool.true_and] at h1; exact of_decide_eq_true h1
    have g0 : 0 < s.size := by omega
    have hb0 : (bs s).getD 0 0 = s[0].toNat := bs_at g0
    by_cases h0 : (bs s).getD 0 0 = 48
    · rw [clV_no (fun x => x.2.2 h0)]
      have hx0 : (((s[0].toNat : Nat) : Int) == 48) = true := by rw [← hb0, h0]; rfl
      clear h1 ha hz hb0 h0
      go_enter Tryz.func33, Tryz.ntmps33
      go_wp2_with fail
      refine HA.out.mono ?_
      rintro e w' ⟨rfl, hw⟩
      subst w'
      go_wp2
      go_ret
      exact ⟨rfl, rfl⟩
    · have hx0 : (((s[0].toNat : Nat) : Int) == 48) = false := by
        have hne : s[0].toNat ≠ 48 := fun e => h0 (hb0.trans e)
        simp
        omega
      have HC := hid (clV_in hz ha h0)
      obtain ⟨T, hT⟩ : ∃ T, clV (bs s) = T := ⟨_, rfl⟩
      rw [hT] at HC
      rw [hT]
      have HAL := hid ha
      have hz3 := hz.2
      have HLT := hid (fun k (hk : k ≤ s.size) => dcV_lt ha k (by rw [bs_len]; exact hk))
      clear h1 ha hz hb0 h0 hT
      go_enter Tryz.func33, Tryz.ntmps33
      go_wp2_with fail
      refine HA.out.mono ?_
      rintro e w' ⟨rfl, hw⟩
      subst w'
      go_wp2_with fail
      go_loopw [4, 3] (fun c v wr => ∃ k p : Nat, k ≤ s.size ∧ c = .int .i64 (k : Int) ∧ v = .int .i64 (p : Int) ∧ dcV (bs s) k = p ∧ wr = w) (fun c _ _ => s.size - (intOf c).toNat)
      case atStart => exact ⟨0, 0, Nat.zero_le _, rfl, rfl, rfl, rfl⟩
      case round =>
        obtain ⟨k, p, hk, rfl, rfl, hp, rfl⟩ := hrel
        have HP := hid hp
        have hp3 : p < 1000 := by
          have := HLT.out k hk
          rw [hp] at this
          have h10 : 10 ^ k ≤ 10 ^ 3 := Nat.pow_le_pow_right (by decide) (by omega)
          omega
        by_cases hlt : k < s.size
        · have hxk := bs_at hlt
          obtain ⟨x, hx⟩ : ∃ x, (s[k]).toNat = x := ⟨_, rfl⟩
          rw [hx] at hxk
          have hxr := alV_at HAL.out (k := k) (by rw [bs_len]; exact hlt)
          rw [hxk] at hxr
          obtain ⟨hx1, hx2⟩ := hxr
          have HN := hid (show dcV (bs s) (k + 1) = p * 10 + (x - 48) by rw [dcV, hp, hxk])
          clear hp hxk
          go_wp2
          go_roundw
          case rel => exact ⟨k + 1, p * 10 + (x - 48), by omega, by go_num, by go_num, HN.out, trivial⟩
          case measure => simp [intOf]; omega
        · have hke : k = s.size := by omega
          subst hke
          rw [HP.out] at HC
          clear hp
          by_cases h254 : p ≤ 254
          · have HT := hid (show T = some p by rw [HC.out, if_pos h254])
            go_wp2
            go_ret
            exact ⟨retI (by rw [HT.out]; rfl), rfl⟩
          · have HT := hid (show T = none by rw [HC.out, if_neg h254])
            go_wp2
            go_ret
            exact ⟨retI (by rw [HT.out]; rfl), rfl⟩
  · have e1 : (alV 48 57 (bs s) && decide (1 ≤ s.size ∧ s.size ≤ 3)) = false := by simpa using h1
    rw [e1] at HA
    rw [clV_no (fun x => h1 (by rw [x.2.1, Bool.true_and]; exact decide_eq_true x.1))]
    clear h1 e1
    go_enter Tryz.func33, Tryz.ntmps33
    go_wp2_with fail
    refine HA.out.mono ?_
    rintro e w' ⟨rfl, hw⟩
    subst w'
    go_wp2
    go_ret
    exact ⟨rfl, rfl⟩
end Go.Proofs.YtiekffkeagcaiaaGreatDoor
