/- The contracts of package chart's pointOf and the document's Point, over this seat's translation. Conditions: none but a word's size. -/
import Derived.Test.YtgalmlelnolodaaGreatDoorChA
namespace Go.Proofs.YtgalmlelnolodaaGreatDoor
open Go.RowKit

theorem or16 {p d : Nat} (h : d < 16) : p * 16 ||| d = p * 16 + d := by
  have := Nat.two_pow_add_eq_or_of_lt (i := 4) (b := d) (by omega) p
  rw [show 2 ^ 4 * p = p * 16 by omega] at this
  exact this.symm
theorem ptV_out {s : ByteArray} (h : s.size < 4 ∨ 6 < s.size ∨ (4 < s.size ∧ (bs s).getD 0 0 = 48)) : ptV (bs s) = none := by
  unfold ptV; rw [bs_len, if_pos h]
theorem ptV_in {s : ByteArray} (h : ¬ (s.size < 4 ∨ 6 < s.size ∨ (4 < s.size ∧ (bs s).getD 0 0 = 48))) : ptV (bs s) = (hxV (bs s) s.size).bind fun p => if p ≤ 1114111 then some p else none := by
  unfold ptV; rw [bs_len, if_neg h]; cases hxV (bs s) s.size <;> rfl
theorem hxV_step {l : List Nat} {k p d : Nat} (h : hxV l k = some p) (hd : dgV (l.getD k 0) = some d) : hxV l (k + 1) = some (p * 16 + d) := by
  rw [hxV, h, hd]
theorem hxV_stop {l : List Nat} {k p : Nat} (h : hxV l k = some p) (hd : dgV (l.getD k 0) = none) : hxV l (k + 1) = none := by
  rw [hxV, h, hd]
theorem hxV_16 {l : List Nat} {k p : Nat} (h : hxV l k = some p) (hk : k ≤ 5) : p < 1048576 :=
  Nat.lt_of_lt_of_le (hxV_lt l k p h) (Nat.pow_le_pow_right (by decide) hk)
abbrev ptR (o : Option Nat) : Ending := .returned (.tuple #[.int .u32 ((o.getD 0 : Nat) : Int), .bool o.isSome])
set_option maxHeartbeats 3200000 in
theorem pointOf_any (s : ByteArray) (w : World) (hs : s.size ≤ 4000000000) :
    Calls Tryz.prog 95 #[.string s] w fun e w' => e = ptR (ptV (bs s)) ∧ Below w.heap.size w w' := by
  by_cases h4 : s.size < 4
  · rw [ptV_out (Or.inl h4)]
    go_enter Tryz.func95, Tryz.ntmps95
    go_wp2
    exact bodyPost_ret (v := .tuple #[.int .u32 0, .bool false]) (by simp [results, Tryz.results95, go_sem]) rfl ⟨rfl, Below.refl _ _⟩
  by_cases h6 : 6 < s.size
  · rw [ptV_out (Or.inr (Or.inl h6))]
    go_enter Tryz.func95, Tryz.ntmps95
    go_wp2
    exact bodyPost_ret (v := .tuple #[.int .u32 0, .bool false]) (by simp [results, Tryz.results95, go_sem]) rfl ⟨rfl, Below.refl _ _⟩
  have hb0 : (bs s).getD 0 0 = (s[0]'(by omega)).toNat := bs_at (by omega)
  by_cases h0 : 4 < s.size ∧ (bs s).getD 0 0 = 48
  · rw [ptV_out (Or.inr (Or.inr h0))]
    obtain ⟨h5, h0⟩ := h0
    have hx0 : ((((s[0]'(by omega)).toNat : Nat) : Int) == 48) = true := by rw [← hb0, h0]; rfl
    clear hb0
    go_enter Tryz.func95, Tryz.ntmps95
    go_wp2
    exact bodyPost_ret (v := .tuple #[.int .u32 0, .bool false]) (by simp [results, Tryz.results95, go_sem]) rfl ⟨rfl, Below.refl _ _⟩
  have HE := hid (ptV_in (s := s) (by omega))
  have hsz : s.size ≤ 6 := by omega
  have main : ∀ T : Option Nat, ptV (bs s) = T → Calls Tryz.prog 95 #[.string s] w fun e w' => e = ptR T ∧ Below w.heap.size w w' := by
    intro T hT
    rw [hT] at HE
    have hx0 : 4 < s.size → ((((s[0]'(by omega)).toNat : Nat) : Int) == 48) = false := fun h5 => by
      have hne : (s[0]'(by omega)).toNat ≠ 48 := fun e => h0 ⟨h5, hb0.trans e⟩
      simp
      omega
    clear hb0 h0 hT
    by_cases h5 : 4 < s.size
    all_goals
      first | (have hx1 := hx0 h5) | skip
      clear hx0
      go_enter Tryz.func95, Tryz.ntmps95
      go_wp2_with fail
      go_loopw [28, 4] (fun c v wr => ∃ k p : Nat, k ≤ s.size ∧ c = .int .i64 (k : Int) ∧ v = .int .u32 (p : Int) ∧ hxV (bs s) k = some p ∧ wr = w) (fun c _ _ => s.size - (intOf c).toNat)
      case atStart => exact ⟨0, 0, Nat.zero_le _, rfl, rfl, rfl, rfl⟩
      case round =>
        obtain ⟨k, p, hk, rfl, rfl, hp, rfl⟩ := hrel
        have HP := hid hp
        by_cases hlt : k < s.size
        · have hxk := bs_at hlt
          have hx8 : (s[k]).toNat < 256 := (s[k]).toNat_lt
          obtain ⟨x, hx⟩ : ∃ x, (s[k]).toNat = x := ⟨_, rfl⟩
          have hp6 := hxV_16 hp (by omega)
          rw [hx] at hxk hx8
          cases hd : dgV x with
          | none =>
            have HN := hid (hxV_none (hxV_stop hp (by rw [hxk]; exact hd)) (show k + 1 ≤ s.size by omega))
            have HD := hid hd
            clear hp hd hxk
            go_wp2_with fail
            refine (digitOf_any x _ hx8).mono ?_
            rintro e w' ⟨rfl, hw⟩
            subst w'
            rw [HD.out]
            go_wp2
            rw [HN.out] at HE
            exact bodyPost_ret (v := .tuple #[.int .u32 0, .bool false]) (by simp [results, Tryz.results95, go_sem]) rfl ⟨by rw [HE.out]; rfl, Below.refl _ _⟩
          | some d =>
            have HN := hid (hxV_step hp (by rw [hxk]; exact hd))
            have hd16 := dgV_lt hd
            have HD := hid hd
            have HO := hid (u32_or_nat (p * 16) d (by omega) (by omega))
            have HR := hid (or16 (p := p) hd16)
            clear hp hd hxk
            go_wp2_with fail
            refine (digitOf_any x _ hx8).mono ?_
            rintro e w' ⟨rfl, hw⟩
            subst w'
            rw [HD.out]
            go_wp2
            go_roundw
            case rel => exact ⟨k + 1, p * 16 + d, by omega, by go_num, by rw [show ((p : Int) * 16) = ((p * 16 : Nat) : Int) by omega, HO.out, HR.out], HN.out, trivial⟩
            case measure => simp [intOf]; omega
        · have hke : k = s.size := by omega
          subst hke
          rw [HP.out] at HE
          by_cases hm : p ≤ 1114111
          · have HT := hid (show T = some p by rw [HE.out]; simp [hm])
            clear hp HP HE
            go_wp2
            exact bodyPost_ret (v := .tuple #[.int .u32 (p : Int), .bool true]) (by simp [results, Tryz.results95, go_sem]) rfl ⟨by rw [HT.out]; rfl, Below.refl _ _⟩
          · have HT := hid (show T = none by rw [HE.out]; simp [hm])
            clear hp HP HE
            go_wp2
            exact bodyPost_ret (v := .tuple #[.int .u32 0, .bool false]) (by simp [results, Tryz.results95, go_sem]) rfl ⟨by rw [HT.out]; rfl, Below.refl _ _⟩
  exact main _ rfl
def ptI (o : Option Nat) : Int := match o with
  | some p => (p : Int)
  | none => -1
set_option maxHeartbeats 3200000 in
theorem rpoint_any (s : ByteArray) (w : World) (hs : s.size ≤ 4000000000) :
    Calls Tryz.prog 61 #[.string s] w fun e w' => e = .returned (.int .i64 (ptI (ptV (bs s)))) ∧ Below w.heap.size w w' := by
  by_cases h4 : s.size < 4
  · rw [ptV_out (Or.inl h4)]
    go_enter Tryz.func61, Tryz.ntmps61
    go_wp2
    go_ret
    exact ⟨rfl, Below.refl _ _⟩
  by_cases h6 : 6 < s.size
  · rw [ptV_out (Or.inr (Or.inl h6))]
    go_enter Tryz.func61, Tryz.ntmps61
    go_wp2
    go_ret
    exact ⟨rfl, Below.refl _ _⟩
  have hb0 : (bs s).getD 0 0 = (s[0]'(by omega)).toNat := bs_at (by omega)
  by_cases h0 : 4 < s.size ∧ (bs s).getD 0 0 = 48
  · rw [ptV_out (Or.inr (Or.inr h0))]
    obtain ⟨h5, h0⟩ := h0
    have hx0 : ((((s[0]'(by omega)).toNat : Nat) : Int) == 48) = true := by rw [← hb0, h0]; rfl
    clear hb0
    go_enter Tryz.func61, Tryz.ntmps61
    go_wp2
    go_ret
    exact ⟨rfl, Below.refl _ _⟩
  have HE := hid (ptV_in (s := s) (by omega))
  have hsz : s.size ≤ 6 := by omega
  have main : ∀ T : Option Nat, ptV (bs s) = T → Calls Tryz.prog 61 #[.string s] w fun e w' => e = .returned (.int .i64 (ptI T)) ∧ Below w.heap.size w w' := by
    intro T hT
    rw [hT] at HE
    have hx0 : 4 < s.size → ((((s[0]'(by omega)).toNat : Nat) : Int) == 48) = false := fun h5 => by
      have hne : (s[0]'(by omega)).toNat ≠ 48 := fun e => h0 ⟨h5, hb0.trans e⟩
      simp
      omega
    clear hb0 h0 hT
    by_cases h5 : 4 < s.size
    all_goals
      first | (have hx1 := hx0 h5) | skip
      clear hx0
      go_enter Tryz.func61, Tryz.ntmps61
      go_wp2_with fail
      go_loopw [4, 3] (fun c v wr => ∃ k p : Nat, k ≤ s.size ∧ c = .int .i64 (k : Int) ∧ v = .int .i64 (p : Int) ∧ hxV (bs s) k = some p ∧ wr = w) (fun c _ _ => s.size - (intOf c).toNat)
      case atStart => exact ⟨0, 0, Nat.zero_le _, rfl, rfl, rfl, rfl⟩
      case round =>
        obtain ⟨k, p, hk, rfl, rfl, hp, rfl⟩ := hrel
        have HP := hid hp
        by_cases hlt : k < s.size
        · have hxk := bs_at hlt
          have hx8 : (s[k]).toNat < 256 := (s[k]).toNat_lt
          obtain ⟨x, hx⟩ : ∃ x, (s[k]).toNat = x := ⟨_, rfl⟩
          have hp6 := hxV_16 hp (by omega)
          rw [hx] at hxk hx8
          cases hd : dgV x with
          | none =>
            have HN := hid (hxV_none (hxV_stop hp (by rw [hxk]; exact hd)) (show k + 1 ≤ s.size by omega))
            have HD := hid hd
            clear hp hd hxk
            go_wp2_with fail
            refine (rdigit_any x _ hx8).mono ?_
            rintro e w' ⟨rfl, hw⟩
            subst w'
            rw [HD.out]
            go_wp2
            rw [HN.out] at HE
            go_ret
            exact ⟨by rw [HE.out]; rfl, Below.refl _ _⟩
          | some d =>
            have HN := hid (hxV_step hp (by rw [hxk]; exact hd))
            have hd16 := dgV_lt hd
            have HD := hid hd
            clear hp hd hxk
            go_wp2_with fail
            refine (rdigit_any x _ hx8).mono ?_
            rintro e w' ⟨rfl, hw⟩
            subst w'
            rw [HD.out]
            go_wp2
            go_roundw
            case rel => exact ⟨k + 1, p * 16 + d, by omega, by go_num, by go_num, HN.out, trivial⟩
            case measure => simp [intOf]; omega
        · have hke : k = s.size := by omega
          subst hke
          rw [HP.out] at HE
          by_cases hm : p ≤ 1114111
          · have HT := hid (show T = some p by rw [HE.out]; simp [hm])
            clear hp HP HE
            go_wp2
            go_ret
            exact ⟨by rw [HT.out]; rfl, Below.refl _ _⟩
          · have HT := hid (show T = none by rw [HE.out]; simp [hm])
            clear hp HP HE
            go_wp2
            go_ret
            exact ⟨by rw [HT.out]; rfl, Below.refl _ _⟩
  exact main _ rfl
end Go.Proofs.YtgalmlelnolodaaGreatDoor
