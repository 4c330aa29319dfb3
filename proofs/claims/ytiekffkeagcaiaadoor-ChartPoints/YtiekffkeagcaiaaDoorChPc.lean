/- The contract of the document's Points, over this seat's translation. Conditions: up to a thousand numbers. -/
import Derived.Test.YtiekffkeagcaiaaDoorChPb
namespace Go.Proofs.YtiekffkeagcaiaaDoor
open Go.RowKit
set_option linter.unusedVariables false

theorem hex_ext : ∀ y : Fin 16, (⟨#[48, 49, 50, 51, 52, 53, 54, 55, 56, 57, 65, 66, 67, 68, 69, 70]⟩ : ByteArray).extract y.val (y.val + 1) = ⟨#[HU y.val]⟩ := by decide +kernel
theorem hex_put {y : Nat} (h : y < 16) (l : List UInt8) : (⟨#[48, 49, 50, 51, 52, 53, 54, 55, 56, 57, 65, 66, 67, 68, 69, 70]⟩ : ByteArray).extract y (y + 1) ++ mkS l = mkS (HU y :: l) := by
  rw [hex_ext ⟨y, h⟩]
  refine ext_toList ?_
  rw [append_toList, mkS_toList, mkS_toList]
  rfl
theorem put_63 (l : List UInt8) : mkS l ++ ⟨#[63]⟩ = mkS (l ++ [63]) := ext_toList (by rw [append_toList, mkS_toList, mkS_toList])
theorem put_32 (l : List UInt8) : mkS l ++ ⟨#[32]⟩ = mkS (l ++ [32]) := ext_toList (by rw [append_toList, mkS_toList, mkS_toList])
theorem put_l (l r : List UInt8) : mkS l ++ mkS r = mkS (l ++ r) := ext_toList (by rw [append_toList, mkS_toList, mkS_toList, mkS_toList])
theorem mkS_size (l : List UInt8) : (mkS l).size = l.length := by rw [Lib.size_eq, mkS_toList]
/-- what stands ahead of word k -/
def pre (l : List Nat) (k : Nat) : List UInt8 := if k = 0 then [] else jn (l.take k) ++ [32]
theorem pre_next {l : List Nat} {k : Nat} (h : k < l.length) : jn (l.take (k + 1)) = pre l k ++ wq l[k] := by
  unfold pre
  rw [List.take_add_one, List.getElem?_eq_getElem h]
  by_cases h0 : k = 0
  · subst h0; rw [if_pos rfl, List.take_zero]; exact jn_one _
  · rw [if_neg h0, Option.toList_some, jn_snoc _ _ (fun e => by have := congrArg List.length e; rw [List.length_take, List.length_nil] at this; omega), List.append_assoc]; rfl
theorem pre_len (l : List Nat) (k : Nat) : (pre l k).length ≤ 7 * l.length + 1 := by
  unfold pre
  split
  · simp
  · have h1 := jn_len (l.take k)
    have h2 : (l.take k).length ≤ l.length := by rw [List.length_take]; omega
    rw [List.length_append, List.length_singleton]
    omega
def szOf : Value → Nat
  | .string s => s.size
  | _ => 0
set_option maxHeartbeats 3200000 in
theorem rpointsq_any (ad : Option Addr) (l : List Nat) (c : Nat) (w : World) (hx : ∀ j (h : j < l.length), ∃ x, ad = some x ∧ w.cell? (x.add j) = some (.int .u32 (l[j] : Int))) (hn : l.length ≤ 1000) (hl : ∀ p ∈ l, p < 4294967296) :
    Calls Tryd.prog 6 #[.slice ad l.length c] w fun e w' => e = .returned (.string (mkS (jn l))) ∧ w' = w := by
  have HX := hid hx
  have HL := hid (show ∀ k (h : k < l.length), l[k] < 4294967296 from fun k h => hl _ (List.getElem_mem h))
  have HPL := hid (pre_len l)
  have HJL := hid (fun k => jn_len (l.take k))
  obtain ⟨N, hN⟩ : ∃ N, l.length = N := ⟨_, rfl⟩
  have HN := hid hN
  rw [hN] at hn ⊢
  clear hx hl hN
  go_enter Tryd.func6, Tryd.ntmps6
  go_wp2_with fail
  go_loopw [3, 4] (fun o i wr => ∃ k : Nat, k ≤ N ∧ i = .int .i64 (k : Int) ∧ o = .string (mkS (jn (l.take k))) ∧ wr = w) (fun _ i _ => N - (intOf i).toNat)
  case atStart => exact ⟨0, Nat.zero_le _, rfl, rfl, rfl⟩
  case round =>
    obtain ⟨k, hk, rfl, rfl, rfl⟩ := hrel
    by_cases hlt : k < N
    · have hlk : k < l.length := by rw [HN.out]; exact hlt
      obtain ⟨x, hxe, hxc⟩ := HX.out k hlk
      subst hxe
      have kc := hxc
      obtain ⟨p, hp⟩ : ∃ p, l[k] = p := ⟨_, rfl⟩
      have HNX := hid (show jn (l.take (k + 1)) = pre l k ++ wq p from by rw [pre_next hlk, hp])
      have hp6 : p < 4294967296 := by rw [← hp]; exact HL.out k hlk
      rw [hp] at kc
      have hj7 : (mkS (jn (l.take k))).size ≤ 7007 := by
        have h1 := HJL.out k
        have h2 : (l.take k).length ≤ l.length := by rw [List.length_take]; omega
        have h3 := HN.out
        rw [mkS_size]; omega
      obtain ⟨J, hJ⟩ : ∃ J, mkS (jn (l.take k)) = J := ⟨_, rfl⟩
      rw [hJ] at hj7 ⊢
      have HP := hid (show mkS (pre l k) = if k = 0 then J else J ++ ⟨#[32]⟩ from by
        unfold pre
        by_cases h0 : k = 0
        · subst h0; rw [if_pos rfl, if_pos rfl, ← hJ]; rfl
        · rw [if_neg h0, if_neg h0, ← hJ, put_32])
      have hp7 : (mkS (pre l k)).size ≤ 7007 := by have h1 := HPL.out k; have h3 := HN.out; rw [mkS_size]; omega
      have HLT := hid hlt
      clear hxc hlk hp hk
      go_upto_if 15 with fail
      go_cut [3] from 16 to 17 (fun o wx => o = .string (mkS (pre l k)) ∧ wx = wr)
      case first =>
        by_cases h0 : k = 0
        · subst h0
          go_wp2_with fail
          go_meet
          case rel => exact ⟨by rw [HP.out]; simp, rfl⟩
        · have hk0 : (0 : Int) < (k : Int) := by omega
          have hsum : ¬ (9223372036854775807 < J.size + (⟨#[32]⟩ : ByteArray).size) := by have : (⟨#[32]⟩ : ByteArray).size = 1 := rfl; omega
          go_wp2_with fail
          go_meet
          case rel => exact ⟨by rw [HP.out, if_neg h0], rfl⟩
      case rest =>
        obtain ⟨rfl, rfl⟩ := hcut
        obtain ⟨Q, hQ⟩ : ∃ Q, mkS (pre l k) = Q := ⟨_, rfl⟩
        rw [hQ] at hp7 ⊢
        have HQ := hid hQ
        clear hQ hJ hj7 HP
        by_cases hv : p ≤ 1114111
        · have hvi : ((1114111 : Int) < (p : Int)) = False := eq_false (by omega)
          have HWQ := hid (show wq p = wl p from by unfold wq; rw [if_pos hv])
          have HV := hid hv
          clear hv
          go_wp2_with fail
          go_loopw [5, 6] (fun s n wy => ∃ j : Nat, j ≤ 6 ∧ s = .string (mkS (dgB j p)) ∧ n = .int .u32 ((p / 16 ^ j : Nat) : Int) ∧ (j ≤ 4 ∨ 16 ^ (j - 1) ≤ p) ∧ wy = wc) (fun s n _ => (intOf n).toNat + (8 - szOf s))
          case atStart => exact ⟨0, by decide, rfl, by rw [Nat.pow_zero, Nat.div_one], Or.inl (by decide), rfl⟩
          case round =>
            obtain ⟨j, hj6, rfl, rfl, hjp, rfl⟩ := hrel
            have HJP := hid hjp
            have hsz : (mkS (dgB j p)).size = j := by rw [mkS_size, dgB_len]
            obtain ⟨x16, hx16⟩ : ∃ x, p / 16 ^ j = x := ⟨_, rfl⟩
            have HX16 := hid hx16
            obtain ⟨S, hS⟩ : ∃ S, mkS (dgB j p) = S := ⟨_, rfl⟩
            have HS := hid hS
            rw [hS] at hsz
            rw [hx16, hS]
            have hx32 : x16 < 4294967296 := by rw [← hx16]; exact Nat.lt_of_le_of_lt (Nat.div_le_self _ _) hp6
            obtain ⟨y, hy⟩ : ∃ y, x16 % 16 = y := ⟨_, rfl⟩
            have hy16 : y < 16 := by omega
            obtain ⟨z, hz⟩ : ∃ z, x16 / 16 = z := ⟨_, rfl⟩
            have tm : Int.tmod (x16 : Int) 16 = (y : Int) := by rw [← hy]; rfl
            have tq : Int.tdiv (x16 : Int) 16 = (z : Int) := by rw [← hz]; rfl
            have em : (x16 : Int) % 16 = (y : Int) := by omega
            have eq : (x16 : Int) / 16 = (z : Int) := by omega
            have hz6 : z ≤ x16 := by omega
            have HE := hid (show mkS (dgB (j + 1) p) = (⟨#[48, 49, 50, 51, 52, 53, 54, 55, 56, 57, 65, 66, 67, 68, 69, 70]⟩ : ByteArray).extract y (y + 1) ++ S from by
              rw [dgB, ← hS, hex_put hy16, hx16, hy])
            have HZ := hid (show p / 16 ^ (j + 1) = z from by rw [Nat.pow_succ, ← Nat.div_div_eq_div_mul, hx16, hz])
            have hes : ((⟨#[48, 49, 50, 51, 52, 53, 54, 55, 56, 57, 65, 66, 67, 68, 69, 70]⟩ : ByteArray).extract y (y + 1)).size = 1 := by rw [hex_ext ⟨y, hy16⟩]; rfl
            have hsz2 : ((⟨#[48, 49, 50, 51, 52, 53, 54, 55, 56, 57, 65, 66, 67, 68, 69, 70]⟩ : ByteArray).extract y (y + 1) ++ S).size = j + 1 := by rw [ByteArray.size_append, hes, hsz]; omega
            have HSZ2 := hid (show szOf (.string ((⟨#[48, 49, 50, 51, 52, 53, 54, 55, 56, 57, 65, 66, 67, 68, 69, 70]⟩ : ByteArray).extract y (y + 1) ++ S)) = j + 1 from hsz2)
            have HSZ1 := hid (show szOf (.string S) = j from hsz)
            have hsum : ¬ (9223372036854775807 < ((⟨#[48, 49, 50, 51, 52, 53, 54, 55, 56, 57, 65, 66, 67, 68, 69, 70]⟩ : ByteArray).extract y (y + 1)).size + S.size) := by omega
            clear hx16 hS hjp hsz2
            have more : (0 < x16 ∨ j < 4) → j + 1 ≤ 6 ∧ (j + 1 ≤ 4 ∨ 16 ^ (j + 1 - 1) ≤ p) := by
              intro h
              rcases h with h | h
              · have h1 : 16 ^ j ≤ p := by
                  have := HX16.out
                  rcases Nat.lt_or_ge p (16 ^ j) with h2 | h2
                  · rw [Nat.div_eq_of_lt h2] at this; omega
                  · exact h2
                refine ⟨?_, Or.inr h1⟩
                rcases Nat.lt_or_ge j 6 with h2 | h2
                · omega
                · have : j = 6 := by omega
                  subst this
                  have hv := HV.out
                  rw [show (16 : Nat) ^ 6 = 16777216 from rfl] at h1
                  omega
              · exact ⟨by omega, Or.inl (by omega)⟩
            have MORE := hid more
            clear more
            by_cases hx0 : 0 < x16
            · have hx0i : (0 : Int) < (x16 : Int) := by omega
              have HM := hid (MORE.out (Or.inl hx0))
              go_wp2_with fail
              go_roundw
              case rel => exact ⟨j + 1, HM.out.1, by rw [HE.out], by rw [HZ.out], HM.out.2, trivial⟩
              case measure => rw [HSZ2.out, HSZ1.out]; simp [intOf]; omega
            · obtain rfl : x16 = 0 := by omega
              obtain rfl : y = 0 := by omega
              obtain rfl : z = 0 := by omega
              have HSZ0 := hid (show szOf (.string ((⟨#[48, 49, 50, 51, 52, 53, 54, 55, 56, 57, 65, 66, 67, 68, 69, 70]⟩ : ByteArray).extract 0 1 ++ S)) = j + 1 from HSZ2.out)
              clear hx0 tm tq em eq hy hz hz6 hx32 hy16
              by_cases hj4 : j < 4
              · have hj4i : ((j : Int) < 4) := by omega
                have HM := hid (MORE.out (Or.inr hj4))
                go_wp2_with fail
                go_roundw
                case rel => exact ⟨j + 1, HM.out.1, by rw [HE.out], by rw [HZ.out]; rfl, HM.out.2, trivial⟩
                case measure => rw [HSZ0.out, HSZ1.out]; simp [intOf]; omega
              · have hj4i : ((j : Int) < 4) = False := eq_false (by omega)
                have HEND := hid (show wl p = dgB j p from wl_dgB (by omega) hj6 (by
                  have h := HX16.out
                  rcases Nat.lt_or_ge p (16 ^ j) with h2 | h2
                  · exact h2
                  · have := (Nat.le_div_iff_mul_le (Nat.pow_pos (by decide : 0 < 16))).2 (show 1 * 16 ^ j ≤ p by omega)
                    omega) (by rcases HJP.out with h | h; exact Or.inl (by omega); exact Or.inr h))
                have HFIN := hid (show mkS (jn (l.take (k + 1))) = Q ++ S from by rw [HNX.out, HWQ.out, HEND.out, ← HQ.out, ← HS.out, put_l])
                have hsum2 : ¬ (9223372036854775807 < Q.size + S.size) := by omega
                clear hsum hes hj4
                go_wp2_with fail
                go_roundw
                case rel => exact ⟨k + 1, HLT.out, by go_num, by rw [HFIN.out], trivial⟩
                case measure => have := HLT.out; simp [intOf]; omega
        · have hvi : (1114111 : Int) < (p : Int) := by omega
          have HWQ := hid (show wq p = [63] from by unfold wq; rw [if_neg hv])
          have HFIN := hid (show mkS (jn (l.take (k + 1))) = Q ++ ⟨#[63]⟩ from by rw [HNX.out, HWQ.out, ← HQ.out, put_63])
          have hsum : ¬ (9223372036854775807 < Q.size + (⟨#[63]⟩ : ByteArray).size) := by have : (⟨#[63]⟩ : ByteArray).size = 1 := rfl; omega
          go_wp2_with fail
          go_roundw
          case rel => exact ⟨k + 1, HLT.out, by go_num, by rw [HFIN.out], trivial⟩
          case measure => have := HLT.out; simp [intOf]; omega
    · have hke : k = N := by omega
      subst hke
      have hte : l.take k = l := List.take_of_length_le (by rw [HN.out]; exact Nat.le_refl _)
      rw [hte]
      clear hlt hk hte
      go_wp2
      exact bodyPost_ret (by simp [results, Tryd.results6, go_sem]) rfl ⟨rfl, rfl⟩
end Go.Proofs.YtiekffkeagcaiaaDoor
