/- Contracts of package sortnet's sweeps, over this seat's translation: which rows of pairs make the network. No conditions. -/
import Derived.Test.YtjdbofgjieljlaaFs
import Derived.Test.YtjdbofgjieljlaaSnQ
import Derived.Test.YtjdbofgjieljlaaBl
import Derived.Deep.RegionWith
import Derived.Deep.LoopGhost
namespace Go.Proofs.Ytjdbofgjieljlaa
open Go.RowKit

theorem Try.infoSweep : (Try.prog.info? 111).map (fun i => (i.zero, i.size, i.bytes)) = some (some (.agg #[.int .i64 0, .int .i64 0, .int .i64 0, .int .i64 0]), 4, 32) := by kernel_rfl

abbrev swv (s : Sw) : List Value := [.int .i64 s.bit, .int .i64 (s.odd * s.bit : Nat), .int .i64 s.far, .int .i64 s.fin]
def swcells : List Sw → List Value
  | [] => []
  | s :: l => .int .i64 s.bit :: .int .i64 (s.odd * s.bit : Nat) :: .int .i64 s.far :: .int .i64 s.fin :: swcells l
theorem swcells_snoc (l : List Sw) (s : Sw) : swcells (l ++ [s]) = swcells l ++ swv s := by
  induction l with
  | nil => rfl
  | cons x l ih => simp [swcells, ih]
theorem swcells_at (l : List Sw) (j : Nat) (h : j < l.length) : (swcells l)[j * 4]? = some (.int .i64 l[j].bit) ∧ (swcells l)[j * 4 + 1]? = some (.int .i64 (l[j].odd * l[j].bit : Nat)) ∧ (swcells l)[j * 4 + 2]? = some (.int .i64 l[j].far) ∧ (swcells l)[j * 4 + 3]? = some (.int .i64 l[j].fin) := by
  induction l generalizing j with
  | nil => simp at h
  | cons e l ih =>
    cases j with
    | zero => exact ⟨rfl, rfl, rfl, rfl⟩
    | succ j =>
      have := ih j (by simpa using h)
      have e1 : (j + 1) * 4 = j * 4 + 4 := by omega
      simp only [e1, swcells, List.getElem_cons_succ]
      exact this

def hp (q : Nat) : Nat := 2 ^ q / 2
theorem hp_succ (e : Nat) : hp (e + 1) = 2 ^ e := by unfold hp; rw [Nat.pow_succ]; omega
theorem wrap_pow (t : Nat) (h : t ≤ 13) : wrap64 ((2 : Int) ^ t) = ((2 ^ t : Nat) : Int) := by
  have h2 : 2 ^ t ≤ 2 ^ 13 := Nat.pow_le_pow_right (by omega) h
  have e : ((2 : Int) ^ t) = ((2 ^ t : Nat) : Int) := by simp
  rw [e]
  generalize 2 ^ t = x at *
  unfold wrap64; omega
theorem swv_one (s : Sw) : ∀ u ∈ swv s, u.oneCell' = true := by
  intro u hu
  simp only [swv, List.mem_cons, List.not_mem_nil, or_false] at hu
  rcases hu with rfl | rfl | rfl | rfl <;> rfl
set_option maxHeartbeats 1600000 in
theorem sweeps_any (z : Int) (w : World) :
    Calls Try.prog 78 #[.int .i64 z] w fun e w' => ∃ ad cap, e = .returned (.slice ad (swsOf z.toNat).length cap) ∧ w'.ownsRow w.heap.size 111 4 (.slice ad (swsOf z.toNat).length cap) (swsOf z.toNat).length (swcells (swsOf z.toNat)) ∧ Below w.heap.size w w' := by
  by_cases hz : z < 2 ∨ 12288 < z
  · have he : swsOf z.toNat = [] := by unfold swsOf; rw [if_pos (by omega)]
    rw [he]; clear he
    rcases hz with hz | hz
    · go_enter Try.func78, Try.ntmps78
      go_wp2
      go_ret
      exact ⟨none, 0, rfl, World.ownsRow_nil _ _ _ _, Below.refl _ _⟩
    · have hz2 : ¬ z < 2 := by omega
      go_enter Try.func78, Try.ntmps78
      go_wp2
      go_ret
      exact ⟨none, 0, rfl, World.ownsRow_nil _ _ _ _, Below.refl _ _⟩
  · obtain ⟨n, rfl⟩ : ∃ n : Nat, z = n := ⟨z.toNat, by omega⟩
    have h2 : 2 ≤ n := by omega
    have hm : n ≤ 12288 := by omega
    clear hz
    rw [Int.toNat_natCast]
    obtain ⟨k1, k2, k3, k4⟩ := top_facts n h2 hm
    have hT := hid (show swsOf n = passes n (topOf n) (topOf n + 1) from by unfold swsOf; rw [if_neg (by omega)])
    have c1 : ¬ ((n : Int) < 2) := by omega
    have c2 : ¬ ((12288 : Int) < n) := by omega
    go_enter Try.func78, Try.ntmps78
    go_wp2_with fail
    refine (bits_len ((n : Int) - 1) _ (by omega) (by omega)).mono ?_
    rintro e w1 ⟨rfl, rfl⟩
    rw [show ((n : Int) - 1).toNat = n - 1 by omega, k4]
    obtain ⟨t, ht⟩ : ∃ t, topOf n = t := ⟨_, rfl⟩
    rw [ht] at k1 k2 k3 k4 hT ⊢
    have hwp := wrap_pow t k3
    go_wp2_with fail
    rw [hwp]
    clear hwp c1 c2 k1 k4 ht
    obtain ⟨i0, hi, hz0, hz1, hz2⟩ := info_parts Try.infoSweep
    have HF := hid (show (swsOf n).length ≤ 196 from sws_len n)
    have HB0 := hid (Below.refl w1.heap.size w1)
    go_loopg [3, 5] (t + 1) (fun q all bit wr => ∃ (acc : List Sw) (sd : Option Addr) (sc : Nat), q ≤ t + 1 ∧ all = .slice sd acc.length sc ∧ bit = .int .i64 (hp q : Nat) ∧ Hid (swsOf n = acc ++ passes n t q) ∧
      wr.ownsRow w1.heap.size 111 4 (.slice sd acc.length sc) acc.length (swcells acc) ∧ Below w1.heap.size w1 wr)
    case atStart => exact ⟨[], none, 0, Nat.le_refl _, rfl, by rw [hp_succ], by rw [hT.out]; rfl, World.ownsRow_nil _ _ _ _, Below.refl _ _⟩
    case round =>
      obtain ⟨acc, sd, sc, hq, rfl, rfl, hA, hown, hB⟩ := hrel
      have hlen : acc.length ≤ 196 := by
        have h1 := HF.out
        rw [hA.out, List.length_append] at h1; omega
      cases gk with
      | zero =>
        have hA' : swsOf n = acc := by rw [hA.out]; simp [passes]
        have HA := hid hA'
        have HO := hid hown
        have HB := hid hB
        clear hA hown hB hA' hlen
        rw [show hp 0 = 0 from rfl]
        go_wp2
        go_ret
        rw [HA.out]
        exact ⟨sd, sc, rfl, HO.out, HB.out⟩
      | succ e =>
        rw [hp_succ]
        have hp0 : 0 < 2 ^ e := Nat.pow_pos (by omega)
        have hpt : 2 ^ e ≤ 2 ^ t := Nat.pow_le_pow_right (by omega) (by omega)
        have hA' : swsOf n = acc ++ ⟨2 ^ e, 0, 2 ^ e, n - 2 ^ e⟩ :: (inner n e (t - e) ++ passes n t e) := hA.out
        have HT := hid (show 2 ^ t = 2 ^ (e + (t - e)) by rw [show e + (t - e) = t by omega])
        obtain ⟨p, hpe⟩ : ∃ p, 2 ^ e = p := ⟨_, rfl⟩
        rw [hpe] at hp0 hpt hA' ⊢
        have HPE := hid hpe
        have HO := hid hown
        have HB := hid hB
        obtain ⟨wz, rfl⟩ : ∃ y, y = wr := ⟨_, rfl⟩
        have HA1 := hid (show swsOf n = (acc ++ [⟨p, 0, p, n - p⟩]) ++ (inner n e (t - e) ++ passes n t e) by rw [hA']; simp)
        have HX := hid (show swcells acc ++ [.int .i64 (p : Int), .int .i64 0, .int .i64 (p : Int), .int .i64 ((n : Int) - p)] = swcells (acc ++ [⟨p, 0, p, n - p⟩]) by
          rw [swcells_snoc]; simp only [swv, Nat.zero_mul]; rw [show ((n : Int) - p) = ((n - p : Nat) : Int) by omega]; rfl)
        clear hA hown hB hA' hpe
        go_wp2_with (at_builtin; refine wpList_append_own _ rfl (.tmp 25) (.tmp 32) 108 rfl w1.heap.size 111 i0 _ 4 32 Try.underlying108 hi hz0 hz1 hz2 rfl (by decide) _ acc.length (swcells acc) rfl (HO.out.alloc _) ⟨wz.heap.size, 0, none⟩ 1 1 [.int .i64 (p : Int), .int .i64 0, .int .i64 (p : Int), .int .i64 ((n : Int) - p)] rfl rfl (World.news_of_block (heap_alloc_at _ _)) (by intro u hu; simp at hu; rcases hu with rfl | rfl | rfl | rfl <;> rfl) (by unfold maxLen; omega) (by omega) (by have := HB.out.size; simp; omega) ?_; intro v' w5 hown' hgrow _; obtain ⟨sd', sc', rfl⟩ := owns_shape hown'; have HO5 := hid hown'; have HG5 := hid hgrow; clear hown' hgrow)
        have HB5 := hid (show Below w1.heap.size w1 w5 from (HB.out.alloc HB.out.size _).grown HG5.out (by have := HB.out.size; simp; omega) (fun q hq => (HO.out.lt q hq).1))
        go_loopg [3, 6] (t - e) (fun q all reach wr => ∃ (acc : List Sw) (sd : Option Addr) (sc : Nat), q ≤ t - e ∧ all = .slice sd acc.length sc ∧ reach = .int .i64 (2 ^ (e + q) : Nat) ∧ Hid (swsOf n = acc ++ (inner n e q ++ passes n t e)) ∧
          wr.ownsRow w1.heap.size 111 4 (.slice sd acc.length sc) acc.length (swcells acc) ∧ Below w1.heap.size w1 wr)
        case atStart =>
          have h5 := HO5.out
          rw [HX.out] at h5
          refine ⟨acc ++ [⟨p, 0, p, n - p⟩], sd', sc', Nat.le_refl _, by simp, by rw [← HT.out]; simp, HA1, by simpa using h5, HB5.out⟩
        case round =>
          clear HO HB HA1 HX HO5 HG5 HB5
          obtain ⟨acc', sd2, sc2, hq2, rfl, rfl, hA, hown, hB⟩ := hrel
          have hlen : acc'.length ≤ 196 := by
            have h1 := HF.out
            rw [hA.out, List.length_append] at h1; omega
          cases gk with
          | zero =>
            have HA := hid (show swsOf n = acc' ++ passes n t e by rw [hA.out]; simp [inner])
            have HO := hid hown
            have HB := hid hB
            clear hA hown hB
            rw [Nat.add_zero, HPE.out]
            go_wp2
            go_roundg e
            case measure => omega
            case rel => exact ⟨acc', sd2, sc2, by omega, rfl, by rw [show hp e = p / 2 by rw [← HPE.out]; rfl]; go_num, HA, HO.out, HB.out⟩
          | succ j =>
            have hr : 2 ^ (e + (j + 1)) = 2 * 2 ^ (e + j) := by rw [← Nat.add_assoc, Nat.pow_succ, Nat.mul_comm]
            have hrt : 2 ^ (e + (j + 1)) ≤ 2 ^ t := Nat.pow_le_pow_right (by omega) (by omega)
            have hrp : p ≤ 2 ^ (e + j) := by rw [← HPE.out]; exact Nat.pow_le_pow_right (by omega) (by omega)
            have hA' : swsOf n = acc' ++ ⟨2 ^ e, 1, 2 ^ (e + (j + 1)) - 2 ^ e, n - (2 ^ (e + (j + 1)) - 2 ^ e)⟩ :: (inner n e j ++ passes n t e) := hA.out
            obtain ⟨r, hre⟩ : ∃ r, 2 ^ (e + j) = r := ⟨_, rfl⟩
            rw [hre] at hr hrp
            rw [hr] at hrt hA' ⊢
            rw [HPE.out] at hA'
            have HRE := hid hre
            have HO := hid hown
            have HB := hid hB
            have HA1 := hid (show swsOf n = (acc' ++ [⟨p, 1, 2 * r - p, n - (2 * r - p)⟩]) ++ (inner n e j ++ passes n t e) by rw [hA']; simp)
            have HX := hid (show swcells acc' ++ [.int .i64 (p : Int), .int .i64 (p : Int), .int .i64 (2 * (r : Int) - p), .int .i64 ((n : Int) - (2 * (r : Int) - p))] = swcells (acc' ++ [⟨p, 1, 2 * r - p, n - (2 * r - p)⟩]) by
              rw [swcells_snoc]; simp only [swv, Nat.one_mul]; rw [show ((n : Int) - (2 * (r : Int) - p)) = ((n - (2 * r - p) : Nat) : Int) by omega, show (2 * (r : Int) - p) = ((2 * r - p : Nat) : Int) by omega])
            have hgt : (p : Int) < 2 * (r : Int) := by omega
            have hrn : 2 * r < n := by omega
            clear hA hown hB hA' hre hr hrt
            go_wp2_with (at_builtin; refine wpList_append_own _ rfl (.tmp 43) (.tmp 51) 108 rfl w1.heap.size 111 i0 _ 4 32 Try.underlying108 hi hz0 hz1 hz2 rfl (by decide) _ acc'.length (swcells acc') rfl (HO.out.alloc _) ⟨wr.heap.size, 0, none⟩ 1 1 [.int .i64 (p : Int), .int .i64 (p : Int), .int .i64 (2 * (r : Int) - p), .int .i64 ((n : Int) - (2 * (r : Int) - p))] rfl rfl (World.news_of_block (heap_alloc_at _ _)) (by intro u hu; simp at hu; rcases hu with rfl | rfl | rfl | rfl <;> rfl) (by unfold maxLen; omega) (by omega) (by have := HB.out.size; simp; omega) ?_; intro v' w6 hown' hgrow _; obtain ⟨sd', sc', rfl⟩ := owns_shape hown'; have HO5 := hid hown'; have HG5 := hid hgrow; clear hown' hgrow)
            go_roundg j
            case measure => omega
            case rel =>
              have h5 := HO5.out
              rw [HX.out] at h5
              exact ⟨acc' ++ [⟨p, 1, 2 * r - p, n - (2 * r - p)⟩], sd', sc', by omega, by simp, by rw [HRE.out], HA1, by simpa using h5, (HB.out.alloc HB.out.size _).grown HG5.out (by have := HB.out.size; simp; omega) (fun q hq => (HO.out.lt q hq).1)⟩
end Go.Proofs.Ytjdbofgjieljlaa
