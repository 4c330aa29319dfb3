/- The law ChartDecomps, over this seat's translation: its walk, out of what its awake answers. Conditions: a text's size is an int; what the library's variables hold is some number, some errors. -/
import Derived.Test.YtiekffkeagcaiaaGreatDoorChX
import Derived.Test.YtiekffkeagcaiaaGreatDoorChMf
import Derived.Test.YtiekffkeagcaiaaGreatDoorChMs
import Derived.BigQuiet
namespace Go.Proofs.YtiekffkeagcaiaaGreatDoor
open Go.RowKit
set_option linter.unusedVariables false

set_option maxHeartbeats 3200000 in
set_option maxRecDepth 2000 in
theorem decomps_walk (s : ByteArray) (w : World) (hs : s.size ≤ 9223372036854775807) (v : Vr w)
    (HA : Calls Tryz.prog 7 #[] w fun e w' => e = .returned (.bool true) ∧ Below w.heap.size w w') :
    Calls Tryz.prog 5 #[.string s] w fun e w' => e = .returned (.bool true) ∧ Below w.heap.size w w' := by
  have HAW := hid HA
  have V0 := hid v
  clear HA v
  go_enter Tryz.func5, Tryz.ntmps5
  go_wp2_with fail
  refine HAW.out.mono ?_
  rintro e w1 ⟨rfl, hB⟩
  have B1 := hid hB
  have V1 := hid (V0.out.below hB)
  clear hB HAW V0
  by_cases hlen : 2000 < s.size
  · have hl2 : (2000 : Int) < (s.size : Int) := by omega
    clear hlen
    go_wp2
    go_ret
    exact ⟨rfl, B1.out⟩
  · have hl2 : ¬ (2000 : Int) < (s.size : Int) := by omega
    have hs6 : s.size ≤ 1000000 := by omega
    have C1 := hid (decomps_any s w1 V1.out hs6)
    have C2 := hid (fun w => rdecomps_any s w hs6)
    have HLN := hid (lwV_cap s)
    clear hs6 hlen
    go_wp2_with fail
    refine C1.out.mono ?_
    rintro e w2 ⟨ad1, cap1, at1, its, vs1, rfl, hr1, ho1, hb1⟩
    have R1 := hid hr1
    have O1 := hid ho1
    have B2 := hid (belowCat B1.out hb1)
    obtain ⟨E1, hE⟩ : ∃ E : Int, (if at1 = 0 then 0 else 3) = E := ⟨_, rfl⟩
    rw [hE]
    have HE1 := hid hE
    clear hE hr1 ho1 hb1 C1
    go_wp2_with fail
    refine (C2.out _).mono ?_
    rintro e w3 ⟨ad2, cap2, at2, its2, vs2, rfl, hr2, ho2, hb2⟩
    have hr2' := R1.out.symm.trans hr2
    obtain ⟨rfl, rfl⟩ := Prod.mk.inj hr2'
    have O2 := hid ho2
    have O1 := hid (O1.out.below hb2)
    have B5 := hid (belowCat B2.out hb2)
    clear hr2 hr2' ho2 hb2 C2 B2
    obtain ⟨n1, hn1⟩ : ∃ n, its.length = n := ⟨_, rfl⟩
    rw [hn1] at O1 O2 ⊢
    have F1 := hid (fun w => fits_any at1 n1 w (fun h => by rw [← hn1, rsV_off R1.out h]; rfl))
    rw [HE1.out] at F1
    have hm1 : n1 ≤ 2001 := by
      by_cases h : at1 = 0
      · subst h; have := rsV_len R1.out; have := HLN.out; omega
      · rw [← hn1, rsV_off R1.out h]; exact Nat.zero_le _
    have N1 := hid hn1
    clear hn1
    go_wp2_with fail
    refine (F1.out _).mono ?_
    rintro e w' ⟨rfl, rfl⟩
    have BX := hid (Below.refl w'.heap.size w')
    clear F1
    go_wp2_with fail
    go_loopw [36] (fun i wr => ∃ k : Nat, k ≤ n1 ∧ i = .int .i64 (k : Int) ∧ Below w'.heap.size w' wr) (fun i _ => n1 - (intOf i).toNat)
    case atStart => exact ⟨0, Nat.zero_le _, rfl, BX.out⟩
    case round =>
      obtain ⟨k, hk, rfl, hB⟩ := hrel
      have HB := hid hB
      by_cases hlt : k < n1
      · obtain ⟨g1, q1, c1, rfl, x0, x1, x2, x3, _, hu1⟩ := (O1.out.below hB).at N1.out.symm k (by rw [N1.out]; exact hlt)
        obtain ⟨g2, q2, c2, rfl, y0, y1, y2, y3, _, hu2⟩ := (O2.out.below hB).at N1.out.symm k (by rw [N1.out]; exact hlt)
        obtain ⟨d, hd⟩ : ∃ d, its[k]'(by rw [N1.out]; exact hlt) = d := ⟨_, rfl⟩
        obtain ⟨_, hws⟩ := rsV_each R1.out (its[k]'(by rw [N1.out]; exact hlt)) (List.getElem_mem _)
        obtain ⟨_, _, hl3, _⟩ := dcOf_r hws
        rw [hd] at x0 x1 x2 x3 y0 y1 y2 y3 hu1 hu2 hl3
        clear hws
        obtain ⟨p, l, c, a⟩ := d
        simp only at x0 x1 x2 x3 y0 y1 y2 y3 hu1 hu2 hl3
        have HSA := hid (fun n => same_any (wr.drewN n) q1 q2 c1 c2 l (by omega) hu1 hu2)
        have hwk : IntKind.i64.wrap (k : Int) = (k : Int) := by rw [IntKind.wrap_i64]; omega
        have HLT := hid hlt
        clear hB hk hd hu1 hu2 hl3
        go_wp2_with fail
        go_quiet ((go_at_call 19; with_reducible exact Calls.quiet_of (HSA.out _)))
        clear x0 x1 x2 x3 y0 y1 y2 y3 hwk
        have B9 := hid (belowDN HB.out nq)
        go_wp2
        go_roundw
        case rel => exact ⟨k + 1, HLT.out, by go_num, B9.out⟩
        case measure => have := HLT.out; simp [intOf]; omega
      · have hke : k = n1 := by omega
        subst hke
        clear hk hlt
        go_wp2
        go_ret
        exact ⟨rfl, belowCat B5.out hB⟩
end Go.Proofs.YtiekffkeagcaiaaGreatDoor
