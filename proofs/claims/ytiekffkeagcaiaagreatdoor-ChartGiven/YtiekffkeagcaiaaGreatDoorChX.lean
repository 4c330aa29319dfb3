/- The law ChartClasses, over this seat's translation: its walk, out of what its awake answers. Conditions: a text's size is an int; what the library's variables hold is some number, some errors. -/
import Derived.Test.YtiekffkeagcaiaaGreatDoorChW
import Derived.BigQuiet
namespace Go.Proofs.YtiekffkeagcaiaaGreatDoor
open Go.RowKit
set_option linter.unusedVariables false

theorem rsV_each {α : Type} {of : List ByteArray → Option α} {bh : α → α → Bool} {ls : List (List ByteArray)} {k a : Nat} {l : List α} (h : rsV of bh ls k = (l, a)) : ∀ x ∈ l, ∃ ws, of ws = some x := by
  intro x hx
  by_cases ha : a = 0
  · subst ha
    obtain ⟨j, _, hj⟩ := rsV_some h x hx
    exact ⟨_, hj⟩
  · rw [rsV_off h ha] at hx; cases hx
theorem wt_three {ws : List ByteArray} {i : It} (h : wtOf ws = some i) : ∃ a b m : Nat, rgC i = #[.int .u32 (a : Int), .int .u32 (b : Int), .int .u32 (m : Int)] := by
  obtain ⟨_, _, n, _, hr⟩ := wtOf_r h
  exact ⟨i.a, i.b, n, by unfold rgC; rw [hr]⟩
theorem ru_three {ws : List ByteArray} {i : It} (h : ruOf ws = some i) : ∃ a b m : Nat, rgC i = #[.int .u32 (a : Int), .int .u32 (b : Int), .int .u32 (m : Int)] := by
  obtain ⟨_, _, n, _, hr⟩ := ruOf_r h
  exact ⟨i.a, i.b, n, by unfold rgC; rw [hr]⟩
/-- two rows of the same items: each item's cells in both -/
theorem both3 {w : World} {b1 b2 n c1 c2 : Nat} {T : TypeId} {ad1 ad2 : Option Addr} {of : List ByteArray → Option It} {bh : It → It → Bool} {ls : List (List ByteArray)} {m at_ : Nat} {its : List It} (hr : rsV of bh ls m = (its, at_)) (ho : ∀ ws i, of ws = some i → ∃ a b m : Nat, rgC i = #[.int .u32 (a : Int), .int .u32 (b : Int), .int .u32 (m : Int)])
    (h1 : w.ownsRow b1 T 3 (.slice ad1 n c1) n (rowC rgC its)) (h2 : w.ownsRow b2 T 3 (.slice ad2 n c2) n (rowC rgC its)) (hn : its.length = n) {k : Nat} (hk : k < n) :
    ∃ (g1 g2 a b m : Nat), ad1 = some ⟨g1, 0, none⟩ ∧ ad2 = some ⟨g2, 0, none⟩ ∧ w.cell? ⟨g1, k * 3, none⟩ = some (.int .u32 (a : Int)) ∧ w.cell? ⟨g1, k * 3 + 1, none⟩ = some (.int .u32 (b : Int)) ∧ w.cell? ⟨g1, k * 3 + 2, none⟩ = some (.int .u32 (m : Int))
      ∧ w.cell? ⟨g2, k * 3, none⟩ = some (.int .u32 (a : Int)) ∧ w.cell? ⟨g2, k * 3 + 1, none⟩ = some (.int .u32 (b : Int)) ∧ w.cell? ⟨g2, k * 3 + 2, none⟩ = some (.int .u32 (m : Int)) := by
  have hsz : ∀ i ∈ its, (rgC i).size = 3 := fun i hi => by
    obtain ⟨ws, hw⟩ := rsV_each hr i hi
    obtain ⟨_, _, _, h⟩ := ho ws i hw
    rw [h]; rfl
  have hk' : k < its.length := by omega
  obtain ⟨ws, hw⟩ := rsV_each hr its[k] (List.getElem_mem hk')
  obtain ⟨a, b, m, hx⟩ := ho ws _ hw
  obtain ⟨g1, e1, x1, y1, z1⟩ := row3 h1 hsz hk' hn hx
  obtain ⟨g2, e2, x2, y2, z2⟩ := row3 h2 hsz hk' hn hx
  exact ⟨g1, g2, a, b, m, e1, e2, x1, y1, z1, x2, y2, z2⟩
set_option maxHeartbeats 3200000 in
set_option maxRecDepth 2000 in
theorem classes_walk (s : ByteArray) (w : World) (hs : s.size ≤ 9223372036854775807) (v : Vr w)
    (HA : Calls Tryz.prog 7 #[] w fun e w' => e = .returned (.bool true) ∧ Below w.heap.size w w') :
    Calls Tryz.prog 4 #[.string s] w fun e w' => e = .returned (.bool true) ∧ Below w.heap.size w w' := by
  have HAW := hid HA
  have V0 := hid v
  clear HA v
  go_enter Tryz.func4, Tryz.ntmps4
  go_wp2_with fail
  refine HAW.out.mono ?_
  rintro e w1 ⟨rfl, hB⟩
  have B1 := hid hB
  have V1 := hid (V0.out.below hB)
  clear hB HAW V0
  by_cases hlen : 2000 < s.size
  · have hl2 : (2000 : Int) < (s.size : Int) := by omega
    clear hlen
    go_wp2
    go_ret
    exact ⟨rfl, B1.out⟩
  · have hl2 : ¬ (2000 : Int) < (s.size : Int) := by omega
    have hs6 : s.size ≤ 1000000 := by omega
    have C1 := hid (classes_any s w1 V1.out hs6)
    have C2 := hid (fun w => rclasses_any s w hs6)
    have C3 := hid (fun w v => runs_any s w v hs6)
    have C4 := hid (fun w => rruns_any s w hs6)
    have HLN := hid (lwV_cap s)
    clear hs6 hlen
    go_wp2_with fail
    refine C1.out.mono ?_
    rintro e w2 ⟨ad1, cap1, at1, its, rfl, hr1, ho1, hb1⟩
    have R1 := hid hr1
    have O1 := hid ho1
    have B2 := hid (belowCat B1.out hb1)
    have V2 := hid (V1.out.below hb1)
    obtain ⟨E1, hE⟩ : ∃ E : Int, (if at1 = 0 then 0 else 3) = E := ⟨_, rfl⟩
    rw [hE]
    have HE1 := hid hE
    clear hE hr1 ho1 hb1 C1
    go_wp2_with fail
    refine (C2.out _).mono ?_
    rintro e w3 ⟨ad2, cap2, at2, its2, rfl, hr2, ho2, hb2⟩
    have hr2' := R1.out.symm.trans hr2
    obtain ⟨rfl, rfl⟩ := Prod.mk.inj hr2'
    have O2 := hid ho2
    have O1 := hid (owns_below O1.out hb2)
    have B3 := hid (belowCat B2.out hb2)
    have V3 := hid (V2.out.below hb2)
    clear hr2 hr2' ho2 hb2 C2 V2 B2
    go_wp2_with fail
    refine (C3.out _ V3.out).mono ?_
    rintro e w4 ⟨ad3, cap3, at3, its3, rfl, hr3, ho3, hb3⟩
    have R3 := hid hr3
    have O3 := hid ho3
    have O1 := hid (owns_below O1.out hb3)
    have O2 := hid (owns_below O2.out hb3)
    have B4 := hid (belowCat B3.out hb3)
    obtain ⟨E3, hE⟩ : ∃ E : Int, (if at3 = 0 then 0 else 3) = E := ⟨_, rfl⟩
    rw [hE]
    have HE3 := hid hE
    clear hE hr3 ho3 hb3 C3 V3 B3
    go_wp2_with fail
    refine (C4.out _).mono ?_
    rintro e w5 ⟨ad4, cap4, at4, its4, rfl, hr4, ho4, hb4⟩
    have hr4' := R3.out.symm.trans hr4
    obtain ⟨rfl, rfl⟩ := Prod.mk.inj hr4'
    have O4 := hid ho4
    have O1 := hid (owns_below O1.out hb4)
    have O2 := hid (owns_below O2.out hb4)
    have O3 := hid (owns_below O3.out hb4)
    have B5 := hid (belowCat B4.out hb4)
    clear hr4 hr4' ho4 hb4 C4 B4
    obtain ⟨n1, hn1⟩ : ∃ n, its.length = n := ⟨_, rfl⟩
    obtain ⟨n3, hn3⟩ : ∃ n, its3.length = n := ⟨_, rfl⟩
    rw [hn1] at O1 O2 ⊢
    rw [hn3] at O3 O4 ⊢
    have F1 := hid (fun w => fits_any at1 n1 w (fun h => by rw [← hn1, rsV_off R1.out h]; rfl))
    have F3 := hid (fun w => fits_any at3 n3 w (fun h => by rw [← hn3, rsV_off R3.out h]; rfl))
    rw [HE1.out] at F1
    rw [HE3.out] at F3
    have hm1 : n1 ≤ 2001 := by
      by_cases h : at1 = 0
      · subst h; have := rsV_len R1.out; have := HLN.out; omega
      · rw [← hn1, rsV_off R1.out h]; exact Nat.zero_le _
    have hm3 : n3 ≤ 2001 := by
      by_cases h : at3 = 0
      · subst h; have := rsV_len R3.out; have := HLN.out; omega
      · rw [← hn3, rsV_off R3.out h]; exact Nat.zero_le _
    have N1 := hid hn1
    have N3 := hid hn3
    clear hn1 hn3
    go_wp2_with fail
    refine (F1.out _).mono ?_
    rintro e w' ⟨rfl, rfl⟩
    go_wp2_with fail
    refine (F3.out _).mono ?_
    rintro e w' ⟨rfl, rfl⟩
    have BX := hid (Below.refl w'.heap.size w')
    clear F1 F3
    go_wp2_with fail
    go_loopw [64] (fun i wr => ∃ k : Nat, k ≤ n1 ∧ i = .int .i64 (k : Int) ∧ Below w'.heap.size w' wr) (fun i _ => n1 - (intOf i).toNat)
    case atStart => exact ⟨0, Nat.zero_le _, rfl, BX.out⟩
    case round =>
      obtain ⟨k, hk, rfl, hB⟩ := hrel
      have HB := hid hB
      by_cases hlt : k < n1
      · obtain ⟨g1, g2, a, b, m, rfl, rfl, x1, y1, z1, x2, y2, z2⟩ := both3 R1.out (fun _ _ h => wt_three h) O1.out O2.out N1.out hlt
        have x1 := cell_later hB x1
        have y1 := cell_later hB y1
        have z1 := cell_later hB z1
        have x2 := cell_later hB x2
        have y2 := cell_later hB y2
        have z2 := cell_later hB z2
        have hwk : IntKind.i64.wrap (k : Int) = (k : Int) := by rw [IntKind.wrap_i64]; omega
        have HLT := hid hlt
        clear hB hk
        go_wp2_with fail
        go_quiet (fail)
        clear x1 y1 z1 x2 y2 z2 hwk
        have B9 := hid (belowDN HB.out nq)
        go_wp2
        go_roundw
        case rel => exact ⟨k + 1, HLT.out, by go_num, B9.out⟩
        case measure => have := HLT.out; simp [intOf]; omega
      · have hke : k = n1 := by omega
        subst hke
        clear hk hlt
        have BX := hid hB
        clear hB
        go_wp2_with fail
        go_loopw [79] (fun i wr => ∃ k : Nat, k ≤ n3 ∧ i = .int .i64 (k : Int) ∧ Below w'.heap.size w' wr) (fun i _ => n3 - (intOf i).toNat)
        case atStart => exact ⟨0, Nat.zero_le _, rfl, BX.out⟩
        case round =>
          obtain ⟨k, hk, rfl, hB⟩ := hrel
          have HB := hid hB
          by_cases hlt : k < n3
          · obtain ⟨g1, g2, a, b, m, rfl, rfl, x1, y1, z1, x2, y2, z2⟩ := both3 R3.out (fun _ _ h => ru_three h) O3.out O4.out N3.out hlt
            have x1 := cell_later hB x1
            have y1 := cell_later hB y1
            have z1 := cell_later hB z1
            have x2 := cell_later hB x2
            have y2 := cell_later hB y2
            have z2 := cell_later hB z2
            have hwk : IntKind.i64.wrap (k : Int) = (k : Int) := by rw [IntKind.wrap_i64]; omega
            have HLT := hid hlt
            clear hB hk
            go_wp2_with fail
            go_quiet (fail)
            clear x1 y1 z1 x2 y2 z2 hwk
            have B9 := hid (belowDN HB.out nq)
            go_wp2
            go_roundw
            case rel => exact ⟨k + 1, HLT.out, by go_num, B9.out⟩
            case measure => have := HLT.out; simp [intOf]; omega
          · have hke : k = n3 := by omega
            subst hke
            clear hk hlt
            go_wp2
            go_ret
            exact ⟨rfl, belowCat B5.out hB⟩
end Go.Proofs.YtiekffkeagcaiaaGreatDoor
