/- Package tables' full: the function that finds lines that don't count, and slices.IndexFunc with it, over this seat's translation. Conditions: at most 10^9 lines. -/
import Derived.Test.YtgalmlelnolodaaGreatDoorTdA
import Derived.Test.YtgalmlelnolodaaGreatDoorIv
namespace Go.Proofs.YtgalmlelnolodaaGreatDoor
open Go.RowKit
set_option linter.unusedVariables false

/-- does a line count? -/
def okD (compat : Bool) (x : Dq) : Bool := !(x.d.c && !compat)
set_option maxHeartbeats 1600000 in
theorem countD_any (x : Dq) (cp : Bool) (pb : Nat) (w : World) (hp : w.heap[pb]? = some (.cells #[.bool cp] 4 (0, 0))) :
    Calls Tryz.prog 82 #[.agg #[.int .u32 (x.d.p : Int), x.sl, .bool x.d.c, .bool x.d.a], .pointer (some ⟨pb, 0, none⟩)] w fun e w' => e = .returned (.bool (!okD cp x)) ∧ Below w.heap.size w w' := by
  obtain ⟨⟨dp, dto, dc, da⟩, dg, dcap⟩ := x
  have k0 : (w.alloc (.cells #[.int .u32 (dp : Int), .slice (some ⟨dg, 0, none⟩) dto.length dcap, .bool dc, .bool da] 64)).cell? ⟨pb, 0, none⟩ = some (.bool cp) := keepA (cell_of_heap hp rfl)
  cases dc
  · rw [show (!okD cp ⟨⟨dp, dto, false, da⟩, dg, dcap⟩) = false from rfl]
    go_enter Tryz.func82, Tryz.ntmps82
    go_wp2
    go_ret
    exact ⟨rfl, (Below.refl _ _).alloc (Nat.le_refl _) _⟩
  · rw [show (!okD cp ⟨⟨dp, dto, true, da⟩, dg, dcap⟩) = !cp by cases cp <;> rfl]
    go_enter Tryz.func82, Tryz.ntmps82
    go_wp2
    go_ret
    exact ⟨rfl, (Below.refl _ _).alloc (Nat.le_refl _) _⟩

/-- the first of these lines that doesn't count, or none -/
def FirstN (f : Dq → Bool) (c : List Dq) (e : Ending) : Prop := (∃ k, ∃ h : k < c.length, (∀ j (hj : j < k), f (c[j]'(by omega)) = true) ∧ f c[k] = false ∧ e = .returned (.int .i64 (k : Int))) ∨ ((∀ j (hj : j < c.length), f c[j] = true) ∧ e = .returned (.int .i64 (-1)))
set_option maxHeartbeats 1600000 in
theorem indexD_any (g cap pb : Nat) (cp : Bool) (c : List Dq) (tl : List Value) (w : World) (hk : BlkD w g c tl) (hn : c.length ≤ 1000000000) (hp : w.heap[pb]? = some (.cells #[.bool cp] 4 (0, 0))) :
    Calls Tryz.prog 101 #[.slice (some ⟨g, 0, none⟩) c.length cap, .func (.func 82) #[] #[.pointer (some ⟨pb, 0, none⟩)]] w fun e w' => FirstN (okD cp) c e ∧ Below w.heap.size w w' := by
  have HK := hid hk
  have HP := hid hp
  clear hk hp
  go_enter Tryz.func101, Tryz.ntmps101
  go_wp2_with fail
  go_loopw [8] (fun i wr => ∃ k : Nat, k ≤ c.length ∧ i = .int .i64 (k : Int) ∧ (∀ j (hj : j < c.length), j < k → okD cp c[j] = true) ∧ Below w.heap.size w wr) (fun i _ => c.length - (intOf i).toNat)
  case atStart => exact ⟨0, Nat.zero_le _, rfl, fun j _ h => absurd h (Nat.not_lt_zero j), Below.refl _ _⟩
  case round =>
    obtain ⟨k, hk, rfl, hall, hB⟩ := hrel
    have HB := hid hB
    have HA := hid hall
    by_cases hlt : k < c.length
    · obtain ⟨c0, c1, c2, c3⟩ := (HK.out.below hB).cell hlt
      have HS := hid (fun (e : okD cp c[k] = true) => show ∀ j (hj : j < c.length), j < k + 1 → okD cp c[j] = true from fun j hj h => by
        by_cases ej : j = k
        · subst ej; exact e
        · exact HA.out j hj (by omega))
      have HF := hid (fun (e : okD cp c[k] = false) => show FirstN (okD cp) c (.returned (.int .i64 (k : Int))) from Or.inl ⟨k, hlt, fun j hj => HA.out j (by omega) hj, e, rfl⟩)
      have HC := hid (countD_any c[k] cp pb wr ((HB.out.block pb (lt_of_heap HP.out)).trans HP.out))
      obtain ⟨p, hp⟩ : ∃ p, c[k] = p := ⟨_, rfl⟩
      rw [hp] at c0 c1 c2 c3 HS HF HC
      clear hB hall hp
      go_wp2_with fail
      refine HC.out.mono ?_
      rintro e w2 ⟨rfl, hB2⟩
      have B2 := hid (HB.out.trans (hB2.mono HB.out.size))
      clear hB2 c0 c1 c2 c3 HC
      cases hne : okD cp p with
      | true =>
        have HS2 := hid (HS.out hne)
        go_wp2
        go_roundw
        case rel => exact ⟨k + 1, by omega, by go_num, HS2.out, B2.out⟩
        case measure => simp [intOf]; omega
      | false =>
        have HF2 := hid (HF.out hne)
        go_wp2
        go_ret
        exact ⟨HF2.out, B2.out⟩
    · have HF := hid (show FirstN (okD cp) c (.returned (.int .i64 (-1))) from Or.inr ⟨fun j hj => HA.out j hj (by omega), rfl⟩)
      clear hall
      go_wp2
      go_ret
      exact ⟨HF.out, HB.out⟩
set_option maxHeartbeats 800000 in
theorem indexDNone_any (ad : Option Addr) (cap : Nat) (fv : Value) (w : World) :
    Calls Tryz.prog 101 #[.slice ad 0 cap, fv] w fun e w' => e = .returned (.int .i64 (-1)) ∧ w' = w := by
  go_enter Tryz.func101, Tryz.ntmps101
  go_wp2_with fail
  go_loopw [8] (fun i wr => i = .int .i64 0 ∧ wr = w) (fun _ _ => 0)
  case atStart => exact ⟨rfl, rfl⟩
  case round =>
    obtain ⟨rfl, hw⟩ := hrel
    subst hw
    go_wp2
    go_ret
    exact ⟨rfl, rfl⟩
end Go.Proofs.YtgalmlelnolodaaGreatDoor
