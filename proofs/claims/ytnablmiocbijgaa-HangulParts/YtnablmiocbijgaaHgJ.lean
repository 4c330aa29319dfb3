/- The document's Parts, and the law HangulParts, over this seat's translation. Conditions: the words' bounds. -/
import Derived.Test.YtnablmiocbijgaaHgI
import Derived.ProofKit
namespace Go.Proofs.Ytnablmiocbijgaa
open Go.RowKit
set_option linter.unusedVariables false

theorem infoU32 : (Try.prog.info? 22).map (fun i => (i.zero, i.size, i.bytes)) = some (some (.int .u32 0), 1, 4) := by kernel_rfl
def us (l : List Nat) : List Value := l.map fun (n : Nat) => .int .u32 (n : Int)
/-- the document's parts -/
def rp (n : Nat) : List Nat := if 0 < n % 28 then [4352 + n / 588, 4449 + n % 588 / 28, 4519 + n % 28] else [4352 + n / 588, 4449 + n % 588 / 28]
set_option maxRecDepth 4000 in
set_option maxHeartbeats 3200000 in
theorem rparts_any (n : Nat) (w : World) (hn : n < 11172) : Calls Try.prog 10 #[.int .u32 (44032 + (n : Int))] w fun e w' => ∃ ad cap, e = .returned (.slice ad (rp n).length cap) ∧ w'.ownsRow w.heap.size 22 1 (.slice ad (rp n).length cap) (rp n).length (us (rp n)) ∧ Below w.heap.size w w' := by
  obtain ⟨i0, hi, hz0, hz1, hz2⟩ := info_parts infoU32
  have c0 : (4352 + (n : Int) / 588) = ((4352 + n / 588 : Nat) : Int) := by omega
  have c1 : (4449 + (n : Int) % 588 / 28) = ((4449 + n % 588 / 28 : Nat) : Int) := by omega
  have c2 : (4519 + (n : Int) % 28) = ((4519 + n % 28 : Nat) : Int) := by omega
  have C := hid (And.intro c0 (And.intro c1 c2))
  obtain ⟨a, ha⟩ : ∃ a, 4352 + n / 588 = a := ⟨_, rfl⟩
  obtain ⟨b, hb⟩ : ∃ b, 4449 + n % 588 / 28 = b := ⟨_, rfl⟩
  obtain ⟨c, hc⟩ : ∃ c, 4519 + n % 28 = c := ⟨_, rfl⟩
  have HR := hid (show rp n = if 0 < n % 28 then [a, b, c] else [a, b] by subst ha hb hc; rfl)
  rw [ha, hb, hc] at C
  clear c0 c1 c2 ha hb hc
  go_enter Try.func10, Try.ntmps10
  go_upto_region 2 with fail
  rw [show (44032 + (n : Int) - 44032) = (n : Int) by omega]
  go_upto_region 3 with fail
  rw [C.out.1, C.out.2.1]
  have HO := hid (show (w.alloc (.cells #[.int .u32 (a : Int), .int .u32 (b : Int)] 22)).ownsRow w.heap.size 22 1 (.slice (some ⟨w.heap.size, 0, none⟩) 2 2) 2 [.int .u32 (a : Int), .int .u32 (b : Int)] from
    ⟨rfl, .inr ⟨w.heap.size, 2, _, rfl, Nat.le_refl _, heap_alloc_at _ _, Nat.le_refl _, by unfold maxLen; omega, rfl, rfl⟩⟩)
  have HB := hid (show Below w.heap.size w (w.alloc (.cells #[.int .u32 (a : Int), .int .u32 (b : Int)] 22)) from (by repeat (first | exact Below.refl _ _ | refine blw_alloc ?_ | refine blw_drew ?_ | assumption)))
  generalize (w.alloc (.cells #[.int .u32 (a : Int), .int .u32 (b : Int)] 22)) = w2 at *
  obtain ⟨G, hG⟩ : ∃ G, w.heap.size = G := ⟨_, rfl⟩
  by_cases h : 0 < n % 28
  · have h' : (0 : Int) < (n : Int) % 28 := by omega
    rw [if_pos h] at HR
    go_upto_region 4 with fail
    rw [hG] at HO ⊢
    have HG := hid hG
    clear hG h
    go_wp2_with (at_builtin; refine wpList_append_own _ rfl (.tmp 18) (.tmp 22) 25 rfl G 22 i0 _ 1 4 Try.underlying25 hi hz0 hz1 hz2 rfl (by decide) _ 2 [.int .u32 (a : Int), .int .u32 (b : Int)] rfl (HO.out.alloc _) ⟨w2.heap.size, 0, none⟩ 1 1 [.int .u32 (4519 + (n : Int) % 28)] rfl rfl (World.news_of_block (heap_alloc_at _ _)) (by intro u hu; simp at hu; rcases hu with rfl; rfl) (by unfold maxLen; omega) (by omega) (by have := HB.out.size; have := HG.out; simp; omega) ?_; intro v' w5 hown' hgrow _; obtain ⟨sd', sc', rfl⟩ := owns_shape hown'; have HO5 := hid hown'; have HG5 := hid hgrow; clear hown' hgrow)
    go_ret
    rw [HR.out]
    refine ⟨sd', sc', rfl, ?_, ?_⟩
    · have := HO5.out
      rw [C.out.2.2] at this
      rw [HG.out]
      exact this
    · exact (HB.out.alloc HB.out.size _).grown HG5.out (by have := HB.out.size; simp; omega) (fun q hq => by have := (HO.out.lt q hq).1; have := HG.out; omega)
  · have h' : ¬ (0 : Int) < (n : Int) % 28 := by omega
    rw [if_neg h] at HR
    go_wp2
    go_ret
    rw [HR.out]
    have HO2 := HO.out
    have HB2 := HB.out
    rw [hG] at HO2 HB2
    exact ⟨_, _, rfl, HO2, HB2⟩
theorem rparts_x (x : Nat) (w : World) (hs : syl x = true) : Calls Try.prog 10 #[u32 (x : Int)] w fun e w' => ∃ ad cap, e = .returned (.slice ad (rp (x - 44032)).length cap) ∧ w'.ownsRow w.heap.size 22 1 (.slice ad (rp (x - 44032)).length cap) (rp (x - 44032)).length (us (rp (x - 44032))) ∧ Below w.heap.size w w' := by
  simp only [syl, Bool.and_eq_true, decide_eq_true_eq] at hs
  have e : (x : Int) = 44032 + ((x - 44032 : Nat) : Int) := by omega
  have h := rparts_any (x - 44032) w (by omega)
  rw [← e] at h
  exact h
theorem rp_said (x : Nat) (hs : syl x = true) : pa0 x = hl0 x ∧ pa1 x = hl1 x ∧ pa2 x = hl2 x ∧ 2 ≤ (rp (x - 44032)).length ∧ (rp (x - 44032)).length ≤ 3 ∧ (us (rp (x - 44032)) ++ [.int .u32 0])[0]? = some (.int .u32 (hl0 x : Nat)) ∧ (us (rp (x - 44032)) ++ [.int .u32 0])[1]? = some (.int .u32 (hl1 x : Nat)) ∧ (us (rp (x - 44032)) ++ [.int .u32 0])[2]? = some (.int .u32 (hl2 x : Nat)) := by
  unfold pa0 pa1 pa2
  rw [if_pos hs, if_pos hs, if_pos hs]
  refine ⟨rfl, rfl, rfl, ?_⟩
  unfold rp hl2
  by_cases h : 0 < (x - 44032) % 28
  · rw [if_pos h, if_pos h]
    exact ⟨by simp, by simp, rfl, rfl, rfl⟩
  · rw [if_neg h, if_neg h]
    exact ⟨by simp, by simp, rfl, rfl, rfl⟩
/-- a syllable's parts joined again -/
theorem again (x : Nat) (hs : syl x = true) : (hjn (hl0 x) (hl1 x) != 0) = true ∧ hjn (hl0 x) (hl1 x) < 4294967296 ∧ selW (mk (hjn (hjn (hl0 x) (hl1 x)) (hl2 x) != 0)) (hjn (hjn (hl0 x) (hl1 x)) (hl2 x)) (hjn (hl0 x) (hl1 x)) = x := by
  obtain ⟨h1, h2, h3⟩ := hback x hs
  have hx := hs
  simp only [syl, Bool.and_eq_true, decide_eq_true_eq] at hx
  have hy := (join_said (hl0 x) (hl1 x)).2.2.2
  obtain ⟨y, hye⟩ : ∃ y, hjn (hl0 x) (hl1 x) = y := ⟨_, rfl⟩
  rw [hye] at h1 h2 h3 hy ⊢
  refine ⟨by simp; omega, hy, ?_⟩
  by_cases h0 : hl2 x = 0
  · obtain ⟨e1, e2⟩ := h2 h0
    rw [e1]
    rw [show ((0 : Nat) != 0) = false from rfl, selW_no _ _ hy, h1, e2]
  · have e := h3 h0
    rw [e]
    have hne : (x != 0) = true := by simp; omega
    rw [hne, selW_yes _ _ (by omega)]
end Go.Proofs.Ytnablmiocbijgaa
