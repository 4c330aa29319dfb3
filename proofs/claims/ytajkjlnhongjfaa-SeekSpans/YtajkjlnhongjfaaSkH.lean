/- The law SeekPairs returns true at all lists of pairs, as they are read. -/
import Derived.Test.YtajkjlnhongjfaaSkG
import Derived.ProofKit
import Derived.Deep.Slices
import Derived.OpenShut
namespace Go.Proofs.Ytajkjlnhongjfaa
open Go.RowKit

section
variable {H : Type} {enc : TypeId × Value → H}
/-- three words of a struct, read -/
theorem read_pair {W : World} {base : Nat} {spare : Nat → Bool} {held : Bool} {fuel : Nat} {cs : List Value} {x : DataW H × List MemPlace}
    (h : DataW.trod enc Try.prog W base spare held fuel 73 cs = some x) : ∃ p : Pr, cs = [.int .u32 (p.a : Int), .int .u32 (p.b : Int), .int .u32 (p.t : Int)] ∧ p.ok := by
  obtain ⟨xs, n, _, _, hl, hx, hf⟩ := DataW.trod_struct Try.underlying73 h
  have hc : Try.prog.cellsOf 73 = 3 := by kernel_rfl
  have c22 : Try.prog.cellsOf 24 = 1 := by kernel_rfl
  rw [hc] at hl
  obtain ⟨y0, y1, y2, rfl⟩ : ∃ a b c, cs = [a, b, c] := by
    match cs, hl with
    | [a, b, c], _ => exact ⟨a, b, c, rfl⟩
  have g0 : DataW.trod enc Try.prog W base spare held n 24 (([y0, y1, y2].drop 0).take (Try.prog.cellsOf 24)) = xs[0]? := hf 0 _ rfl
  have g1 : DataW.trod enc Try.prog W base spare held n 24 (([y0, y1, y2].drop 1).take (Try.prog.cellsOf 24)) = xs[1]? := hf 1 _ rfl
  have g2 : DataW.trod enc Try.prog W base spare held n 24 (([y0, y1, y2].drop 2).take (Try.prog.cellsOf 24)) = xs[2]? := hf 2 _ rfl
  rw [c22] at g0 g1 g2
  have hx3 : xs.length = 3 := hx
  obtain ⟨z0, z1, z2, rfl⟩ : ∃ a b c, xs = [a, b, c] := by
    match xs, hx3 with
    | [a, b, c], _ => exact ⟨a, b, c, rfl⟩
  obtain ⟨a, e0, _, wa⟩ := DataW.trod_int Try.underlying24 (g0.trans rfl)
  obtain ⟨b, e1, _, wb⟩ := DataW.trod_int Try.underlying24 (g1.trans rfl)
  obtain ⟨c, e2, _, wc⟩ := DataW.trod_int Try.underlying24 (g2.trans rfl)
  simp at e0 e1 e2
  subst e0 e1 e2
  have ba := wf_u32 wa
  have bb := wf_u32 wb
  have bc := wf_u32 wc
  refine ⟨⟨a.toNat, b.toNat, c.toNat⟩, ?_, by show a.toNat < 4294967296; omega, by show b.toNat < 4294967296; omega, by show c.toNat < 4294967296; omega⟩
  simp only [Int.toNat_of_nonneg ba.1, Int.toNat_of_nonneg bb.1, Int.toNat_of_nonneg bc.1]
theorem read_seekPairs {W : World} {ad : Option Addr} {len cap : Nat} {d : DataW H} {p : List MemPlace} (h : DataW.Trod enc Try.prog W 0 (fun _ => true) true 58 (.slice ad len cap) d p) :
    ∃ l : List Pr, l.length = len ∧ PrsAt W ad l := by
  obtain ⟨fuel, hf⟩ := h
  rcases Deep.open_slice Try.underlying58 hf with ⟨hcs, _⟩ | ⟨a, len', cap', m, n, D, Pl, hcs, _, hlc, _, hm, _, hel⟩
  · simp [Value.cells] at hcs
    obtain ⟨rfl, rfl, rfl⟩ := hcs
    exact ⟨[], rfl, fun t ht => (by cases ht), fun k hk => (by cases hk)⟩
  · simp [Value.cells] at hcs
    obtain ⟨rfl, rfl, rfl⟩ := hcs
    simp only [if_true] at hm
    subst hm
    have hc : Try.prog.cellsOf 73 = 3 := by kernel_rfl
    rw [hc] at hel
    have hex : ∀ i, i < len → ∃ t : Pr, PrAt W (a.add (i * 3)) t ∧ t.ok := by
      intro i hi
      obtain ⟨cs', h1, h2⟩ := hel i (by omega)
      obtain ⟨t, rfl, hb⟩ := read_pair h2
      have hE := cells_each h1
      exact ⟨t, ⟨hE 0 (by decide), hE 1 (by decide), hE 2 (by decide)⟩, hb⟩
    obtain ⟨f, hf⟩ := @Deep.choose_lt Pr ⟨⟨0, 0, 0⟩⟩ len _ hex
    refine ⟨(List.range len).map f, by simp, fun t ht => ?_, fun k hk => ⟨a, rfl, ?_⟩⟩
    · obtain ⟨i, hi, rfl⟩ := List.mem_map.1 ht
      exact (hf i (List.mem_range.1 hi)).2
    · simp only [List.getElem_map, List.getElem_range]
      exact (hf k (by simpa using hk)).1
end

set_option maxHeartbeats 3200000 in
theorem pairs_core (ad : Option Addr) (cap a b : Nat) (l : List Pr) (w : World) (hl : PrsAt w ad l) (ha : a < 4294967296) (hb : b < 4294967296) (hn : l.length ≤ 60) :
    Calls Try.prog 5 #[.slice ad l.length cap, u32 a, u32 b] w fun e w' => e = .returned (.bool true) ∧ Below w.heap.size w w' := by
  have HL := hid hl
  have hn' : ¬ (60 : Int) < (l.length : Int) := by omega
  clear hl
  go_enter Try.func5, Try.ntmps5
  go_wp2_with fail
  refine (awake6_any _).mono ?_
  rintro e w1 ⟨rfl, hB1⟩
  have HB1 := hid hB1
  clear hB1
  go_wp2_with (go_at_call 8; refine (of_any _ _).mono ?_; rintro e w' ⟨rfl, rfl⟩)
  have HBA := hid (show Below w1.heap.size w1 ((w1.alloc (sb a)).alloc (sb b)) from (by repeat (first | exact Below.refl _ _ | refine blw_alloc ?_ | refine blw_drew ?_ | assumption)))
  refine (two_any a b cap ad l _ ha hb (HL.out.below (belowCat HB1.out HBA.out)) (by omega)).mono ?_
  rintro e w2 ⟨rfl, hB2⟩
  have HB2 := hid (belowCat (belowCat HB1.out HBA.out) hB2)
  have HT := hid (twT_lt a b l (fun p hp => (HL.out.1 p hp).2.2) l.length (Nat.le_refl _))
  clear hB2 HBA
  obtain ⟨T, hT⟩ : ∃ T, twT a b l l.length = T := ⟨_, rfl⟩
  obtain ⟨M, hM⟩ : ∃ M, twM a b l l.length = M := ⟨_, rfl⟩
  have HE := hid (And.intro hT hM)
  rw [hT, hM]
  clear hT hM
  go_wp2_with fail
  have HBC := hid (show Below w2.heap.size w2 ((w2.alloc (sb T)).alloc (sb (mk M : Nat))) from (by repeat (first | exact Below.refl _ _ | refine blw_alloc ?_ | refine blw_drew ?_ | assumption)))
  have H0 := hid (show ((w2.alloc (sb T)).alloc (sb (mk M : Nat))).heap[w2.heap.size]? = some (sb T) from (by simp only [hp_get, World.size_alloc]; repeat (first | rw [if_pos trivial] | rw [if_pos rfl] | rw [if_neg (by omega)])))
  have H1 := hid (show ((w2.alloc (sb T)).alloc (sb (mk M : Nat))).heap[w2.heap.size + 1]? = some (sb (mk M : Nat)) from (by simp only [hp_get, World.size_alloc]; repeat (first | rw [if_pos trivial] | rw [if_pos rfl] | rw [if_neg (by omega)])))
  refine (rtwo_any a b cap ad l _ (HL.out.below (belowCat HB2.out HBC.out)) (by omega)).mono ?_
  rintro e w3 ⟨rfl, hw3⟩
  subst hw3
  rw [HE.out.1, HE.out.2]
  generalize (w2.alloc (sb T)).alloc (sb (mk M : Nat)) = w3 at *
  have HB3 := hid (belowCat HB2.out HBC.out)
  have KB := hid (show ∀ w' : World, Below w3.heap.size w3 w' → w'.cell? ⟨w2.heap.size, 0, none⟩ = some (.int .u32 (T : Int)) ∧ w'.cell? ⟨w2.heap.size + 1, 0, none⟩ = some (.int .u32 (mk M : Nat)) from fun w' hb => ⟨cell_sb (hpB hb H0.out), cell_sb (hpB hb H1.out)⟩)
  have HI1 := hid (fun w => is_any T T w)
  have HI2 := hid (fun w => is_any (mk M) (mk M) w)
  simp only [beq_self_eq_true] at HI1 HI2
  have k0 := (KB.out w3 (Below.refl _ _)).1
  have k1 := (KB.out w3 (Below.refl _ _)).2
  go_wp2_with fail
  refine wp_region_held_drew (S := (fun w' => w'.cell? ⟨w2.heap.size, 0, none⟩ = some (.int .u32 (T : Int)) ∧ w'.cell? ⟨w2.heap.size + 1, 0, none⟩ = some (.int .u32 (mk M : Nat)))) (by kernel_rfl) (KB.out _ (blw_drew (Below.refl _ _))) (fun hHeld => ?_)
  refine tk_at (i := 0) (d := some 32) (v := ?_) rfl rfl (by kernel_rfl) (by kernel_rfl) (by kernel_rfl) (fun _ _ _ h => h) (Or.inl ⟨by rfl, ?_⟩) (by assumption) ?_
  rotate_left
  · (intro w hSw; (try dsimp only at hSw); go_simp; try (with_reducible rfl))
  simp only [Act.put, List.setIfInBounds_toArray, List.set_cons_zero, List.set_cons_succ]
  refine tk_at (i := 1) (d := some 33) (v := ?_) rfl rfl (by kernel_rfl) (by kernel_rfl) (by kernel_rfl) (fun _ _ _ h => h) (Or.inl ⟨by rfl, ?_⟩) (by assumption) ?_
  rotate_left
  · (intro w hSw; (try dsimp only at hSw); go_simp; try (with_reducible rfl))
  simp only [Act.put, List.setIfInBounds_toArray, List.set_cons_zero, List.set_cons_succ]
  refine wpAnyH_ready (rs := [2]) (by kernel_rfl) (by simp) ?_
  refine AllReadyH.cons rfl (fun K hK => ?_) AllReadyH.nil
  go_simp
  refine (HI1.out _).mono ?_
  rintro e w4 ⟨rfl, hB4⟩
  have HB4 := hid (belowCat (blw_drew (Below.refl _ _)) hB4)
  clear hB4
  go_wp2_with fail
  refine hK.out _ _ (KB.out _ HB4.out) (fun hHeld => ?_)
  clear hK K
  try simp only [Act.put, List.setIfInBounds_toArray, List.set_cons_zero, List.set_cons_succ]
  refine tk_at (i := 3) (d := some 35) (v := ?_) rfl rfl (by kernel_rfl) (by kernel_rfl) (by kernel_rfl) (fun _ _ _ h => h) (Or.inl ⟨by rfl, ?_⟩) (by assumption) ?_
  rotate_left
  · (intro w hSw; (try dsimp only at hSw); go_simp; try (with_reducible rfl))
  simp only [Act.put, List.setIfInBounds_toArray, List.set_cons_zero, List.set_cons_succ]
  refine tk_at (i := 4) (d := some 36) (v := ?_) rfl rfl (by kernel_rfl) (by kernel_rfl) (by kernel_rfl) (fun _ _ _ h => h) (Or.inl ⟨by rfl, ?_⟩) (by assumption) ?_
  rotate_left
  · (intro w hSw; (try dsimp only at hSw); go_simp; try (with_reducible rfl))
  simp only [Act.put, List.setIfInBounds_toArray, List.set_cons_zero, List.set_cons_succ]
  refine tk_at (i := 5) (d := some 37) (v := ?_) rfl rfl (by kernel_rfl) (by kernel_rfl) (by kernel_rfl) (fun _ _ _ h => h) (Or.inl ⟨by rfl, ?_⟩) (by assumption) ?_
  rotate_left
  · (intro w hSw; (try dsimp only at hSw); go_simp; try (with_reducible rfl))
  simp only [Act.put, List.setIfInBounds_toArray, List.set_cons_zero, List.set_cons_succ]
  refine wpAnyH_ready (rs := [6]) (by kernel_rfl) (by simp) ?_
  refine AllReadyH.cons rfl (fun K hK => ?_) AllReadyH.nil
  go_simp
  refine (all_any M _).mono ?_
  rintro e w5 ⟨rfl, hw5⟩
  subst w5
  go_wp2_with fail
  refine hK.out _ _ (KB.out _ HB4.out) (fun hHeld => ?_)
  clear hK K
  try simp only [Act.put, List.setIfInBounds_toArray, List.set_cons_zero, List.set_cons_succ]
  refine wpAnyH_ready (rs := [7]) (by kernel_rfl) (by simp) ?_
  refine AllReadyH.cons rfl (fun K hK => ?_) AllReadyH.nil
  go_simp
  refine (HI2.out _).mono ?_
  rintro e w6 ⟨rfl, hB6⟩
  have HB6 := hid (belowCat HB4.out hB6)
  clear hB6
  go_wp2_with fail
  refine hK.out _ _ (KB.out _ HB6.out) (fun hHeld => ?_)
  clear hK K
  try simp only [Act.put, List.setIfInBounds_toArray, List.set_cons_zero, List.set_cons_succ]
  refine tk_at (i := 8) (d := some 40) (v := ?_) rfl rfl (by kernel_rfl) (by kernel_rfl) (by kernel_rfl) (fun _ _ _ h => h) (Or.inl ⟨by rfl, ?_⟩) (by assumption) ?_
  rotate_left
  · (intro w hSw; (try dsimp only at hSw); go_simp; try (with_reducible rfl))
  simp only [Act.put, List.setIfInBounds_toArray, List.set_cons_zero, List.set_cons_succ]
  refine wpAnyH_ready (rs := [9]) (by kernel_rfl) (by simp) ?_
  refine AllReadyH.cons rfl (fun K hK => ?_) AllReadyH.nil
  go_simp
  go_wp2_with fail
  refine hK.out _ _ (KB.out _ HB6.out) (fun hHeld => ?_)
  clear hK K
  try simp only [Act.put, List.setIfInBounds_toArray, List.set_cons_zero, List.set_cons_succ]
  refine wpAnyH_done (by kernel_rfl) ?_ _
  clear hHeld
  go_wp2
  go_ret
  exact ⟨rfl, belowCat HB3.out HB6.out⟩

set_option maxHeartbeats 800000 in
theorem seekPairs_walk (ad : Option Addr) (len cap : Nat) (a b : Nat) (w : World) (h : ∃ l : List Pr, l.length = len ∧ PrsAt w ad l) (ha : a < 4294967296) (hb : b < 4294967296) :
    Calls Try.prog 5 #[.slice ad len cap, u32 a, u32 b] w fun e w' => e = .returned (.bool true) ∧ Below w.heap.size w w' := by
  obtain ⟨l, rfl, hl⟩ := h
  by_cases h1 : l.length ≤ 60
  · exact pairs_core ad cap a b l w hl ha hb h1
  · obtain ⟨n, hn⟩ : ∃ n, l.length = n := ⟨_, rfl⟩
    rw [hn] at h1 ⊢
    clear hn hl ha hb
    have c1 : (60 : Int) < (n : Int) := by omega
    clear h1
    go_enter Try.func5, Try.ntmps5
    go_wp2_with (go_at_call 6; refine (awake6_any _).mono ?_; rintro e w1 ⟨rfl, hB1⟩; have HB1 := hid hB1; clear hB1)
    go_ret
    exact ⟨rfl, HB1.out⟩
end Go.Proofs.Ytajkjlnhongjfaa
