/- Contracts of package pack's may and Steps, over this seat's translation, and what Pack makes of an arena, as plain data. Conditions: Steps: n of at most 49152. -/
import Derived.Test.YtjcnkigadlmpgaaDoorPkE
import Derived.Test.YtjcnkigadlmpgaaDoorBl
import Derived.Test.YtjcnkigadlmpgaaDoorRwC
namespace Go.Proofs.YtjcnkigadlmpgaaDoor
open Go.RowKit

/-- how often all are gone through -/
def stp (n : Nat) : Nat := if n < 2 then 0 else Lib.bitLen (n - 1)
theorem stp_facts (n : Nat) (hm : n ≤ 49152) : n ≤ 2 ^ stp n ∧ stp n ≤ 16 ∧ ∀ s, s < stp n → 2 ^ s < n := by
  unfold stp
  by_cases h2 : n < 2
  · rw [if_pos h2]; exact ⟨by simp; omega, by omega, fun s hs => by omega⟩
  · rw [if_neg h2]
    have h := bl_up 16 (n - 1) (by omega) (by omega)
    have hd := bl_down 16 (n - 1) (by omega) (by omega) (by omega)
    refine ⟨by omega, h.2, fun s hs => ?_⟩
    have := Nat.pow_le_pow_right (n := 2) (by decide) (show s ≤ Lib.bitLen (n - 1) - 1 by omega)
    omega
set_option maxHeartbeats 400000 in
theorem pmay_any (n l : Int) (w : World) : Calls Tryd.prog 51 #[.int .i64 n, .int .i64 l] w fun e w' => e = .returned (.bool (decide (0 ≤ l ∧ 0 ≤ n ∧ n ≤ 49152))) ∧ w' = w := by
  by_cases h1 : 0 ≤ l
  · by_cases h2 : 0 ≤ n
    · by_cases h3 : n ≤ 49152
      · go_enter Tryd.func51, Tryd.ntmps51
        go_wp2
        go_ret
        simp [h1, h2, h3]
      · go_enter Tryd.func51, Tryd.ntmps51
        go_wp2
        go_ret
        simp [h3]
    · go_enter Tryd.func51, Tryd.ntmps51
      go_wp2
      go_ret
      simp; omega
  · go_enter Tryd.func51, Tryd.ntmps51
    go_wp2
    go_ret
    simp; omega
set_option maxHeartbeats 400000 in
theorem steps_any (n : Nat) (hn : n ≤ 49152) (w : World) : Calls Tryd.prog 53 #[.int .i64 (n : Int)] w fun e w' => e = .returned (.int .i64 (stp n : Nat)) ∧ w' = w := by
  by_cases h2 : n < 2
  · have c1 : (n : Int) < 2 := by omega
    go_enter Tryd.func53, Tryd.ntmps53
    go_wp2
    go_ret
    exact ⟨by unfold stp; rw [if_pos h2]; rfl, rfl⟩
  · have c1 : ¬ (n : Int) < 2 := by omega
    have HS := hid (show stp n = Lib.bitLen (n - 1) by unfold stp; rw [if_neg h2])
    clear h2
    go_enter Tryd.func53, Tryd.ntmps53
    go_wp2_with fail
    refine (bits_len ((n : Int) - 1) _ (by omega) (by omega)).mono ?_
    rintro e w1 ⟨rfl, rfl⟩
    rw [show ((n : Int) - 1).toNat = n - 1 by omega, ← HS.out]
    go_wp2
    go_ret
    exact ⟨rfl, rfl⟩

/-- what a Give notes -/
def evGv (t i : Nat) : List Ev := ((List.range (t - i)).map fun k => (⟨2, ((t - 1 - k : Nat) : Int), 0⟩ : Ev)) ++ [⟨5, i, cnt ((t : Int) - i)⟩]
theorem zeroK_es (A : Ars) (t k : Nat) : (A.zeroK t k).es = A.es ++ (List.range k).map fun j => (⟨2, ((t - 1 - j : Nat) : Int), 0⟩ : Ev) := by
  induction k with
  | zero => simp [Ars.zeroK]
  | succ k ih => simp only [Ars.zeroK, Ars.storeN]; rw [ih, List.range_succ, List.map_append, List.append_assoc]; rfl
theorem giveN_es (A : Ars) (i : Nat) : (A.giveN i).es = A.es ++ evGv A.top i := by
  simp only [Ars.giveN, Ars.note, Ars.downTo, evGv]
  rw [zeroK_es, List.append_assoc]
theorem evGv_len (t i : Nat) : (evGv t i).length = t - i + 1 := by simp [evGv]
/-- what Pack notes -/
def evFull (t keep n : Nat) (ls : List Nat) : List Ev := ⟨4, (t : Int), cnt (n : Int)⟩ :: (evPack keep t n (stp n) ls ++ evGv (t + n) t)
/-- Pack, done -/
structure Packed (A B : Ars) (keep n : Nat) (ls : List Nat) : Prop where
  top : B.top = A.top
  wl : B.ws.length = A.ws.length
  es : B.es = A.es ++ evFull A.top keep n ls
  kps : ∀ i, i < n → B.word (keep + i) = mk (decide (i < rk (fun i => A.word (keep + i) % 2 == 1) n))
  lane : ∀ L ∈ ls, ∀ i, i < n → B.word (L + i) = ((kp (fun i => A.word (keep + i) % 2 == 1) n).map fun p => A.word (L + p)).getD i 0
  rest : ∀ x, x < A.top → (∀ L ∈ keep :: ls, x < L ∨ L + n ≤ x) → B.word x = A.word x
def PFine (A : Ars) (n keep : Int) (zs : List Int) : Prop := (0 ≤ n ∧ n ≤ 49152) ∧ (∀ z ∈ keep :: zs, A.fits z n = true) ∧ (keep :: zs).Pairwise (ApartZ n) ∧ A.canTake n = true
theorem pfine_nat {A : Ars} {n keep : Int} {zs : List Int} (h : PFine A n keep zs) : ∃ (m kp : Nat) (ls : List Nat), n = (m : Int) ∧ m ≤ 49152 ∧ keep = (kp : Int) ∧ zs = ls.map (fun (L : Nat) => (L : Int)) ∧ (∀ L ∈ kp :: ls, L + m ≤ A.top) ∧ (kp :: ls).Pairwise (Apart m) ∧ A.top + m ≤ A.ws.length := by
  obtain ⟨⟨h1, h2⟩, h3, h4, h5⟩ := h
  have h6 := of_decide_eq_true h5
  obtain ⟨m, rfl⟩ := Int.eq_ofNat_of_zero_le h1
  have e : ∀ l : List Int, (∀ z ∈ l, A.fits z m = true) → l = (l.map Int.toNat).map (fun (L : Nat) => (L : Int)) := fun l hl => by
    rw [List.map_map]
    conv => lhs; rw [← List.map_id l]
    refine List.map_congr_left fun z hz => ?_
    have := Ars.fits_iff.1 (hl z hz)
    simp only [Function.comp, id]; omega
  refine ⟨m, keep.toNat, zs.map Int.toNat, rfl, by omega, ?_, e zs fun z hz => h3 z (List.mem_cons_of_mem _ hz), fun L hL => ?_, ?_, by omega⟩
  · have := Ars.fits_iff.1 (h3 keep (List.mem_cons_self ..)); omega
  · rw [show keep.toNat :: zs.map Int.toNat = (keep :: zs).map Int.toNat from rfl] at hL
    obtain ⟨z, hz, rfl⟩ := List.mem_map.1 hL
    have := Ars.fits_iff.1 (h3 z hz); omega
  · rw [show keep.toNat :: zs.map Int.toNat = (keep :: zs).map Int.toNat from rfl, List.pairwise_map]
    refine h4.imp_of_mem fun {a b} ha hb hab => ⟨?_⟩
    have := Ars.fits_iff.1 (h3 a ha); have := Ars.fits_iff.1 (h3 b hb)
    unfold ApartZ at hab; omega
/-- sift, the steps, mark and Give make it -/
theorem Packed.of {A B0 B1 B2 B3 : Ars} {keep n : Nat} {ls : List Nat} (hroom : A.top + n ≤ A.ws.length) (hn : n ≤ 49152) (hin : ∀ L ∈ keep :: ls, L + n ≤ A.top) (hp : (keep :: ls).Pairwise (Apart n))
    (h0 : B0 = A.take n) (w1 : Went B0 B1 (upTo (evSf keep A.top ls) n))
    (w2 : Went B1 B2 (upTo (fun s => upTo (evMv n s (A.top :: ls)) n) (stp n))) (g2 : Gone (fun i => B0.word (keep + i) % 2 == 1) n (stp n) (fun i => B2.word (A.top + i)) (fun L i => B2.word (L + i)) (fun L i => B0.word (L + i)) ls)
    (w3 : Went B2 B3 (upTo (fun i => [evSt (keep + i)]) n)) (m3 : Mkd B2.word B3.word keep (rk (fun i => B0.word (keep + i) % 2 == 1) n) n) (r2 : ∀ x, (∀ L ∈ A.top :: ls, x < L ∨ L + n ≤ x) → B2.word x = A.word x) : Packed A (B3.giveN A.top) keep n ls := by
  have hc : A.canTake (n : Int) = true := decide_eq_true (by omega)
  have e0 : B0 = ⟨A.ws, A.top + n, A.es ++ [⟨4, A.top, cnt n⟩]⟩ := by rw [h0]; unfold Ars.take; rw [if_pos hc]; simp
  have hw0 : B0.word = A.word := by rw [e0]; rfl
  have ht0 : B0.top = A.top + n := by rw [e0]
  have ht3 : B3.top = A.top + n := by rw [w3.top, w2.top, w1.top, ht0]
  rw [hw0] at g2 m3
  have hk := hin keep (List.mem_cons_self ..)
  refine ⟨rfl, ?_, ?_, fun i hi => ?_, fun L hL i hi => ?_, fun x hx hk' => ?_⟩
  · rw [Ars.giveN_wslen, w3.wl, w2.wl, w1.wl, e0]
  · rw [giveN_es, ht3, w3.es, w2.es, w1.es, e0]
    unfold evFull evPack
    simp
  · rw [Ars.giveN_word _ _ (by omega), if_neg (by omega), m3.lane i hi]
  · have hLt := hin L (List.mem_cons_of_mem _ hL)
    have hd := ((List.pairwise_cons.1 hp).1 L hL).d
    rw [Ars.giveN_word _ _ (by omega), if_neg (by omega), m3.rest _ (by omega)]
    exact g2.last (stp_facts n hn).1 i hi L hL
  · rw [Ars.giveN_word _ _ (by omega), if_neg (by omega), m3.rest _ (hk' keep (List.mem_cons_self ..))]
    refine r2 x fun L hL => ?_
    rcases List.mem_cons.1 hL with rfl | hL
    · omega
    · exact hk' L (List.mem_cons_of_mem _ hL)
end Go.Proofs.YtjcnkigadlmpgaaDoor
