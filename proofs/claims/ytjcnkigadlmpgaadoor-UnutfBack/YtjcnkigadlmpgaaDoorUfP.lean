/- UTF-8 as plain mathematics: the document's points of bytes, and the steps of a reader that goes over them one by one. Nothing of the program is named here. No conditions but that bytes are below 256. -/
import Derived.Test.YtjcnkigadlmpgaaDoorCtP
namespace Go.Proofs.YtjcnkigadlmpgaaDoor
open Go.RowKit

/-- a row of first bytes -/
structure Ld where
  a : Nat
  z : Nat
  m : Nat
  o : Nat
  l : Nat
  h : Nat
def ld (a z m o l h : Nat) : Ld := Ld.mk a z m o l h
def lds : List Ld := [ld 0 127 127 0 0 0, ld 194 223 31 1 128 191, ld 224 224 15 2 160 191, ld 225 236 15 2 128 191, ld 237 237 15 2 128 159, ld 238 239 15 2 128 191, ld 240 240 7 3 144 191, ld 241 243 7 3 128 191, ld 244 244 7 3 128 143]
def ldA (k : Nat) : Ld := lds.getD k (ld 0 0 0 0 0 0)
/-- what is known behind a byte -/
structure Us where
  pt : Nat
  mo : Nat
  lo : Nat
  hi : Nat
def us (p m l h : Nat) : Us := Us.mk p m l h
def btw (b lo hi : Nat) : Bool := !(decide (b < lo) || decide (hi < b))
def Ld.st (d : Ld) (b : Nat) : Us := us (andW b d.m) d.o d.l d.h
def cho (c : Bool) (s t : Us) : Us := if c then s else t
def bgK (b : Nat) : Nat → Us × Bool
  | 0 => (us 0 0 0 0, false)
  | k + 1 => (cho (btw b (ldA k).a (ldA k).z) ((ldA k).st b) (bgK b k).1, (bgK b k).2 || btw b (ldA k).a (ldA k).z)
def flw (s : Us) (b : Nat) : Us := us (orW (s.pt * 64 % 4294967296) (andW b 63)) (subW s.mo 1) 128 191
/-- one more byte -/
def stp1 (r : Us × Bool) (b : Nat) : Us × Bool :=
  (cho (r.1.mo == 0) (bgK b 9).1 (flw r.1 b), r.2 || !(if r.1.mo == 0 then (bgK b 9).2 else btw b r.1.lo r.1.hi))
def runL (r : Us × Bool) (l : List Nat) : Us × Bool := l.foldl stp1 r
def laneOf (r : Us × Bool) : Option Nat := if r.1.mo == 0 then some r.1.pt else none
def lanes (r : Us × Bool) : List Nat → List (Option Nat)
  | [] => []
  | b :: t => laneOf (stp1 r b) :: lanes (stp1 r b) t
def good (r : Us × Bool) : Bool := !r.2 && (r.1.mo == 0)

/-- the document's first bytes -/
def mrB (c : Nat) : Nat := if 194 ≤ c ∧ c ≤ 223 then 1 else if 224 ≤ c ∧ c ≤ 239 then 2 else if 240 ≤ c ∧ c ≤ 244 then 3 else 0
def vrB (c : Nat) : Nat := if 194 ≤ c ∧ c ≤ 223 then c - 192 else if 224 ≤ c ∧ c ≤ 239 then c - 224 else if 240 ≤ c ∧ c ≤ 244 then c - 240 else 0
def lwB (c : Nat) : Nat := if c = 224 then 160 else if c = 240 then 144 else 128
def hgB (c : Nat) : Nat := if c = 237 then 159 else if c = 244 then 143 else 191
def ctB : Nat → List Nat → Nat → Nat → Nat → Option Nat
  | 0, _, _, _, v => some v
  | _ + 1, [], _, _, _ => none
  | m + 1, b :: t, lo, hi, v => if btw b lo hi then ctB m t 128 191 (v * 64 + b - 128) else none
def dpB : List Nat → Nat × Nat
  | [] => (0, 0)
  | c :: t => if c ≤ 127 then (c, 1) else if mrB c = 0 ∨ t.length < mrB c then (0, 0) else match ctB (mrB c) t (lwB c) (hgB c) (vrB c) with
    | none => (0, 0)
    | some v => (v, mrB c + 1)
def dps : Nat → List Nat → Option (List (Nat × Nat))
  | 0, _ => some []
  | _ + 1, [] => some []
  | f + 1, c :: t => if (dpB (c :: t)).2 = 0 then none else (dps f ((c :: t).drop (dpB (c :: t)).2)).map (dpB (c :: t) :: ·)
def flatL : List (Nat × Nat) → List (Option Nat)
  | [] => []
  | (p, k) :: r => List.replicate (k - 1) none ++ some p :: flatL r
def blB (p : Nat) : Nat := if p < 128 then 1 else if p < 2048 then 2 else if p < 65536 then 3 else 4

theorem bg_low : ∀ b, b < 128 → (bgK b 9).1.pt = b ∧ (bgK b 9).1.mo = 0 ∧ (bgK b 9).2 = true := by decide +kernel
theorem bg_no : ∀ b, b < 256 → 127 < b → mrB b = 0 → (bgK b 9).2 = false := by decide +kernel
theorem bg_yes : ∀ b, b < 256 → 0 < mrB b → (bgK b 9).1.pt = vrB b ∧ (bgK b 9).1.mo = mrB b ∧ (bgK b 9).1.lo = lwB b ∧ (bgK b 9).1.hi = hgB b ∧ (bgK b 9).2 = true := by decide +kernel
theorem first_facts : ∀ b, b < 256 → 127 < b → 128 ≤ lwB b ∧ hgB b ≤ 191 ∧ mrB b ≤ 3 ∧ vrB b < 32 ∧ (mrB b = 2 → vrB b < 16) ∧ (mrB b = 3 → vrB b < 5) := by decide +kernel
theorem us_eq {s : Us} {p m l h : Nat} (h1 : s.pt = p) (h2 : s.mo = m) (h3 : s.lo = l) (h4 : s.hi = h) : s = us p m l h := by
  cases s; simp only at h1 h2 h3 h4; subst h1 h2 h3 h4; rfl
theorem btw_iff {b lo hi : Nat} : btw b lo hi = true ↔ lo ≤ b ∧ b ≤ hi := by unfold btw; simp
theorem runL_cons (r : Us × Bool) (b : Nat) (t : List Nat) : runL r (b :: t) = runL (stp1 r b) t := rfl
theorem runL_append (r : Us × Bool) (l m : List Nat) : runL r (l ++ m) = runL (runL r l) m := List.foldl_append ..
theorem lanes_append (r : Us × Bool) (l m : List Nat) : lanes r (l ++ m) = lanes r l ++ lanes (runL r l) m := by
  induction l generalizing r with
  | nil => rfl
  | cons b t ih => simp only [List.cons_append, lanes, ih, runL_cons]
theorem lanes_len (r : Us × Bool) (l : List Nat) : (lanes r l).length = l.length := by
  induction l generalizing r with
  | nil => rfl
  | cons b t ih => simp [lanes, ih]
theorem runL_wrong (r : Us × Bool) (l : List Nat) (h : r.2 = true) : (runL r l).2 = true := by
  induction l generalizing r with
  | nil => exact h
  | cons b t ih => rw [runL_cons]; exact ih _ (by simp [stp1, h])
theorem or_low (v b : Nat) (hv : v < 67108864) : orW (v * 64 % 4294967296) (andW b 63) = v * 64 + b % 64 := by
  unfold orW andW
  rw [show (63 : Nat) = 2 ^ 6 - 1 from rfl, Nat.and_two_pow_sub_one_eq_mod, Nat.mod_eq_of_lt (show v * 64 < 4294967296 by omega)]
  have h1 : b % 2 ^ 6 < 2 ^ 6 := Nat.mod_lt _ (by decide)
  have := (Nat.two_pow_add_eq_or_of_lt h1 v).symm
  rw [show v * 64 = 2 ^ 6 * v by omega]
  exact this
theorem stp_follow {v m lo hi b : Nat} {wr : Bool} (hv : v < 67108864) (hm : m < 4294967295) : stp1 (us v (m + 1) lo hi, wr) b = (us (v * 64 + b % 64) m 128 191, wr || !btw b lo hi) := by
  have e : ((m + 1 : Nat) == 0) = false := by simp
  have e2 : subW (m + 1) 1 = m := by unfold subW; omega
  simp only [stp1, us, e, cho, flw, or_low v b hv, e2]
  rfl
theorem stp_first {r : Us × Bool} {b : Nat} (h : r.1.mo = 0) : stp1 r b = ((bgK b 9).1, r.2 || !(bgK b 9).2) := by
  have e : (r.1.mo == 0) = true := by simp [h]
  simp only [stp1, e, cho, if_true]

def tailL : Nat → Nat → List (Option Nat)
  | 0, _ => []
  | m + 1, u => List.replicate m none ++ [some u]
theorem cont_run (m : Nat) : ∀ (t : List Nat) (lo hi v : Nat), m ≤ t.length → (∀ b ∈ t, b < 256) → 128 ≤ lo → hi ≤ 191 → (v + 1) * 64 ^ m ≤ 67108864 → m ≤ 3 →
    (∀ u, ctB m t lo hi v = some u → (∃ lo' hi', runL (us v m lo hi, false) (t.take m) = (us u 0 lo' hi', false)) ∧ lanes (us v m lo hi, false) (t.take m) = tailL m u) ∧
    (ctB m t lo hi v = none → (runL (us v m lo hi, false) (t.take m)).2 = true) := by
  induction m with
  | zero =>
    intro t lo hi v _ _ _ _ _ _
    refine ⟨fun u hu => ?_, fun h => by simp [ctB] at h⟩
    simp only [ctB, Option.some.injEq] at hu
    subst hu
    exact ⟨⟨lo, hi, rfl⟩, rfl⟩
  | succ m ih =>
    intro t lo hi v hl hb h1 h2 hv hm
    cases t with
    | nil => simp at hl
    | cons b t =>
      have hp : 1 ≤ 64 ^ m := Nat.pos_of_ne_zero (by simp)
      have hv1 : v < 67108864 := by
        have : (v + 1) * 1 ≤ (v + 1) * 64 ^ (m + 1) := Nat.mul_le_mul_left _ (by rw [Nat.pow_succ]; omega)
        omega
      have hs := stp_follow (wr := false) (lo := lo) (hi := hi) (b := b) hv1 (show m < 4294967295 by omega)
      have hbb := hb b (List.mem_cons_self ..)
      simp only [List.take_succ_cons, runL_cons, lanes]
      rw [hs]
      cases hw : btw b lo hi
      · refine ⟨fun u hu => by simp [ctB, hw] at hu, fun _ => runL_wrong _ _ (by simp)⟩
      · have hw' := btw_iff.1 hw
        have e : v * 64 + b % 64 = v * 64 + b - 128 := by omega
        have hb2 : (v * 64 + b - 128 + 1) * 64 ^ m ≤ 67108864 := by
          refine Nat.le_trans ?_ hv
          rw [Nat.pow_succ, ← Nat.mul_assoc, Nat.mul_right_comm]
          exact Nat.mul_le_mul_right _ (by omega)
        obtain ⟨i1, i2⟩ := ih t 128 191 (v * 64 + b - 128) (by simpa using hl) (fun x hx => hb x (List.mem_cons_of_mem _ hx)) (Nat.le_refl _) (Nat.le_refl _) hb2 (by omega)
        rw [e]
        simp only [Bool.not_true, Bool.or_false]
        refine ⟨fun u hu => ?_, fun hn => ?_⟩
        · simp only [ctB, hw, if_true] at hu
          obtain ⟨j1, j2⟩ := i1 u hu
          refine ⟨j1, ?_⟩
          rw [j2]
          cases m with
          | zero =>
            simp only [ctB, Option.some.injEq] at hu
            subst hu; rfl
          | succ m => rfl
        · simp only [ctB, hw, if_true] at hn
          exact i2 hn
theorem cont_short (t : List Nat) : ∀ (m lo hi v : Nat) (wr : Bool), t.length < m → m ≤ 3 → (v + 1) * 64 ^ m ≤ 67108864 → (∀ b ∈ t, b < 256) → good (runL (us v m lo hi, wr) t) = false := by
  induction t with
  | nil =>
    intro m lo hi v wr hm _ _ _
    have : (m == 0) = false := by simp at hm; simp; omega
    simp [runL, good, us, this]
  | cons b t ih =>
    intro m lo hi v wr hm h3 hv hb
    obtain ⟨m, rfl⟩ : ∃ k, m = k + 1 := ⟨m - 1, by simp at hm; omega⟩
    have hp : 1 ≤ 64 ^ m := Nat.pos_of_ne_zero (by simp)
    have hv1 : v < 67108864 := by
      have : (v + 1) * 1 ≤ (v + 1) * 64 ^ (m + 1) := Nat.mul_le_mul_left _ (by rw [Nat.pow_succ]; omega)
      omega
    rw [runL_cons, stp_follow hv1 (by omega)]
    refine ih m 128 191 _ _ (by simpa using hm) (by omega) ?_ (fun x hx => hb x (List.mem_cons_of_mem _ hx))
    refine Nat.le_trans ?_ hv
    rw [Nat.pow_succ, ← Nat.mul_assoc, Nat.mul_right_comm]
    exact Nat.mul_le_mul_right _ (by omega)
theorem good_wrong {r : Us × Bool} (h : r.2 = true) : good r = false := by simp [good, h]

/-- the reader and the document's points -/
theorem read_dps (f : Nat) : ∀ (l : List Nat) (r : Us × Bool), l.length ≤ f → (∀ b ∈ l, b < 256) → r.1.mo = 0 → r.2 = false →
    (∀ ps, dps f l = some ps → good (runL r l) = true ∧ lanes r l = flatL ps) ∧ (dps f l = none → good (runL r l) = false) := by
  induction f with
  | zero =>
    intro l r hl _ h0 h1
    have : l = [] := List.length_eq_zero_iff.1 (by omega)
    subst this
    refine ⟨fun ps hp => ?_, fun h => by simp [dps] at h⟩
    simp only [dps, Option.some.injEq] at hp
    subst hp
    exact ⟨by simp [runL, good, h0, h1], rfl⟩
  | succ f ih =>
    intro l r hl hb h0 h1
    cases l with
    | nil =>
      refine ⟨fun ps hp => ?_, fun h => by simp [dps] at h⟩
      simp only [dps, Option.some.injEq] at hp
      subst hp
      exact ⟨by simp [runL, good, h0, h1], rfl⟩
    | cons c t =>
      have hc := hb c (List.mem_cons_self ..)
      have ht : ∀ b ∈ t, b < 256 := fun x hx => hb x (List.mem_cons_of_mem _ hx)
      have hs := stp_first (b := c) h0
      rw [h1] at hs
      simp only [List.length_cons] at hl
      rw [runL_cons, hs]
      simp only [lanes, hs]
      by_cases h7 : c ≤ 127
      · obtain ⟨b1, b2, b3⟩ := bg_low c (by omega)
        have hd : dpB (c :: t) = (c, 1) := by simp [dpB, h7]
        have hsm : ((bgK c 9).1, false || !(bgK c 9).2) = ((bgK c 9).1, false) := by rw [b3]; rfl
        rw [hsm]
        obtain ⟨i1, i2⟩ := ih t ((bgK c 9).1, false) (by omega) ht b2 rfl
        have hdp : dps (f + 1) (c :: t) = (dps f t).map ((c, 1) :: ·) := by simp [dps, hd]
        rw [hdp]
        refine ⟨fun ps hp => ?_, fun hn => i2 (by simpa using hn)⟩
        obtain ⟨qs, hq, rfl⟩ := Option.map_eq_some_iff.1 hp
        obtain ⟨g1, g2⟩ := i1 qs hq
        refine ⟨g1, ?_⟩
        rw [g2]
        simp [flatL, laneOf, b1, b2]
      · by_cases hm : mrB c = 0
        · have hd : dpB (c :: t) = (0, 0) := by simp [dpB, h7, hm]
          have hdp : dps (f + 1) (c :: t) = none := by simp [dps, hd]
          rw [hdp]
          refine ⟨fun ps hp => by simp at hp, fun _ => good_wrong (runL_wrong _ _ ?_)⟩
          rw [bg_no c hc (by omega) hm]; rfl
        · obtain ⟨b1, b2, b3, b4, b5⟩ := bg_yes c hc (by omega)
          obtain ⟨k1, k2, k3, k4, k5, k6⟩ := first_facts c hc (by omega)
          have hst : ((bgK c 9).1, false || !(bgK c 9).2) = (us (vrB c) (mrB c) (lwB c) (hgB c), false) := by rw [b5, us_eq b1 b2 b3 b4]; rfl
          rw [hst]
          have hpow : (vrB c + 1) * 64 ^ mrB c ≤ 67108864 := by
            have : mrB c = 1 ∨ mrB c = 2 ∨ mrB c = 3 := by omega
            rcases this with e | e | e <;> rw [e] <;> omega
          by_cases hsh : t.length < mrB c
          · have hd : dpB (c :: t) = (0, 0) := by simp [dpB, h7, hsh]
            have hdp : dps (f + 1) (c :: t) = none := by simp [dps, hd]
            rw [hdp]
            exact ⟨fun ps hp => by simp at hp, fun _ => cont_short t _ _ _ _ _ hsh k3 hpow ht⟩
          · obtain ⟨c1, c2⟩ := cont_run (mrB c) t (lwB c) (hgB c) (vrB c) (by omega) ht k1 k2 hpow k3
            have hsp : t = t.take (mrB c) ++ t.drop (mrB c) := (List.take_append_drop _ _).symm
            cases hct : ctB (mrB c) t (lwB c) (hgB c) (vrB c) with
            | none =>
              have hd : dpB (c :: t) = (0, 0) := by simp [dpB, h7, hsh, hm, hct]
              have hdp : dps (f + 1) (c :: t) = none := by simp [dps, hd]
              rw [hdp]
              refine ⟨fun ps hp => by simp at hp, fun _ => good_wrong ?_⟩
              rw [hsp, runL_append]
              exact runL_wrong _ _ (c2 hct)
            | some u =>
              have hd : dpB (c :: t) = (u, mrB c + 1) := by simp [dpB, h7, hsh, hm, hct]
              have hdp : dps (f + 1) (c :: t) = (dps f (t.drop (mrB c))).map ((u, mrB c + 1) :: ·) := by simp [dps, hd]
              obtain ⟨⟨lo', hi', j1⟩, j2⟩ := c1 u hct
              have hrun : runL (us (vrB c) (mrB c) (lwB c) (hgB c), false) t = runL (us u 0 lo' hi', false) (t.drop (mrB c)) := by
                conv => lhs; rw [hsp, runL_append, j1]
              have hlan : lanes (us (vrB c) (mrB c) (lwB c) (hgB c), false) t = tailL (mrB c) u ++ lanes (us u 0 lo' hi', false) (t.drop (mrB c)) := by
                conv => lhs; rw [hsp, lanes_append, j1, j2]
              obtain ⟨i1, i2⟩ := ih (t.drop (mrB c)) (us u 0 lo' hi', false) (by rw [List.length_drop]; omega) (fun b hb' => ht b (List.mem_of_mem_drop hb')) rfl rfl
              rw [hdp, hrun, hlan]
              refine ⟨fun ps hp => ?_, fun hn => i2 (by simpa using hn)⟩
              obtain ⟨qs, hq, rfl⟩ := Option.map_eq_some_iff.1 hp
              obtain ⟨g1, g2⟩ := i1 qs hq
              refine ⟨g1, ?_⟩
              rw [g2]
              have hlo : laneOf (us (vrB c) (mrB c) (lwB c) (hgB c), false) = none := by
                have : (mrB c == 0) = false := by simp [hm]
                simp [laneOf, us, this]
              rw [hlo]
              obtain ⟨m, e⟩ : ∃ m, mrB c = m + 1 := ⟨mrB c - 1, by omega⟩
              rw [e]
              simp [flatL, tailL, List.replicate_succ]

/-- a point's bytes are as many as it was read of -/
theorem dp_len (l : List Nat) (hb : ∀ b ∈ l, b < 256) (h : (dpB l).2 ≠ 0) : blB (dpB l).1 = (dpB l).2 ∧ (dpB l).2 ≤ l.length ∧ (dpB l).1 < 4294967296 := by
  cases l with
  | nil => simp [dpB] at h
  | cons c t =>
    have hc := hb c (List.mem_cons_self ..)
    by_cases h7 : c ≤ 127
    · have hd : dpB (c :: t) = (c, 1) := by simp [dpB, h7]
      rw [hd]
      refine ⟨?_, by simp, by show c < _; omega⟩
      unfold blB; rw [if_pos (by show c < 128; omega)]
    · by_cases hm : mrB c = 0 ∨ t.length < mrB c
      · have hd : dpB (c :: t) = (0, 0) := by simp [dpB, h7, hm]
        rw [hd] at h; simp at h
      · cases hct : ctB (mrB c) t (lwB c) (hgB c) (vrB c) with
        | none =>
          have hd : dpB (c :: t) = (0, 0) := by simp [dpB, h7, hm, hct]
          rw [hd] at h; simp at h
        | some u =>
          have hd : dpB (c :: t) = (u, mrB c + 1) := by simp [dpB, h7, hm, hct]
          rw [hd]
          have hm0 : mrB c ≠ 0 ∧ mrB c ≤ t.length := by omega
          have ht : ∀ b ∈ t, b < 256 := fun x hx => hb x (List.mem_cons_of_mem _ hx)
          refine ⟨?_, by simp; omega, ?_⟩ <;> clear hd hm h
          all_goals
            unfold mrB at hm0 hct ⊢
            unfold vrB at hct
            split at hm0
            · rename_i hx
              simp only [if_pos hx] at hct ⊢
              match t, hm0.2 with
              | b1 :: t, _ =>
                simp only [ctB] at hct
                split at hct
                case isFalse => cases hct
                rename_i hw
                have hw := btw_iff.1 hw
                simp only [Option.some.injEq] at hct
                have e1 : lwB c = 128 := by unfold lwB; rw [if_neg (by omega), if_neg (by omega)]
                have e2 : hgB c = 191 := by unfold hgB; rw [if_neg (by omega), if_neg (by omega)]
                rw [e1, e2] at hw
                subst hct
                first
                  | (unfold blB; rw [if_neg (by omega), if_pos (by omega)])
                  | omega
            · rename_i hx
              split at hm0
              · rename_i hy
                simp only [if_neg hx, if_pos hy] at hct ⊢
                match t, hm0.2 with
                | b1 :: b2 :: t, _ =>
                  simp only [ctB] at hct
                  split at hct
                  case isFalse => cases hct
                  rename_i hw
                  have hw := btw_iff.1 hw
                  split at hct
                  case isFalse => cases hct
                  rename_i hw2
                  have hw2 := btw_iff.1 hw2
                  simp only [Option.some.injEq] at hct
                  have e1 : (c = 224 → lwB c = 160) ∧ 128 ≤ lwB c ∧ hgB c ≤ 191 := by
                    obtain ⟨k1, k2, _⟩ := first_facts c hc (by omega)
                    exact ⟨fun e => by subst e; rfl, k1, k2⟩
                  subst hct
                  have hv : 2048 ≤ ((c - 224) * 64 + b1 - 128) * 64 + b2 - 128 := by
                    by_cases e : c = 224
                    · have := e1.1 e; omega
                    · omega
                  first
                    | (unfold blB; rw [if_neg (by omega), if_neg (by omega), if_pos (by omega)])
                    | omega
              · rename_i hy
                split at hm0
                · rename_i hz
                  simp only [if_neg hx, if_neg hy, if_pos hz] at hct ⊢
                  match t, hm0.2 with
                  | b1 :: b2 :: b3 :: t, _ =>
                    simp only [ctB] at hct
                    split at hct
                    case isFalse => cases hct
                    rename_i hw
                    have hw := btw_iff.1 hw
                    split at hct
                    case isFalse => cases hct
                    rename_i hw2
                    have hw2 := btw_iff.1 hw2
                    split at hct
                    case isFalse => cases hct
                    rename_i hw3
                    have hw3 := btw_iff.1 hw3
                    simp only [Option.some.injEq] at hct
                    have e1 : (c = 240 → lwB c = 144) ∧ 128 ≤ lwB c ∧ hgB c ≤ 191 := by
                      obtain ⟨k1, k2, _⟩ := first_facts c hc (by omega)
                      exact ⟨fun e => by subst e; rfl, k1, k2⟩
                    subst hct
                    have hv : 65536 ≤ (((c - 240) * 64 + b1 - 128) * 64 + b2 - 128) * 64 + b3 - 128 := by
                      by_cases e : c = 240
                      · have := e1.1 e; omega
                      · omega
                    first
                      | (unfold blB; rw [if_neg (by omega), if_neg (by omega), if_neg (by omega)])
                      | omega
                · omega

/-- texts one behind the other -/
theorem stp_same {r s : Us × Bool} (b : Nat) (h : r.1.mo = 0) (h' : s.1.mo = 0) (e : r.2 = s.2) : stp1 r b = stp1 s b := by rw [stp_first h, stp_first h', e]
theorem run_same {r s : Us × Bool} (l : List Nat) (h : good r = true) (h' : good s = true) : lanes r l = lanes s l ∧ good (runL r l) = good (runL s l) := by
  unfold good at h h'
  simp only [Bool.and_eq_true, Bool.not_eq_true', beq_iff_eq] at h h'
  cases l with
  | nil => exact ⟨rfl, by simp [runL, good, h, h']⟩
  | cons b t =>
    have e := stp_same b h.2 h'.2 (h.1.trans h'.1.symm)
    simp only [lanes, runL_cons, e]
    exact ⟨trivial, trivial⟩
def us0 : Us × Bool := (us 0 0 0 0, false)
theorem two_run (b c : List Nat) (h : good (runL us0 b) = true) : lanes us0 (b ++ c) = lanes us0 b ++ lanes us0 c ∧ good (runL us0 (b ++ c)) = good (runL us0 c) := by
  obtain ⟨h1, h2⟩ := run_same (r := runL us0 b) (s := us0) c h rfl
  rw [lanes_append, runL_append, h1, h2]
  exact ⟨rfl, rfl⟩
end Go.Proofs.YtjcnkigadlmpgaaDoor
