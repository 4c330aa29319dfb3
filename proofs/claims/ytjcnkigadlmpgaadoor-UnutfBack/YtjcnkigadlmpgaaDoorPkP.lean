/- Plain facts: what packing makes of an arena's words, and what it notes. Nothing of the program is named here. -/
import Derived.Test.YtjcnkigadlmpgaaDoorSnS
import Derived.Test.YtjcnkigadlmpgaaDoorCtH
namespace Go.Proofs.YtjcnkigadlmpgaaDoor
open Go.RowKit

/-- the numbers below n that are kept, in order -/
def kp (b : Nat → Bool) (n : Nat) : List Nat := (List.range n).filter b
/-- how many below n are kept -/
def rk (b : Nat → Bool) (n : Nat) : Nat := (kp b n).length
theorem kp_succ (b : Nat → Bool) (n : Nat) : kp b (n + 1) = kp b n ++ (if b n then [n] else []) := by
  unfold kp; rw [List.range_succ, List.filter_append]; cases h : b n <;> simp [List.filter, h]
theorem rk_zero (b : Nat → Bool) : rk b 0 = 0 := rfl
theorem rk_succ (b : Nat → Bool) (n : Nat) : rk b (n + 1) = rk b n + (if b n then 1 else 0) := by
  unfold rk; rw [kp_succ]; cases b n <;> simp
theorem rk_le (b : Nat → Bool) (n : Nat) : rk b n ≤ n := by
  induction n with
  | zero => simp [rk_zero]
  | succ n ih => rw [rk_succ]; cases b n <;> simp <;> omega
theorem rk_add (b : Nat → Bool) (p k : Nat) : rk b p ≤ rk b (p + k) ∧ rk b (p + k) ≤ rk b p + k := by
  induction k with
  | zero => simp
  | succ k ih => rw [← Nat.add_assoc, rk_succ]; cases b (p + k) <;> simp <;> omega
theorem rk_kept (b : Nat → Bool) (p p' : Nat) (h : b p = true) (hlt : p < p') : rk b p + 1 ≤ rk b p' ∧ rk b p' ≤ rk b p + (p' - p) := by
  obtain ⟨k, rfl⟩ : ∃ k, p' = p + 1 + k := ⟨p' - p - 1, by omega⟩
  have h1 := rk_add b (p + 1) k
  rw [rk_succ, h] at h1
  simp at h1; omega
theorem kp_get (b : Nat → Bool) (n p : Nat) (hp : p < n) (hb : b p = true) : (kp b n)[rk b p]? = some p := by
  induction n with
  | zero => omega
  | succ n ih =>
    rw [kp_succ]
    by_cases e : p = n
    · subst e; rw [hb]; unfold rk; simp
    · have := ih (by omega)
      have hl := (List.getElem?_eq_some_iff.1 this).1
      rw [List.getElem?_append_left hl]; exact this
theorem kp_at (b : Nat → Bool) (n i p : Nat) (h : (kp b n)[i]? = some p) : p < n ∧ b p = true ∧ rk b p = i := by
  induction n with
  | zero => simp [kp] at h
  | succ n ih =>
    rw [kp_succ] at h
    rcases Nat.lt_or_ge i (kp b n).length with hl | hl
    · rw [List.getElem?_append_left hl] at h
      obtain ⟨h1, h2, h3⟩ := ih h
      exact ⟨by omega, h2, h3⟩
    · rw [List.getElem?_append_right hl] at h
      cases hb : b n with
      | false => rw [hb] at h; simp at h
      | true =>
        rw [hb] at h
        simp only [if_true] at h
        have h0 := (List.getElem?_eq_some_iff.1 h).1
        simp at h0
        have : i = (kp b n).length := by omega
        subst this
        simp at h; subst h
        exact ⟨by omega, hb, rfl⟩
/-- the way that the tuple at p has to go -/
def wy (b : Nat → Bool) (p : Nat) : Nat := p - rk b p
/-- where the tuple at p is behind s steps -/
def qs (b : Nat → Bool) (s p : Nat) : Nat := p - wy b p % 2 ^ s
theorem qs_le (b : Nat → Bool) (s p : Nat) : qs b s p ≤ p := Nat.sub_le _ _
theorem qs_lt (b : Nat → Bool) (s p p' : Nat) (h : b p = true) (hlt : p < p') : qs b s p < qs b s p' := by
  have h1 := rk_kept b p p' h hlt
  have h2 := rk_le b p
  have h3 := rk_le b p'
  obtain ⟨e, he⟩ : ∃ e, wy b p' = wy b p + e := ⟨wy b p' - wy b p, by unfold wy; omega⟩
  have hM : 0 < 2 ^ s := Nat.two_pow_pos s
  have h4 : (wy b p + e) % 2 ^ s ≤ wy b p % 2 ^ s + e := by
    rw [Nat.add_mod]; exact Nat.le_trans (Nat.mod_le _ _) (Nat.add_le_add_left (Nat.mod_le _ _) _)
  have h5 : wy b p % 2 ^ s ≤ wy b p := Nat.mod_le _ _
  have h6 : wy b p' % 2 ^ s ≤ wy b p' := Nat.mod_le _ _
  unfold qs
  have h7 : wy b p = p - rk b p := rfl
  have h8 : wy b p' = p' - rk b p' := rfl
  rw [← he] at h4
  generalize wy b p % 2 ^ s = m at *
  generalize wy b p' % 2 ^ s = m' at *
  omega
theorem qs_inj (b : Nat → Bool) (s p p' : Nat) (h : b p = true) (h' : b p' = true) (e : qs b s p = qs b s p') : p = p' := by
  rcases Nat.lt_trichotomy p p' with hl | hl | hl
  · have := qs_lt b s p p' h hl; omega
  · exact hl
  · have := qs_lt b s p' p h' hl; omega
theorem mod_two_pow_bit (d s : Nat) : d % 2 ^ (s + 1) = d % 2 ^ s + (if d.testBit s then 2 ^ s else 0) := by
  rw [Nat.mod_pow_succ, Nat.testBit_eq_decide_div_mod_eq]
  rcases Nat.mod_two_eq_zero_or_one (d / 2 ^ s) with h | h <;> simp [h]
theorem qs_succ (b : Nat → Bool) (s p : Nat) : qs b s p = qs b (s + 1) p + (if (wy b p).testBit s then 2 ^ s else 0) := by
  unfold qs
  have h1 := mod_two_pow_bit (wy b p) s
  have h2 : wy b p % 2 ^ (s + 1) ≤ wy b p := Nat.mod_le _ _
  have h3 : wy b p ≤ p := Nat.sub_le _ _
  generalize (if (wy b p).testBit s then 2 ^ s else 0) = k at *
  omega
/-- behind s steps: a number has the way and the words of the tuple that has come to it, or 0 -/
structure Gone (b : Nat → Bool) (n s : Nat) (way : Nat → Nat) (x : Nat → Nat → Nat) (o : Nat → Nat → Nat) (ls : List Nat) : Prop where
  full : ∀ p, p < n → b p = true → way (qs b s p) = wy b p ∧ ∀ L ∈ ls, x L (qs b s p) = o L p
  none : ∀ i, i < n → (∀ p, p < n → b p = true → qs b s p ≠ i) → way i = 0 ∧ ∀ L ∈ ls, x L i = 0
/-- what a step makes of two words -/
def mix (g c : Bool) (here there : Nat) : Nat := if c then there else if g then 0 else here
/-- does one come to i? -/
def cm (n s : Nat) (way : Nat → Nat) (i : Nat) : Bool := decide (i + 2 ^ s < n) && (way (i + 2 ^ s)).testBit s
def ahead (n s : Nat) (x : Nat → Nat) (i : Nat) : Nat := if i + 2 ^ s < n then x (i + 2 ^ s) else 0
theorem Gone.step {b : Nat → Bool} {n s : Nat} {way way' : Nat → Nat} {x x' o : Nat → Nat → Nat} {ls : List Nat} (h : Gone b n s way x o ls)
    (hw : ∀ i, i < n → way' i = mix ((way i).testBit s) (cm n s way i) (way i) (ahead n s way i))
    (hx : ∀ i, i < n → ∀ L ∈ ls, x' L i = mix ((way i).testBit s) (cm n s way i) (x L i) (ahead n s (x L) i)) : Gone b n (s + 1) way' x' o ls := by
  have hM : 0 < 2 ^ s := Nat.two_pow_pos s
  have key : ∀ p, p < n → b p = true → (wy b p).testBit s = true → cm n s way (qs b (s + 1) p) = true ∧ qs b (s + 1) p + 2 ^ s = qs b s p := by
    intro p hp hb hbit
    have h1 := qs_succ b s p
    rw [hbit] at h1; simp at h1
    have h2 := qs_le b s p
    refine ⟨?_, h1.symm⟩
    unfold cm
    rw [← h1, (h.full p hp hb).1, hbit]
    simp; omega
  have nocome : ∀ i, i < n → (∀ p, p < n → b p = true → (wy b p).testBit s = true → qs b s p ≠ i + 2 ^ s) → cm n s way i = false := by
    intro i hi hno
    unfold cm
    by_cases hlt : i + 2 ^ s < n
    · have : (way (i + 2 ^ s)).testBit s = false := by
        by_cases hex : ∃ p, p < n ∧ b p = true ∧ qs b s p = i + 2 ^ s
        · obtain ⟨p, hp, hb, he⟩ := hex
          have h1 := (h.full p hp hb).1
          rw [he] at h1; rw [h1]
          cases hbit : (wy b p).testBit s with
          | false => rfl
          | true => exact absurd he (hno p hp hb hbit)
        · rw [(h.none (i + 2 ^ s) hlt (fun p hp hb he => hex ⟨p, hp, hb, he⟩)).1]; simp
      rw [this]; simp
    · simp [hlt]
  refine ⟨fun p hp hb => ?_, fun i hi hno => ?_⟩
  · have hq : qs b (s + 1) p < n := by have := qs_le b (s + 1) p; omega
    cases hbit : (wy b p).testBit s with
    | true =>
      obtain ⟨k1, k2⟩ := key p hp hb hbit
      have k3 : qs b (s + 1) p + 2 ^ s < n := by have := qs_le b s p; omega
      rw [hw _ hq, k1]
      refine ⟨?_, fun L hL => ?_⟩
      · simp only [mix, ahead, if_true, k3]; rw [k2]; exact (h.full p hp hb).1
      · rw [hx _ hq L hL, k1]
        simp only [mix, ahead, if_true, k3]; rw [k2]; exact (h.full p hp hb).2 L hL
    | false =>
      have he := qs_succ b s p
      rw [hbit] at he; simp at he
      have hc : cm n s way (qs b (s + 1) p) = false := by
        refine nocome _ hq fun p' hp' hb' hbit' he' => ?_
        obtain ⟨_, k2⟩ := key p' hp' hb' hbit'
        have e1 : qs b (s + 1) p' = qs b (s + 1) p := by omega
        have := qs_inj b (s + 1) p' p hb' hb e1
        subst this; rw [hbit] at hbit'; cases hbit'
      have hg := (h.full p hp hb).1
      rw [he] at hg
      rw [hw _ hq, hc, hg, hbit]
      refine ⟨by simp [mix], fun L hL => ?_⟩
      rw [hx _ hq L hL, hc, hg, hbit]
      have := (h.full p hp hb).2 L hL
      rw [he] at this
      simpa [mix] using this
  · have hc : cm n s way i = false := by
      refine nocome _ hi fun p hp hb hbit he => ?_
      obtain ⟨_, k2⟩ := key p hp hb hbit
      exact hno p hp hb (by omega)
    by_cases hex : ∃ p, p < n ∧ b p = true ∧ qs b s p = i
    · obtain ⟨p, hp, hb, he⟩ := hex
      cases hbit : (wy b p).testBit s with
      | false =>
        have h1 := qs_succ b s p
        rw [hbit] at h1; simp at h1
        exact absurd (h1.symm.trans he) (hno p hp hb)
      | true =>
        have hg := (h.full p hp hb).1
        rw [he] at hg
        rw [hw _ hi, hc, hg, hbit]
        refine ⟨by simp [mix], fun L hL => ?_⟩
        rw [hx _ hi L hL, hc, hg, hbit]; simp [mix]
    · obtain ⟨h1, h2⟩ := h.none i hi (fun p hp hb he => hex ⟨p, hp, hb, he⟩)
      rw [hw _ hi, hc, h1]
      refine ⟨by simp [mix], fun L hL => ?_⟩
      rw [hx _ hi L hL, hc, h1, h2 L hL]; simp [mix]
theorem Gone.start {b : Nat → Bool} {n : Nat} {way : Nat → Nat} {x o : Nat → Nat → Nat} {ls : List Nat}
    (hw : ∀ i, i < n → way i = if b i then wy b i else 0) (hx : ∀ i, i < n → ∀ L ∈ ls, x L i = if b i then o L i else 0) : Gone b n 0 way x o ls := by
  have hq : ∀ p, qs b 0 p = p := fun p => by unfold qs; rw [Nat.pow_zero, Nat.mod_one]; rfl
  refine ⟨fun p hp hb => ?_, fun i hi hno => ?_⟩
  · rw [hq, hw p hp, hb]; exact ⟨by simp, fun L hL => by rw [hx p hp L hL, hb]; simp⟩
  · have hb : b i = false := by
      cases hb : b i with
      | false => rfl
      | true => exact absurd (hq i) (hno i hi hb)
    rw [hw i hi, hb]; exact ⟨by simp, fun L hL => by rw [hx i hi L hL, hb]; simp⟩
/-- all steps done: what is kept stands at the front, zeros behind it -/
theorem Gone.last {b : Nat → Bool} {n s : Nat} {way : Nat → Nat} {x o : Nat → Nat → Nat} {ls : List Nat} (h : Gone b n s way x o ls) (hs : n ≤ 2 ^ s) :
    ∀ i, i < n → ∀ L ∈ ls, x L i = ((kp b n).map (o L)).getD i 0 := by
  have hq : ∀ p, p < n → qs b s p = rk b p := fun p hp => by
    have := rk_le b p
    unfold qs; rw [Nat.mod_eq_of_lt (by unfold wy; omega)]; unfold wy; omega
  intro i hi L hL
  rw [List.getD_eq_getElem?_getD, List.getElem?_map]
  cases hk : (kp b n)[i]? with
  | some p =>
    obtain ⟨hp, hb, hr⟩ := kp_at b n i p hk
    have := (h.full p hp hb).2 L hL
    rw [hq p hp, hr] at this
    simp [this]
  | none =>
    have := (h.none i hi (fun p hp hb he => by
      rw [hq p hp] at he
      have := kp_get b n p hp hb
      rw [he, hk] at this; cases this)).2 L hL
    simp [this]

/- words -/
theorem whole_w (x : Nat) (_hx : x < 4294967296) : subW 0 (andW x 1) = mk (x % 2 == 1) := by
  unfold subW andW mk
  rw [Nat.and_one_is_mod]
  rcases Nat.mod_two_eq_zero_or_one x with h | h <;> simp [h]
theorem andW_mk (b : Bool) (x : Nat) (hx : x < 4294967296) : andW (mk b) x = if b then x else 0 := by
  unfold andW mk
  cases b
  · simp
  · simp only [if_true]
    rw [Nat.and_comm]
    exact (Nat.and_two_pow_sub_one_eq_mod x 32).trans (Nat.mod_eq_of_lt hx)
theorem notW_mk (b : Bool) : notW (mk b) = mk (!b) := by cases b <;> decide
theorem shr_odd (x s : Nat) (hx : x < 4294967296) (_hs : s < 32) : (shr x s % 2 == 1) = x.testBit s := by
  have h := shr_bit x s 0 hx
  rw [Nat.testBit_zero, Nat.add_zero] at h
  rw [← h]; rfl
theorem mix_w (g c : Bool) (x y : Nat) (hx : x < 4294967296) (hy : y < 4294967296) : selW (mk c) y (andW (notW (mk g)) x) = mix g c x y := by
  rw [notW_mk, andW_mk _ _ hx]
  unfold mix
  cases c
  · rw [selW_no _ _ (by cases g <;> simp <;> omega)]; cases g <;> rfl
  · rw [selW_yes _ _ hy]; rfl
theorem mix_lt {g c : Bool} {x y : Nat} (hx : x < 4294967296) (hy : y < 4294967296) : mix g c x y < 4294967296 := by cases g <;> cases c <;> simp [mix] <;> omega
theorem sub_small (i k : Nat) (h : k ≤ i) (hi : i < 4294967296) : subW i k = i - k := by unfold subW; omega
theorem sub_mk (k : Nat) (b : Bool) (h : k < 4294967295) : subW k (mk b) = k + (if b then 1 else 0) := by cases b <;> simp [subW, mk] <;> omega

/- updates -/
def upd (W : Nat → Nat) (S : List Nat) (f : Nat → Nat) : Nat → Nat := fun x => if x ∈ S then f x else W x
theorem upd_nil (W f : Nat → Nat) : upd W [] f = W := by funext x; simp [upd]
theorem upd_snoc (W f : Nat → Nat) (S : List Nat) (a : Nat) : upd W (S ++ [a]) f = fun x => if x = a then f a else upd W S f x := by
  funext x
  unfold upd
  by_cases h : x = a
  · subst h; simp
  · simp [h]
theorem upd_in (W f : Nat → Nat) (S : List Nat) (x : Nat) (h : x ∈ S) : upd W S f x = f x := by simp [upd, h]
theorem upd_out (W f : Nat → Nat) (S : List Nat) (x : Nat) (h : x ∉ S) : upd W S f x = W x := by simp [upd, h]
theorem apart_ne {n : Nat} {ls : List Nat} (hp : ls.Pairwise (Apart n)) {L M i j : Nat} (hL : L ∈ ls) (hM : M ∈ ls) (hi : i < n) (hj : j < n) (hij : i ≠ j) : L + i ≠ M + j := by
  by_cases e : L = M
  · omega
  · obtain ⟨p, hp1, hp2⟩ := List.getElem_of_mem hL
    obtain ⟨q, hq1, hq2⟩ := List.getElem_of_mem hM
    have h3 := List.pairwise_iff_getElem.1 hp
    rcases Nat.lt_trichotomy p q with h | h | h
    · have := (h3 p q hp1 hq1 h).d; omega
    · subst h; omega
    · have := (h3 q p hq1 hp1 h).d; omega
theorem apart_eq {n : Nat} {ls : List Nat} (hp : ls.Pairwise (Apart n)) {p q i j : Nat} (hp1 : p < ls.length) (hq1 : q < ls.length) (hi : i < n) (hj : j < n) (hpq : p ≠ q) : ls[p] + i ≠ ls[q] + j := by
  have h3 := List.pairwise_iff_getElem.1 hp
  rcases Nat.lt_trichotomy p q with h | h | h
  · have := (h3 p q hp1 hq1 h).d; omega
  · exact absurd h hpq
  · have := (h3 q p hq1 hp1 h).d; omega
theorem notin_take {n : Nat} {ls : List Nat} (hp : ls.Pairwise (Apart n)) {j i k : Nat} (hj : j < ls.length) (hi : i < n) (hk : k < n) : ls[j] + k ∉ (ls.take j).map (· + i) := by
  intro h
  obtain ⟨L, hL, he⟩ := List.mem_map.1 h
  obtain ⟨q, hq, rfl⟩ := List.getElem_of_mem hL
  rw [List.length_take] at hq
  rw [List.getElem_take] at he
  exact apart_eq hp (p := q) (q := j) (by omega) hj hi hk (by omega) he

/- what is noted -/
def evLd (p : Nat) : Ev := ⟨1, (p : Int), 0⟩
def evSt (p : Nat) : Ev := ⟨2, (p : Int), 0⟩
/-- of a number, by sift -/
def evSf1 (ls : List Nat) (i : Nat) : List Ev := ls.flatMap fun L => [evLd (L + i), evSt (L + i)]
def evSf (keep ways : Nat) (ls : List Nat) (i : Nat) : List Ev := [evLd (keep + i), evSt (ways + i)] ++ evSf1 ls i
/-- of a number, by a step -/
def evRd (n s L i : Nat) : List Ev := evLd (L + i) :: (if i + 2 ^ s < n then [evLd (L + (i + 2 ^ s))] else [])
def evMv (n s : Nat) (ls : List Nat) (i : Nat) : List Ev := ls.flatMap fun L => evRd n s L i ++ [evSt (L + i)]
def upTo (f : Nat → List Ev) (n : Nat) : List Ev := (List.range n).flatMap f
theorem upTo_succ (f : Nat → List Ev) (n : Nat) : upTo f (n + 1) = upTo f n ++ f n := by simp [upTo, List.range_succ]
theorem upTo_zero (f : Nat → List Ev) : upTo f 0 = [] := rfl
def evPack (keep ways n S : Nat) (ls : List Nat) : List Ev := upTo (evSf keep ways ls) n ++ upTo (fun s => upTo (evMv n s (ways :: ls)) n) S ++ upTo (fun i => [evSt (keep + i)]) n
theorem evSf_len (keep ways : Nat) (ls : List Nat) (i : Nat) : (evSf keep ways ls i).length = 2 + 2 * ls.length := by
  have : ∀ l : List Nat, (evSf1 l i).length = 2 * l.length := fun l => by
    induction l with
    | nil => rfl
    | cons a l ih => unfold evSf1 at *; rw [List.flatMap_cons, List.length_append, ih]; simp; omega
  unfold evSf; rw [List.length_append, this]; rfl
theorem upTo_len (f : Nat → List Ev) (n c : Nat) (h : ∀ i, i < n → (f i).length = c) : (upTo f n).length = n * c := by
  induction n with
  | zero => simp [upTo]
  | succ n ih => rw [upTo_succ, List.length_append, ih (fun i hi => h i (by omega)), h n (by omega), Nat.succ_mul]
theorem evMv_len (n s : Nat) (ls : List Nat) (i : Nat) : (evMv n s ls i).length = (2 + (if i + 2 ^ s < n then 1 else 0)) * ls.length := by
  induction ls with
  | nil => simp [evMv]
  | cons a l ih =>
    unfold evMv at *
    rw [List.flatMap_cons, List.length_append, ih, List.length_cons, Nat.mul_succ]
    unfold evRd
    by_cases h : i + 2 ^ s < n <;> simp [h] <;> omega
theorem evMvs_len (n s : Nat) (ls : List Nat) (h : 2 ^ s < n) : (upTo (evMv n s ls) n).length + 2 ^ s * ls.length = 3 * n * ls.length := by
  have key : ∀ k, k ≤ n → (upTo (evMv n s ls) k).length + (k - (n - 2 ^ s)) * ls.length = 3 * k * ls.length := by
    intro k
    induction k with
    | zero => intro _; simp [upTo]
    | succ k ih =>
      intro hk
      have h1 := ih (by omega)
      rw [upTo_succ, List.length_append, evMv_len]
      have h2 : 3 * (k + 1) * ls.length = 3 * k * ls.length + 3 * ls.length := by rw [← Nat.add_mul]; congr 1
      rw [h2, ← h1]
      by_cases hlt : k + 2 ^ s < n
      · have e1 : k + 1 - (n - 2 ^ s) = 0 := by omega
        have e2 : k - (n - 2 ^ s) = 0 := by omega
        rw [e1, e2, if_pos hlt]; omega
      · have e1 : k + 1 - (n - 2 ^ s) = (k - (n - 2 ^ s)) + 1 := by omega
        rw [e1, Nat.succ_mul, if_neg hlt]; omega
  have := key n (Nat.le_refl _)
  have e : n - (n - 2 ^ s) = 2 ^ s := Nat.sub_sub_self (Nat.le_of_lt h)
  rw [e] at this; exact this
theorem evMvss_len (n S : Nat) (ls : List Nat) (h : ∀ s, s < S → 2 ^ s < n) : (upTo (fun s => upTo (evMv n s ls) n) S).length + (2 ^ S - 1) * ls.length = 3 * n * S * ls.length := by
  induction S with
  | zero => simp [upTo]
  | succ S ih =>
    have h1 := ih fun s hs => h s (by omega)
    have h2 := evMvs_len n S ls (h S (by omega))
    rw [upTo_succ, List.length_append]
    have e1 : 2 ^ (S + 1) - 1 = (2 ^ S - 1) + 2 ^ S := by have := Nat.two_pow_pos S; rw [Nat.pow_succ]; omega
    have e2 : 3 * n * (S + 1) * ls.length = 3 * n * S * ls.length + 3 * n * ls.length := by rw [← Nat.add_mul]; congr 1
    rw [e1, e2, Nat.add_mul, ← h1, ← h2]; omega

/- sift, number by number -/
structure Sf (W V : Nat → Nat) (keep ways : Nat) (ls : List Nat) (n k : Nat) : Prop where
  way : ∀ i, i < k → V (ways + i) = if W (keep + i) % 2 == 1 then wy (fun i => W (keep + i) % 2 == 1) i else 0
  lane : ∀ L ∈ ls, ∀ i, i < n → V (L + i) = if i < k then (if W (keep + i) % 2 == 1 then W (L + i) else 0) else W (L + i)
  rest : ∀ x, (∀ L ∈ ways :: ls, x < L ∨ L + n ≤ x) → V x = W x
theorem Sf.start (W : Nat → Nat) (keep ways : Nat) (ls : List Nat) (n : Nat) : Sf W W keep ways ls n 0 := ⟨fun i h => by omega, fun L _ i _ => by simp, fun _ _ => rfl⟩
theorem Sf.keep {W V : Nat → Nat} {keep ways : Nat} {ls : List Nat} {n k : Nat} (h : Sf W V keep ways ls n k) (hp : (keep :: ways :: ls).Pairwise (Apart n)) {i : Nat} (hi : i < n) : V (keep + i) = W (keep + i) := by
  refine h.rest _ fun L hL => ?_
  have := ((List.pairwise_cons.1 hp).1 L hL).d; omega
theorem Sf.snoc {W V V' : Nat → Nat} {keep ways : Nat} {ls : List Nat} {n k : Nat} (h : Sf W V keep ways ls n k) (hk : k < n) (hp : (keep :: ways :: ls).Pairwise (Apart n)) (y : Nat)
    (hy : y = if W (keep + k) % 2 == 1 then wy (fun i => W (keep + i) % 2 == 1) k else 0)
    (hV : V' = upd (fun x => if x = ways + k then y else V x) (ls.map (· + k)) (fun x => if W (keep + k) % 2 == 1 then V x else 0)) : Sf W V' keep ways ls n (k + 1) := by
  have hp2 := (List.pairwise_cons.1 hp).2
  have hp3 := List.pairwise_cons.1 hp2
  have hwl : ∀ i, i < n → ways + i ∉ ls.map (· + k) := fun i hi hm => by
    obtain ⟨L, hL, he⟩ := List.mem_map.1 hm
    have := (hp3.1 L hL).d; omega
  refine ⟨fun i hi => ?_, fun L hL i hi => ?_, fun x hx => ?_⟩
  · rw [hV, upd_out _ _ _ _ (hwl i (by omega))]
    by_cases e : i = k
    · subst e; simp [hy]
    · have : ¬ ways + i = ways + k := by omega
      rw [if_neg this]; exact h.way i (by omega)
  · have hne : ¬ L + i = ways + k := by have := (hp3.1 L hL).d; omega
    by_cases e : i = k
    · subst e
      rw [hV, upd_in _ _ _ _ (List.mem_map.2 ⟨L, hL, rfl⟩), h.lane L hL i hi]
      simp
    · have hni : L + i ∉ ls.map (· + k) := fun hm => by
        obtain ⟨M, hM, he⟩ := List.mem_map.1 hm
        exact apart_ne hp3.2 hL hM hi hk e he.symm
      rw [hV, upd_out _ _ _ _ hni, if_neg hne, h.lane L hL i hi]
      by_cases hlt : i < k
      · rw [if_pos hlt, if_pos (show i < k + 1 by omega)]
      · rw [if_neg hlt, if_neg (show ¬ i < k + 1 by omega)]
  · have h1 := hx ways (List.mem_cons_self ..)
    have hni : x ∉ ls.map (· + k) := fun hm => by
      obtain ⟨M, hM, he⟩ := List.mem_map.1 hm
      have := hx M (List.mem_cons_of_mem _ hM); omega
    rw [hV, upd_out _ _ _ _ hni, if_neg (by omega)]
    exact h.rest x hx

/- a step, number by number -/
abbrev mvF (V : Nat → Nat) (ways n s k : Nat) : Nat → Nat := fun x => mix ((V (ways + k)).testBit s) (cm n s (fun i => V (ways + i)) k) (V x) (if k + 2 ^ s < n then V (x + 2 ^ s) else 0)
structure Mv (W V : Nat → Nat) (ways : Nat) (ls : List Nat) (n s k : Nat) : Prop where
  lane : ∀ L ∈ ls, ∀ i, i < n → V (L + i) = if i < k then mix ((W (ways + i)).testBit s) (cm n s (fun i => W (ways + i)) i) (W (L + i)) (ahead n s (fun i => W (L + i)) i) else W (L + i)
  rest : ∀ x, (∀ L ∈ ls, x < L ∨ L + n ≤ x) → V x = W x
theorem Mv.start (W : Nat → Nat) (ways : Nat) (ls : List Nat) (n s : Nat) : Mv W W ways ls n s 0 := ⟨fun L _ i _ => by simp, fun _ _ => rfl⟩
theorem Mv.snoc {W V V' : Nat → Nat} {ways : Nat} {ls : List Nat} {n s k : Nat} (h : Mv W V ways ls n s k) (hk : k < n) (hw : ways ∈ ls) (hp : ls.Pairwise (Apart n))
    (hV : V' = upd V (ls.map (· + k)) (mvF V ways n s k)) : Mv W V' ways ls n s (k + 1) := by
  have hM := Nat.two_pow_pos s
  have hkeep : ∀ L ∈ ls, ∀ i, k ≤ i → i < n → V (L + i) = W (L + i) := fun L hL i hi hin => by rw [h.lane L hL i hin, if_neg (by omega)]
  refine ⟨fun L hL i hi => ?_, fun x hx => ?_⟩
  · by_cases e : i = k
    · subst e
      rw [hV, upd_in _ _ _ _ (List.mem_map.2 ⟨L, hL, rfl⟩), if_pos (Nat.lt_succ_self _)]
      have e1 : cm n s (fun j => V (ways + j)) i = cm n s (fun j => W (ways + j)) i := by
        unfold cm
        by_cases hlt : i + 2 ^ s < n
        · simp only; rw [hkeep ways hw (i + 2 ^ s) (by omega) hlt]
        · simp [hlt]
      have e2 : (if i + 2 ^ s < n then V (L + i + 2 ^ s) else 0) = ahead n s (fun j => W (L + j)) i := by
        unfold ahead
        by_cases hlt : i + 2 ^ s < n
        · rw [if_pos hlt, if_pos hlt, Nat.add_assoc, hkeep L hL (i + 2 ^ s) (by omega) hlt]
        · rw [if_neg hlt, if_neg hlt]
      show mix _ _ _ _ = _
      rw [e1, e2, hkeep ways hw i (Nat.le_refl _) hi, hkeep L hL i (Nat.le_refl _) hi]
    · have hni : L + i ∉ ls.map (· + k) := fun hm => by
        obtain ⟨M, hM, he⟩ := List.mem_map.1 hm
        exact apart_ne hp hL hM hi hk e he.symm
      rw [hV, upd_out _ _ _ _ hni, h.lane L hL i hi]
      by_cases hlt : i < k
      · rw [if_pos hlt, if_pos (show i < k + 1 by omega)]
      · rw [if_neg hlt, if_neg (show ¬ i < k + 1 by omega)]
  · have hni : x ∉ ls.map (· + k) := fun hm => by
      obtain ⟨M, hM, he⟩ := List.mem_map.1 hm
      have := hx M hM; omega
    rw [hV, upd_out _ _ _ _ hni]
    exact h.rest x hx
/-- all numbers gone through -/
theorem Mv.gone {b : Nat → Bool} {o : Nat → Nat → Nat} {W V : Nat → Nat} {ways : Nat} {ls : List Nat} {n s : Nat} (h : Mv W V ways (ways :: ls) n s n) (g : Gone b n s (fun i => W (ways + i)) (fun L i => W (L + i)) o ls) :
    Gone b n (s + 1) (fun i => V (ways + i)) (fun L i => V (L + i)) o ls := by
  refine g.step (fun i hi => ?_) (fun i hi L hL => ?_)
  · show V (ways + i) = _
    rw [h.lane ways (List.mem_cons_self ..) i hi, if_pos hi]
  · show V (L + i) = _
    rw [h.lane L (List.mem_cons_of_mem _ hL) i hi, if_pos hi]
theorem Sf.gone {W V : Nat → Nat} {keep ways : Nat} {ls : List Nat} {n : Nat} (h : Sf W V keep ways ls n n) :
    Gone (fun i => W (keep + i) % 2 == 1) n 0 (fun i => V (ways + i)) (fun L i => V (L + i)) (fun L i => W (L + i)) ls := by
  refine Gone.start (fun i hi => h.way i hi) (fun i hi L hL => ?_)
  show V (L + i) = _
  rw [h.lane L hL i hi, if_pos hi]
end Go.Proofs.YtjcnkigadlmpgaaDoor
