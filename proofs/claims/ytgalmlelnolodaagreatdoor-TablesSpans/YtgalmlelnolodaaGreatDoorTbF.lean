/- Spans as plain mathematics: merged, turned about. Nothing of the program is named here. slices.DeleteFunc as plain mathematics: what lies in a row while its elements are gone through, and at the end. No conditions. A row of spans in one block: its cells, and a span stored into it. No conditions. -/
import Derived.RowKit
import Derived.Test.YtgalmlelnolodaaGreatDoorProg
import Derived.WalkKit
import Derived.Test.YtgalmlelnolodaaGreatDoorFs
import Derived.Deep.MidRow
import Derived.Laws.CopyRow
namespace Go.Proofs.YtgalmlelnolodaaGreatDoor
set_option linter.unusedVariables false

abbrev Zp := Nat × Nat
def hasB (s : Zp) (x : Nat) : Bool := decide (s.1 ≤ x) && decide (x ≤ s.2)
def inB (l : List Zp) (x : Nat) : Bool := l.any fun s => hasB s x
theorem inB_app (l r : List Zp) (x : Nat) : inB (l ++ r) x = (inB l x || inB r x) := by unfold inB; rw [List.any_append]
theorem inB_one (s : Zp) (x : Nat) : inB [s] x = hasB s x := by unfold inB; simp
/-- none empty, none behind another without a gap -/
def okS : List Zp → Bool
  | [] => true
  | [s] => decide (s.1 ≤ s.2)
  | s :: t :: r => decide (s.1 ≤ s.2) && decide (s.2 + 2 ≤ t.1) && okS (t :: r)
theorem okS_snoc (l : List Zp) (p s : Zp) : okS (l ++ [p] ++ [s]) = (okS (l ++ [p]) && (decide (p.2 + 2 ≤ s.1) && decide (s.1 ≤ s.2))) := by
  induction l with
  | nil => simp only [List.nil_append, List.cons_append, okS]; cases decide (p.1 ≤ p.2) <;> cases decide (p.2 + 2 ≤ s.1) <;> cases decide (s.1 ≤ s.2) <;> rfl
  | cons a r ih =>
    cases r with
    | nil =>
      simp only [List.nil_append, List.cons_append, okS]
      cases decide (a.1 ≤ a.2) <;> cases decide (a.2 + 2 ≤ p.1) <;> cases decide (p.1 ≤ p.2) <;> cases decide (p.2 + 2 ≤ s.1) <;> cases decide (s.1 ≤ s.2) <;> rfl
    | cons b t =>
      simp only [List.cons_append] at ih ⊢
      simp only [okS]
      rw [ih]
      cases decide (a.1 ≤ a.2) <;> cases decide (a.2 + 2 ≤ b.1) <;> rfl
theorem okS_last {m : List Zp} {p : Zp} {q : Nat} (h : okS (m ++ [p]) = true) (hq : p.2 ≤ q) : okS (m ++ [(p.1, q)]) = true := by
  rcases Classical.em (m = []) with hm | hm
  · subst hm
    have : decide (p.1 ≤ p.2) = true := h
    have := of_decide_eq_true this
    exact decide_eq_true (by show p.1 ≤ q; omega)
  · obtain ⟨r, a, rfl⟩ : ∃ r a, m = r ++ [a] := ⟨m.dropLast, m.getLast hm, (List.dropLast_concat_getLast _).symm⟩
    rw [okS_snoc, Bool.and_eq_true, Bool.and_eq_true] at h ⊢
    obtain ⟨h1, h2, h3⟩ := h
    have h2 := of_decide_eq_true h2
    have h3 := of_decide_eq_true h3
    exact ⟨h1, decide_eq_true h2, decide_eq_true (by show p.1 ≤ q; omega)⟩
theorem okS_cons {a : Zp} {l : List Zp} : okS (a :: l) = true ↔ a.1 ≤ a.2 ∧ (∀ t, l.head? = some t → a.2 + 2 ≤ t.1) ∧ okS l = true := by
  cases l with
  | nil => simp [okS]
  | cons b r => simp [okS, and_assoc]
/-- one span more, behind those that are merged (the last one as such) -/
def putS (l : List Zp) (p : Option Zp) (s : Zp) : List Zp × Zp := match p with
  | none => (l, s)
  | some p => if p.2 + 2 ≤ s.1 then (l ++ [p], s) else (l, (p.1, max p.2 s.2))
/-- those that are merged, but for the last one; and it -/
def mrgV : List Zp → List Zp × Option Zp
  | l => l.foldl (fun m s => let r := putS m.1 m.2 s; (r.1, some r.2)) ([], none)
def allS (m : List Zp × Option Zp) : List Zp := m.1 ++ m.2.toList
theorem mrgV_nil : mrgV [] = ([], none) := rfl
theorem mrgV_snoc (l : List Zp) (s : Zp) : mrgV (l ++ [s]) = ((putS (mrgV l).1 (mrgV l).2 s).1, some (putS (mrgV l).1 (mrgV l).2 s).2) := by
  unfold mrgV; rw [List.foldl_append]; rfl
/-- rising by the first words -/
def upS (l : List Zp) : Prop := l.Pairwise fun s t => s.1 ≤ t.1
theorem mrg_said (l : List Zp) : (∀ s ∈ l, s.1 ≤ s.2) → upS l → okS (allS (mrgV l)) = true ∧ (∀ x, inB (allS (mrgV l)) x = inB l x) ∧ (l ≠ [] → ∃ p, (mrgV l).2 = some p ∧ p.1 ≤ p.2 ∧ ∀ t, (∀ s ∈ l, s.1 ≤ t) → p.1 ≤ t) ∧ (l = [] → (mrgV l).2 = none) := by
  have main : ∀ (k : Nat) (l : List Zp), l.length = k → (∀ s ∈ l, s.1 ≤ s.2) → upS l → okS (allS (mrgV l)) = true ∧ (∀ x, inB (allS (mrgV l)) x = inB l x) ∧ (l ≠ [] → ∃ p, (mrgV l).2 = some p ∧ p.1 ≤ p.2 ∧ ∀ t, (∀ s ∈ l, s.1 ≤ t) → p.1 ≤ t) ∧ (l = [] → (mrgV l).2 = none) := by
    intro k
    induction k with
    | zero =>
      intro l hk _ _
      have : l = [] := List.length_eq_zero_iff.1 hk
      subst this
      exact ⟨rfl, fun x => rfl, fun h => absurd rfl h, fun _ => rfl⟩
    | succ k ih =>
      intro l hk hne hup
      obtain ⟨r, s, rfl⟩ : ∃ r s, l = r ++ [s] := ⟨l.dropLast, l.getLast (by intro e; rw [e] at hk; simp at hk), (List.dropLast_concat_getLast _).symm⟩
      have hs : s.1 ≤ s.2 := hne s (by simp)
      have hur : upS r := (List.pairwise_append.1 hup).1
      have hrs : ∀ t ∈ r, t.1 ≤ s.1 := fun t ht => (List.pairwise_append.1 hup).2.2 t ht s (by simp)
      obtain ⟨h1, h2, h3, h4⟩ := ih r (by simp at hk; omega) (fun t ht => hne t (by simp [ht])) hur
      rw [mrgV_snoc]
      obtain ⟨m, o, hm⟩ : ∃ m o, mrgV r = (m, o) := ⟨_, _, rfl⟩
      rw [hm] at h1 h2 h3 h4 ⊢
      cases o with
      | none =>
        have hr : r = [] := by
          rcases Classical.em (r = []) with h | h
          · exact h
          · obtain ⟨p, hp, _⟩ := h3 h; cases hp
        subst hr
        have hm0 : m = [] := by
          have : mrgV [] = ([], none) := rfl
          rw [this] at hm; exact (Prod.mk.inj hm).1.symm
        subst hm0
        refine ⟨decide_eq_true hs, fun x => ?_, fun _ => ⟨s, rfl, hs, fun t ht => ht s (by simp)⟩, fun e => by simp at e⟩
        rfl
      | some p =>
        have hrn : r ≠ [] := fun e => by have := h4 e; cases this
        obtain ⟨p', hp', hpp, hpt⟩ := h3 hrn
        cases hp'
        have hps : p.1 ≤ s.1 := hpt s.1 hrs
        simp only [putS]
        have ha : ∀ q : Zp, allS (m, some q) = m ++ [q] := fun q => rfl
        rw [ha] at h1
        by_cases hap : p.2 + 2 ≤ s.1
        · rw [if_pos hap]
          refine ⟨?_, fun x => ?_, fun _ => ⟨s, rfl, hs, fun t ht => ht s (by simp)⟩, fun e => by simp at e⟩
          · show okS (m ++ [p] ++ [s]) = true
            rw [okS_snoc, h1, decide_eq_true hap, decide_eq_true hs]; rfl
          · show inB (m ++ [p] ++ [s]) x = inB (r ++ [s]) x
            have := h2 x
            rw [ha] at this
            rw [inB_app, inB_app r, this]
        · rw [if_neg hap]
          have hok : okS (m ++ [(p.1, max p.2 s.2)]) = true := okS_last h1 (by omega)
          refine ⟨hok, fun x => ?_, fun _ => ⟨_, rfl, ?_, fun t ht => Nat.le_trans hps (ht s (by simp))⟩, fun e => by simp at e⟩
          · show inB (m ++ [(p.1, max p.2 s.2)]) x = inB (r ++ [s]) x
            have := h2 x
            rw [ha, inB_app, inB_one] at this
            rw [inB_app, inB_one, inB_app r, inB_one, ← this, Bool.or_assoc]
            congr 1
            unfold hasB
            rw [← Bool.decide_and, ← Bool.decide_and, ← Bool.decide_and, ← Bool.decide_or]
            exact decide_eq_decide.2 (by simp only; omega)
          · show p.1 ≤ max p.2 s.2; omega
  exact main l.length l rfl
/-- the words from n up to m that are in none -/
def outV (m : Nat) : List Zp → Nat → List Zp
  | [], n => [(n, m)]
  | s :: r, n => if m < s.1 then [(n, m)] else (if n < s.1 then [(n, s.1 - 1)] else []) ++ (if m ≤ s.2 then [] else outV m r (s.2 + 1))
theorem out_said (m : Nat) : ∀ (l : List Zp) (n : Nat), okS l = true → n ≤ m → (∀ t, l.head? = some t → n ≤ t.1) →
    okS (outV m l n) = true ∧ (∀ t, (outV m l n).head? = some t → n ≤ t.1) ∧ ∀ x, inB (outV m l n) x = (decide (n ≤ x) && (decide (x ≤ m) && !inB l x))
  | [], n, _, hn, _ => by
    refine ⟨decide_eq_true hn, fun t ht => by cases ht; exact Nat.le_refl _, fun x => ?_⟩
    show inB [(n, m)] x = _
    rw [inB_one]
    unfold hasB inB
    simp
  | s :: r, n, hok, hn, hh => by
    obtain ⟨hs, hnext, hr⟩ := okS_cons.1 hok
    have hns := hh s rfl
    unfold outV
    have hin : ∀ x, inB (s :: r) x = (hasB s x || inB r x) := fun x => by unfold inB; rw [List.any_cons]
    have hfar : ∀ x, inB r x = true → s.2 + 2 ≤ x := by
      intro x hx
      have : ∀ (l : List Zp) (b : Nat), okS l = true → (∀ t, l.head? = some t → b ≤ t.1) → inB l x = true → b ≤ x := by
        intro l
        induction l with
        | nil => intro b _ _ h; simp [inB] at h
        | cons c q ih =>
          intro b hc hb h
          obtain ⟨c1, c2, c3⟩ := okS_cons.1 hc
          have hb1 := hb c rfl
          have h' : (hasB c x || inB q x) = true := by unfold inB at h ⊢; rw [List.any_cons] at h; exact h
          rw [Bool.or_eq_true] at h'
          rcases h' with h' | h'
          · unfold hasB at h'
            rw [Bool.and_eq_true] at h'
            have := of_decide_eq_true h'.1
            omega
          · have := ih (c.2 + 2) c3 c2 h'
            omega
      exact this r (s.2 + 2) hr hnext hx
    by_cases h1 : m < s.1
    · rw [if_pos h1]
      refine ⟨decide_eq_true hn, fun t ht => by cases ht; exact Nat.le_refl _, fun x => ?_⟩
      rw [inB_one, hin]
      unfold hasB
      cases hx : inB r x with
      | true =>
        have := hfar x hx
        rw [Bool.or_true, Bool.not_true, Bool.and_false, Bool.and_false]
        rw [Bool.and_eq_false_iff]
        exact Or.inr (decide_eq_false (by show ¬ x ≤ m; omega))
      | false =>
        rw [Bool.or_false]
        by_cases hxm : x ≤ m
        · have : decide (s.1 ≤ x) = false := decide_eq_false (by omega)
          rw [this]; simp
        · have : decide (x ≤ m) = false := decide_eq_false hxm
          rw [this]; simp
    · rw [if_neg h1]
      by_cases h2 : m ≤ s.2
      · rw [if_pos h2, List.append_nil]
        have hA : ∀ x, (decide (n ≤ x) && (decide (x ≤ m) && !inB (s :: r) x)) = (decide (n ≤ x) && decide (x < s.1)) := by
          intro x
          rw [hin]
          cases hx : inB r x with
          | true =>
            have := hfar x hx
            rw [Bool.or_true, Bool.not_true, Bool.and_false, Bool.and_false, show decide (x < s.1) = false from decide_eq_false (by omega), Bool.and_false]
          | false =>
            rw [Bool.or_false]
            congr 1
            unfold hasB
            by_cases hxs : x < s.1
            · rw [decide_eq_true hxs, show decide (s.1 ≤ x) = false from decide_eq_false (by omega), show decide (x ≤ m) = true from decide_eq_true (by omega)]; rfl
            · rw [decide_eq_false hxs, show decide (s.1 ≤ x) = true from decide_eq_true (by omega)]
              by_cases hxm : x ≤ m
              · rw [decide_eq_true hxm, show decide (x ≤ s.2) = true from decide_eq_true (by omega)]; rfl
              · rw [decide_eq_false hxm]; rfl
        by_cases h3 : n < s.1
        · rw [if_pos h3]
          refine ⟨decide_eq_true (by show n ≤ s.1 - 1; omega), fun t ht => by cases ht; exact Nat.le_refl _, fun x => ?_⟩
          rw [hA, inB_one]
          unfold hasB
          congr 1
          exact decide_eq_decide.2 (by show x ≤ s.1 - 1 ↔ _; omega)
        · rw [if_neg h3]
          refine ⟨rfl, fun t ht => (by cases ht), fun x => ?_⟩
          rw [hA]
          by_cases hx : n ≤ x
          · rw [show decide (x < s.1) = false from decide_eq_false (by omega), Bool.and_false]; rfl
          · rw [decide_eq_false hx]; rfl
      · rw [if_neg h2]
        obtain ⟨i1, i2, i3⟩ := out_said m r (s.2 + 1) hr (by omega) (fun t ht => by have := hnext t ht; omega)
        have hA : ∀ x, (decide (n ≤ x) && (decide (x ≤ m) && !inB (s :: r) x)) = ((decide (n ≤ x) && decide (x < s.1)) || inB (outV m r (s.2 + 1)) x) := by
          intro x
          rw [hin, i3]
          cases hx : inB r x with
          | true =>
            have := hfar x hx
            simp [show ¬ x < s.1 by omega]
          | false =>
            rw [Bool.or_false, Bool.not_false, Bool.and_true]
            unfold hasB
            rw [← Bool.decide_and, ← Bool.decide_and, ← Bool.decide_and, ← decide_not, ← Bool.decide_and, ← Bool.decide_and, ← Bool.decide_or]
            exact decide_eq_decide.2 (by omega)
        by_cases h3 : n < s.1
        · rw [if_pos h3]
          refine ⟨okS_cons.2 ⟨by show n ≤ s.1 - 1; omega, fun t ht => by have := i2 t ht; show s.1 - 1 + 2 ≤ t.1; omega, i1⟩, fun t ht => by cases ht; exact Nat.le_refl _, fun x => ?_⟩
          rw [hA, inB_app, inB_one]
          congr 1
          unfold hasB
          congr 1
          exact decide_eq_decide.2 (by show x ≤ s.1 - 1 ↔ _; omega)
        · rw [if_neg h3]
          refine ⟨i1, fun t ht => by have := i2 t ht; omega, fun x => ?_⟩
          rw [hA, List.nil_append]
          by_cases hx : n ≤ x
          · rw [show decide (x < s.1) = false from decide_eq_false (by omega), Bool.and_false]; rfl
          · rw [decide_eq_false hx]; rfl
end Go.Proofs.YtgalmlelnolodaaGreatDoor
namespace Go.Proofs.YtgalmlelnolodaaGreatDoor
set_option linter.unusedVariables false

/-- j elements of l are gone through; those that stay are the first i of the row c; from j on it is as it was -/
structure Dst (f : Zp → Bool) (l c : List Zp) (i j : Nat) : Prop where
  len : c.length = l.length
  hij : i < j
  hj : j ≤ l.length
  kept : c.take i = (l.take j).filter f
  rest : c.drop j = l.drop j
theorem filter_step (f : Zp → Bool) (l : List Zp) (j : Nat) (h : j < l.length) : (l.take (j + 1)).filter f = (l.take j).filter f ++ (if f l[j] then [l[j]] else []) := by
  rw [List.take_succ_eq_append_getElem h, List.filter_append]
  congr 1
  cases hf : f l[j] <;> simp [hf]
theorem Dst.get {f : Zp → Bool} {l c : List Zp} {i j : Nat} (d : Dst f l c i j) (h : j < l.length) : c[j]? = some l[j] := by
  have e : (c.drop j)[0]? = (l.drop j)[0]? := by rw [d.rest]
  rw [List.getElem?_drop, List.getElem?_drop] at e
  simpa [h] using e
theorem drop_more {l c : List Zp} {j : Nat} (h : c.drop j = l.drop j) : c.drop (j + 1) = l.drop (j + 1) := by
  rw [← List.drop_drop, ← List.drop_drop, h]
theorem Dst.skip {f : Zp → Bool} {l c : List Zp} {i j : Nat} (d : Dst f l c i j) (h : j < l.length) (hf : f l[j] = false) : Dst f l c i (j + 1) :=
  ⟨d.len, Nat.lt_succ_of_lt d.hij, h, by rw [filter_step f l j h, hf, d.kept]; simp, drop_more d.rest⟩
theorem Dst.put {f : Zp → Bool} {l c : List Zp} {i j : Nat} (d : Dst f l c i j) (h : j < l.length) (hf : f l[j] = true) : Dst f l (c.set i l[j]) (i + 1) (j + 1) := by
  have hi : i < c.length := by have := d.len; have := d.hij; omega
  refine ⟨by simp [d.len], Nat.succ_lt_succ d.hij, h, ?_, ?_⟩
  · rw [filter_step f l j h, hf, ← d.kept, List.take_succ_eq_append_getElem (by simpa using hi), List.take_set_of_le (Nat.le_refl i)]
    simp
  · rw [List.drop_set_of_lt (Nat.lt_succ_of_lt d.hij)]
    exact drop_more d.rest
theorem Dst.done {f : Zp → Bool} {l c : List Zp} {i : Nat} (d : Dst f l c i l.length) : c.take i = l.filter f ∧ i ≤ c.length ∧ (l.filter f).length = i := by
  have h := d.kept
  rw [List.take_length] at h
  have h1 := d.hij
  have h2 := d.len
  refine ⟨h, by omega, ?_⟩
  rw [← h, List.length_take]
  omega
theorem Dst.start {f : Zp → Bool} {l : List Zp} {k : Nat} (h : k < l.length) (h1 : ∀ j (hj : j < k), f (l[j]'(by omega)) = true) (h2 : f l[k] = false) : Dst f l l k (k + 1) := by
  refine ⟨rfl, Nat.lt_succ_self k, h, ?_, rfl⟩
  rw [filter_step f l k h, h2]
  have : (l.take k).filter f = l.take k := List.filter_eq_self.2 fun s hs => by
    obtain ⟨j, hj, rfl⟩ := List.getElem_of_mem hs
    rw [List.length_take] at hj
    rw [List.getElem_take]
    exact h1 j (by omega)
  rw [this]; simp
theorem keep_all {f : Zp → Bool} {l : List Zp} (h : ∀ j (hj : j < l.length), f l[j] = true) : l.filter f = l :=
  List.filter_eq_self.2 fun s hs => by
    obtain ⟨j, hj, rfl⟩ := List.getElem_of_mem hs
    exact h j hj
/-- spans that aren't empty have the words of all -/
def neS (s : Zp) : Bool := decide (s.1 ≤ s.2)
theorem inB_keep (l : List Zp) (x : Nat) : inB (l.filter neS) x = inB l x := by
  unfold inB
  rw [List.any_filter]
  congr 1
  funext s
  unfold neS hasB
  cases h : decide (s.1 ≤ s.2)
  · have h' := of_decide_eq_false h
    have : (decide (s.1 ≤ x) && decide (x ≤ s.2)) = false := by
      rw [Bool.and_eq_false_iff]
      by_cases hx : s.1 ≤ x
      · exact Or.inr (decide_eq_false (by omega))
      · exact Or.inl (decide_eq_false hx)
    rw [this]; rfl
  · simp
theorem inB_perm {l r : List Zp} (h : l.Perm r) (x : Nat) : inB l x = inB r x := by
  unfold inB
  rw [Bool.eq_iff_iff, List.any_eq_true, List.any_eq_true]
  exact ⟨fun ⟨s, hs, hp⟩ => ⟨s, h.mem_iff.1 hs, hp⟩, fun ⟨s, hs, hp⟩ => ⟨s, h.mem_iff.2 hs, hp⟩⟩
/-- what rising answers -/
structure Rise (l r : List Zp) : Prop where
  perm : r.Perm (l.filter neS)
  up : upS r
theorem Rise.ne {l r : List Zp} (h : Rise l r) : ∀ s ∈ r, s.1 ≤ s.2 := fun s hs => by
  have := (List.mem_filter.1 (h.perm.mem_iff.1 hs)).2
  exact of_decide_eq_true this
theorem Rise.words {l r : List Zp} (h : Rise l r) (x : Nat) : inB r x = inB l x := (inB_perm h.perm x).trans (inB_keep l x)
theorem Rise.sub {l r : List Zp} (h : Rise l r) : ∀ s ∈ r, s ∈ l := fun s hs => (List.mem_filter.1 (h.perm.mem_iff.1 hs)).1
theorem Rise.len {l r : List Zp} (h : Rise l r) : r.length ≤ l.length := by rw [h.perm.length_eq]; exact List.length_filter_le _ _
/-- what Merge answers -/
theorem Rise.merged {l r : List Zp} (h : Rise l r) : okS (allS (mrgV r)) = true ∧ ∀ x, inB (allS (mrgV r)) x = inB l x := by
  obtain ⟨h1, h2, _⟩ := mrg_said r h.ne h.up
  exact ⟨h1, fun x => (h2 x).trans (h.words x)⟩
end Go.Proofs.YtgalmlelnolodaaGreatDoor
namespace Go.Proofs.YtgalmlelnolodaaGreatDoor
open Go.RowKit
set_option linter.unusedVariables false

/-- spans as cells -/
def zpC : List Zp → List Value
  | [] => []
  | s :: r => .int .u32 (s.1 : Int) :: .int .u32 (s.2 : Int) :: zpC r
theorem zpC_app (l r : List Zp) : zpC (l ++ r) = zpC l ++ zpC r := by
  induction l with
  | nil => rfl
  | cons s t ih => simp [zpC, ih]
theorem zpC_len (l : List Zp) : (zpC l).length = l.length * 2 := by
  induction l with
  | nil => rfl
  | cons s t ih => simp only [zpC, List.length_cons, ih]; omega
theorem zpC_at {l : List Zp} {k : Nat} (h : k < l.length) : (zpC l)[k * 2]? = some (.int .u32 ((l[k].1 : Nat) : Int)) ∧ (zpC l)[k * 2 + 1]? = some (.int .u32 ((l[k].2 : Nat) : Int)) := by
  induction l generalizing k with
  | nil => simp at h
  | cons s t ih =>
    cases k with
    | zero => exact ⟨rfl, rfl⟩
    | succ k =>
      have := ih (k := k) (by simpa using h)
      rw [show (k + 1) * 2 = k * 2 + 1 + 1 by omega]
      exact ⟨this.1, this.2⟩
theorem zpC_set (c : List Zp) (i : Nat) (p : Zp) (h : i < c.length) : ((zpC c).set (i * 2) (.int .u32 (p.1 : Int))).set (i * 2 + 1) (.int .u32 (p.2 : Int)) = zpC (c.set i p) := by
  induction c generalizing i with
  | nil => simp at h
  | cons s t ih =>
    cases i with
    | zero => rfl
    | succ k =>
      rw [show (k + 1) * 2 = k * 2 + 1 + 1 by omega]
      simp only [zpC, List.set_cons_succ, List.set_cons_succ]
      rw [ih k (by simpa using h)]
theorem infoSpan : (Tryz.prog.info? 47).map (fun i => (i.zero, i.size, i.bytes)) = some (some (.agg #[.int .u32 0, .int .u32 0]), 2, 8) := by kernel_rfl
/-- block g holds these spans, and what lies behind them -/
def Blk (w : World) (g : Nat) (c : List Zp) (tl : List Value) : Prop := w.heap[g]? = some (.cells (zpC c ++ tl).toArray 47 (0, 0))
theorem Blk.lt {w : World} {g : Nat} {c : List Zp} {tl : List Value} (h : Blk w g c tl) : g < w.heap.size := lt_of_heap h
theorem Blk.cell {w : World} {g : Nat} {c : List Zp} {tl : List Value} (h : Blk w g c tl) {k : Nat} (hk : k < c.length) : w.cell? ⟨g, k * 2, none⟩ = some (.int .u32 ((c[k].1 : Nat) : Int)) ∧ w.cell? ⟨g, k * 2 + 1, none⟩ = some (.int .u32 ((c[k].2 : Nat) : Int)) := by
  obtain ⟨h1, h2⟩ := zpC_at hk
  have hl := zpC_len c
  constructor
  · exact cell_of_heap h (by rw [List.getElem?_toArray, List.getElem?_append_left (by omega)]; exact h1)
  · exact cell_of_heap h (by rw [List.getElem?_toArray, List.getElem?_append_left (by omega)]; exact h2)
theorem Blk.range {w : World} {g : Nat} {c : List Zp} {tl : List Value} (h : Blk w g c tl) {k : Nat} (hk : k < c.length) : w.rangeAt g (k * 2) [.int .u32 ((c[k].1 : Nat) : Int), .int .u32 ((c[k].2 : Nat) : Int)] := by
  intro j v hj
  match j, hj with
  | 0, hj => cases hj; exact (h.cell hk).1
  | 1, hj => cases hj; exact (h.cell hk).2
theorem Blk.there {w : World} {g : Nat} {c : List Zp} {tl : List Value} (h : Blk w g c tl) {k : Nat} (hk : k < c.length) : w.there g (k * 2) 2 := by
  intro j hj
  refine ⟨?_, frozen_of_heap h⟩
  have : j = 0 ∨ j = 1 := by omega
  rcases this with rfl | rfl
  · rw [show k * 2 + 0 = k * 2 by omega, (h.cell hk).1]; rfl
  · rw [(h.cell hk).2]; rfl
theorem Blk.put {w : World} {g : Nat} {c : List Zp} {tl : List Value} (h : Blk w g c tl) {k : Nat} (hk : k < c.length) (p : Zp) : Blk (w.setCells g (k * 2) [.int .u32 (p.1 : Int), .int .u32 (p.2 : Int)]) g (c.set k p) tl := by
  unfold Blk at h ⊢
  simp only [World.setCells]
  rw [setCell_eq_setRow w g (k * 2) _ _ _ _ h]
  have h2 := setRow_heap w g _ ((zpC c ++ tl).toArray.setIfInBounds (k * 2) (.int .u32 (p.1 : Int))) _ _ h
  rw [setCell_eq_setRow _ g (k * 2 + 1) _ _ _ _ h2]
  have h3 := setRow_heap _ g _ (((zpC c ++ tl).toArray.setIfInBounds (k * 2) (.int .u32 (p.1 : Int))).setIfInBounds (k * 2 + 1) (.int .u32 (p.2 : Int))) _ _ h2
  rw [h3]
  have hl := zpC_len c
  congr 2
  rw [List.setIfInBounds_toArray, List.setIfInBounds_toArray, List.set_append_left _ _ (by omega), List.set_append_left _ _ (by simp; omega), zpC_set c k p hk]
/-- a store into block g leaves what lies in others -/
theorem setCells_below {w0 w : World} {g o : Nat} {vs : List Value} {B : Nat} (h : Below B w0 w) (hg : B ≤ g) : Below B w0 (w.setCells g o vs) := by
  induction vs generalizing w o with
  | nil => exact h
  | cons v r ih => exact ih (h.setCell (p := ⟨g, o, none⟩) hg v)
theorem Blk.own {w : World} {g base cap : Nat} {c : List Zp} {tl : List Value} {i : Nat} (h : Blk w g c tl) (hb : base ≤ g) (hi : i ≤ c.length) (hc : c.length ≤ cap) (hm : cap ≤ maxLen) (ht : c.length * 2 + tl.length = cap * 2) : w.ownsRow base 47 2 (.slice (some ⟨g, 0, none⟩) i cap) i (zpC (c.take i)) := by
  have hl := zpC_len c
  refine ⟨by rw [zpC_len, List.length_take]; omega, Or.inr ⟨g, cap, _, rfl, hb, h, by omega, hm, by simp; omega, ?_⟩⟩
  have e : zpC c = zpC (c.take i) ++ zpC (c.drop i) := by rw [← zpC_app, List.take_append_drop]
  have e2 : (zpC (c.take i)).length = i * 2 := by rw [zpC_len, List.length_take]; omega
  rw [List.toList_toArray, e, List.append_assoc, ← e2, List.take_left]
theorem blk_of {w : World} {base cap n : Nat} {ad : Option Addr} {c : List Zp} (h : w.ownsRow base 47 2 (.slice ad n cap) n (zpC c)) (hn : 0 < n) (hc : n = c.length) : ∃ g tl, ad = some ⟨g, 0, none⟩ ∧ base ≤ g ∧ Blk w g c tl ∧ n ≤ cap ∧ cap ≤ maxLen ∧ c.length * 2 + tl.length = cap * 2 := by
  rcases h.2 with ⟨h0, h1⟩ | ⟨g, cap2, cur, hv, hb, hg, h1, h2, h3, h4⟩
  · omega
  · cases hv
    refine ⟨g, cur.toList.drop (n * 2), rfl, hb, ?_, h1, h2, ?_⟩
    · unfold Blk; rw [← h4, List.take_append_drop, Array.toArray_toList]; exact hg
    · have hl := zpC_len c
      have h5 := congrArg List.length h4
      rw [List.length_take] at h5
      have h6 : cur.toList.length = cap * 2 := by simpa using h3
      rw [List.length_drop]
      omega
end Go.Proofs.YtgalmlelnolodaaGreatDoor
