/- What is found and carried over two lanes, held against the document's: plain facts. -/
import Derived.Test.YtjdbofgjieljlaaScP
namespace Go.Proofs.Ytjdbofgjieljlaa
open Go.RowKit

/-- two lanes of n words, one behind the other -/
structure Duo (A : Ars) (l m : List Nat) (n : Nat) : Prop where
  a : ∀ j, j < n → A.word (0 + j) = l.getD j 0
  b : ∀ j, j < n → A.word (n + j) = m.getD j 0
variable {A : Ars} {l m : List Nat} {n : Nat}
theorem Duo.od (h : Duo A l m n) {j : Nat} (hj : j < n) : (A.word (n + j) % 2 == 1) = od m j := by unfold Go.Proofs.Ytjdbofgjieljlaa.od; rw [h.b j hj]
theorem Duo.evg (h : Duo A l m n) (L H : Nat) (p : Nat → Nat) (k : Nat) : Duo (evg A L H p k) l m n := ⟨fun j hj => by rw [evg_word]; exact h.a j hj, fun j hj => by rw [evg_word]; exact h.b j hj⟩
theorem lain_duo {l m : List Nat} (hm : m.length = l.length) : Duo (lain l m) l m l.length := by
  have h := lain_is l m
  exact ⟨fun j hj => by rw [Nat.zero_add, h.a j hj]; simp [List.getD, hj], fun j hj => by rw [h.b j (by omega)]; simp [List.getD, show j < m.length by omega]⟩
theorem fm_id (h : Duo A l m n) (k : Nat) (hk : k ≤ n) : fm A n (fun i => i) k = eA m k := by
  induction k with
  | zero => rfl
  | succ k ih => show (fm A n _ k || (A.word (n + k) % 2 == 1)) = (eA m k || od m k); rw [ih (by omega), h.od (by omega)]
theorem fw_id (h : Duo A l m n) (k : Nat) (hk : k ≤ n) : fw A 0 n (fun i => i) k = eV l m false k := by
  induction k with
  | zero => rfl
  | succ k ih =>
    show (if (A.word (n + k) % 2 == 1) && !fm A n (fun i => i) k then A.word (0 + k) else fw A 0 n (fun i => i) k) = (if od m k && (false || !eA m k) then l.getD k 0 else eV l m false k)
    rw [ih (by omega), h.od (by omega), fm_id h k (by omega), h.a k (by omega)]; simp
theorem fm_bk (h : Duo A l m n) (k : Nat) (hk : k ≤ n) : eA m n = (fm A n (bk n) k || eA m (n - k)) := by
  induction k with
  | zero => simp [fm]
  | succ k ih =>
    have hb : bk n k < n := by unfold bk; omega
    have e : n - k = bk n k + 1 := by unfold bk; omega
    have e2 : n - (k + 1) = bk n k := by unfold bk; omega
    rw [ih (by omega), e, e2]
    show (fm A n (bk n) k || (eA m (bk n k) || od m (bk n k))) = ((fm A n (bk n) k || (A.word (n + bk n k) % 2 == 1)) || eA m (bk n k))
    rw [h.od hb]
    cases fm A n (bk n) k <;> cases eA m (bk n k) <;> cases od m (bk n k) <;> rfl
theorem fw_none (p : Nat → Nat) (k : Nat) (hf : fm A n p k = false) : fw A 0 n p k = 0 := by
  induction k with
  | zero => rfl
  | succ k ih =>
    have h1 : (fm A n p k || (A.word (n + p k) % 2 == 1)) = false := hf
    rw [Bool.or_eq_false_iff] at h1
    show (if (A.word (n + p k) % 2 == 1) && !fm A n p k then A.word (0 + p k) else fw A 0 n p k) = 0
    rw [h1.2]; simpa using ih h1.1
theorem fw_bk (h : Duo A l m n) (k : Nat) (hk : k ≤ n) : eV l m true n = if fm A n (bk n) k then fw A 0 n (bk n) k else eV l m true (n - k) := by
  induction k with
  | zero => simp [fm]
  | succ k ih =>
    have hb : bk n k < n := by unfold bk; omega
    have e : n - k = bk n k + 1 := by unfold bk; omega
    have e2 : n - (k + 1) = bk n k := by unfold bk; omega
    rw [ih (by omega), e, e2]
    show (if fm A n (bk n) k then fw A 0 n (bk n) k else if od m (bk n k) && (true || !eA m (bk n k)) then l.getD (bk n k) 0 else eV l m true (bk n k)) =
      (if (fm A n (bk n) k || (A.word (n + bk n k) % 2 == 1)) then (if (A.word (n + bk n k) % 2 == 1) && !fm A n (bk n) k then A.word (0 + bk n k) else fw A 0 n (bk n) k) else eV l m true (bk n k))
    rw [h.od hb, h.a _ hb]
    cases fm A n (bk n) k <;> cases od m (bk n k) <;> simp
theorem fm_last (h : Duo A l m n) : fm A n (bk n) n = eA m n := by
  have := fm_bk h n (Nat.le_refl _)
  rw [Nat.sub_self] at this
  rw [this]; simp [eA]
theorem fw_last (h : Duo A l m n) : fw A 0 n (bk n) n = eV l m true n := by
  have := fw_bk h n (Nat.le_refl _)
  rw [Nat.sub_self] at this
  cases hf : fm A n (bk n) n
  · rw [hf] at this
    rw [fw_none _ _ hf, this]; rfl
  · rw [hf] at this
    rw [this]; rfl
theorem cv_id (h : Duo A l m n) (k : Nat) (hk : k ≤ n) : cv A 0 n (fun i => i) k = eV l m true k := by
  induction k with
  | zero => rfl
  | succ k ih =>
    show (if A.word (n + k) % 2 == 1 then A.word (0 + k) else cv A 0 n (fun i => i) k) = (if od m k && (true || !eA m k) then l.getD k 0 else eV l m true k)
    rw [ih (by omega), h.od (by omega), h.a k (by omega)]; simp
theorem cv_bk (h : Duo A l m n) (k : Nat) (hk : k ≤ n) : cv A 0 n (bk n) k = rb l m n k := by
  induction k with
  | zero => rfl
  | succ k ih =>
    have hb : bk n k < n := by unfold bk; omega
    show (if A.word (n + bk n k) % 2 == 1 then A.word (0 + bk n k) else cv A 0 n (bk n) k) = (if od m (bk n k) then l.getD (bk n k) 0 else rb l m n k)
    rw [ih (by omega), h.od hb, h.a _ hb]
/-- what is shown of the first lane, and of the second one -/
theorem told_evf {p v f : Nat → Nat} (hw : A.ws.length = n + n) (hp : ∀ k, k < n → p k < n) (hi : ∀ i j, i < n → j < n → p i = p j → i = j) (hs : ∀ q, q < n → ∃ i, i < n ∧ p i = q) (hv : ∀ i, i < n → v i = f (p i)) :
    (evf A 0 n p v n).told 0 n = (List.range n).map f := by
  unfold Ars.told
  apply List.map_congr_left
  intro q hq
  have hqn : q < n := List.mem_range.1 hq
  obtain ⟨i, h1, h2⟩ := hs q hqn
  have := evf_at A 0 n p v n (fun j hj => by have := hp j hj; omega) hi i h1
  rw [← h2, ← hv i h1]
  exact this
theorem told_has (h : Duo A l m n) (hm : m.length = n) {p v : Nat → Nat} (hw : A.ws.length = n + n) (hp : ∀ k, k < n → p k < n) : (evf A 0 n p v n).told n n = m := by
  unfold Ars.told
  apply List.ext_getElem
  · simp [hm]
  · intro j h1 h2
    rw [List.getElem_map, List.getElem_range, evf_word A 0 n p v n (fun j hj => by have := hp j hj; omega) _ (fun i hi e => by have := hp i hi; omega), h.b j (by omega)]
    simp [List.getD, h2]
theorem told_carry (h : Duo A l m l.length) (hw : A.ws.length = l.length + l.length) : (evf A 0 l.length (fun i => i) (fun i => cv A 0 l.length (fun i => i) (i + 1)) l.length).told 0 l.length = (List.range l.length).map (caF l m false) :=
  told_evf hw (fun _ h => h) (fun _ _ _ _ e => e) (fun q hq => ⟨q, hq, rfl⟩) (fun i hi => by show cv A 0 l.length (fun i => i) (i + 1) = caF l m false i; rw [cv_id h (i + 1) (by omega)]; rfl)
theorem told_back (h : Duo A l m l.length) (hw : A.ws.length = l.length + l.length) : (evf A 0 l.length (bk l.length) (fun i => cv A 0 l.length (bk l.length) (i + 1)) l.length).told 0 l.length = (List.range l.length).map (caF l m true) :=
  told_evf hw (fun k hk => by unfold bk; omega) (fun i j hi hj e => by unfold bk at e; omega) (fun q hq => ⟨bk l.length q, by unfold bk; omega, by unfold bk; omega⟩) (fun i hi => by
    show cv A 0 l.length (bk l.length) (i + 1) = caF l m true (bk l.length i)
    rw [cv_bk h (i + 1) (by omega)]
    show _ = rb l m l.length (l.length - bk l.length i)
    congr 1
    unfold bk; omega)
end Go.Proofs.Ytjdbofgjieljlaa
