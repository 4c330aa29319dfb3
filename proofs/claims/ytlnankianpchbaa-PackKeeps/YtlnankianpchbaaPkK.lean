/- Contracts of the laws' word and same, and of package pack's Cost (layer 4), over this seat's translation. Conditions: Cost: at most 60 tuples, 4 lanes; same: logs that are the same, of at most a million events. -/
import Derived.Test.YtlnankianpchbaaPkJ
namespace Go.Proofs.Ytlnankianpchbaa
open Go.RowKit

/-- rows of words that came in -/
def Grid (w : World) (ad : Option Addr) (L : List (List Nat)) : Prop := ∀ i (h : i < L.length), ∃ x, ad = some x ∧ ∃ ra rc, w.cell? (x.add i) = some (.slice ra (L[i]).length rc) ∧ U32s w ra L[i]
theorem U32s.belowG {w w' : World} {ad : Option Addr} {l : List Nat} (h : U32s w ad l) (hB : Below w.heap.size w w') : U32s w' ad l := fun k hk => by
  obtain ⟨x, h1, h2⟩ := h k hk
  exact ⟨x, h1, cell_below hB h2 (cell_blk h2)⟩
theorem Grid.below {w w' : World} {ad : Option Addr} {L : List (List Nat)} (g : Grid w ad L) (hB : Below w.heap.size w w') : Grid w' ad L := fun i hi => by
  obtain ⟨x, h1, ra, rc, h2, h3⟩ := g i hi
  exact ⟨x, h1, ra, rc, cell_below hB h2 (cell_blk h2), h3.belowG hB⟩
/-- a word of them; 0 -/
def wd (L : List (List Nat)) (i k : Nat) : Nat := (L.getD i []).getD k 0
set_option maxHeartbeats 800000 in
theorem word4_any (ad : Option Addr) (cap : Nat) (L : List (List Nat)) (i k : Nat) (w : World) (g : Grid w ad L) :
    Calls Try.prog 22 #[.slice ad L.length cap, .int .i64 (i : Int), .int .i64 (k : Int)] w fun e w' => e = .returned (u32 (wd L i k : Nat)) ∧ w' = w := by
  by_cases h1 : i < L.length
  · obtain ⟨x, rfl, ra, rc, c1, hr⟩ := g i h1
    have HW := hid (show wd L i k = (L[i]).getD k 0 by unfold wd; simp [h1])
    have HL := hid hr
    obtain ⟨l, hl⟩ : ∃ l, L[i] = l := ⟨_, rfl⟩
    rw [hl] at c1 HW HL
    clear hl hr g
    by_cases h2 : k < l.length
    · obtain ⟨y, rfl, c2⟩ := HL.out k h2
      have HW2 := hid (show wd L i k = l[k] by rw [HW.out]; simp [h2])
      rw [HW2.out]
      obtain ⟨v, hv⟩ : ∃ v, l[k] = v := ⟨_, rfl⟩
      rw [hv] at c2 ⊢
      clear hv HW HW2 HL
      go_enter Try.func22, Try.ntmps22
      go_wp2
      go_ret
      exact ⟨rfl, rfl⟩
    · have HW2 := hid (show wd L i k = 0 by rw [HW.out]; simp [h2])
      rw [HW2.out]
      clear HW HW2 HL
      go_enter Try.func22, Try.ntmps22
      go_wp2
      go_ret
      exact ⟨rfl, rfl⟩
  · have HW2 := hid (show wd L i k = 0 by unfold wd; simp [h1])
    rw [HW2.out]
    clear HW2 g
    go_enter Try.func22, Try.ntmps22
    go_wp2
    go_ret
    exact ⟨rfl, rfl⟩
/-- how many events Pack notes, by a formula -/
def pc (n l : Nat) : Nat := 2 + n + 2 * n * (1 + l) + (3 * n * stp n - (2 ^ stp n - 1)) * (1 + l) + n
theorem evFull_len (t keep n : Nat) (ls : List Nat) (hn : n ≤ 49152) : (evFull t keep n ls).length = pc n ls.length := by
  obtain ⟨h1, h2, h3⟩ := stp_facts n hn
  have hm := evMvss_len n (stp n) (t :: ls) h3
  have hs : (upTo (evSf keep t ls) n).length = n * (2 + 2 * ls.length) := upTo_len _ n _ (fun i _ => evSf_len ..)
  have hk : (upTo (fun i => [evSt (keep + i)]) n).length = n * 1 := upTo_len _ n _ (fun i _ => rfl)
  unfold evFull evPack pc
  rw [List.length_cons, List.length_append, List.length_append, List.length_append, hs, hk, evGv_len]
  rw [List.length_cons] at hm
  have e : (upTo (fun s => upTo (evMv n s (t :: ls)) n) (stp n)).length = (3 * n * stp n - (2 ^ stp n - 1)) * (1 + ls.length) := by
    rw [Nat.sub_mul, Nat.add_comm 1 ls.length]; omega
  rw [e]
  have e2 : n * (2 + 2 * ls.length) = 2 * n * (1 + ls.length) := by rw [show 2 + 2 * ls.length = 2 * (1 + ls.length) by omega, ← Nat.mul_assoc, Nat.mul_comm n 2]
  rw [e2]
  omega
theorem rowAt {w w' : World} {base : Nat} {e : TypeId} {size n cap : Nat} {ad : Option Addr} {xs : List Value} (h : w.ownsRow base e size (.slice ad n cap) n xs) (hb : Below w.heap.size w w') : ∀ i (_ : i < n), ∃ g, ad = some ⟨g, 0, none⟩ ∧ ∀ j u, xs[j]? = some u → w'.cell? ⟨g, j, none⟩ = some u := fun i hi => by
  obtain ⟨g, h1, _, h2, h3⟩ := owns_cell h (by omega)
  exact ⟨g, h1, fun j u hj => cell_below hb (h3 j u hj) h2⟩
set_option maxHeartbeats 1600000 in
theorem same4_any (ha hb : Hn) (F G : Nat → Prop) (A B : Ars) (w : World) (a : Ar w ha F A) (b : Ar w hb G B) (he : A.es = B.es) (hl : A.es.length ≤ 1000000) :
    Calls Try.prog 19 #[arPtr ha, arPtr hb] w fun e w' => e = .returned (.bool true) ∧ Below w.heap.size w w' := by
  have HA := hid a
  have HB := hid b
  obtain ⟨es, hes⟩ : ∃ es, es = A.es.map blindE := ⟨_, rfl⟩
  have hesl : es.length = A.es.length := by rw [hes]; simp
  have hesb : es.length = B.es.length := by rw [hesl, he]
  have HE1 := hid hes
  have HE2 := hid (show es = B.es.map blindE by rw [hes, he])
  have HE3 := hid hesl
  have HE4 := hid hesb
  have hen : es.length ≤ 1000000 := by omega
  clear a b he hl hes hesl hesb
  go_enter Try.func19, Try.ntmps19
  go_wp2_with fail
  refine (ar_log ha F A _ HA.out).mono ?_
  rintro e w' ⟨rfl, hw⟩
  subst w'
  go_wp2_with fail
  obtain ⟨oa, hLa, _⟩ := HA.out.log
  refine (blind_any _ _ A.es _ hLa (by rw [← HE3.out]; omega)).mono ?_
  rintro e w5 ⟨ad1, cap1, rfl, ho1, hb5⟩
  rw [← HE1.out] at ho1
  rw [← HE3.out] at ho1 ⊢
  have O1 := hid ho1
  have HB5 := hid hb5
  clear ho1 hLa hb5
  go_wp2_with fail
  refine (ar_log hb G B _ (HB.out.below HB5.out)).mono ?_
  rintro e w' ⟨rfl, hw⟩
  subst w'
  go_wp2_with fail
  obtain ⟨ob, hLb, _⟩ := (HB.out.below HB5.out).log
  refine (blind_any _ _ B.es _ hLb (by rw [← HE4.out]; omega)).mono ?_
  rintro e w6 ⟨ad2, cap2, rfl, ho2, hb6⟩
  rw [← HE2.out] at ho2
  rw [← HE4.out] at ho2 ⊢
  have RP := hid (rowAt O1.out hb6)
  have RQ := hid (rowAt ho2 (Below.refl _ _))
  have HB6 := hid (belowCat HB5.out hb6)
  clear ho2 hLb hb6 O1 HE1 HE2 HE3 HE4
  go_wp2_with fail
  go_loopw [21] (fun c wq => ∃ q : Nat, q ≤ es.length ∧ c = .int .i64 q ∧ Below w6.heap.size w6 wq) (fun c _ => es.length - (intOf c).toNat)
  case atStart => exact ⟨0, Nat.zero_le _, rfl, Below.refl _ _⟩
  case round =>
    obtain ⟨q, hq, rfl, hBq⟩ := hrel
    have HBq := hid hBq
    by_cases hql : q < es.length
    · obtain ⟨g1, rfl, f1⟩ := RP.out q hql
      obtain ⟨g2, rfl, f2⟩ := RQ.out q hql
      have e1 := ecells_at es q hql
      obtain ⟨ee, hee⟩ : ∃ ee, ee = es[q] := ⟨_, rfl⟩
      rw [← hee] at e1
      have later : ∀ {g j : Nat} {u : Value}, w6.cell? ⟨g, j, none⟩ = some u → wr.cell? ⟨g, j, none⟩ = some u := fun hc => cell_below hBq hc (cell_blk hc)
      have a0 := later (f1 _ _ e1.1)
      have a1 := later (f1 _ _ e1.2.1)
      have a2 := later (f1 _ _ e1.2.2)
      have b0 := later (f2 _ _ e1.1)
      have b1 := later (f2 _ _ e1.2.1)
      have b2 := later (f2 _ _ e1.2.2)
      clear f1 f2 e1 hee RP RQ later hBq
      go_wp2_with fail
      go_quiet (fail)
      go_wp2_with fail
      go_roundw
      case rel => exact ⟨q + 1, by omega, by go_num, belowDN HBq.out _⟩
      case measure => simp [intOf]; omega
    · have hqe : q = es.length := by omega
      clear RP RQ hBq
      go_wp2_with fail
      go_ret
      exact ⟨rfl, belowCat HB6.out HBq.out⟩
theorem pc_wraps : ∀ (n : Fin 61) (l : Fin 5), wrap64 (wrap64 (wrap64 (1 + (n.val : Int) + 1 + wrap64 (2 * (n.val : Int) * (1 + (l.val : Int)))) + wrap64 (wrap64 (wrap64 (3 * (n.val : Int) * (stp n.val : Int)) - wrap64 (wrap64 (2 ^ stp n.val) - 1)) * (1 + (l.val : Int)))) + (n.val : Int)) = (pc n.val l.val : Int) := by decide +kernel
set_option maxHeartbeats 800000 in
theorem pcost_any (n l : Nat) (hn : n ≤ 60) (hl : l ≤ 4) (w : World) :
    Calls Try.prog 20 #[.int .i64 (n : Int), .int .i64 (l : Int)] w fun e w' => e = .returned (.int .i64 (pc n l : Nat)) ∧ w' = w := by
  have hmay : decide (0 ≤ (l : Int) ∧ 0 ≤ (n : Int) ∧ (n : Int) ≤ 49152) = true := decide_eq_true (by omega)
  obtain ⟨S, hS⟩ : ∃ S, stp n = S := ⟨_, rfl⟩
  have HS := hid hS
  have hS16 : S ≤ 16 := by rw [← hS]; exact (stp_facts n (by omega)).2.1
  clear hS
  go_enter Try.func20, Try.ntmps20
  go_wp2_with (first | (go_at_call 42; refine (pmay_any _ _ _).mono ?_; rintro e w' ⟨rfl, hw⟩; subst w'; rw [hmay]) | (go_at_call 44; refine (steps_any n (by omega) _).mono ?_; rintro e w' ⟨rfl, hw⟩; subst w'; rw [HS.out]))
  go_ret
  refine ⟨retI ?_, rfl⟩
  have := pc_wraps ⟨n, by omega⟩ ⟨l, by omega⟩
  simp only [HS.out] at this
  exact this
end Go.Proofs.Ytlnankianpchbaa
