/- The law UnutfRefuses returns true at all inputs. Conditions: the variable places holds what the program's text lays there. -/
import Derived.Test.YtjcnkigadlmpgaaDoorUnE
import Derived.Test.YtjcnkigadlmpgaaDoorUnV
import Derived.Deep.Cut
import Derived.Deep.CutRange
namespace Go.Proofs.YtjcnkigadlmpgaaDoor
open Go.RowKit
set_option linter.unusedVariables false

/-- what the law reckons -/
def nAp (si sk x y : Int) : Bool := decide (si = 0) || (decide (sk = 0) || (decide (sk ≤ x - y) || decide (si ≤ y - x)))
def nIr (sz xf : Nat → Int) (o : Bool) (k : Nat) : Nat → Bool
  | 0 => o && (decide (0 ≤ xf k) && decide (xf k ≤ 30 - sz k))
  | j + 1 => nIr sz xf o k j && nAp (sz k) (sz j) (xf k) (xf j)
def nO (n m : Int) (sz xf : Nat → Int) : Nat → Bool
  | 0 => decide (0 ≤ n) && (decide (n ≤ 4) && (decide (0 ≤ m) && decide (m ≤ 4 * n)))
  | k + 1 => nIr sz xf (nO n m sz xf k) k k
/-- the sizes of the three lanes -/
def szf (n m : Int) : Nat → Int
  | 0 => n
  | 1 => n
  | _ => m
theorem nIr_true {sz xf : Nat → Int} {o : Bool} {k : Nat} : ∀ {j : Nat}, nIr sz xf o k j = true → o = true ∧ 0 ≤ xf k ∧ xf k ≤ 30 - sz k := by
  intro j
  induction j with
  | zero => intro h; simp only [nIr, Bool.and_eq_true, decide_eq_true_eq] at h; exact h
  | succ j ih => intro h; simp only [nIr, Bool.and_eq_true] at h; exact ih h.1
theorem nO_true {n m : Int} {sz xf : Nat → Int} : ∀ {k : Nat}, nO n m sz xf k = true → (0 ≤ n ∧ n ≤ 4 ∧ 0 ≤ m ∧ m ≤ 4 * n) ∧ ∀ q, q < k → 0 ≤ xf q ∧ xf q ≤ 30 - sz q := by
  intro k
  induction k with
  | zero => intro h; simp only [nO, Bool.and_eq_true, decide_eq_true_eq] at h; exact ⟨h, fun q hq => by omega⟩
  | succ k ih =>
    intro h
    obtain ⟨h1, h2, h3⟩ := nIr_true (show nIr sz xf (nO n m sz xf k) k k = true from h)
    obtain ⟨g1, g3⟩ := ih h1
    refine ⟨g1, fun q hq => ?_⟩
    by_cases e : q = k
    · subst e; exact ⟨h2, h3⟩
    · exact g3 q (by omega)
theorem szf_ok {n m : Int} (h : 0 ≤ n ∧ n ≤ 4 ∧ 0 ≤ m ∧ m ≤ 4 * n) (q : Nat) : 0 ≤ szf n m q ∧ szf n m q ≤ 16 := by
  have : szf n m q = n ∨ szf n m q = m := by
    unfold szf; split
    · exact Or.inl rfl
    · exact Or.inl rfl
    · exact Or.inr rfl
  rcases this with e | e <;> rw [e] <;> omega
theorem nO_iff (n m : Int) (xf : Nat → Int) (A : Ars) (h : A.top = 30) (hw : A.ws.length = 80) : nO n m (szf n m) xf 3 = true ↔ ((0 ≤ n ∧ n ≤ 12288 ∧ 0 ≤ m ∧ m ≤ 4 * n) ∧ Rfine A [(xf 0, n), (xf 1, n), (xf 2, m)] ∧ (A.top : Int) + 12 * n ≤ A.ws.length) := by
  have e : nO n m (szf n m) xf 3 = true ↔ ((0 ≤ n ∧ n ≤ 4 ∧ 0 ≤ m ∧ m ≤ 4 * n) ∧ (0 ≤ xf 0 ∧ xf 0 ≤ 30 - n) ∧ (0 ≤ xf 1 ∧ xf 1 ≤ 30 - n) ∧ nAp n n (xf 1) (xf 0) = true ∧ (0 ≤ xf 2 ∧ xf 2 ≤ 30 - m) ∧ nAp m n (xf 2) (xf 0) = true ∧ nAp m n (xf 2) (xf 1) = true) := by
    simp only [nO, nIr, szf, Bool.and_eq_true, decide_eq_true_eq]
    constructor
    · rintro ⟨⟨⟨⟨⟨⟨h1, h2⟩, h3⟩, h4⟩, h5⟩, h6⟩, h7⟩
      exact ⟨h1, h2, h3, h4, h5, h6, h7⟩
    · rintro ⟨h1, h2, h3, h4, h5, h6, h7⟩
      exact ⟨⟨⟨⟨⟨⟨h1, h2⟩, h3⟩, h4⟩, h5⟩, h6⟩, h7⟩
  have ap : ∀ a b x y, nAp a b x y = true ↔ (a = 0 ∨ b = 0 ∨ b ≤ x - y ∨ a ≤ y - x) := fun a b x y => by unfold nAp; simp
  rw [e, ap, ap, ap]
  unfold Rfine
  rw [List.pairwise_filter]
  simp only [List.mem_cons, List.not_mem_nil, or_false, forall_eq_or_imp, forall_eq, List.pairwise_cons, Rap, decide_eq_true_eq, Ars.fits_iff, h, hw]
  constructor
  · rintro ⟨⟨g1, g2, g3, g4⟩, ⟨a1, a2⟩, ⟨b1, b2⟩, c, ⟨d1, d2⟩, f, g⟩
    refine ⟨⟨g1, by omega, g3, g4⟩, ⟨⟨⟨a1, g1, by omega⟩, ⟨b1, g1, by omega⟩, d1, g3, by omega⟩, ⟨fun _ _ => by omega, fun _ _ => by omega⟩, fun _ _ => by omega, ?_⟩, by omega⟩
    simp
  · rintro ⟨⟨g1, g2, g3, g4⟩, ⟨⟨⟨a1, _, a3⟩, ⟨b1, _, b3⟩, d1, _, d3⟩, ⟨p1, p2⟩, p3, _⟩, r⟩
    refine ⟨⟨g1, by omega, g3, g4⟩, ⟨a1, by omega⟩, ⟨b1, by omega⟩, ?_, ⟨d1, by omega⟩, ?_, ?_⟩
    · by_cases h1 : 0 < n
      · have := p1 h1 h1; omega
      · exact Or.inl (by omega)
    · by_cases h1 : 0 < n
      · by_cases h2 : 0 < m
        · have := p2 h1 h2; omega
        · exact Or.inl (by omega)
      · exact Or.inr (Or.inl (by omega))
    · by_cases h1 : 0 < n
      · by_cases h2 : 0 < m
        · have := p3 h1 h2; omega
        · exact Or.inl (by omega)
      · exact Or.inr (Or.inl (by omega))
abbrev b3O (xf : Nat → Int) : Obj := .cells #[.int .i64 (xf 0), .int .i64 (xf 1), .int .i64 (xf 2)] 55 (0, 0)
theorem cells_b3 {w : World} {g : Nat} {xf : Nat → Int} (h : w.heap[g]? = some (b3O xf)) : w.cell? ⟨g, 0, none⟩ = some (.int .i64 (xf 0)) ∧ w.cell? ⟨g, 1, none⟩ = some (.int .i64 (xf 1)) ∧ w.cell? ⟨g, 2, none⟩ = some (.int .i64 (xf 2)) := ⟨cell_of_heap h rfl, cell_of_heap h rfl, cell_of_heap h rfl⟩
theorem cell_b3 {w : World} {g j : Nat} {xf : Nat → Int} (h : w.heap[g]? = some (b3O xf)) (hj : j < 3) : w.cell? ⟨g, j, none⟩ = some (.int .i64 (xf j)) := by
  have : j = 0 ∨ j = 1 ∨ j = 2 := by omega
  rcases this with rfl | rfl | rfl
  · exact (cells_b3 h).1
  · exact (cells_b3 h).2.1
  · exact (cells_b3 h).2.2
theorem run_b3 (xf : Nat → Int) (k : Nat) (w : World) (hk : k < 3) : (Instr.index 55 (.agg #[.int .i64 (xf 0), .int .i64 (xf 1), .int .i64 (xf 2)]) (.int .i64 (k : Int))).run Tryd.prog w = .ok (.int .i64 (xf k)) w := by
  have h0 : 0 ≤ (k : Int) ∧ (k : Int) < 3 := by omega
  have : k = 0 ∨ k = 1 ∨ k = 2 := by omega
  rcases this with rfl | rfl | rfl <;> simp [Instr.index, run_underlying Tryd.underlying55, asIntOf, part, Tryd.isAgg3, Tryd.sizeOf3, Result.andThen]
theorem slice_b3 (g k : Nat) (w : World) (hk : k ≤ 3) : (Instr.sliceAt 55 (.pointer (some ⟨g, 0, none⟩)) none (some (.int .i64 (k : Int))) none).run Tryd.prog w = .ok (.slice (some ⟨g, 0, none⟩) k 3) w := by
  have ha : Tryd.prog.arrayLen 55 = 3 := by kernel_rfl
  have h := run_sliceAt_array_h (P := Tryd.prog) (w := w) (t := 55) (a := ⟨g, 0, none⟩) (by kernel_rfl) .i64 (k : Int) (by omega) (by rw [ha]; omega)
  rw [ha, show Tryd.prog.elem 55 = 3 by kernel_rfl, Tryd.sizeOf3 w] at h
  exact h.trans (by simp [slicedAt, Result.andThen, Addr.add])
theorem retBn {a b : Bool} (h : a = b) : Value.bool a = Value.bool b := by rw [h]

theorem utake80 : (Ars.new ((80 : Nat) : Int)).canTake 30 = true := by decide +kernel
theorem utaken80 : ((Ars.new ((80 : Nat) : Int)).take 30).top = 30 ∧ ((Ars.new ((80 : Nat) : Int)).take 30).ws.length = 80 ∧ ((Ars.new ((80 : Nat) : Int)).take 30).es.length = 1 := by decide +kernel

set_option maxHeartbeats 3200000 in
set_option maxRecDepth 20000 in
theorem nrefuses_core (xf : Nat → Int) (n m : Int) (w : World) (hx : ∀ k, k < 3 → -9223372036854775808 ≤ xf k ∧ xf k < 9223372036854775808) (hn0 : -9223372036854775808 ≤ n ∧ n < 9223372036854775808) (hm0 : -9223372036854775808 ≤ m ∧ m < 9223372036854775808) (t : Pv w) :
    Calls Tryd.prog 5 #[.agg #[.int .i64 (xf 0), .int .i64 (xf 1), .int .i64 (xf 2)], .int .i64 n, .int .i64 m] w fun e w' => e = .returned (.bool true) ∧ Below w.heap.size w w' := by
  have HT := hid t
  have HTP := hid t.pos
  have HX := hid (show (w.alloc (b3O xf)).heap[w.heap.size]? = some (b3O xf) from heap_alloc_at _ _)
  have HXB := hid (show Below w.heap.size w (w.alloc (b3O xf)) from (by repeat (first | exact Below.refl _ _ | refine blw_alloc ?_ | refine blw_drew ?_ | assumption)))
  have HXR := hid hx
  have HN0 := hid hn0
  have HM0 := hid hm0
  clear t hx hn0 hm0
  go_enter Tryd.func5, Tryd.ntmps5
  go_wp2_with fail
  refine (awake10_any _ (HT.out.below HXB.out)).mono ?_
  rintro e wa ⟨rfl, hB⟩
  have HXa := hid (bk hB HX.out)
  have HBa := hid (belowCat HXB.out hB)
  clear hB
  go_wp2_with fail
  refine (ar_new_at 80 80 _ (Or.inr rfl) (by decide)).mono ?_
  rintro e wb ⟨h, Fb, rfl, ab, fb, hB⟩
  have HAb := hid ab
  have HFb := hid (show ∀ i, Fb i → wa.heap.size ≤ i from fb)
  have HXb := hid (bk hB HXa.out)
  have HBb := hid (belowCat HBa.out hB)
  have HNXb := hid (show ¬ Fb w.heap.size from fun x => by have h1 := fb _ x; have h2 := lt_of_heap HXa.out; omega)
  clear hB ab fb
  go_wp2_with fail
  refine (ar_take_yes h Fb _ 30 _ HAb.out utake80 (by simp [Ars.new])).mono ?_
  rintro e wc ⟨rfl, Fd, ac, sc⟩
  have t30 := utaken80
  obtain ⟨A1, hA1⟩ : ∃ A1, (Ars.new ((80 : Nat) : Int)).take 30 = A1 := ⟨_, rfl⟩
  rw [hA1] at t30
  have AC := hid (show Ar wc h Fd A1 from hA1 ▸ ac)
  have HT30 := hid t30
  have XC := hid (sc.heap HXb.out HNXb.out)
  have HNX := hid (sc.out HNXb.out (lt_of_heap HXb.out))
  have HFD := hid (show ∀ i, Fd i → w.heap.size ≤ i from sc.high HBb.out.size (fun i hi => Nat.le_trans HBa.out.size (HFb.out i hi)))
  have BC := hid (show Below w.heap.size w wc from HBb.out.trans (sc.below HBb.out.size (fun i hi => Nat.le_trans HBa.out.size (HFb.out i hi))))
  clear hA1 ac sc t30 HAb HFb HXb HBb HNXb HXa HBa HX HXB
  go_wp2_with fail
  refine (ar_log h Fd A1 _ AC.out).mono ?_
  rintro e w' ⟨rfl, hw⟩
  subst w'
  go_wp2_with fail
  obtain ⟨oa, hLa, _⟩ := AC.out.log
  refine (len_any _ _ _ _ _ hLa).mono ?_
  rintro e w' ⟨rfl, hw⟩
  subst w'
  rw [HT30.out.2.2]
  clear hLa
  go_upto_region 6 with fail
  go_cut [9] from 26 to 41 (fun c9 wx => c9 = .bool (nO n m (szf n m) xf 0) ∧ wx = wc)
  case first =>
    by_cases h0 : 0 ≤ n
    · have g0 : ((0 : Int) ≤ n) = True := eq_true h0
      by_cases h1 : n ≤ 4
      · have g1 : (n ≤ 4) = True := eq_true h1
        by_cases h2 : 0 ≤ m
        · have g2 : ((0 : Int) ≤ m) = True := eq_true h2
          by_cases h3 : m ≤ 4 * n
          · have g3 : (m ≤ 4 * n) = True := eq_true h3
            go_wp2_with fail
            go_meet
            case rel => exact ⟨retBn (by simp [nO, h0, h1, h2, h3]), rfl⟩
          · have g3 : (m ≤ 4 * n) = False := eq_false h3
            go_wp2_with fail
            go_meet
            case rel => exact ⟨retBn (by simp [nO, h0, h1, h2, h3]), rfl⟩
        · have g2 : ((0 : Int) ≤ m) = False := eq_false h2
          go_wp2_with fail
          go_meet
          case rel => exact ⟨retBn (by simp [nO, h0, h1]; omega), rfl⟩
      · have g1 : (n ≤ 4) = False := eq_false h1
        go_wp2_with fail
        go_meet
        case rel => exact ⟨retBn (by simp [nO]; omega), rfl⟩
    · have g0 : ((0 : Int) ≤ n) = False := eq_false h0
      go_wp2_with fail
      go_meet
      case rel => exact ⟨retBn (by simp [nO]; omega), rfl⟩
  case rest =>
    obtain ⟨rfl, hwx⟩ := hcut
    subst hwx
    generalize hvv : wc = v0 at *
    clear hvv
    have XV := hid (show (v0.alloc (.cells #[.int .i64 n, .int .i64 n, .int .i64 m] 55)).heap[w.heap.size]? = some (b3O xf) from bk ((by repeat (first | exact Below.refl _ _ | refine blw_alloc ?_ | refine blw_drew ?_ | assumption)) : Below v0.heap.size v0 (v0.alloc (.cells #[.int .i64 n, .int .i64 n, .int .i64 m] 55))) XC.out)
    have SV := hid (show (v0.alloc (.cells #[.int .i64 n, .int .i64 n, .int .i64 m] 55)).heap[v0.heap.size]? = some (b3O (szf n m)) from heap_alloc_at _ _)
    have AV := hid (show Ar (v0.alloc (.cells #[.int .i64 n, .int .i64 n, .int .i64 m] 55)) h Fd A1 from AC.out.alloc _)
    have BV := hid (show Below w.heap.size w (v0.alloc (.cells #[.int .i64 n, .int .i64 n, .int .i64 m] 55)) from belowCat BC.out (by repeat (first | exact Below.refl _ _ | refine blw_alloc ?_ | refine blw_drew ?_ | assumption)))
    obtain ⟨x0, x1, x2⟩ : (v0.alloc (.cells #[.int .i64 n, .int .i64 n, .int .i64 m] 55)).cell? ⟨w.heap.size, 0, none⟩ = some (.int .i64 (xf 0)) ∧ (v0.alloc (.cells #[.int .i64 n, .int .i64 n, .int .i64 m] 55)).cell? ⟨w.heap.size, 1, none⟩ = some (.int .i64 (xf 1)) ∧ (v0.alloc (.cells #[.int .i64 n, .int .i64 n, .int .i64 m] 55)).cell? ⟨w.heap.size, 2, none⟩ = some (.int .i64 (xf 2)) := cells_b3 XV.out
    clear XC AC BC
    go_wp2_with fail
    clear x0 x1 x2
    generalize (v0.alloc (.cells #[.int .i64 n, .int .i64 n, .int .i64 m] 55)) = v1 at *
    obtain ⟨y, hy⟩ : ∃ y, v0.heap.size = y := ⟨_, rfl⟩
    rw [hy] at SV ⊢
    clear hy
    go_loopw [9, 47] (fun c9 c47 wr => ∃ k : Nat, k ≤ 3 ∧ c9 = .bool (nO n m (szf n m) xf k) ∧ c47 = .int .i64 (k : Int) ∧ wr = v1) (fun _ c47 _ => 3 - (intOf c47).toNat)
    case atStart => exact ⟨0, by decide, rfl, rfl, rfl⟩
    case round =>
      obtain ⟨k, hk3, rfl, rfl, rfl⟩ := hrel
      by_cases hk : k < 3
      · have hix := run_b3 xf k wr hk
        have hki : (k : Int) < 3 := by omega
        obtain ⟨hxk1, hxk2⟩ := HXR.out k hk
        have hcs := cell_b3 SV.out hk
        go_upto_region 11 with fail
        go_cut [9, 47] from 47 to 104 (fun c9 c47 wx => c9 = .bool (nIr (szf n m) xf (nO n m (szf n m) xf k) k 0) ∧ c47 = .int .i64 (k : Int) ∧ wx = wr)
        case first =>
          cases ho : nO n m (szf n m) xf k with
          | false =>
            go_wp2_with fail
            go_meet
            case rel => exact ⟨retBn (by simp [nIr, ho]), rfl, rfl⟩
          | true =>
            obtain ⟨g1, _⟩ := nO_true ho
            obtain ⟨s1, s2⟩ := szf_ok g1 k
            clear g1
            obtain ⟨sk, hsk⟩ : ∃ s, szf n m k = s := ⟨_, rfl⟩
            have HSK := hid hsk
            rw [hsk] at hcs s1 s2
            clear hsk
            have hw30 : IntKind.i64.wrap (30 - sk) = 30 - sk := by rw [IntKind.wrap_i64]; omega
            by_cases h0 : 0 ≤ xf k
            · have q0 : ((0 : Int) ≤ xf k) = True := eq_true h0
              by_cases h1 : xf k ≤ 30 - sk
              · have q1 : (xf k ≤ 30 - sk) = True := eq_true h1
                go_wp2_with fail
                go_meet
                case rel => exact ⟨retBn (by simp [nIr, ho, HSK.out, h0, h1]), rfl, rfl⟩
              · have q1 : (xf k ≤ 30 - sk) = False := eq_false h1
                go_wp2_with fail
                go_meet
                case rel => exact ⟨retBn (by simp [nIr, ho, HSK.out, h0, h1]), rfl, rfl⟩
            · have q0 : ((0 : Int) ≤ xf k) = False := eq_false h0
              go_wp2_with fail
              go_meet
              case rel => exact ⟨retBn (by simp [nIr, ho]; omega), rfl, rfl⟩
        case rest =>
          obtain ⟨rfl, rfl, hwx⟩ := hcut
          subst hwx
          clear hix
          have hsl := fun w' => slice_b3 w.heap.size k w' hk3
          go_wp2_with fail
          clear hsl
          go_loopw [9, 67] (fun c9 c67 wq => ∃ j : Nat, j ≤ k ∧ c9 = .bool (nIr (szf n m) xf (nO n m (szf n m) xf k) k j) ∧ c67 = .int .i64 (j : Int) ∧ wq = wc) (fun _ c67 _ => k - (intOf c67).toNat)
          case atStart => exact ⟨0, Nat.zero_le _, rfl, rfl, rfl⟩
          case round =>
            obtain ⟨j, hjk, rfl, rfl, rfl⟩ := hrel
            by_cases hj : j < k
            · have hcj := cell_b3 XV.out (show j < 3 by omega)
              have hsj := cell_b3 SV.out (show j < 3 by omega)
              have hji : (j : Int) < (k : Int) := by omega
              have HST := hid (show nIr (szf n m) xf (nO n m (szf n m) xf k) k (j + 1) = (nIr (szf n m) xf (nO n m (szf n m) xf k) k j && nAp (szf n m k) (szf n m j) (xf k) (xf j)) from rfl)
              cases ho : nIr (szf n m) xf (nO n m (szf n m) xf k) k j with
              | false =>
                go_wp2
                go_roundw
                case rel => exact ⟨j + 1, by omega, by rw [HST.out, ho]; rfl, by go_num, by first | rfl | trivial⟩
                case measure => simp [intOf]; omega
              | true =>
                obtain ⟨p1, p2, p3⟩ := nIr_true ho
                obtain ⟨g1, g3⟩ := nO_true p1
                obtain ⟨g4, g5⟩ := g3 j hj
                obtain ⟨s1, s2⟩ := szf_ok g1 k
                obtain ⟨s3, s4⟩ := szf_ok g1 j
                have HO := hid ho
                clear g1 g3 p1
                obtain ⟨sk, hsk⟩ : ∃ s, szf n m k = s := ⟨_, rfl⟩
                obtain ⟨sj, hsjj⟩ : ∃ s, szf n m j = s := ⟨_, rfl⟩
                rw [hsk] at hcs s1 s2 p3 HST
                rw [hsjj] at hsj s3 s4 g5 HST
                clear hsk hsjj ho
                have hw1 : IntKind.i64.wrap (xf k - xf j) = xf k - xf j := by rw [IntKind.wrap_i64]; omega
                have hw2 : IntKind.i64.wrap (xf j - xf k) = xf j - xf k := by rw [IntKind.wrap_i64]; omega
                by_cases h0 : sk = 0
                · have q0 : (sk == 0) = true := by simp [h0]
                  have q0' : (sk = 0) = True := eq_true h0
                  clear h0
                  go_wp2
                  go_roundw
                  case rel => exact ⟨j + 1, by omega, by rw [HST.out, HO.out]; simp [nAp, q0'], by go_num, by first | rfl | trivial⟩
                  case measure => simp [intOf]; omega
                · have q0 : (sk == 0) = false := by simp [h0]
                  have q0' : (sk = 0) = False := eq_false h0
                  by_cases h1 : sj = 0
                  · have q1 : (sj == 0) = true := by simp [h1]
                    have q1' : (sj = 0) = True := eq_true h1
                    clear h0 h1
                    go_wp2
                    go_roundw
                    case rel => exact ⟨j + 1, by omega, by rw [HST.out, HO.out]; simp [nAp, q1'], by go_num, by first | rfl | trivial⟩
                    case measure => simp [intOf]; omega
                  · have q1 : (sj == 0) = false := by simp [h1]
                    have q1' : (sj = 0) = False := eq_false h1
                    by_cases h2 : sj ≤ xf k - xf j
                    · have q2 : (sj ≤ xf k - xf j) = True := eq_true h2
                      clear h0 h1 h2
                      go_wp2
                      go_roundw
                      case rel => exact ⟨j + 1, by omega, by rw [HST.out, HO.out]; simp [nAp, q2], by go_num, by first | rfl | trivial⟩
                      case measure => simp [intOf]; omega
                    · have q2 : (sj ≤ xf k - xf j) = False := eq_false h2
                      by_cases h3 : sk ≤ xf j - xf k
                      · have q3 : (sk ≤ xf j - xf k) = True := eq_true h3
                        clear h0 h1 h2 h3
                        go_wp2
                        go_roundw
                        case rel => exact ⟨j + 1, by omega, by rw [HST.out, HO.out]; simp [nAp, q3], by go_num, by first | rfl | trivial⟩
                        case measure => simp [intOf]; omega
                      · have q3 : (sk ≤ xf j - xf k) = False := eq_false h3
                        clear h0 h1 h2 h3
                        go_wp2
                        go_roundw
                        case rel => exact ⟨j + 1, by omega, by rw [HST.out, HO.out]; simp [nAp, q0', q1', q2, q3], by go_num, by first | rfl | trivial⟩
                        case measure => simp [intOf]; omega
            · have hjk' : j = k := by omega
              subst hjk'
              go_wp2
              go_roundw
              case rel => exact ⟨j + 1, by omega, rfl, by go_num, by first | rfl | trivial⟩
              case measure => simp [intOf]; omega
      · have hk' : k = 3 := by omega
        subst hk'
        obtain ⟨x0, x1, x2⟩ := cells_b3 XV.out
        obtain ⟨K, hK⟩ : ∃ K, nO n m (szf n m) xf 3 = K := ⟨_, rfl⟩
        have HKE := hid hK
        have HENC := hid (show ∀ w', Ar w' h Fd A1 → Below w.heap.size w w' → Calls Tryd.prog 10 #[arPtr h, .int .i64 (xf 0), .int .i64 (xf 1), .int .i64 n, .int .i64 (xf 2), .int .i64 m] w' fun e w'' => ∃ v u, e = .returned (.tuple #[sec v, sec u, .bool K]) ∧ ∃ F9 D9, Ar w'' h F9 D9 ∧ Step w' Fd w'' F9 ∧ D9.top = 30 ∧ (K = false → D9.es.length = 1) from fun w' a b => by
          have hif := nO_iff n m xf A1 HT30.out.1 HT30.out.2.1
          rw [hK] at hif
          cases K with
          | false =>
            refine (encode_no h Fd A1 (xf 0) (xf 1) n (xf 2) m w' a HN0.out (HXR.out 0 (by decide)).2 (HXR.out 1 (by decide)).2 (HXR.out 2 (by decide)).2 (fun hh => by have := hif.2 hh; cases this)).mono ?_
            rintro e w'' ⟨rfl, hB⟩
            exact ⟨0, 0, rfl, Fd, A1, a.below hB, Step.ofBelow hB, HT30.out.1, fun _ => HT30.out.2.2⟩
          | true =>
            obtain ⟨⟨g1, g2, g3, g4⟩, g5, g6⟩ := hif.1 rfl
            obtain ⟨_, p3⟩ := nO_true hK
            have e0 : (((xf 0).toNat : Nat) : Int) = xf 0 := Int.toNat_of_nonneg (p3 0 (by decide)).1
            have e1 : (((xf 1).toNat : Nat) : Int) = xf 1 := Int.toNat_of_nonneg (p3 1 (by decide)).1
            have e2 : (((xf 2).toNat : Nat) : Int) = xf 2 := Int.toNat_of_nonneg (p3 2 (by decide)).1
            have e3 : ((n.toNat : Nat) : Int) = n := Int.toNat_of_nonneg g1
            have e4 : ((m.toNat : Nat) : Int) = m := Int.toNat_of_nonneg g3
            have := encode_yes h Fd A1 (xf 0).toNat (xf 1).toNat n.toNat (xf 2).toNat m.toNat w' a (by omega) (by omega) (by rw [e0, e1, e2, e3, e4]; exact g5) (by omega) (by rw [HT30.out.2.2]; decide) (HT.out.below b) (fun x => by have h3 := HFD.out _ x; have h4 := HTP.out; omega)
            rw [e0, e1, e2, e3, e4] at this
            refine this.mono ?_
            rintro e w'' ⟨rfl, F', A', a', s', en⟩
            exact ⟨_, _, rfl, F', A', a', s', by rw [en.top, HT30.out.1], fun h => by cases h⟩)
        clear hK HXR HN0 HM0
        go_wp2_with fail
        refine (HENC.out _ AV.out BV.out).mono ?_
        rintro e w2 ⟨v, u, rfl, F9, D9, a9, s9, ht9, hd9⟩
        have hBa : Below w2.heap.size w2 ((w2.alloc (sb v)).alloc (sb u)) := (by repeat (first | exact Below.refl _ _ | refine blw_alloc ?_ | refine blw_drew ?_ | assumption))
        have A9 := hid (a9.below hBa)
        have B9 := hid (show Below w.heap.size w ((w2.alloc (sb v)).alloc (sb u)) from belowCat (BV.out.trans (s9.below BV.out.size HFD.out)) hBa)
        have HT9 := hid ht9
        have HD9 := hid hd9
        clear hBa a9 s9 ht9 hd9 x0 x1 x2
        rw [HKE.out]
        clear HENC HKE AV XV SV BV
        cases K with
        | true =>
          go_wp2_with fail
          refine (ar_top h F9 D9 _ A9.out).mono ?_
          rintro e w' ⟨rfl, hw⟩
          subst w'
          rw [HT9.out]
          go_wp2
          go_ret
          exact ⟨rfl, B9.out⟩
        | false =>
          go_wp2_with fail
          refine (ar_log h F9 D9 _ A9.out).mono ?_
          rintro e w' ⟨rfl, hw⟩
          subst w'
          go_wp2_with fail
          obtain ⟨oa, hLa, _⟩ := A9.out.log
          refine (len_any _ _ _ _ _ hLa).mono ?_
          rintro e w' ⟨rfl, hw⟩
          subst w'
          rw [HD9.out (by first | rfl | trivial)]
          go_wp2_with fail
          refine (ar_top h F9 D9 _ A9.out).mono ?_
          rintro e w' ⟨rfl, hw⟩
          subst w'
          rw [HT9.out]
          go_wp2
          go_ret
          exact ⟨rfl, B9.out⟩
/-- three numbers as one function -/
def yf3 (a b c : Int) : Nat → Int
  | 0 => a
  | 1 => b
  | _ => c
theorem nrefuses_law (a b c n m : Int) (w : World) (ha : -9223372036854775808 ≤ a ∧ a < 9223372036854775808) (hb : -9223372036854775808 ≤ b ∧ b < 9223372036854775808) (hc : -9223372036854775808 ≤ c ∧ c < 9223372036854775808) (hn : -9223372036854775808 ≤ n ∧ n < 9223372036854775808) (hm : -9223372036854775808 ≤ m ∧ m < 9223372036854775808) (t : Pv w) :
    Calls Tryd.prog 5 #[.agg #[.int .i64 a, .int .i64 b, .int .i64 c], .int .i64 n, .int .i64 m] w fun e w' => e = .returned (.bool true) ∧ Below w.heap.size w w' :=
  nrefuses_core (yf3 a b c) n m w (fun k hk => by
    have : k = 0 ∨ k = 1 ∨ k = 2 := by omega
    rcases this with rfl | rfl | rfl
    · exact ha
    · exact hb
    · exact hc) hn hm t
end Go.Proofs.YtjcnkigadlmpgaaDoor
