/- The law UtfRefuses returns true at all inputs. Conditions: the variable leads holds what the program's text lays there. -/
import Derived.Test.YtgkpmcmgkdmeeaaDoorUfM
import Derived.Test.YtgkpmcmgkdmeeaaDoorUfV
namespace Go.Proofs.YtgkpmcmgkdmeeaaDoor
open Go.RowKit
set_option linter.unusedVariables false

/-- what the law reckons -/
def okAp (n x y : Int) : Bool := decide (n = 0) || (decide (n ≤ x - y) || decide (n ≤ y - x))
def okIr (n : Int) (xf : Nat → Int) (o : Bool) (k : Nat) : Nat → Bool
  | 0 => o && (decide (0 ≤ xf k) && decide (xf k ≤ 30 - n))
  | j + 1 => okIr n xf o k j && okAp n (xf k) (xf j)
def okO (n : Int) (xf : Nat → Int) : Nat → Bool
  | 0 => decide (0 ≤ n) && decide (n ≤ 30)
  | k + 1 => okIr n xf (okO n xf k) k k
theorem okIr_true {n : Int} {xf : Nat → Int} {o : Bool} {k : Nat} : ∀ {j : Nat}, okIr n xf o k j = true → o = true ∧ 0 ≤ xf k ∧ xf k ≤ 30 - n := by
  intro j
  induction j with
  | zero => intro h; simp only [okIr, Bool.and_eq_true, decide_eq_true_eq] at h; exact h
  | succ j ih => intro h; simp only [okIr, Bool.and_eq_true] at h; exact ih h.1
theorem okO_true {n : Int} {xf : Nat → Int} : ∀ {k : Nat}, okO n xf k = true → 0 ≤ n ∧ n ≤ 30 ∧ ∀ q, q < k → 0 ≤ xf q ∧ xf q ≤ 30 - n := by
  intro k
  induction k with
  | zero => intro h; simp only [okO, Bool.and_eq_true, decide_eq_true_eq] at h; exact ⟨h.1, h.2, fun q hq => by omega⟩
  | succ k ih =>
    intro h
    obtain ⟨h1, h2, h3⟩ := okIr_true (show okIr n xf (okO n xf k) k k = true from h)
    obtain ⟨g1, g2, g3⟩ := ih h1
    refine ⟨g1, g2, fun q hq => ?_⟩
    by_cases e : q = k
    · subst e; exact ⟨h2, h3⟩
    · exact g3 q (by omega)
theorem okO_iff (n : Int) (xf : Nat → Int) (A : Ars) (h : A.top = 30) : okO n xf 3 = true ↔ (0 ≤ n ∧ n ≤ 4096 ∧ Rfine A [(xf 0, n), (xf 1, n), (xf 2, n)]) := by
  have e : okO n xf 3 = true ↔ (0 ≤ n ∧ n ≤ 30 ∧ (0 ≤ xf 0 ∧ xf 0 ≤ 30 - n) ∧ (0 ≤ xf 1 ∧ xf 1 ≤ 30 - n) ∧ okAp n (xf 1) (xf 0) = true ∧ (0 ≤ xf 2 ∧ xf 2 ≤ 30 - n) ∧ okAp n (xf 2) (xf 0) = true ∧ okAp n (xf 2) (xf 1) = true) := by
    simp only [okO, okIr, Bool.and_eq_true, decide_eq_true_eq]
    constructor
    · rintro ⟨⟨⟨⟨⟨⟨h1, h2⟩, h3⟩, h4⟩, h5⟩, h6⟩, h7⟩
      exact ⟨h1.1, h1.2, h2, h3, h4, h5, h6, h7⟩
    · rintro ⟨h1, h2, h3, h4, h5, h6, h7, h8⟩
      exact ⟨⟨⟨⟨⟨⟨⟨h1, h2⟩, h3⟩, h4⟩, h5⟩, h6⟩, h7⟩, h8⟩
  have ap : ∀ x y, okAp n x y = true ↔ (n = 0 ∨ n ≤ x - y ∨ n ≤ y - x) := fun x y => by unfold okAp; simp
  rw [e, ap, ap, ap]
  constructor
  · rintro ⟨h1, h2, h3, h4, h5, h6, h7, h8⟩
    refine ⟨h1, by omega, (rfine_of A n [xf 0, xf 1, xf 2] h1).2 ⟨fun z hz => ?_, ?_⟩⟩
    · simp only [List.mem_cons, List.not_mem_nil, or_false] at hz
      rw [Ars.fits_iff, h]
      rcases hz with rfl | rfl | rfl <;> omega
    · simp only [List.pairwise_cons, List.mem_cons, ApartZ, List.not_mem_nil, or_false, forall_eq_or_imp, forall_eq]
      exact ⟨⟨by omega, by omega⟩, by omega, by simp⟩
  · rintro ⟨h1, h2, h3⟩
    obtain ⟨hf, hp⟩ := (rfine_of A n [xf 0, xf 1, xf 2] h1).1 h3
    have f0 := Ars.fits_iff.1 (hf (xf 0) (by simp))
    have f1 := Ars.fits_iff.1 (hf (xf 1) (by simp))
    have f2 := Ars.fits_iff.1 (hf (xf 2) (by simp))
    rw [h] at f0 f1 f2
    simp only [List.pairwise_cons, List.mem_cons, ApartZ, List.not_mem_nil, or_false, forall_eq_or_imp, forall_eq] at hp
    obtain ⟨⟨p1, p2⟩, p3, _⟩ := hp
    exact ⟨h1, by omega, by omega, by omega, by omega, by omega, by omega, by omega⟩
abbrev a3O (xf : Nat → Int) : Obj := .cells #[.int .i64 (xf 0), .int .i64 (xf 1), .int .i64 (xf 2)] 53 (0, 0)
theorem cells_a3 {w : World} {g : Nat} {xf : Nat → Int} (h : w.heap[g]? = some (a3O xf)) : w.cell? ⟨g, 0, none⟩ = some (.int .i64 (xf 0)) ∧ w.cell? ⟨g, 1, none⟩ = some (.int .i64 (xf 1)) ∧ w.cell? ⟨g, 2, none⟩ = some (.int .i64 (xf 2)) := ⟨cell_of_heap h rfl, cell_of_heap h rfl, cell_of_heap h rfl⟩
theorem cell_a3 {w : World} {g j : Nat} {xf : Nat → Int} (h : w.heap[g]? = some (a3O xf)) (hj : j < 3) : w.cell? ⟨g, j, none⟩ = some (.int .i64 (xf j)) := by
  have : j = 0 ∨ j = 1 ∨ j = 2 := by omega
  rcases this with rfl | rfl | rfl
  · exact (cells_a3 h).1
  · exact (cells_a3 h).2.1
  · exact (cells_a3 h).2.2
theorem run_a3 (xf : Nat → Int) (k : Nat) (w : World) (hk : k < 3) : (Instr.index 53 (.agg #[.int .i64 (xf 0), .int .i64 (xf 1), .int .i64 (xf 2)]) (.int .i64 (k : Int))).run Tryd.prog w = .ok (.int .i64 (xf k)) w := by
  have h0 : 0 ≤ (k : Int) ∧ (k : Int) < 3 := by omega
  have : k = 0 ∨ k = 1 ∨ k = 2 := by omega
  rcases this with rfl | rfl | rfl <;> simp [Instr.index, run_underlying Tryd.underlying53, asIntOf, part, Tryd.isAgg3, Tryd.sizeOf3, Result.andThen]
theorem slice_a3 (g k : Nat) (w : World) (hk : k ≤ 3) : (Instr.sliceAt 53 (.pointer (some ⟨g, 0, none⟩)) none (some (.int .i64 (k : Int))) none).run Tryd.prog w = .ok (.slice (some ⟨g, 0, none⟩) k 3) w := by
  have ha : Tryd.prog.arrayLen 53 = 3 := by kernel_rfl
  have h := run_sliceAt_array_h (P := Tryd.prog) (w := w) (t := 53) (a := ⟨g, 0, none⟩) (by kernel_rfl) .i64 (k : Int) (by omega) (by rw [ha]; omega)
  rw [ha, show Tryd.prog.elem 53 = 3 by kernel_rfl, Tryd.sizeOf3 w] at h
  exact h.trans (by simp [slicedAt, Result.andThen, Addr.add])
theorem retBB {a b : Bool} (h : a = b) : Value.bool a = Value.bool b := by rw [h]

set_option maxHeartbeats 3200000 in
set_option maxRecDepth 20000 in
theorem refuses_core (xf : Nat → Int) (n : Int) (w : World) (hx : ∀ k, k < 3 → -9223372036854775808 ≤ xf k ∧ xf k < 9223372036854775808) (hn0 : -9223372036854775808 ≤ n) (hn1 : n < 9223372036854775808) (t : Lv w) :
    Calls Tryd.prog 6 #[.agg #[.int .i64 (xf 0), .int .i64 (xf 1), .int .i64 (xf 2)], .int .i64 n] w fun e w' => e = .returned (.bool true) ∧ Below w.heap.size w w' := by
  have HT := hid t
  have HTP := hid t.pos
  have HX := hid (show (w.alloc (a3O xf)).heap[w.heap.size]? = some (a3O xf) from heap_alloc_at _ _)
  have HXB := hid (show Below w.heap.size w (w.alloc (a3O xf)) from (by repeat (first | exact Below.refl _ _ | refine blw_alloc ?_ | refine blw_drew ?_ | assumption)))
  have HXR := hid hx
  clear t hx
  go_enter Tryd.func6, Tryd.ntmps6
  go_wp2_with fail
  refine (awake9_any _ (HT.out.below HXB.out)).mono ?_
  rintro e wa ⟨rfl, hB⟩
  have HXa := hid (bk hB HX.out)
  have HBa := hid (belowCat HXB.out hB)
  clear hB
  go_wp2_with fail
  refine (ar_new_at 30 30 _ (Or.inr rfl) (by decide)).mono ?_
  rintro e wb ⟨h, Fb, rfl, ab, fb, hB⟩
  have HAb := hid ab
  have HFb := hid (show ∀ i, Fb i → wa.heap.size ≤ i from fb)
  have HXb := hid (bk hB HXa.out)
  have HBb := hid (belowCat HBa.out hB)
  have HNXb := hid (show ¬ Fb w.heap.size from fun x => by have h1 := fb _ x; have h2 := lt_of_heap HXa.out; omega)
  clear hB ab fb
  go_wp2_with fail
  refine (ar_take_yes h Fb _ 30 _ HAb.out (utake_all 30) (by simp [Ars.new])).mono ?_
  rintro e wc ⟨rfl, Fd, ac, sc⟩
  have t30 := utaken 30
  obtain ⟨A1, hA1⟩ : ∃ A1, (Ars.new ((30 : Nat) : Int)).take ((30 : Nat) : Int) = A1 := ⟨_, rfl⟩
  rw [hA1] at t30
  have AC := hid (show Ar wc h Fd A1 from hA1 ▸ ac)
  have HT30 := hid t30
  have XC := hid (sc.heap HXb.out HNXb.out)
  have HNX := hid (sc.out HNXb.out (lt_of_heap HXb.out))
  have HFD := hid (show ∀ i, Fd i → w.heap.size ≤ i from sc.high HBb.out.size (fun i hi => Nat.le_trans HBa.out.size (HFb.out i hi)))
  have BC := hid (show Below w.heap.size w wc from HBb.out.trans (sc.below HBb.out.size (fun i hi => Nat.le_trans HBa.out.size (HFb.out i hi))))
  clear hA1 ac sc t30 HAb HFb HXb HBb HNXb HXa HBa HX HXB
  go_wp2_with fail
  refine (ar_log h Fd A1 _ AC.out).mono ?_
  rintro e w' ⟨rfl, hw⟩
  subst w'
  go_wp2_with fail
  obtain ⟨oa, hLa, _⟩ := AC.out.log
  refine (len_any _ _ _ _ _ hLa).mono ?_
  rintro e w' ⟨rfl, hw⟩
  subst w'
  rw [HT30.out.2.2]
  clear hLa
  go_upto_region 6 with fail
  go_cut [7] from 22 (fun c7 wx => c7 = .bool (okO n xf 0) ∧ wx = wc)
  case first =>
    by_cases h0 : 0 ≤ n
    · by_cases h1 : n ≤ 30
      · have g0 : ((0 : Int) ≤ n) = True := eq_true h0
        have g1 : (n ≤ 30) = True := eq_true h1
        go_wp2_with fail
        go_meet
        case rel => exact ⟨retBB (by simp [okO, h0, h1]), rfl⟩
      · have g0 : ((0 : Int) ≤ n) = True := eq_true h0
        have g1 : (n ≤ 30) = False := eq_false h1
        go_wp2_with fail
        go_meet
        case rel => exact ⟨retBB (by simp [okO, h0, h1]), rfl⟩
    · have g0 : ((0 : Int) ≤ n) = False := eq_false h0
      go_wp2_with fail
      go_meet
      case rel => exact ⟨retBB (by simp [okO]; omega), rfl⟩
  case rest =>
    obtain ⟨rfl, hwx⟩ := hcut
    subst hwx
    generalize hvv : wc = v0 at *
    clear hvv
    obtain ⟨x0, x1, x2⟩ := cells_a3 XC.out
    go_wp2_with fail
    clear x0 x1 x2
    go_loopw [7, 29] (fun c7 c29 wr => ∃ k : Nat, k ≤ 3 ∧ c7 = .bool (okO n xf k) ∧ c29 = .int .i64 (k : Int) ∧ wr = v0) (fun _ c29 _ => 3 - (intOf c29).toNat)
    case atStart => exact ⟨0, by decide, rfl, rfl, rfl⟩
    case round =>
      obtain ⟨k, hk3, rfl, rfl, rfl⟩ := hrel
      by_cases hk : k < 3
      · have hix := run_a3 xf k wr hk
        have hki : (k : Int) < 3 := by omega
        obtain ⟨hxk1, hxk2⟩ := HXR.out k hk
        go_upto_region 10 with fail
        go_cut [7, 29] from 29 to 71 (fun c7 c29 wx => c7 = .bool (okIr n xf (okO n xf k) k 0) ∧ c29 = .int .i64 (k : Int) ∧ wx = wr)
        case first =>
          cases ho : okO n xf k with
          | false =>
            go_wp2_with fail
            go_meet
            case rel => exact ⟨retBB (by simp [okIr, ho]), rfl, rfl⟩
          | true =>
            obtain ⟨g1, g2, _⟩ := okO_true ho
            have hw30 : IntKind.i64.wrap (30 - n) = 30 - n := by rw [IntKind.wrap_i64]; omega
            by_cases h0 : 0 ≤ xf k
            · have q0 : ((0 : Int) ≤ xf k) = True := eq_true h0
              by_cases h1 : xf k ≤ 30 - n
              · have q1 : (xf k ≤ 30 - n) = True := eq_true h1
                go_wp2_with fail
                go_meet
                case rel => exact ⟨retBB (by simp [okIr, ho, h0, h1]), rfl, rfl⟩
              · have q1 : (xf k ≤ 30 - n) = False := eq_false h1
                go_wp2_with fail
                go_meet
                case rel => exact ⟨retBB (by simp [okIr, ho, h0, h1]), rfl, rfl⟩
            · have q0 : ((0 : Int) ≤ xf k) = False := eq_false h0
              go_wp2_with fail
              go_meet
              case rel => exact ⟨retBB (by simp [okIr, ho]; omega), rfl, rfl⟩
        case rest =>
          obtain ⟨rfl, rfl, hwx⟩ := hcut
          subst hwx
          clear hix
          have hsl := fun w' => slice_a3 w.heap.size k w' hk3
          go_wp2_with fail
          clear hsl
          go_loopw [7, 47] (fun c7 c47 wq => ∃ j : Nat, j ≤ k ∧ c7 = .bool (okIr n xf (okO n xf k) k j) ∧ c47 = .int .i64 (j : Int) ∧ wq = wc) (fun _ c47 _ => k - (intOf c47).toNat)
          case atStart => exact ⟨0, Nat.zero_le _, rfl, rfl, rfl⟩
          case round =>
            obtain ⟨j, hjk, rfl, rfl, rfl⟩ := hrel
            by_cases hj : j < k
            · have hcj := cell_a3 XC.out (show j < 3 by omega)
              have hji : (j : Int) < (k : Int) := by omega
              cases ho : okIr n xf (okO n xf k) k j with
              | false =>
                go_wp2
                go_roundw
                case rel => exact ⟨j + 1, by omega, retBB (by simp [okIr, ho]), by go_num, by first | rfl | trivial⟩
                case measure => simp [intOf]; omega
              | true =>
                obtain ⟨p1, p2, p3⟩ := okIr_true ho
                obtain ⟨g1, g2, g3⟩ := okO_true p1
                obtain ⟨g4, g5⟩ := g3 j hj
                have hw1 : IntKind.i64.wrap (xf k - xf j) = xf k - xf j := by rw [IntKind.wrap_i64]; omega
                have hw2 : IntKind.i64.wrap (xf j - xf k) = xf j - xf k := by rw [IntKind.wrap_i64]; omega
                by_cases h0 : n = 0
                · have q0 : (n == 0) = true := by simp [h0]
                  have q0' : (n = 0) = True := eq_true h0
                  go_wp2
                  go_roundw
                  case rel => exact ⟨j + 1, by omega, retBB (by rw [show okIr n xf (okO n xf k) k (j + 1) = (okIr n xf (okO n xf k) k j && okAp n (xf k) (xf j)) from rfl, ho]; simp [okAp, h0]), by go_num, by first | rfl | trivial⟩
                  case measure => simp [intOf]; omega
                · have q0 : (n == 0) = false := by simp [h0]
                  have q0' : (n = 0) = False := eq_false h0
                  by_cases h1 : n ≤ xf k - xf j
                  · have q1 : (n ≤ xf k - xf j) = True := eq_true h1
                    go_wp2
                    go_roundw
                    case rel => exact ⟨j + 1, by omega, retBB (by simp [okIr, okAp, ho, h0, h1]), by go_num, by first | rfl | trivial⟩
                    case measure => simp [intOf]; omega
                  · have q1 : (n ≤ xf k - xf j) = False := eq_false h1
                    by_cases h2 : n ≤ xf j - xf k
                    · have q2 : (n ≤ xf j - xf k) = True := eq_true h2
                      go_wp2
                      go_roundw
                      case rel => exact ⟨j + 1, by omega, retBB (by simp [okIr, okAp, ho, h0, h1, h2]), by go_num, by first | rfl | trivial⟩
                      case measure => simp [intOf]; omega
                    · have q2 : (n ≤ xf j - xf k) = False := eq_false h2
                      go_wp2
                      go_roundw
                      case rel => exact ⟨j + 1, by omega, retBB (by simp [okIr, okAp, ho, h0, h1, h2]), by go_num, by first | rfl | trivial⟩
                      case measure => simp [intOf]; omega
            · have hjk' : j = k := by omega
              subst hjk'
              go_wp2
              go_roundw
              case rel => exact ⟨j + 1, by omega, rfl, by go_num, by first | rfl | trivial⟩
              case measure => simp [intOf]; omega
      · have hk' : k = 3 := by omega
        subst hk'
        obtain ⟨K, hK⟩ : ∃ K, okO n xf 3 = K := ⟨_, rfl⟩
        have HKE := hid hK
        have HDEC := hid (show ∀ w', Ar w' h Fd A1 → Below w.heap.size w w' → Calls Tryd.prog 10 #[arPtr h, .int .i64 (xf 0), .int .i64 n, sec ((3 : Nat) : Int), .int .i64 (xf 1), .int .i64 (xf 2)] w' fun e w'' => ∃ v, e = .returned (.tuple #[sec v, .bool K]) ∧ ∃ F9 D9, Ar w'' h F9 D9 ∧ Step w' Fd w'' F9 ∧ (K = false → D9.es.length = 1) from fun w' a b => by
          have hif := okO_iff n xf A1 HT30.out.1
          rw [hK] at hif
          cases K with
          | false =>
            refine (decode_no h Fd A1 (xf 0) n (xf 1) (xf 2) 3 w' a (HXR.out 0 (by decide)).2 (HXR.out 1 (by decide)).2 (HXR.out 2 (by decide)).2 (fun hh => by have := hif.2 hh; cases this)).mono ?_
            rintro e w'' ⟨rfl, hB⟩
            exact ⟨0, rfl, Fd, A1, a.below hB, Step.ofBelow hB, fun _ => HT30.out.2.2⟩
          | true =>
            obtain ⟨g1, g2, g3⟩ := hif.1 rfl
            obtain ⟨p1, p2, p3⟩ := okO_true hK
            have e0 : (((xf 0).toNat : Nat) : Int) = xf 0 := Int.toNat_of_nonneg (p3 0 (by decide)).1
            have e1 : (((xf 1).toNat : Nat) : Int) = xf 1 := Int.toNat_of_nonneg (p3 1 (by decide)).1
            have e2 : (((xf 2).toNat : Nat) : Int) = xf 2 := Int.toNat_of_nonneg (p3 2 (by decide)).1
            have e3 : ((n.toNat : Nat) : Int) = n := Int.toNat_of_nonneg g1
            have := decode_yes h Fd A1 (xf 0).toNat (xf 1).toNat (xf 2).toNat n.toNat 3 w' a (by decide) (by omega) (by rw [e0, e1, e2, e3]; exact g3) (by rw [HT30.out.2.2]; decide) (HT.out.below b) (fun x => by have h3 := HFD.out _ x; have h4 := HTP.out; omega)
            rw [e0, e1, e2, e3] at this
            refine this.mono ?_
            rintro e w'' ⟨rfl, F', a', s'⟩
            exact ⟨_, rfl, F', _, a', s', fun h => by cases h⟩)
        clear hK
        have HAd := hid AC.out.drew
        have HXd := hid (show wr.drew.heap[w.heap.size]? = some (a3O xf) from XC.out)
        have HBd := hid (blw_drew BC.out)
        clear HXR hn0 hn1
        go_wp2_with fail
        rw [HKE.out]
        go_cut [12, 13] from 72 (fun c12 c13 wx => c13 = .bool K ∧ ∃ F' A', Ar wx h F' A' ∧ (K = false → A'.es.length = 1) ∧ (∀ q, F' q → w.heap.size ≤ q) ∧ Below w.heap.size w wx)
        case first =>
          refine wp_region_held_drew (S := (fun w' => w'.cell? ⟨w.heap.size, 0, none⟩ = some (.int .i64 (xf 0)) ∧ w'.cell? ⟨w.heap.size, 1, none⟩ = some (.int .i64 (xf 1)) ∧ w'.cell? ⟨w.heap.size, 2, none⟩ = some (.int .i64 (xf 2)))) (by kernel_rfl) (cells_a3 HXd.out) (fun hHeld => ?_)
          refine tk_at (i := 0) (d := some 73) (v := ?_) rfl rfl (by kernel_rfl) (by kernel_rfl) (by kernel_rfl) (fun _ _ _ h => h) (Or.inl ⟨by rfl, ?_⟩) (by assumption) ?_
          rotate_left
          · (intro w hSw; (try dsimp only at hSw); go_simp; try (with_reducible rfl))
          simp only [Act.put, List.setIfInBounds_toArray, List.set_cons_zero, List.set_cons_succ]
          refine tk_at (i := 1) (d := some 74) (v := ?_) rfl rfl (by kernel_rfl) (by kernel_rfl) (by kernel_rfl) (fun _ _ _ h => h) (Or.inl ⟨by rfl, ?_⟩) (by assumption) ?_
          rotate_left
          · (intro w hSw; (try dsimp only at hSw); go_simp; try (with_reducible rfl))
          simp only [Act.put, List.setIfInBounds_toArray, List.set_cons_zero, List.set_cons_succ]
          refine tk_at (i := 2) (d := some 75) (v := ?_) rfl rfl (by kernel_rfl) (by kernel_rfl) (by kernel_rfl) (fun _ _ _ h => h) (Or.inl ⟨by rfl, ?_⟩) (by assumption) ?_
          rotate_left
          · (intro w hSw; (try dsimp only at hSw); go_simp; try (with_reducible rfl))
          simp only [Act.put, List.setIfInBounds_toArray, List.set_cons_zero, List.set_cons_succ]
          refine tk_at (i := 3) (d := some 76) (v := ?_) rfl rfl (by kernel_rfl) (by kernel_rfl) (by kernel_rfl) (fun _ _ _ h => h) (Or.inl ⟨by rfl, ?_⟩) (by assumption) ?_
          rotate_left
          · (intro w hSw; (try dsimp only at hSw); go_simp; try (with_reducible rfl))
          simp only [Act.put, List.setIfInBounds_toArray, List.set_cons_zero, List.set_cons_succ]
          refine tk_at (i := 5) (d := some 78) (v := ?_) rfl rfl (by kernel_rfl) (by kernel_rfl) (by kernel_rfl) (fun _ _ _ h => h) (Or.inl ⟨by rfl, ?_⟩) (by assumption) ?_
          rotate_left
          · (intro w hSw; (try dsimp only at hSw); go_simp; try (with_reducible rfl))
          simp only [Act.put, List.setIfInBounds_toArray, List.set_cons_zero, List.set_cons_succ]
          refine tk_at (i := 6) (d := some 79) (v := ?_) rfl rfl (by kernel_rfl) (by kernel_rfl) (by kernel_rfl) (fun _ _ _ h => h) (Or.inl ⟨by rfl, ?_⟩) (by assumption) ?_
          rotate_left
          · (intro w hSw; (try dsimp only at hSw); go_simp; try (with_reducible rfl))
          simp only [Act.put, List.setIfInBounds_toArray, List.set_cons_zero, List.set_cons_succ]
          refine tk_at (i := 7) (d := some 80) (v := ?_) rfl rfl (by kernel_rfl) (by kernel_rfl) (by kernel_rfl) (fun _ _ _ h => h) (Or.inl ⟨by rfl, ?_⟩) (by assumption) ?_
          rotate_left
          · (intro w hSw; (try dsimp only at hSw); go_simp; try (with_reducible rfl))
          simp only [Act.put, List.setIfInBounds_toArray, List.set_cons_zero, List.set_cons_succ]
          refine tk_at (i := 8) (d := some 81) (v := ?_) rfl rfl (by kernel_rfl) (by kernel_rfl) (by kernel_rfl) (fun _ _ _ h => h) (Or.inl ⟨by rfl, ?_⟩) (by assumption) ?_
          rotate_left
          · (intro w hSw; (try dsimp only at hSw); go_simp; try (with_reducible rfl))
          simp only [Act.put, List.setIfInBounds_toArray, List.set_cons_zero, List.set_cons_succ]
          refine wpAnyH_ready (rs := [4, 13]) (by kernel_rfl) (by simp) ?_
          refine AllReadyH.cons rfl (fun K hK => ?_) (AllReadyH.cons rfl (fun K hK => ?_) AllReadyH.nil)
          · go_simp
            refine (of_b _ _).mono ?_
            rintro e w4 ⟨rfl, hBd⟩
            have A4 := hid (HAd.out.below hBd)
            have X4 := hid (bk hBd HXd.out)
            have B4 := hid (belowCat HBd.out hBd)
            clear hBd
            go_wp2_with fail
            refine hK.out _ _ (cells_a3 X4.out) (fun hHeld => ?_)
            clear hK K
            try simp only [Act.put, List.setIfInBounds_toArray, List.set_cons_zero, List.set_cons_succ]
            refine wpAnyH_ready (rs := [9, 13]) (by kernel_rfl) (by simp) ?_
            refine AllReadyH.cons rfl (fun K hK => ?_) (AllReadyH.cons rfl (fun K hK => ?_) AllReadyH.nil)
            · go_simp
              refine (HDEC.out _ A4.out B4.out).mono ?_
              rintro e w9 ⟨v9, rfl, F9, D9, a9, s9, hd9⟩
              have A9 := hid a9
              have X9 := hid (s9.heap X4.out HNX.out)
              have B9 := hid (show Below w.heap.size w w9 from B4.out.trans (s9.below B4.out.size HFD.out))
              have F9h := hid (show ∀ q, F9 q → w.heap.size ≤ q ∧ q ≠ w.heap.size from fun q hq => (s9.sub q hq).elim (fun h => ⟨HFD.out q h, fun e => HNX.out (e ▸ h)⟩) (fun h => by have h1 := lt_of_heap X4.out; exact ⟨by omega, by omega⟩))
              have HD9 := hid hd9
              clear a9 s9 hd9
              go_wp2_with fail
              refine hK.out _ _ (cells_a3 X9.out) (fun hHeld => ?_)
              clear hK K
              try simp only [Act.put, List.setIfInBounds_toArray, List.set_cons_zero, List.set_cons_succ]
              refine tk_at (i := 10) (d := some 72) (v := ?_) rfl rfl (by kernel_rfl) (by kernel_rfl) (by kernel_rfl) (fun _ _ _ h => h) (Or.inl ⟨by rfl, ?_⟩) (by assumption) ?_
              rotate_left
              · (intro w hSw; (try dsimp only at hSw); go_simp; try (with_reducible rfl))
              simp only [Act.put, List.setIfInBounds_toArray, List.set_cons_zero, List.set_cons_succ]
              refine tk_at (i := 11) (d := some 83) (v := ?_) rfl rfl (by kernel_rfl) (by kernel_rfl) (by kernel_rfl) (fun _ _ _ h => h) (Or.inl ⟨by rfl, ?_⟩) (by assumption) ?_
              rotate_left
              · (intro w hSw; (try dsimp only at hSw); go_simp; try (with_reducible rfl))
              simp only [Act.put, List.setIfInBounds_toArray, List.set_cons_zero, List.set_cons_succ]
              refine tk_at (i := 12) (d := some 84) (v := ?_) rfl rfl (by kernel_rfl) (by kernel_rfl) (by kernel_rfl) (fun _ _ _ h => h) (Or.inl ⟨by rfl, ?_⟩) (by assumption) ?_
              rotate_left
              · (intro w hSw; (try dsimp only at hSw); go_simp; try (with_reducible rfl))
              simp only [Act.put, List.setIfInBounds_toArray, List.set_cons_zero, List.set_cons_succ]
              refine wpAnyH_ready (rs := [13]) (by kernel_rfl) (by simp) ?_
              refine AllReadyH.cons rfl (fun K hK => ?_) AllReadyH.nil
              go_simp
              have hBe := (Below.refl w9.heap.size w9).alloc (Nat.le_refl _) (sb 0)
              have AE := hid (A9.out.below hBe)
              have XE := hid (bk hBe X9.out)
              have BE := hid (belowCat B9.out hBe)
              have YE := hid (show (w9.alloc (sb 0)).heap[w9.heap.size]? = some (sb 0) from heap_alloc_at w9 (sb 0))
              have NE := hid (show ¬ F9 w9.heap.size from fun x => absurd (A9.out.lt _ x) (Nat.lt_irrefl _))
              have WE := hid (show w.heap.size < w9.heap.size from lt_of_heap X9.out)
              clear hBe
              go_wp2_with fail
              refine hK.out _ _ (cells_a3 XE.out) (fun hHeld => ?_)
              clear hK K
              try simp only [Act.put, List.setIfInBounds_toArray, List.set_cons_zero, List.set_cons_succ]
              have hB9 := (Below.refl w9.heap.size w9).alloc (Nat.le_refl _) (sb v9)
              have XZ := hid (bk hB9 X9.out)
              have AZ := hid (A9.out.below hB9)
              have BZ := hid (belowCat B9.out hB9)
              have HFIN := hid (show ∃ F' A', Ar (w9.alloc (sb v9)) h F' A' ∧ (K = false → A'.es.length = 1) ∧ (∀ q, F' q → w.heap.size ≤ q) ∧ Below w.heap.size w (w9.alloc (sb v9)) from ⟨F9, D9, AZ.out, HD9.out, fun q hq => (F9h.out q hq).1, BZ.out⟩)
              clear hB9
              refine wpAnyH_ready (rs := [14]) (by kernel_rfl) (by simp) ?_
              refine AllReadyH.cons rfl (fun K hK => ?_) AllReadyH.nil
              go_simp
              go_wp2_with fail
              refine hK.out _ _ (cells_a3 XZ.out) (fun hHeld => ?_)
              clear hK K
              try simp only [Act.put, List.setIfInBounds_toArray, List.set_cons_zero, List.set_cons_succ]
              refine wpAnyH_ready (rs := [15]) (by kernel_rfl) (by simp) ?_
              refine AllReadyH.cons rfl (fun K hK => ?_) AllReadyH.nil
              go_simp
              go_wp2_with fail
              refine hK.out _ _ (cells_a3 XZ.out) (fun hHeld => ?_)
              clear hK K
              try simp only [Act.put, List.setIfInBounds_toArray, List.set_cons_zero, List.set_cons_succ]
              refine wpAnyH_done (by kernel_rfl) ?_ _
              clear hHeld
              go_wp2_with fail
              go_meet
              case rel => exact ⟨rfl, HFIN.out⟩
            · go_simp
              have hBe := (Below.refl w4.heap.size w4).alloc (Nat.le_refl _) (sb 0)
              have AE := hid (A4.out.below hBe)
              have XE := hid (bk hBe X4.out)
              have BE := hid (belowCat B4.out hBe)
              have YE := hid (show (w4.alloc (sb 0)).heap[w4.heap.size]? = some (sb 0) from heap_alloc_at w4 (sb 0))
              have NE := hid (show ¬ Fd w4.heap.size from fun x => absurd (A4.out.lt _ x) (Nat.lt_irrefl _))
              have WE := hid (show w.heap.size < w4.heap.size from lt_of_heap X4.out)
              clear hBe
              go_wp2_with fail
              refine hK.out _ _ (cells_a3 XE.out) (fun hHeld => ?_)
              clear hK K
              try simp only [Act.put, List.setIfInBounds_toArray, List.set_cons_zero, List.set_cons_succ]
              refine wpAnyH_ready (rs := [9]) (by kernel_rfl) (by simp) ?_
              refine AllReadyH.cons rfl (fun K hK => ?_) AllReadyH.nil
              go_simp
              refine (HDEC.out _ AE.out BE.out).mono ?_
              rintro e w9 ⟨v9, rfl, F9, D9, a9, s9, hd9⟩
              have A9 := hid a9
              have X9 := hid (s9.heap XE.out HNX.out)
              have B9 := hid (show Below w.heap.size w w9 from BE.out.trans (s9.below BE.out.size HFD.out))
              have F9h := hid (show ∀ q, F9 q → w.heap.size ≤ q ∧ q ≠ w.heap.size from fun q hq => (s9.sub q hq).elim (fun h => ⟨HFD.out q h, fun e => HNX.out (e ▸ h)⟩) (fun h => by have h1 := lt_of_heap XE.out; exact ⟨by omega, by omega⟩))
              have HD9 := hid hd9
              have Y9 := hid (s9.heap YE.out NE.out)
              have N9 := hid (s9.out NE.out (lt_of_heap YE.out))
              have ky := cell_s1 Y9.out
              have fy := frozen_of_heap (i := 0) Y9.out
              clear a9 s9 hd9
              go_wp2_with fail
              refine hK.out _ _ (cells_a3 X9.out) (fun hHeld => ?_)
              clear hK K
              try simp only [Act.put, List.setIfInBounds_toArray, List.set_cons_zero, List.set_cons_succ]
              refine tk_at (i := 10) (d := some 72) (v := ?_) rfl rfl (by kernel_rfl) (by kernel_rfl) (by kernel_rfl) (fun _ _ _ h => h) (Or.inl ⟨by rfl, ?_⟩) (by assumption) ?_
              rotate_left
              · (intro w hSw; (try dsimp only at hSw); go_simp; try (with_reducible rfl))
              simp only [Act.put, List.setIfInBounds_toArray, List.set_cons_zero, List.set_cons_succ]
              refine tk_at (i := 11) (d := some 83) (v := ?_) rfl rfl (by kernel_rfl) (by kernel_rfl) (by kernel_rfl) (fun _ _ _ h => h) (Or.inl ⟨by rfl, ?_⟩) (by assumption) ?_
              rotate_left
              · (intro w hSw; (try dsimp only at hSw); go_simp; try (with_reducible rfl))
              simp only [Act.put, List.setIfInBounds_toArray, List.set_cons_zero, List.set_cons_succ]
              refine tk_at (i := 12) (d := some 84) (v := ?_) rfl rfl (by kernel_rfl) (by kernel_rfl) (by kernel_rfl) (fun _ _ _ h => h) (Or.inl ⟨by rfl, ?_⟩) (by assumption) ?_
              rotate_left
              · (intro w hSw; (try dsimp only at hSw); go_simp; try (with_reducible rfl))
              simp only [Act.put, List.setIfInBounds_toArray, List.set_cons_zero, List.set_cons_succ]
              have XZ := hid ((Below.heap_setCell w9 ⟨w4.heap.size, 0, none⟩ (.int .u32 v9) w.heap.size (by have := WE.out; show w.heap.size ≠ w4.heap.size; omega)).trans X9.out)
              have HFIN := hid (show ∃ F' A', Ar (w9.setCell ⟨w4.heap.size, 0, none⟩ (.int .u32 v9)) h F' A' ∧ (K = false → A'.es.length = 1) ∧ (∀ q, F' q → w.heap.size ≤ q) ∧ Below w.heap.size w (w9.setCell ⟨w4.heap.size, 0, none⟩ (.int .u32 v9)) from ⟨F9, D9, A9.out.setOther _ _ N9.out, HD9.out, fun q hq => (F9h.out q hq).1, B9.out.setCell (p := ⟨w4.heap.size, 0, none⟩) (Nat.le_of_lt WE.out) _⟩)
              refine wpAnyH_ready (rs := [14]) (by kernel_rfl) (by simp) ?_
              refine AllReadyH.cons rfl (fun K hK => ?_) AllReadyH.nil
              go_simp
              go_wp2_with fail
              refine hK.out _ _ (cells_a3 XZ.out) (fun hHeld => ?_)
              clear hK K
              try simp only [Act.put, List.setIfInBounds_toArray, List.set_cons_zero, List.set_cons_succ]
              clear ky fy
              refine wpAnyH_ready (rs := [15]) (by kernel_rfl) (by simp) ?_
              refine AllReadyH.cons rfl (fun K hK => ?_) AllReadyH.nil
              go_simp
              go_wp2_with fail
              refine hK.out _ _ (cells_a3 XZ.out) (fun hHeld => ?_)
              clear hK K
              try simp only [Act.put, List.setIfInBounds_toArray, List.set_cons_zero, List.set_cons_succ]
              refine wpAnyH_done (by kernel_rfl) ?_ _
              clear hHeld
              go_wp2_with fail
              go_meet
              case rel => exact ⟨rfl, HFIN.out⟩
          · go_simp
            have hBe := (Below.refl wr.drew.heap.size wr.drew).alloc (Nat.le_refl _) (sb 0)
            have AE := hid (HAd.out.below hBe)
            have XE := hid (bk hBe HXd.out)
            have BE := hid (belowCat HBd.out hBe)
            have YE := hid (show (wr.drew.alloc (sb 0)).heap[wr.heap.size]? = some (sb 0) from heap_alloc_at wr.drew (sb 0))
            have NE := hid (show ¬ Fd wr.heap.size from fun x => absurd (HAd.out.lt _ x) (Nat.lt_irrefl _))
            have WE := hid (show w.heap.size < wr.heap.size from lt_of_heap HXd.out)
            clear hBe
            go_wp2_with fail
            refine hK.out _ _ (cells_a3 XE.out) (fun hHeld => ?_)
            clear hK K
            try simp only [Act.put, List.setIfInBounds_toArray, List.set_cons_zero, List.set_cons_succ]
            refine wpAnyH_ready (rs := [4]) (by kernel_rfl) (by simp) ?_
            refine AllReadyH.cons rfl (fun K hK => ?_) AllReadyH.nil
            go_simp
            refine (of_b _ _).mono ?_
            rintro e w4 ⟨rfl, hBd⟩
            have A4 := hid (AE.out.below hBd)
            have X4 := hid (bk hBd XE.out)
            have B4 := hid (belowCat BE.out hBd)
            have Y4 := hid (bk hBd YE.out)
            clear hBd
            go_wp2_with fail
            refine hK.out _ _ (cells_a3 X4.out) (fun hHeld => ?_)
            clear hK K
            try simp only [Act.put, List.setIfInBounds_toArray, List.set_cons_zero, List.set_cons_succ]
            refine wpAnyH_ready (rs := [9]) (by kernel_rfl) (by simp) ?_
            refine AllReadyH.cons rfl (fun K hK => ?_) AllReadyH.nil
            go_simp
            refine (HDEC.out _ A4.out B4.out).mono ?_
            rintro e w9 ⟨v9, rfl, F9, D9, a9, s9, hd9⟩
            have A9 := hid a9
            have X9 := hid (s9.heap X4.out HNX.out)
            have B9 := hid (show Below w.heap.size w w9 from B4.out.trans (s9.below B4.out.size HFD.out))
            have F9h := hid (show ∀ q, F9 q → w.heap.size ≤ q ∧ q ≠ w.heap.size from fun q hq => (s9.sub q hq).elim (fun h => ⟨HFD.out q h, fun e => HNX.out (e ▸ h)⟩) (fun h => by have h1 := lt_of_heap X4.out; exact ⟨by omega, by omega⟩))
            have HD9 := hid hd9
            have Y9 := hid (s9.heap Y4.out NE.out)
            have N9 := hid (s9.out NE.out (lt_of_heap Y4.out))
            have ky := cell_s1 Y9.out
            have fy := frozen_of_heap (i := 0) Y9.out
            clear a9 s9 hd9
            go_wp2_with fail
            refine hK.out _ _ (cells_a3 X9.out) (fun hHeld => ?_)
            clear hK K
            try simp only [Act.put, List.setIfInBounds_toArray, List.set_cons_zero, List.set_cons_succ]
            refine tk_at (i := 10) (d := some 72) (v := ?_) rfl rfl (by kernel_rfl) (by kernel_rfl) (by kernel_rfl) (fun _ _ _ h => h) (Or.inl ⟨by rfl, ?_⟩) (by assumption) ?_
            rotate_left
            · (intro w hSw; (try dsimp only at hSw); go_simp; try (with_reducible rfl))
            simp only [Act.put, List.setIfInBounds_toArray, List.set_cons_zero, List.set_cons_succ]
            refine tk_at (i := 11) (d := some 83) (v := ?_) rfl rfl (by kernel_rfl) (by kernel_rfl) (by kernel_rfl) (fun _ _ _ h => h) (Or.inl ⟨by rfl, ?_⟩) (by assumption) ?_
            rotate_left
            · (intro w hSw; (try dsimp only at hSw); go_simp; try (with_reducible rfl))
            simp only [Act.put, List.setIfInBounds_toArray, List.set_cons_zero, List.set_cons_succ]
            refine tk_at (i := 12) (d := some 84) (v := ?_) rfl rfl (by kernel_rfl) (by kernel_rfl) (by kernel_rfl) (fun _ _ _ h => h) (Or.inl ⟨by rfl, ?_⟩) (by assumption) ?_
            rotate_left
            · (intro w hSw; (try dsimp only at hSw); go_simp; try (with_reducible rfl))
            simp only [Act.put, List.setIfInBounds_toArray, List.set_cons_zero, List.set_cons_succ]
            have XZ := hid ((Below.heap_setCell w9 ⟨wr.heap.size, 0, none⟩ (.int .u32 v9) w.heap.size (by have := WE.out; show w.heap.size ≠ wr.heap.size; omega)).trans X9.out)
            have HFIN := hid (show ∃ F' A', Ar (w9.setCell ⟨wr.heap.size, 0, none⟩ (.int .u32 v9)) h F' A' ∧ (K = false → A'.es.length = 1) ∧ (∀ q, F' q → w.heap.size ≤ q) ∧ Below w.heap.size w (w9.setCell ⟨wr.heap.size, 0, none⟩ (.int .u32 v9)) from ⟨F9, D9, A9.out.setOther _ _ N9.out, HD9.out, fun q hq => (F9h.out q hq).1, B9.out.setCell (p := ⟨wr.heap.size, 0, none⟩) (Nat.le_of_lt WE.out) _⟩)
            refine wpAnyH_ready (rs := [14]) (by kernel_rfl) (by simp) ?_
            refine AllReadyH.cons rfl (fun K hK => ?_) AllReadyH.nil
            go_simp
            go_wp2_with fail
            refine hK.out _ _ (cells_a3 XZ.out) (fun hHeld => ?_)
            clear hK K
            try simp only [Act.put, List.setIfInBounds_toArray, List.set_cons_zero, List.set_cons_succ]
            clear ky fy
            refine wpAnyH_ready (rs := [15]) (by kernel_rfl) (by simp) ?_
            refine AllReadyH.cons rfl (fun K hK => ?_) AllReadyH.nil
            go_simp
            go_wp2_with fail
            refine hK.out _ _ (cells_a3 XZ.out) (fun hHeld => ?_)
            clear hK K
            try simp only [Act.put, List.setIfInBounds_toArray, List.set_cons_zero, List.set_cons_succ]
            refine wpAnyH_done (by kernel_rfl) ?_ _
            clear hHeld
            go_wp2_with fail
            go_meet
            case rel => exact ⟨rfl, HFIN.out⟩
        case rest =>
          obtain ⟨rfl, F', A', a', he, hf', hB'⟩ := hcut
          have AZ := hid a'
          have BZ := hid hB'
          have HE := hid he
          clear a' hB' he hf'
          cases K with
          | true =>
            go_wp2
            go_ret
            exact ⟨rfl, BZ.out⟩
          | false =>
            go_wp2_with fail
            refine (ar_log h F' A' _ AZ.out).mono ?_
            rintro e w' ⟨rfl, hw⟩
            subst w'
            go_wp2_with fail
            obtain ⟨oa, hLa, _⟩ := AZ.out.log
            refine (len_any _ _ _ _ _ hLa).mono ?_
            rintro e w' ⟨rfl, hw⟩
            subst w'
            rw [HE.out (by first | rfl | trivial)]
            go_wp2
            go_ret
            exact ⟨rfl, BZ.out⟩
/-- three numbers as one function -/
def xf3 (a b c : Int) : Nat → Int
  | 0 => a
  | 1 => b
  | _ => c
theorem refuses_law (a b c n : Int) (w : World) (ha : -9223372036854775808 ≤ a ∧ a < 9223372036854775808) (hb : -9223372036854775808 ≤ b ∧ b < 9223372036854775808) (hc : -9223372036854775808 ≤ c ∧ c < 9223372036854775808) (hn : -9223372036854775808 ≤ n ∧ n < 9223372036854775808) (t : Lv w) :
    Calls Tryd.prog 6 #[.agg #[.int .i64 a, .int .i64 b, .int .i64 c], .int .i64 n] w fun e w' => e = .returned (.bool true) ∧ Below w.heap.size w w' :=
  refuses_core (xf3 a b c) n w (fun k hk => by
    have : k = 0 ∨ k = 1 ∨ k = 2 := by omega
    rcases this with rfl | rfl | rfl
    · exact ha
    · exact hb
    · exact hc) hn.1 hn.2 t
end Go.Proofs.YtgkpmcmgkdmeeaaDoor
