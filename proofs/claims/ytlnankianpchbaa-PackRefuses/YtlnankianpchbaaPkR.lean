/- The law PackRefuses returns true at all numbers. -/
import Derived.Test.YtlnankianpchbaaPkJ
import Derived.Deep.CutRange
namespace Go.Proofs.Ytlnankianpchbaa
open Go.RowKit
set_option linter.unusedVariables false

theorem law_arena {w : World} {h : Hn} {F : Nat → Prop} {sz m : Nat} (a : Ar w h F ((Ars.new ((2 * sz + m : Nat) : Int)).take (2 * (sz : Int)))) : ∃ A, Ar w h F A ∧ (A.top = 2 * sz ∧ A.ws.length = 2 * sz + m ∧ A.es.length = 1) := by
  have hc : (Ars.new ((2 * sz + m : Nat) : Int)).canTake (2 * (sz : Int)) = true := decide_eq_true (by simp [Ars.new]; omega)
  refine ⟨_, a, ?_⟩
  unfold Ars.take
  rw [if_pos hc]
  refine ⟨?_, ?_, ?_⟩
  · show 0 + (2 * (sz : Int)).toNat = _; omega
  · simp [Ars.new]; omega
  · simp [Ars.new]
theorem law_arena60 {w : World} {h : Hn} {F : Nat → Prop} {m : Nat} (a : Ar w h F ((Ars.new ((60 + m : Nat) : Int)).take 60)) : ∃ A, Ar w h F A ∧ (A.top = 60 ∧ A.es.length = 1) := by
  have hc : (Ars.new ((60 + m : Nat) : Int)).canTake 60 = true := decide_eq_true (by simp [Ars.new]; omega)
  refine ⟨_, a, ?_⟩
  unfold Ars.take
  rw [if_pos hc]
  exact ⟨rfl, by simp [Ars.new]⟩
theorem law_below {w w1 w2 w3 : World} {F G : Nat → Prop} (h1 : Below w.heap.size w w1) (h2 : Below w1.heap.size w1 w2) (hF : ∀ i, F i → w1.heap.size ≤ i) (s : Step w2 F w3 G) : Below w.heap.size w w3 :=
  (belowCat h1 h2).trans (s.below (Nat.le_trans h1.size h2.size) fun i hi => Nat.le_trans h1.size (hF i hi))
def LawW (sz : Nat) (n keep lane : Int) : Prop := 0 ≤ n ∧ n ≤ 30 ∧ 0 ≤ keep ∧ keep ≤ 2 * sz - n ∧ 0 ≤ lane ∧ lane ≤ 2 * sz - n
def LawP (sz m : Nat) (n keep lane : Int) : Prop := LawW sz n keep lane ∧ (n = 0 ∨ n ≤ lane - keep ∨ n ≤ keep - lane) ∧ n ≤ m
theorem law_fine {A : Ars} {sz m : Nat} {n keep lane : Int} (h1 : A.top = 2 * sz) (h2 : A.ws.length = 2 * sz + m) (hd : n ≤ 30 ∨ 49152 < n) : PFine A n keep [lane] ↔ LawP sz m n keep lane := by
  unfold PFine LawP LawW
  have e : A.canTake n = true ↔ 0 ≤ n ∧ n ≤ m := by unfold Ars.canTake; rw [decide_eq_true_iff, h1, h2]; omega
  rw [e]
  simp only [List.mem_cons, List.not_mem_nil, or_false, forall_eq_or_imp, forall_eq, List.pairwise_cons, List.Pairwise.nil, and_true, Ars.fits_iff, h1]
  unfold ApartZ
  simp only [false_implies, implies_true, and_true]
  omega
set_option maxHeartbeats 1600000 in
set_option maxRecDepth 4000 in
theorem packRefuses_walk (n keep lane : Int) (more : Nat) (w : World) (hn0 : -9223372036854775808 ≤ n) (hn1 : n < 9223372036854775808) (hk0 : -9223372036854775808 ≤ keep) (hk1 : keep < 9223372036854775808) (hl0 : -9223372036854775808 ≤ lane) (hl1 : lane < 9223372036854775808) (hm : more < 256) :
    Calls Try.prog 5 #[.int .i64 n, .int .i64 keep, .int .i64 lane, .int .u8 (more : Int)] w fun e w' => e = .returned (.bool true) ∧ Below w.heap.size w w' := by
  by_cases h30 : 30 < n
  · by_cases h49 : n ≤ 49152
    · go_enter Try.func5, Try.ntmps5
      go_wp2_with (go_at_call 16; refine (awake4_any _).mono ?_; rintro e w1 ⟨rfl, hB1⟩; have HB1 := hid hB1; clear hB1)
      go_ret
      exact ⟨rfl, HB1.out⟩
    · obtain ⟨m, hme⟩ : ∃ m : Nat, more % 41 = m := ⟨_, rfl⟩
      have hm2 : m ≤ 40 := by omega
      have hmi : (more : Int) % 41 = (m : Int) := by omega
      have hmin : min n 30 = 30 := by omega
      have g0 : 0 ≤ n := by omega
      have HZ := hid (show ∀ z ∈ keep :: [lane], z < 9223372036854775808 from fun z hz => by simp at hz; omega)
      have HNF := hid (show ∀ A, ¬ PFine A n keep [lane] from fun A hf => by have := hf.1.2; omega)
      clear hme hm
      go_enter Try.func5, Try.ntmps5
      go_wp2_with (first
        | (go_at_call 16; refine (awake4_any _).mono ?_; rintro e w1 ⟨rfl, hB1⟩; have HB1 := hid hB1; clear hB1)
        | (go_at_call 7; refine (ar_new_at (60 + (m : Int)) (60 + m) _ (Or.inr (by omega)) (by omega)).mono ?_; rintro e w2 ⟨h, F2, rfl, a2, hi2, hB2⟩; have H2 := hid (And.intro a2 (And.intro hi2 hB2)); clear a2 hi2 hB2)
        | (go_at_call 8; refine (ar_take h F2 _ 60 _ H2.out.1 (by simp [Ars.new])).mono ?_; rintro e w3 ⟨rfl, F3, a3, s3⟩; obtain ⟨A, hA, hAF⟩ := law_arena60 a3; have H3 := hid (And.intro hA s3); have HAF := hid hAF; clear a3 s3 hA hAF)
        | (go_at_call 10; refine (ar_log h F3 A _ H3.out.1).mono ?_; rintro e w' ⟨rfl, hw⟩; subst w')
        | (go_at_call 11; obtain ⟨ob, hL, hnext⟩ := H3.out.1.log; clear hnext; refine (len_any _ _ _ _ _ hL).mono ?_; rintro e w' ⟨rfl, hw⟩; subst w'; rw [HAF.out.2])
        | (go_at_call 18; refine (pack_no h F3 A n keep 1 (some ⟨w3.heap.size, 0, none⟩) [lane] _ (H3.out.1.alloc _) (by simp) HZ.out (lz_new w3 F3 lane (freshF H3.out.1)) (HNF.out A)).mono ?_; rintro e w4 ⟨rfl, F4, a4, s4⟩; have HA4 := hid (a4.alloc (sb 0)); have HS4 := hid ((((Step.refl w3 F3).alloc _).trans s4).alloc (sb 0)); have HS3 := hid H3.out.2; clear a4 s4 H3)
        | (go_at_call 10; refine (ar_log h F4 A _ HA4.out).mono ?_; rintro e w' ⟨rfl, hw⟩; subst w')
        | (go_at_call 11; obtain ⟨ob, hL, hnext⟩ := HA4.out.log; clear hnext; refine (len_any _ _ _ _ _ hL).mono ?_; rintro e w' ⟨rfl, hw⟩; subst w'; rw [HAF.out.2])
        | (go_at_call 21; refine (ar_top h F4 A _ HA4.out).mono ?_; rintro e w' ⟨rfl, hw⟩; subst w'; rw [HAF.out.1]))
      go_ret
      exact ⟨rfl, law_below HB1.out H2.out.2.2 H2.out.2.1 (HS3.out.trans HS4.out)⟩
  · obtain ⟨m, hme⟩ : ∃ m : Nat, more % 41 = m := ⟨_, rfl⟩
    have hm2 : m ≤ 40 := by omega
    have hmi : (more : Int) % 41 = (m : Int) := by omega
    obtain ⟨sz, hsz⟩ : ∃ sz : Nat, max n 0 = (sz : Int) := ⟨(max n 0).toNat, by omega⟩
    have hs30 : sz ≤ 30 := by omega
    have hmin : min n 30 = n := by omega
    have hdis : n ≤ 30 ∨ 49152 < n := by omega
    clear hme hm
    go_enter Try.func5, Try.ntmps5
    go_upto_region 9 with (first
      | (go_at_call 16; refine (awake4_any _).mono ?_; rintro e w1 ⟨rfl, hB1⟩; have HB1 := hid hB1; clear hB1)
      | (go_at_call 7; refine (ar_new_at (2 * (sz : Int) + (m : Int)) (2 * sz + m) _ (Or.inr (by omega)) (by omega)).mono ?_; rintro e w2 ⟨h, F2, rfl, a2, hi2, hB2⟩; have H2 := hid (And.intro a2 (And.intro hi2 hB2)); clear a2 hi2 hB2)
      | (go_at_call 8; refine (ar_take h F2 _ (2 * (sz : Int)) _ H2.out.1 (by simp [Ars.new])).mono ?_; rintro e w3 ⟨rfl, F3, a3, s3⟩; obtain ⟨A, hA, hAF⟩ := law_arena a3; have H3 := hid (And.intro hA s3); have HAF := hid hAF; clear a3 s3 hA hAF)
      | (go_at_call 10; refine (ar_log h F3 A _ H3.out.1).mono ?_; rintro e w' ⟨rfl, hw⟩; subst w')
      | (go_at_call 11; obtain ⟨ob, hL, hnext⟩ := H3.out.1.log; clear hnext; refine (len_any _ _ _ _ _ hL).mono ?_; rintro e w' ⟨rfl, hw⟩; subst w'; rw [HAF.out.2.2]))
    go_cut [12] from 16 to 125 (fun v wx => ∃ b : Bool, v = .bool b ∧ (b = true ↔ LawW sz n keep lane) ∧ wx = w3)
    case first =>
      by_cases q0 : 0 ≤ n
      case neg =>
        go_wp2_with fail
        go_meet
        case rel => exact ⟨false, rfl, ⟨fun h => (by cases h), fun h => by unfold LawW at h; omega⟩, rfl⟩
      by_cases q1 : 0 ≤ keep
      case neg =>
        go_wp2_with fail
        go_meet
        case rel => exact ⟨false, rfl, ⟨fun h => (by cases h), fun h => by unfold LawW at h; omega⟩, rfl⟩
      by_cases q2 : keep ≤ 2 * (sz : Int) - n
      case neg =>
        go_wp2_with fail
        go_meet
        case rel => exact ⟨false, rfl, ⟨fun h => (by cases h), fun h => by unfold LawW at h; omega⟩, rfl⟩
      by_cases q3 : 0 ≤ lane
      case neg =>
        go_wp2_with fail
        go_meet
        case rel => exact ⟨false, rfl, ⟨fun h => (by cases h), fun h => by unfold LawW at h; omega⟩, rfl⟩
      by_cases q4 : lane ≤ 2 * (sz : Int) - n
      case neg =>
        go_wp2_with fail
        go_meet
        case rel => exact ⟨false, rfl, ⟨fun h => (by cases h), fun h => by unfold LawW at h; omega⟩, rfl⟩
      go_wp2_with fail
      go_meet
      case rel => exact ⟨true, rfl, ⟨fun _ => by unfold LawW; omega, fun _ => rfl⟩, rfl⟩
    case rest =>
      obtain ⟨b, rfl, hb, rfl⟩ := hcut
      have HBW := hid hb
      clear hb
      go_upto_region 10 with fail
      go_cut [13] from 16 to 125 (fun v wx => ∃ b : Bool, v = .bool b ∧ (b = true ↔ LawP sz m n keep lane) ∧ wx = wc)
      case first =>
        cases b with
        | false =>
          go_wp2_with fail
          go_meet
          case rel => exact ⟨false, rfl, ⟨fun h => (by cases h), fun h => HBW.out.2 h.1⟩, rfl⟩
        | true =>
          have hW := HBW.out.1 rfl
          have HW := hid hW
          obtain ⟨g1, g2, g3, g4, g5, g6⟩ := hW
          by_cases d1 : n = 0
          · have e1 : (n == 0) = true := by simp [d1]
            have D1 := hid d1
            clear d1
            by_cases d4 : n ≤ (m : Int)
            · go_wp2_with fail
              go_meet
              case rel => exact ⟨true, rfl, ⟨fun _ => ⟨HW.out, Or.inl D1.out, d4⟩, fun _ => rfl⟩, rfl⟩
            · go_wp2_with fail
              go_meet
              case rel => exact ⟨false, rfl, ⟨fun h => (by cases h), fun h => by have h1 := h.2.1; have h2 := h.2.2; omega⟩, rfl⟩
          · have e1 : (n == 0) = false := by simp [d1]
            by_cases d2 : n ≤ lane - keep
            · skip
              by_cases d4 : n ≤ (m : Int)
              · go_wp2_with fail
                go_meet
                case rel => exact ⟨true, rfl, ⟨fun _ => ⟨HW.out, by omega, by omega⟩, fun _ => rfl⟩, rfl⟩
              · go_wp2_with fail
                go_meet
                case rel => exact ⟨false, rfl, ⟨fun h => (by cases h), fun h => by have h1 := h.2.1; have h2 := h.2.2; omega⟩, rfl⟩
            · by_cases d3 : n ≤ keep - lane
              · skip
                by_cases d4 : n ≤ (m : Int)
                · go_wp2_with fail
                  go_meet
                  case rel => exact ⟨true, rfl, ⟨fun _ => ⟨HW.out, by omega, by omega⟩, fun _ => rfl⟩, rfl⟩
                · go_wp2_with fail
                  go_meet
                  case rel => exact ⟨false, rfl, ⟨fun h => (by cases h), fun h => by have h1 := h.2.1; have h2 := h.2.2; omega⟩, rfl⟩
              · go_wp2_with fail
                go_meet
                case rel => exact ⟨false, rfl, ⟨fun h => (by cases h), fun h => by have h1 := h.2.1; have h2 := h.2.2; omega⟩, rfl⟩
      case rest =>
        obtain ⟨b, rfl, hb, rfl⟩ := hcut
        have HBP := hid hb
        clear hb HBW
        have HZ := hid (show ∀ z ∈ keep :: [lane], z < 9223372036854775808 from fun z hz => by simp at hz; omega)
        have HLZ := hid (lz_new wc F3 lane (freshF H3.out.1))
        have HT := hid (show (A.top : Int) = 2 * (sz : Int) by rw [HAF.out.1]; omega)
        have HFI := hid (law_fine (m := m) (n := n) (keep := keep) (lane := lane) HAF.out.1 HAF.out.2.1 hdis)
        cases b with
        | false =>
          have HNF := hid (show ¬ PFine A n keep [lane] from fun hf => by have := HBP.out.2 (HFI.out.1 hf); cases this)
          go_wp2_with fail
          refine (pack_no h F3 A n keep 1 (some ⟨wc.heap.size, 0, none⟩) [lane] _ (H3.out.1.alloc _) (by simp) HZ.out HLZ.out HNF.out).mono ?_
          rintro e w4 ⟨rfl, F4, a4, s4⟩
          have HA4 := hid (a4.alloc (sb 0))
          have HS4 := hid ((((Step.refl wc F3).alloc _).trans s4).alloc (sb 0))
          clear a4 s4
          go_wp2_with (first
            | (go_at_call 10; refine (ar_log h F4 A _ HA4.out).mono ?_; rintro e w' ⟨rfl, hw⟩; subst w')
            | (go_at_call 11; obtain ⟨ob, hL, hnext⟩ := HA4.out.log; clear hnext; refine (len_any _ _ _ _ _ hL).mono ?_; rintro e w' ⟨rfl, hw⟩; subst w'; rw [HAF.out.2.2])
            | (go_at_call 21; refine (ar_top h F4 A _ HA4.out).mono ?_; rintro e w' ⟨rfl, hw⟩; subst w'; rw [HT.out]))
          go_ret
          exact ⟨rfl, law_below HB1.out H2.out.2.2 H2.out.2.1 (H3.out.2.trans HS4.out)⟩
        | true =>
          have hpf := HFI.out.2 (HBP.out.1 rfl)
          obtain ⟨N, K, ls, hN, hN2, hK, hls, hin, hpw, hroom⟩ := pfine_nat hpf
          have HC := hid (pack_yes h F3 A N K n keep 1 (some ⟨wc.heap.size, 0, none⟩) [lane] ls _ (H3.out.1.alloc _) hN hK hls hN2 (by simp) HLZ.out hin hpw hroom (by have := HAF.out.2.2; omega))
          clear hpf hN hN2 hK hls hin hpw hroom
          go_wp2_with fail
          refine HC.out.mono ?_
          rintro e w4 ⟨rfl, F4, B, a4, s4, pk⟩
          have HTB := hid (show (B.top : Int) = 2 * (sz : Int) by rw [pk.top]; exact HT.out)
          clear pk
          obtain ⟨V, hV⟩ : ∃ V, rk (fun i => A.word (K + i) % 2 == 1) N = V := ⟨_, rfl⟩
          rw [hV]
          have HA4 := hid (a4.alloc (sb (V : Int)))
          have HS4 := hid ((((Step.refl wc F3).alloc _).trans s4).alloc (sb (V : Int)))
          clear a4 s4 hV HC
          go_wp2_with (go_at_call 21; refine (ar_top h F4 B _ HA4.out).mono ?_; rintro e w' ⟨rfl, hw⟩; subst w'; rw [HTB.out])
          go_ret
          exact ⟨rfl, law_below HB1.out H2.out.2.2 H2.out.2.1 (H3.out.2.trans HS4.out)⟩
end Go.Proofs.Ytlnankianpchbaa
