/- The law ChartPoints, over this seat's translation: its walk, out of what its awake answers. Conditions: a row of numbers; what the library's variables hold. -/
import Derived.Test.YtiekffkeagcaiaaDoorChPc
import Derived.Test.YtiekffkeagcaiaaDoorChAf
import Derived.BigQuiet
namespace Go.Proofs.YtiekffkeagcaiaaDoor
open Go.RowKit
set_option linter.unusedVariables false

theorem isRow_nat {w : World} {ad : Option Addr} {len cap : Nat} {zs : List Int} (h : IsRow .u32 w ad len cap zs) : ∃ l : List Nat, l.length = len ∧ (∀ x ∈ l, x < 4294967296) ∧ ∀ k (hk : k < l.length), ∃ x, ad = some x ∧ w.cell? (x.add k) = some (.int .u32 (l[k] : Int)) := by
  have hlz : len ≤ zs.length := by
    rcases h with ⟨_, h0, _, _⟩ | ⟨x, _, h1, _, h2, _⟩ <;> omega
  have hlen : ((zs.take len).map Int.toNat).length = len := by simp; omega
  have hget : ∀ k (hk : k < ((zs.take len).map Int.toNat).length), zs[k]? = some (zs.getD k 0) ∧ ((zs.take len).map Int.toNat)[k] = (zs.getD k 0).toNat := by
    intro k hk
    have hk2 : k < zs.length := by omega
    simp [hk2, List.getD]
  have hmem : ∀ n ∈ zs, (Lit.int .u32 n).wf = true := by
    rcases h with ⟨_, _, _, rfl⟩ | ⟨x, _, _, _, _, _, h3⟩
    · intro n hn; cases hn
    · exact h3
  refine ⟨(zs.take len).map Int.toNat, hlen, ?_, ?_⟩
  · intro x hx
    obtain ⟨n, hn, rfl⟩ := List.mem_map.1 hx
    have := wf_u32 (hmem n (List.mem_of_mem_take hn)); omega
  · intro k hk
    obtain ⟨h1, h2⟩ := hget k hk
    have hk2 : k < zs.length := by rw [hlen] at hk; omega
    rcases h with ⟨_, h0, _, rfl⟩ | ⟨x, hx, _, _, _, hc, _⟩
    · simp at hk2
    · refine ⟨x, hx, ?_⟩
      rw [hc k hk2, h2]
      have hm : zs.getD k 0 ∈ zs := by rw [List.getD_eq_getElem?_getD, List.getElem?_eq_getElem hk2]; exact List.getElem_mem hk2
      have := wf_u32 (hmem _ hm)
      rw [Int.toNat_of_nonneg this.1]
set_option maxHeartbeats 800000 in
theorem same2_any (w : World) (g1 c1 c2 : Nat) (x : Addr) (l : List Nat) (hl : l.length ≤ 4000000000) (h1 : U32B w g1 l) (h2 : ∀ k (hk : k < l.length), w.cell? (x.add k) = some (.int .u32 (l[k] : Int))) :
    Calls Tryd.prog 8 #[.slice (some ⟨g1, 0, none⟩) l.length c1, .slice (some x) l.length c2] w fun e w' => e = .returned (.bool true) ∧ ∃ n, w' = w.drewN n := by
  have H1 := hid h1
  have H2 := hid h2
  obtain ⟨N, hN⟩ : ∃ N, l.length = N := ⟨_, rfl⟩
  have HN := hid hN
  rw [hN]
  have hN6 : N ≤ 4000000000 := by rw [← hN]; exact hl
  clear h1 h2 hN hl
  go_enter Tryd.func8, Tryd.ntmps8
  go_wp2_with fail
  go_loopw [13] (fun i wr => ∃ k n : Nat, k ≤ N ∧ i = .int .i64 (k : Int) ∧ wr = w.drewN n) (fun i _ => N - (intOf i).toNat)
  case atStart => exact ⟨0, 0, Nat.zero_le _, rfl, rfl⟩
  case round =>
    obtain ⟨k, n, hk, rfl, rfl⟩ := hrel
    by_cases hlt : k < N
    · have hkl : k < l.length := by rw [HN.out]; exact hlt
      have x0 := H1.out.cell hkl
      have y0 := H2.out k hkl
      have hg : l.getD k 0 = l[k] := by rw [List.getD_eq_getElem?_getD, List.getElem?_eq_getElem hkl]; rfl
      rw [hg] at x0
      obtain ⟨v, hv⟩ : ∃ v, l[k] = v := ⟨_, rfl⟩
      rw [hv] at x0 y0
      have hwk : IntKind.i64.wrap (k : Int) = (k : Int) := by rw [IntKind.wrap_i64]; omega
      have HLT := hid hlt
      clear hk hv hg hkl
      go_wp2_with fail
      go_quiet (fail)
      clear x0 y0 hwk
      rw [World.drewN_drewN]
      go_wp2
      go_roundw
      case rel => exact ⟨k + 1, _, HLT.out, by go_num, rfl⟩
      case measure => have := HLT.out; simp [intOf]; omega
    · have hke : k = N := by omega
      subst hke
      clear hk hlt
      go_wp2
      go_ret
      exact ⟨rfl, n, rfl⟩
theorem all_next {l : List Nat} {k : Nat} (h : k < l.length) : (l.take (k + 1)).all (fun n => decide (n ≤ 1114111)) = ((l.take k).all (fun n => decide (n ≤ 1114111)) && decide (l[k] ≤ 1114111)) := by
  rw [List.take_add_one, List.getElem?_eq_getElem h, List.all_append]
  simp
set_option maxRecDepth 2000 in
set_option maxHeartbeats 3200000 in
theorem points_law (ad : Option Addr) (len cap : Nat) (zs : List Int) (w : World) (hrow : IsRow .u32 w ad len cap zs) (v : Vr w) (t : Tz w) :
    Calls Tryd.prog 3 #[.slice ad len cap] w fun e w' => e = .returned (.bool true) ∧ Below w.heap.size w w' := by
  obtain ⟨l, hlen, hl32, hc⟩ := isRow_nat hrow
  have HAW := hid (awake_any w v t)
  have V0 := hid v
  have T0 := hid t
  have HC := hid hc
  have HL := hid hl32
  subst hlen
  clear v t hc hl32 hrow
  obtain ⟨N, hN⟩ : ∃ N, l.length = N := ⟨_, rfl⟩
  have HN := hid hN
  rw [hN]
  clear hN
  go_enter Tryd.func3, Tryd.ntmps3
  go_wp2_with fail
  refine HAW.out.mono ?_
  rintro e w1 ⟨rfl, hB⟩
  have B1 := hid hB
  have V1 := hid (V0.out.below hB)
  have T1 := hid (T0.out.below hB)
  have HC := hid (show ∀ k (hk : k < l.length), ∃ x, ad = some x ∧ w1.cell? (x.add k) = some (.int .u32 (l[k] : Int)) from fun k hk => by obtain ⟨x, h1, h2⟩ := HC.out k hk; exact ⟨x, h1, cell_later hB h2⟩)
  clear hB HAW V0 T0
  by_cases h60 : 60 < N
  · have h60i : (60 : Int) < (N : Int) := by omega
    clear h60
    go_wp2
    go_ret
    exact ⟨rfl, B1.out⟩
  · have h60i : ((60 : Int) < (N : Int)) = False := eq_false (by omega)
    have hN1000 : N ≤ 1000 := by omega
    have C1 := hid (show Calls Tryd.prog 5 #[.slice ad N cap] w1 fun e w' => e = .returned (.string (mkS (jn l))) ∧ Below w1.heap.size w1 w' from by have := pointsq_any ad l cap w1 T1.out HC.out (by rw [HN.out]; exact hN1000) HL.out; rw [HN.out] at this; exact this)
    have C2 := hid (show ∀ w2, Below w1.heap.size w1 w2 → Calls Tryd.prog 6 #[.slice ad N cap] w2 fun e w' => e = .returned (.string (mkS (jn l))) ∧ w' = w2 from fun w2 hb => by have := rpointsq_any ad l cap w2 (fun k hk => by obtain ⟨x, h1, h2⟩ := HC.out k hk; exact ⟨x, h1, cell_later hb h2⟩) (by rw [HN.out]; exact hN1000) HL.out; rw [HN.out] at this; exact this)
    have HJS := hid (show (mkS (jn l)).size ≤ 7000 from by rw [mkS_size]; have := jn_len l; rw [HN.out] at this; omega)
    have HCAT := hid (show (⟨#[48, 48, 52, 49, 32, 61, 32]⟩ : ByteArray) ++ mkS (jn l) = mkS (lnS l) from ext_toList (by rw [append_toList, mkS_toList, mkS_toList]; rfl))
    obtain ⟨J, hJ⟩ : ∃ J, mkS (jn l) = J := ⟨_, rfl⟩
    rw [hJ] at C1 C2 HJS HCAT
    clear h60 hJ
    go_wp2_with fail
    refine C1.out.mono ?_
    rintro e w2 ⟨rfl, hB⟩
    have HB2 := hid hB
    have B2 := hid (belowCat B1.out hB)
    have V2 := hid (V1.out.below hB)
    clear hB C1
    go_wp2_with fail
    refine (C2.out _ HB2.out).mono ?_
    rintro e w' ⟨rfl, hw⟩
    subst w'
    by_cases h0 : N = 0
    · subst h0
      go_wp2
      go_ret
      exact ⟨rfl, B2.out⟩
    · have h0i : ((N : Int) == 0) = false := by simp; omega
      by_cases h3 : 3 < N
      · have h3i : (3 : Int) < (N : Int) := by omega
        clear h3 h0
        go_wp2
        go_ret
        exact ⟨rfl, B2.out⟩
      · have h3i : ((3 : Int) < (N : Int)) = False := eq_false (by omega)
        have HSAID := hid (line_said l (fun e => h0 (by rw [← HN.out, e]; rfl)) (by rw [HN.out]; omega))
        obtain ⟨x, hx⟩ : ∃ x, ad = some x := by obtain ⟨x, h1, _⟩ := HC.out 0 (by rw [HN.out]; omega); exact ⟨x, h1⟩
        subst hx
        have HCX := hid (show ∀ k (hk : k < l.length), w2.cell? (x.add k) = some (.int .u32 (l[k] : Int)) from fun k hk => by obtain ⟨y, h1, h2⟩ := HC.out k hk; cases h1; exact cell_later HB2.out h2)
        clear HC C2 HB2
        go_wp2_with fail
        go_loopw [4, 31] (fun o i wr => ∃ k : Nat, k ≤ N ∧ i = .int .i64 (k : Int) ∧ o = .bool ((l.take k).all fun n => decide (n ≤ 1114111)) ∧ wr = w2) (fun _ i _ => N - (intOf i).toNat)
        case atStart => exact ⟨0, Nat.zero_le _, rfl, rfl, rfl⟩
        case round =>
          obtain ⟨k, hk, rfl, rfl, rfl⟩ := hrel
          by_cases hlt : k < N
          · have hkl : k < l.length := by rw [HN.out]; exact hlt
            have kc := HCX.out k hkl
            have HAN := hid (all_next hkl)
            obtain ⟨p, hp⟩ : ∃ p, l[k] = p := ⟨_, rfl⟩
            rw [hp] at kc HAN
            obtain ⟨A, hA⟩ : ∃ A, ((l.take k).all fun n => decide (n ≤ 1114111)) = A := ⟨_, rfl⟩
            rw [hA] at HAN ⊢
            have HLT := hid hlt
            clear hkl hp hA hk
            cases A with
            | true =>
              go_wp2_with fail
              go_roundw
              case rel => exact ⟨k + 1, HLT.out, by go_num, by rw [HAN.out, Bool.true_and]; exact congrArg Value.bool (decide_eq_decide.2 (by omega)), trivial⟩
              case measure => have := HLT.out; simp [intOf]; omega
            | false =>
              go_wp2_with fail
              go_roundw
              case rel => exact ⟨k + 1, HLT.out, by go_num, by rw [HAN.out, Bool.false_and], trivial⟩
              case measure => have := HLT.out; simp [intOf]; omega
          · have hke : k = N := by omega
            subst hke
            have hte : l.take k = l := List.take_of_length_le (by rw [HN.out]; exact Nat.le_refl _)
            rw [hte]
            have HJ7 := HJS.out
            have hsum : ¬ (9223372036854775807 < (⟨#[48, 48, 52, 49, 32, 61, 32]⟩ : ByteArray).size + J.size) := by have : (⟨#[48, 48, 52, 49, 32, 61, 32]⟩ : ByteArray).size = 7 := rfl; omega
            have HDE := hid (show Calls Tryd.prog 7 #[.string ((⟨#[48, 48, 52, 49, 32, 61, 32]⟩ : ByteArray) ++ J)] wr fun e w' => ∃ (ad : Option Addr) (cap at_ : Nat) (its : List Dt) (vs : List Value),
                e = .returned (.tuple #[.slice ad its.length cap, .int .i64 (if at_ = 0 then 0 else 3), .int .i64 (at_ : Int)]) ∧ rsV dcOf upD (lwV (mkS (lnS l))) (lwV (mkS (lnS l))).length = (its, at_) ∧ OutD w' wr.heap.size wr.heap.size (.slice ad its.length cap) its vs ∧ Below wr.heap.size wr w' from by
              rw [HCAT.out]
              refine decomps_any _ wr V2.out ?_
              rw [← HCAT.out, ByteArray.size_append]
              have : (⟨#[48, 48, 52, 49, 32, 61, 32]⟩ : ByteArray).size = 7 := rfl
              omega)
            obtain ⟨A, hA⟩ : ∃ A, (l.all fun n => decide (n ≤ 1114111)) = A := ⟨_, rfl⟩
            rw [hA] at HSAID ⊢
            clear hlt hk hte hA HJ7
            go_wp2_with fail
            refine HDE.out.mono ?_
            rintro e w3 ⟨ad3, cap3, at3, its, vs, rfl, hr, ho, hB⟩
            have B3 := hid (belowCat B2.out hB)
            have hs := HSAID.out.symm.trans hr
            cases A with
            | true =>
              rw [if_pos rfl] at hs
              obtain ⟨rfl, rfl⟩ := Prod.mk.inj hs
              obtain ⟨g, q, rc, rfl, y0, y1, y2, y3, _, hu⟩ := ho.at rfl 0 (by simp)
              have y1' : w3.cell? ⟨g, 1, none⟩ = some (.slice (some ⟨q, 0, none⟩) k rc) := by rw [← HN.out]; exact y1
              have HSA := hid (show Calls Tryd.prog 8 #[.slice (some ⟨q, 0, none⟩) k rc, .slice (some x) k cap] w3 fun e w' => e = .returned (.bool true) ∧ ∃ n, w' = w3.drewN n from by
                have := same2_any w3 q rc cap x l (by rw [HN.out]; omega) hu (fun j hj => cell_later hB (HCX.out j hj))
                rw [HN.out] at this
                exact this)
              clear hr ho hs hB y0 y1 y2 y3 hu
              rw [if_pos rfl]
              go_wp2_with fail
              refine HSA.out.mono ?_
              rintro e w4 ⟨rfl, n, rfl⟩
              go_wp2
              go_ret
              exact ⟨rfl, belowDN B3.out n⟩
            | false =>
              rw [if_neg (by decide)] at hs
              obtain ⟨rfl, rfl⟩ := Prod.mk.inj hs
              clear hr ho hs hB
              rw [if_neg (by decide)]
              go_wp2
              go_ret
              exact ⟨rfl, B3.out⟩
end Go.Proofs.YtiekffkeagcaiaaDoor
