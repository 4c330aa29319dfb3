/- The contract of package sortnet's Sort, over this seat's translation. Conditions: n of at most 12288; lanes that lie apart from the arena; the log has at most some hundred million events. -/
import Derived.Test.YtjdbofgjieljlaaSnF
import Derived.Test.YtjdbofgjieljlaaRwC
namespace Go.Proofs.Ytjdbofgjieljlaa
open Go.RowKit

set_option maxHeartbeats 400000 in
theorem may_yes (n l : Nat) (h1 : n ≤ 12288) (h2 : 2 ≤ l) (w : World) : Calls Try.prog 56 #[.int .i64 (n : Int), .int .i64 (l : Int)] w fun e w' => e = .returned (.bool true) ∧ w' = w := by
  have a1 : (2 : Int) ≤ l := by omega
  have a2 : (0 : Int) ≤ n := by omega
  have a3 : (n : Int) ≤ 12288 := by omega
  go_enter Try.func56, Try.ntmps56
  go_wp2
  go_ret
  exact ⟨rfl, rfl⟩
set_option maxHeartbeats 400000 in
theorem may_no (n l : Nat) (h2 : l < 2) (w : World) : Calls Try.prog 56 #[.int .i64 (n : Int), .int .i64 (l : Int)] w fun e w' => e = .returned (.bool false) ∧ w' = w := by
  have a1 : ¬ (2 : Int) ≤ l := by omega
  go_enter Try.func56, Try.ntmps56
  go_wp2
  go_ret
  exact ⟨rfl, rfl⟩
set_option maxHeartbeats 400000 in
theorem sort_few (p : Value) (n : Nat) (ad : Option Addr) (l cap : Nat) (h2 : l < 2) (w : World) : Calls Try.prog 15 #[p, .int .i64 (n : Int), .slice ad l cap] w fun e w' => e = .returned (.bool false) ∧ w' = w := by
  go_enter Try.func15, Try.ntmps15
  go_wp2_with (go_at_call 56; refine (may_no n l h2 _).mono ?_; rintro e w' ⟨rfl, hw⟩; subst w')
  go_ret
  exact ⟨rfl, rfl⟩

/-- a sort of lanes, done -/
structure Done (A B : Ars) (n : Nat) (ps : List (Nat × Nat)) (ls : List Nat) : Prop where
  top : B.top = A.top
  wl : B.ws.length = A.ws.length
  es : B.es = A.es ++ evN ps ls
  tu : tups B.word ls n = thru tkey (tups A.word ls n) ps
theorem Done.snoc {A B C : Ars} {n i j : Nat} {ps : List (Nat × Nat)} {ls : List Nat} (d : Done A B n ps ls) (hij : i < j) (hj : j < n) (hp : ls.Pairwise (Apart n)) (g : Grew B C (ls.foldl (stepF (decide (tkey (tup B.word ls j) < tkey (tup B.word ls i))) i j) B.word) (evS i j ls)) : Done A C n (ps ++ [(i, j)]) ls := by
  refine ⟨g.top.trans d.top, g.wl.trans d.wl, ?_, ?_⟩
  · rw [g.es, d.es, List.append_assoc]; unfold evN; rw [List.flatMap_append]; simp
  · rw [g.word, tups_swap n i j hij hj ls hp B.word _ rfl, d.tu]; unfold thru; rw [List.foldl_append]; rfl
def Fine (A : Ars) (n : Nat) (zs : List Int) : Prop := 2 ≤ zs.length ∧ (∀ z ∈ zs, A.fits z n = true) ∧ zs.Pairwise (ApartZ n)
theorem fine_nat {A : Ars} {n : Nat} {zs : List Int} (h : Fine A n zs) : ∃ a0 a1 rest, zs = (a0 :: a1 :: rest).map (fun (L : Nat) => (L : Int)) ∧ (∀ L ∈ a0 :: a1 :: rest, L + n ≤ A.top) ∧ (a0 :: a1 :: rest).Pairwise (Apart n) := by
  obtain ⟨h1, h2, h3⟩ := h
  have e : zs = (zs.map Int.toNat).map (fun (L : Nat) => (L : Int)) := by
    rw [List.map_map]
    conv => lhs; rw [← List.map_id zs]
    refine List.map_congr_left fun z hz => ?_
    have := Ars.fits_iff.1 (h2 z hz)
    simp only [Function.comp, id]; omega
  have hl : (zs.map Int.toNat).length = zs.length := by simp
  have hin : ∀ L ∈ zs.map Int.toNat, L + n ≤ A.top := fun L hL => by
    obtain ⟨z, hz, rfl⟩ := List.mem_map.1 hL
    have := Ars.fits_iff.1 (h2 z hz); omega
  have hp : (zs.map Int.toNat).Pairwise (Apart n) := by
    rw [List.pairwise_map]
    refine h3.imp_of_mem fun {a b} ha hb hab => ⟨?_⟩
    have := Ars.fits_iff.1 (h2 a ha); have := Ars.fits_iff.1 (h2 b hb)
    unfold ApartZ at hab; omega
  generalize zs.map Int.toNat = ls at *
  match ls, hl with
  | [], hl => simp at hl; omega
  | [a], hl => simp at hl; omega
  | a0 :: a1 :: rest, _ => exact ⟨a0, a1, rest, e, hin, hp⟩

set_option maxHeartbeats 3200000 in
theorem sort_any (h : Hn) (F : Nat → Prop) (A : Ars) (n b cap : Nat) (zs : List Int) (w : World) (a : Ar w h F A) (hn : n ≤ 12288) (h2 : 2 ≤ zs.length) (hlen : zs.length ≤ 1000) (hcap : zs.length ≤ cap) (hcap2 : cap ≤ 9223372036854775807) (hz : ∀ z ∈ zs, z < 9223372036854775808)
    (hb : b < w.heap.size) (hbF : ¬ F b) (hcs : ∀ j, j < zs.length → w.cell? ⟨b, j, none⟩ = some (.int .i64 (zs[j]?.getD 0))) (hes : A.es.length + (netOf n).length * (4 * zs.length) ≤ 700000000) :
    Calls Try.prog 15 #[arPtr h, .int .i64 (n : Int), .slice (some ⟨b, 0, none⟩) zs.length cap] w fun e w' => ∃ r : Bool, e = .returned (.bool r) ∧ ∃ F' A', Ar w' h F' A' ∧ Step w F w' F' ∧
      ((r = false ∧ ¬ Fine A n zs ∧ A' = A) ∨ (r = true ∧ Fine A n zs ∧ ∀ ls : List Nat, zs = ls.map (fun (L : Nat) => (L : Int)) → Done A A' n (netOf n) ls)) := by
  have HA := hid a
  have HCS := hid hcs
  have hok := a.ok
  have hb2 := hok.1
  have hb3 := hok.2.1
  have HPN := hid (fun w => pairs_net (n : Int) w)
  rw [Int.toNat_natCast] at HPN
  have HV := hid (net_valid n)
  have HES := hid hes
  have HNL := hid (show (netOf n).length ≤ 2408448 by rw [net_len]; exact cnt_small _)
  clear a hcs hes hok
  have HLM := hid (show zs.length = (zs.map fun z => (z, (n : Int))).length by simp)
  have HL9 := hid (show (zs.map fun z => (z, (n : Int))).length ≤ 1000000 by simp; omega)
  have HZ9 := hid (show ∀ x ∈ zs.map fun z => (z, (n : Int)), x.1 < 9223372036854775808 from fun x hx => by obtain ⟨z, hz', rfl⟩ := List.mem_map.1 hx; exact hz z hz')
  by_cases hrf : Rfine A (zs.map fun z => (z, (n : Int)))
  case neg =>
    have HN := hid (show ¬ Fine A n zs from fun hf => hrf ((rfine_of A n zs (by omega)).2 hf.2))
    have HRF := hid hrf
    clear hrf
    go_enter Try.func15, Try.ntmps15
    go_wp2_with (first | (go_at_call 56; refine (may_yes n zs.length hn h2 _).mono ?_; rintro e w' ⟨rfl, hw⟩; subst w') | (go_at_call 58; refine (ofRows_any (n : Int) b cap zs _ (by omega) hb HCS.out).mono ?_; rintro e w1 ⟨rfl, hc4, hB4, hlt4⟩; have H4 := hid (And.intro hc4 (And.intro hB4 hlt4)); clear hc4 hB4 hlt4) | (go_at_call 57; rw [HLM.out]; refine (apart_any h F A _ _ (zs.map fun z => (z, (n : Int))) _ (HA.out.below H4.out.2.1) HL9.out HZ9.out H4.out.2.2 H4.out.1).mono ?_; rintro e w2 ⟨r, rfl, hr, hB5⟩; have HB2 := hid (chainB hB5 H4.out.2.1); clear hB5; obtain rfl : r = false := (by cases r with | false => rfl | true => exact absurd (hr.1 rfl) HRF.out); clear hr))
    go_ret
    exact ⟨false, rfl, F, A, HA.out.below HB2.out, Step.ofBelow HB2.out, Or.inl ⟨rfl, HN.out, rfl⟩⟩
  case pos =>
    have HRF := hid hrf
    have HFI := hid ((rfine_of A n zs (by omega)).1 hrf)
    clear hrf
    go_enter Try.func15, Try.ntmps15
    go_wp2_with (first | (go_at_call 56; refine (may_yes n zs.length hn h2 _).mono ?_; rintro e w' ⟨rfl, hw⟩; subst w') | (go_at_call 58; refine (ofRows_any (n : Int) b cap zs _ (by omega) hb HCS.out).mono ?_; rintro e w1 ⟨rfl, hc4, hB4, hlt4⟩; have H4 := hid (And.intro hc4 (And.intro hB4 hlt4)); clear hc4 hB4 hlt4) | (go_at_call 57; rw [HLM.out]; refine (apart_any h F A _ _ (zs.map fun z => (z, (n : Int))) _ (HA.out.below H4.out.2.1) HL9.out HZ9.out H4.out.2.2 H4.out.1).mono ?_; rintro e w2 ⟨r, rfl, hr, hB5⟩; have HB2 := hid (chainB hB5 H4.out.2.1); clear hB5; obtain rfl : r = true := hr.2 HRF.out; clear hr))
    have hfine : Fine A n zs := ⟨h2, HFI.out⟩
    have HFN := hid hfine
    obtain ⟨a0, a1, rest, hze, hin, hap⟩ := fine_nat hfine
    have HZE := hid hze
    have HIN := hid hin
    have HAP := hid hap
    have hzl : zs.length = rest.length + 2 := by rw [hze]; simp
    have HUN := hid (show ∀ ls : List Nat, zs = ls.map (fun (L : Nat) => (L : Int)) → ls = a0 :: a1 :: rest from fun ls hls => by
      rw [hze] at hls
      exact ((List.map_inj_right (fun x y h => by omega)).1 hls).symm)
    have HLC := hid (show ∀ w' F', Step w F w' F' → LaneCells w' ⟨b, 0, none⟩ ((a0 :: a1 :: rest).map fun (L : Nat) => (L : Int)) from fun w' F' s k hk => by
      rw [add_plain]
      refine s.cell ?_ hbF
      have hk' : k < zs.length := by rw [hze]; exact hk
      have := HCS.out k hk'
      rw [this]
      simp only [hze]
      rw [List.getElem?_eq_getElem hk]; rfl)
    clear hfine hze hin hap
    go_wp2_with fail
    refine (HPN.out _).mono ?_
    rintro e w3 ⟨pd, pc, rfl, ho, hB3⟩
    have HO := hid ho
    have HB3 := hid (chainB hB3 HB2.out)
    have hpF : ∀ g cs, w3.heap[g]? = some (.cells cs 78 (0, 0)) → w2.heap.size ≤ g → ¬ F g := fun g cs _ hg hf => by have := HA.out.lt g hf; have := HB2.out.size; omega
    have HPF := hid hpF
    have HAW := hid (HA.out.below (chainB hB3 HB2.out))
    clear ho hB3 hpF
    obtain ⟨ns, hns⟩ : ∃ ns, netOf n = ns := ⟨_, rfl⟩
    rw [hns] at HO HV HES HNL ⊢
    have HNS := hid hns
    clear hns
    have hnl : ns.length ≤ 2408448 := HNL.out
    go_wp2_with fail
    go_loopw [25] (fun c wr => ∃ (k : Nat) (Fk : Nat → Prop) (Ak : Ars), k ≤ ns.length ∧ c = .int .i64 (k : Int) ∧ Ar wr h Fk Ak ∧ Step w3 F wr Fk ∧ Done A Ak n (ns.take k) (a0 :: a1 :: rest)) (fun c _ => ns.length - (intOf c).toNat)
    case atStart => exact ⟨0, F, A, Nat.zero_le _, rfl, HAW.out, Step.refl _ _, ⟨rfl, rfl, by simp [evN], rfl⟩⟩
    case round =>
      obtain ⟨k, Fk, Ak, hk, rfl, ak, sk, dk⟩ := hrel
      by_cases hlt : k < ns.length
      · obtain ⟨g, rfl, hgb, hgl, hcell⟩ := owns_cell HO.out (by omega)
        obtain ⟨csr, hblk⟩ := rowB HO.out (x := g) rfl
        have hgF := HPF.out g csr hblk hgb
        obtain ⟨c0, c1⟩ := prcells_at ns k hlt
        replace c0 := sk.cell (hcell _ _ c0) hgF
        replace c1 := sk.cell (hcell _ _ c1) hgF
        obtain ⟨v1, v2⟩ := HV.out ns[k] (List.getElem_mem hlt)
        have htk : ns.take (k + 1) = ns.take k ++ [ns[k]] := List.take_succ_eq_append_getElem hlt
        have HEK := hid (show Ak.es.length ≤ 700000000 by
          rw [dk.es, List.length_append, evN_len _ _ (by simp), List.length_take]
          have h1 : min k ns.length * (4 * (a0 :: a1 :: rest).length) ≤ ns.length * (4 * zs.length) := Nat.mul_le_mul (Nat.min_le_right _ _) (by rw [hzl]; simp)
          have := HES.out; omega)
        obtain ⟨p, hpe⟩ : ∃ p, ns[k] = p := ⟨_, rfl⟩
        rw [hpe] at c0 c1 v1 v2 htk
        clear hpe
        obtain ⟨i, j⟩ := p
        simp only at c0 c1 v1 v2
        have HTK := hid htk
        have HAK := hid ak
        have HSK := hid sk
        have HDK := hid dk
        clear hcell hblk ak sk dk htk
        go_wp2_with fail
        have hst := settle_any h Fk Ak n i j a0 a1 rest ⟨b, 0, none⟩ cap _ (HAK.out.alloc (.cells #[.int .i64 (i : Int), .int .i64 (j : Int)] 78)) v1 v2 (fun L hL => by rw [HDK.out.top]; exact HIN.out L hL) HAP.out (by omega) (by omega) hcap2
          (HLC.out _ _ (((Step.ofBelow HB3.out).trans HSK.out).alloc _)) (HSK.out.out hbF (by have := HB3.out.size; show b < w3.heap.size; omega)) (by have := HEK.out; omega)
        refine hst.mono ?_
        clear hst
        rintro e w4 ⟨rfl, F4, A4, a4, s4, g4⟩
        have HA4 := hid a4
        have HS4 := hid ((HSK.out.alloc _).trans s4)
        have HD4 := hid (HDK.out.snoc v1 v2 HAP.out g4)
        clear a4 s4 g4
        go_wp2
        go_roundw
        case rel => exact ⟨k + 1, F4, A4, by omega, by go_num, HA4.out, HS4.out, by rw [HTK.out]; exact HD4.out⟩
        case measure => simp [intOf]; omega
      · have hke : k = ns.length := by omega
        subst hke
        rw [List.take_length] at dk
        have HAK := hid ak
        have HSK := hid sk
        have HDK := hid dk
        clear ak sk dk
        go_wp2
        go_ret
        exact ⟨true, rfl, Fk, Ak, HAK.out, (Step.ofBelow HB3.out).trans HSK.out, Or.inr ⟨rfl, HFN.out, fun ls hls => by rw [HUN.out ls hls, HNS.out]; exact HDK.out⟩⟩
end Go.Proofs.Ytjdbofgjieljlaa
