/- The contract of package pack's sift, over this seat's translation. Conditions: rows within the arena that lie apart; n of at most 49152; the log has at most some hundred million events. -/
import Derived.Test.YtjcnkigadlmpgaaDoorPkB
import Derived.Deep.CutRange
namespace Go.Proofs.YtjcnkigadlmpgaaDoor
open Go.RowKit

/-- a slice of lanes, apart from the arena -/
def Lns (w : World) (F : Nat → Prop) (ad : Option Addr) (ls : List Nat) : Prop := ∀ j (h : j < ls.length), ∃ bl, ad = some ⟨bl, 0, none⟩ ∧ ¬ F bl ∧ w.cell? ⟨bl, j, none⟩ = some (.int .i64 (ls[j] : Int))
theorem Lns.step {w w' : World} {F F' : Nat → Prop} {ad : Option Addr} {ls : List Nat} (l : Lns w F ad ls) (s : Step w F w' F') : Lns w' F' ad ls := fun j hj => by
  obtain ⟨bl, h1, h2, h3⟩ := l j hj
  exact ⟨bl, h1, s.out h2 (cell_blk h3), s.cell h3 h2⟩
/-- an arena behind some events, its words by a relation -/
structure Went (A B : Ars) (es : List Ev) : Prop where
  top : B.top = A.top
  wl : B.ws.length = A.ws.length
  es : B.es = A.es ++ es
theorem Went.refl (A : Ars) : Went A A [] := ⟨rfl, rfl, by simp⟩
theorem Went.trans {A B C : Ars} {d e : List Ev} (h : Went A B d) (k : Went B C e) : Went A C (d ++ e) := ⟨k.top.trans h.top, k.wl.trans h.wl, by rw [k.es, h.es, List.append_assoc]⟩
theorem went_ld (A : Ars) (p : Nat) : Went A (A.loadN p) [evLd p] := ⟨rfl, rfl, rfl⟩
theorem went_st (A : Ars) (p v : Nat) : Went A (A.storeN p v) [evSt p] := ⟨rfl, by simp, rfl⟩
theorem word_st (A : Ars) (p v : Nat) (h : p < A.ws.length) : (A.storeN p v).word = fun x => if x = p then v else A.word x := by
  funext x
  rw [Ars.storeN_word]
  by_cases e : x = p
  · simp [e, h]
  · simp [e]
theorem up_le (f : Nat → List Ev) (c k n : Nat) (h : ∀ i, (f i).length ≤ c) (hk : k ≤ n) : (upTo f k).length ≤ n * c := by
  have : (upTo f k).length ≤ k * c := by
    induction k with
    | zero => simp [upTo]
    | succ k ih => rw [upTo_succ, List.length_append, Nat.succ_mul]; have := ih (by omega); have := h k; omega
  exact Nat.le_trans this (Nat.mul_le_mul_right _ hk)

set_option maxHeartbeats 3200000 in
theorem sift_any (h : Hn) (F : Nat → Prop) (A : Ars) (keep ways n cap : Nat) (ad : Option Addr) (ls : List Nat) (w : World) (a : Ar w h F A) (hn : n ≤ 49152) (hin : ∀ L ∈ keep :: ways :: ls, L + n ≤ A.top) (hp : (keep :: ways :: ls).Pairwise (Apart n)) (hl : Lns w F ad ls) (hll : ls.length ≤ 1000) (hes : A.es.length ≤ 300000000) :
    Calls Tryd.prog 52 #[arPtr h, .int .i64 (keep : Int), .int .i64 (ways : Int), .int .i64 (n : Int), .slice ad ls.length cap] w fun e w' => e = .returned (sec (rk (fun i => A.word (keep + i) % 2 == 1) n : Nat)) ∧ ∃ F' A', Ar w' h F' A' ∧ Step w F w' F' ∧ Went A A' (upTo (evSf keep ways ls) n) ∧ Sf A.word A'.word keep ways ls n n := by
  have hb1 := a.ok.1
  have hb2 := a.ok.2.1
  have HA := hid a
  have HL := hid hl
  have HIN := hid hin
  have HPW := hid hp
  have HNF := hid (show ∀ i, w.heap.size ≤ i → ¬ F i from fun i hi x => by have := a.lt _ x; omega)
  have hk1 : keep + n ≤ A.top := hin keep (by simp)
  have hw1 : ways + n ≤ A.top := hin ways (by simp)
  obtain ⟨b, hbe⟩ : ∃ b : Nat → Bool, (fun i => A.word (keep + i) % 2 == 1) = b := ⟨_, rfl⟩
  have HBE := hid hbe
  have HRK := hid (fun i => rk_le b i)
  rw [hbe]
  clear a hl hin hp hbe
  go_enter Tryd.func52, Tryd.ntmps52
  go_wp2_with (go_at_call 22; refine (of_any _ _).mono ?_; rintro e w' ⟨rfl, rfl⟩)
  have HEB := hid (show ∀ k, k ≤ n → (upTo (evSf keep ways ls) k).length ≤ 98402304 from fun k hk => by
    have h1 := up_le (evSf keep ways ls) (2 + 2 * ls.length) k n (fun i => Nat.le_of_eq (evSf_len ..)) hk
    have h2 : n * (2 + 2 * ls.length) ≤ 49152 * 2002 := Nat.mul_le_mul hn (by omega)
    omega)
  go_loopw [19] (fun c wr => ∃ (k : Nat) (Fk : Nat → Prop) (Ak : Ars), k ≤ n ∧ c = .int .i64 (k : Int) ∧ Ar wr h Fk Ak ∧ Step w F wr Fk ∧ wr.heap[w.heap.size]? = some (sb 0) ∧ wr.heap[w.heap.size + 1 + 1]? = some (sb ((rk b k : Nat) : Int)) ∧ ¬ Fk w.heap.size ∧ ¬ Fk (w.heap.size + 1 + 1) ∧ Went A Ak (upTo (evSf keep ways ls) k) ∧ Sf A.word Ak.word keep ways ls n k) (fun c _ => n - (intOf c).toNat)
  case atStart => exact ⟨0, F, A, Nat.zero_le _, rfl, ((HA.out.alloc _).alloc _).alloc _, (((Step.refl _ _).alloc _).alloc _).alloc _, (by simp only [heap_alloc_get, World.size_alloc]; repeat (first | rw [if_pos trivial] | rw [if_pos rfl] | rw [if_neg (by omega)])), (show _ = some (sb 0) from (by simp only [heap_alloc_get, World.size_alloc]; repeat (first | rw [if_pos trivial] | rw [if_pos rfl] | rw [if_neg (by omega)]))), HNF.out _ (Nat.le_refl _), HNF.out _ (by omega), Went.refl _, Sf.start ..⟩
  case round =>
    obtain ⟨k, Fk, Ak, hk, rfl, ak, sk, hbx, hbk, hnx, hnk, wt, sf⟩ := hrel
    have HAK := hid ak
    have HSK := hid sk
    have HWT := hid wt
    have HSF := hid sf
    have HX := hid (And.intro hbx hnx)
    have HK := hid (And.intro hbk hnk)
    by_cases hlt : k < n
    · have hbkE : (A.word (keep + k) % 2 == 1) = b k := congrFun HBE.out k
      have HBK := hid hbkE
      have hv : Ak.word (keep + k) = A.word (keep + k) := sf.keep HPW.out hlt
      have htp := wt.top
      have HES := hid (show Ak.es.length ≤ 398402304 by rw [wt.es, List.length_append]; have := HEB.out k hk; omega)
      have hkt : keep + k < Ak.top := by omega
      have hwt : ways + k < Ak.top := by omega
      obtain ⟨e1, e2⟩ := ld_at (A := Ak) (L := keep) (i := k) hkt
      rw [hv] at e1
      have HV := hid (show A.word (keep + k) < 4294967296 from by rw [← hv]; exact Ars.word_lt ak.ok _)
      have HWW := hid (whole_any (A.word (keep + k)))
      rw [hbkE] at HWW
      obtain ⟨bk, hbke⟩ : ∃ bk, b k = bk := ⟨_, rfl⟩
      rw [hbke] at HWW
      have HB2 := hid hbke
      have H1 := hid e1
      have H2 := hid e2
      have hrk := HRK.out k
      have hrk2 : rk b k < 4294967296 := by omega
      obtain ⟨r, hr⟩ : ∃ r, rk b k = r := ⟨_, rfl⟩
      have HR := hid hr
      rw [hr] at hrk hrk2 HK
      have hmb := mk_lt bk
      have hk32 : k < 4294967296 := by omega
      have HWK := hid (show IntKind.u32.wrap (k : Int) = (k : Int) by rw [IntKind.wrap_u32]; omega)
      obtain ⟨v, hve⟩ : ∃ v, k - r = v := ⟨_, rfl⟩
      have HSB := hid (show subW k r = v by rw [← hve]; exact sub_small k r hrk hk32)
      have hv32 : v < 4294967296 := by omega
      have HVE := hid hve
      have HYE := hid (andW_mk bk v hv32)
      obtain ⟨y0, hy0⟩ : ∃ y0, (if bk then v else 0) = y0 := ⟨_, rfl⟩
      rw [hy0] at HYE
      have hy32 : y0 < 4294967296 := by rw [← hy0]; cases bk <;> simp <;> omega
      have HY0 := hid hy0
      clear hve hy0
      clear ak sk wt sf hbx hbk hnx hnk e1 e2 hv hbkE hbke hr htp hrk
      go_wp2_with fail
      refine (ar_load h Fk Ak ((keep : Int) + (k : Int)) _ HAK.out (by omega) (by have := HES.out; omega)).mono ?_
      rintro e w1 ⟨rfl, F1, a1, s1⟩
      rw [H1.out]
      rw [H2.out] at a1
      go_wp2_with fail
      refine (HWW.out _ HV.out).mono ?_
      rintro e w2 ⟨rfl, hB2⟩
      have A2 := hid (a1.below hB2)
      have S2 := hid (s1.trans (Step.ofBelow hB2))
      have HY2 := hid (heap_alloc_at w2 (sb (mk bk : Nat)))
      have A3 := hid (show Ar (w2.alloc (sb (mk bk : Nat))) h F1 (Ak.loadN (keep + k)) from A2.out.alloc _)
      have S3 := hid (show Step wr Fk (w2.alloc (sb (mk bk : Nat))) F1 from S2.out.alloc _)
      have HFy := hid (show ¬ F1 w2.heap.size from fun x => by have := A2.out.lt _ x; omega)
      have hyl : w2.heap.size < (w2.alloc (sb (mk bk : Nat))).heap.size := by simp
      clear a1 s1 hB2
      go_wp2_with fail
      obtain ⟨y, hy⟩ : ∃ y, w2.heap.size = y := ⟨_, rfl⟩
      rw [hy] at HY2 HFy hyl ⊢
      clear hy A2 S2
      generalize w2.alloc (sb (mk bk : Nat)) = w3 at *
      have K3 := hid (S3.out.heap HK.out.1 HK.out.2)
      have kr : w3.cell? ⟨w.heap.size + 1 + 1, 0, none⟩ = some (.int .u32 (r : Int)) := cell_of_heap K3.out rfl
      have KB := hid (show ∀ w' : World, Below w3.heap.size w3 w' → w'.cell? ⟨w.heap.size + 1 + 1, 0, none⟩ = some (.int .u32 (r : Int)) from fun w' hb => cell_below hb kr (cell_blk kr))
      clear kr
      go_cut [14, 19] from 19 to 63 (fun p c wx => c = .int .i64 (k : Int) ∧ ∃ z, w3.heap.size ≤ z ∧ p = .pointer (some ⟨z, 0, none⟩) ∧ wx.heap[z]? = some (sb (v : Int)) ∧ Below w3.heap.size w3 wx)
      case first =>
        go_region_held3 (fun w' => w'.cell? ⟨w.heap.size + 1 + 1, 0, none⟩ = some (.int .u32 (r : Int)))
          (first | (exact KB.out _ (by repeat (first | exact Below.refl _ _ | refine blw_alloc ?_ | refine blw_drew ?_ | assumption))) | (go_keep))
          (first | (go_at_call 22; refine (of_any _ _).mono ?_; rintro e w' ⟨rfl, rfl⟩) | (go_at_call 75; rw [HWK.out]; refine (sub_any k r _ hk32 hrk2).mono ?_; rintro e w' ⟨rfl, rfl⟩; rw [HSB.out]))
        all_goals
          go_wp2_with fail
          go_meet
          case rel => exact ⟨rfl, _, by omega, rfl, (by simp only [heap_drew, heap_alloc_get, World.size_alloc]; repeat (first | rw [if_pos trivial] | rw [if_pos rfl] | rw [if_neg (by omega)])), (by repeat (first | exact Below.refl _ _ | refine blw_alloc ?_ | refine blw_drew ?_ | assumption))⟩
      case rest =>
        obtain ⟨rfl, z, hz, rfl, hbz, hB⟩ := hcut
        have A4 := hid (A3.out.below hB)
        have S4 := hid (S3.out.trans (Step.ofBelow (F := F1) hB))
        have K4 := hid ((hB.block _ (lt_of_heap K3.out)).trans K3.out)
        have Y4 := hid ((hB.block _ (lt_of_heap HY2.out)).trans HY2.out)
        have X4 := hid (S4.out.heap HX.out.1 HX.out.2)
        have ky : wc.cell? ⟨y, 0, none⟩ = some (.int .u32 (mk bk : Int)) := cell_of_heap Y4.out rfl
        have kz : wc.cell? ⟨z, 0, none⟩ = some (.int .u32 (v : Int)) := cell_of_heap hbz rfl
        have HFK := hid (S3.out.out HK.out.2 (lt_of_heap HK.out.1))
        have HFX := hid (S3.out.out HX.out.2 (lt_of_heap HX.out.1))
        have HST := hid (st_at (A := Ak.loadN (keep + k)) (L := ways) (i := k) (v := y0) hwt)
        clear hB hbz K3 KB HY2 A3 S3 hyl
        go_wp2_with (go_at_call 31; refine (and_any (mk bk) v _ hmb hv32).mono ?_; rintro e w' ⟨rfl, rfl⟩; rw [HYE.out])
        refine (ar_store h F1 (Ak.loadN (keep + k)) ((ways : Int) + (k : Int)) y0 _ ((((A4.out.alloc _).alloc _).alloc _).alloc _) (by omega) hy32 (by have := HES.out; simp [Ars.loadN, Ars.note]; omega)).mono ?_
        rintro e w5 ⟨rfl, F5, a5, s5⟩
        rw [HST.out] at a5
        have hs5 := ((((Step.refl wc F1).alloc _).alloc _).alloc _).alloc _ |>.trans s5
        have A5 := hid a5
        have S5 := hid (HSK.out.trans (S4.out.trans hs5))
        have X5 := hid (And.intro (hs5.heap X4.out HFX.out) (hs5.out HFX.out (lt_of_heap X4.out)))
        have K5 := hid (And.intro (hs5.heap K4.out HFK.out) (hs5.out HFK.out (lt_of_heap K4.out)))
        have Y5 := hid (And.intro (hs5.heap Y4.out HFy.out) (hs5.out HFy.out (lt_of_heap Y4.out)))
        clear a5 s5 hs5 A4 S4 X4 K4 Y4 ky kz HFX HFK HFy hz
        have hwl : ways + k < (Ak.loadN (keep + k)).ws.length := by show ways + k < Ak.ws.length; have := HAK.out.ok.1; omega
        have HW5 := hid (word_st (Ak.loadN (keep + k)) (ways + k) y0 hwl)
        have HWT5 := hid ((HWT.out.trans (went_ld Ak (keep + k))).trans (went_st (Ak.loadN (keep + k)) (ways + k) y0))
        obtain ⟨B, hBe⟩ : ∃ B, (Ak.loadN (keep + k)).storeN (ways + k) y0 = B := ⟨_, rfl⟩
        rw [hBe] at A5 HW5 HWT5
        clear hBe hwl HYE HSB HWK HST
        obtain ⟨V, hVe⟩ : ∃ V : Nat → Nat, (fun x => if x = ways + k then y0 else (Ak.loadN (keep + k)).word x) = V := ⟨_, rfl⟩
        rw [hVe] at HW5
        have HVV := hid hVe
        clear hVe
        have HVK := hid (show ∀ x, x ≠ ways + k → V x = Ak.word x from fun x hx => by rw [← HVV.out]; exact if_neg hx)
        have HVL := hid (show ∀ x, V x < 4294967296 from fun x => by rw [← HW5.out]; exact Ars.word_lt A5.out.ok _)
        obtain ⟨wz, rfl⟩ : ∃ y, y = wr := ⟨_, rfl⟩
        go_wp2_with fail
        go_loopw [43] (fun c wr => ∃ (j : Nat) (Fj : Nat → Prop) (Aj : Ars), j ≤ ls.length ∧ c = .int .i64 (j : Int) ∧ Ar wr h Fj Aj ∧ Step w F wr Fj ∧ (wr.heap[w.heap.size]? = some (sb 0) ∧ ¬ Fj w.heap.size) ∧ (wr.heap[w.heap.size + 1 + 1]? = some (sb (r : Int)) ∧ ¬ Fj (w.heap.size + 1 + 1)) ∧ (wr.heap[y]? = some (sb (mk bk : Nat)) ∧ ¬ Fj y) ∧
          Went A Aj (upTo (evSf keep ways ls) k ++ [evLd (keep + k)] ++ [evSt (ways + k)] ++ evSf1 (ls.take j) k) ∧ Aj.word = upd V ((ls.take j).map (· + k)) (fun x => if bk then V x else 0)) (fun c _ => ls.length - (intOf c).toNat)
        case atStart => exact ⟨0, F5, B, Nat.zero_le _, rfl, A5.out, S5.out, X5.out, K5.out, Y5.out, (by simpa [evSf1] using HWT5.out), (by rw [HW5.out]; simp [upd_nil])⟩
        case round =>
          clear X5 K5 Y5 A5 S5 HX HK HAK HSK
          obtain ⟨j, Fj, Aj, hj, rfl, aj, sj, xj, kj, yj, wtj, wdj⟩ := hrel
          have HAJ := hid aj
          have HSJ := hid sj
          have HXJ := hid xj
          have HKJ := hid kj
          have HYJ := hid yj
          have HWJ := hid wtj
          have HDJ := hid wdj
          have htj := wtj.top
          have HEJ := hid (show Aj.es.length ≤ 399000000 by
            rw [wtj.es]
            simp only [List.length_append, List.length_cons, List.length_nil]
            have h1 := HEB.out k hk
            have h2 : (evSf1 (ls.take j) k).length ≤ 2000 := by
              have := evSf_len keep ways (ls.take j) k
              unfold evSf at this
              simp only [List.length_append, List.length_cons, List.length_nil, List.length_take] at this
              omega
            omega)
          clear aj sj xj kj yj wtj wdj
          by_cases hjl : j < ls.length
          · have hpl := (List.pairwise_cons.1 (List.pairwise_cons.1 HPW.out).2)
            have hni := notin_take (i := k) (k := k) hpl.2 hjl hlt hlt
            have hapw := (hpl.1 ls[j] (List.getElem_mem hjl)).d
            have HLW := hid (show Aj.word (ls[j] + k) = V (ls[j] + k) by rw [HDJ.out]; exact upd_out _ _ _ _ hni)
            have hLt : ls[j] + n ≤ A.top := HIN.out ls[j] (List.mem_cons_of_mem _ (List.mem_cons_of_mem _ (List.getElem_mem hjl)))
            obtain ⟨bl, hbl, hnbl, hcl⟩ := (HL.out.step HSJ.out) j hjl
            have HTK := hid (show ls.take (j + 1) = ls.take j ++ [ls[j]] from List.take_succ_eq_append_getElem hjl)
            obtain ⟨L, hLe⟩ : ∃ L, ls[j] = L := ⟨_, rfl⟩
            rw [hLe] at HLW hLt hcl HTK
            subst hbl
            clear hpl hni hapw hLe
            have hLk : L + k < Aj.top := by omega
            obtain ⟨e1, e2⟩ := ld_at (A := Aj) (L := L) (i := k) hLk
            have H3 := hid e1
            have H4 := hid e2
            have HVx := hid (HVL.out (L + k))
            obtain ⟨x, hxe⟩ : ∃ x, V (L + k) = x := ⟨_, rfl⟩
            rw [hxe] at HLW HVx
            rw [HLW.out] at H3
            have hx32 : x < 4294967296 := HVx.out
            have HAN := hid (andW_mk bk x hx32)
            obtain ⟨x', hx'⟩ : ∃ x', (if bk then x else 0) = x' := ⟨_, rfl⟩
            rw [hx'] at HAN
            have hx2 : x' < 4294967296 := by rw [← hx']; cases bk <;> simp <;> omega
            have H5 := hid (st_at (A := Aj.loadN (L + k)) (L := L) (i := k) (v := x') hLk)
            have hwj : L + k < (Aj.loadN (L + k)).ws.length := by show L + k < Aj.ws.length; have := HAJ.out.ok.1; omega
            have HWD := hid (show ((Aj.loadN (L + k)).storeN (L + k) x').word = upd V ((ls.take (j + 1)).map (· + k)) (fun x => if bk then V x else 0) by
              rw [word_st _ _ _ hwj, HTK.out, List.map_append, List.map_cons, List.map_nil, upd_snoc, hxe, hx']
              funext q
              show (if q = L + k then x' else Aj.word q) = _
              rw [HDJ.out])
            have HWN := hid (show Went A ((Aj.loadN (L + k)).storeN (L + k) x') (upTo (evSf keep ways ls) k ++ [evLd (keep + k)] ++ [evSt (ways + k)] ++ evSf1 (ls.take (j + 1)) k) by
              have := (HWJ.out.trans (went_ld Aj (L + k))).trans (went_st (Aj.loadN (L + k)) (L + k) x')
              rw [HTK.out]
              unfold evSf1 at this ⊢
              simpa [List.flatMap_append] using this)
            clear e1 e2 hxe hx' HLW htj hwj
            have ky : wr.cell? ⟨y, 0, none⟩ = some (.int .u32 (mk bk : Int)) := cell_of_heap HYJ.out.1 rfl
            go_wp2_with fail
            have KB := hid (show ∀ w' : World, Below wr.heap.size wr w' → w'.cell? ⟨y, 0, none⟩ = some (.int .u32 (mk bk : Int)) from fun w' hb => cell_below hb ky (cell_blk ky))
            clear ky
            have HWL := hid (show IntKind.i64.wrap ((L : Int) + (k : Int)) = (L : Int) + (k : Int) by rw [IntKind.wrap_i64]; omega)
            go_region_held3 (fun w' => w'.cell? ⟨y, 0, none⟩ = some (.int .u32 (mk bk : Int)))
              (first | (exact KX6.out) | (refine KX.out _ ?_; (repeat (first | exact Below.refl _ _ | refine blw_alloc ?_ | refine blw_drew ?_)); done) | (refine KB.out _ ?_; (repeat (first | exact Below.refl _ _ | refine blw_alloc ?_ | refine blw_drew ?_)); done) | (go_keep))
              (first
                | (go_at_call 33; rw [HWL.out]; refine (ar_load h Fj Aj ((L : Int) + (k : Int)) _ HAJ.out.drew (by omega) (by have := HEJ.out; omega)).mono ?_; rintro e w6 ⟨rfl, F6, a6, s6⟩; rw [H3.out]; rw [H4.out] at a6; have hs6 := (Step.refl wr Fj).drew.trans s6; have hy6 := hs6.heap HYJ.out.1 HYJ.out.2; have ky6 : w6.cell? ⟨y, 0, none⟩ = some (.int .u32 (mk bk : Int)) := cell_of_heap hy6 rfl; have KX := hid (show ∀ w' : World, Below w6.heap.size w6 w' → w'.cell? ⟨y, 0, none⟩ = some (.int .u32 (mk bk : Int)) from fun w' hb => cell_below hb ky6 (cell_blk ky6)); clear ky6)
                | (go_at_call 31; refine (and_any (mk bk) x _ hmb hx32).mono ?_; rintro e w' ⟨rfl, rfl⟩; rw [HAN.out])
                | (go_at_call 30; refine (ar_store h F6 (Aj.loadN (L + k)) ((L : Int) + (k : Int)) x' _ ((((a6.alloc _).alloc _).alloc _).alloc _) (by omega) hx2 (by have := HEJ.out; simp [Ars.loadN, Ars.note]; omega)).mono ?_; rintro e w7 ⟨rfl, F7, a7, s7⟩; rw [H5.out] at a7; have hs7 := hs6.trans (((((Step.refl w6 F6).alloc _).alloc _).alloc _).alloc _ |>.trans s7); have hy7 := hs7.heap HYJ.out.1 HYJ.out.2; have KX6 := hid (show w7.cell? ⟨y, 0, none⟩ = some (.int .u32 (mk bk : Int)) from cell_of_heap hy7 rfl)))
            rename_i hHeld
            have A7 := hid a7
            have S7 := hid (HSJ.out.trans hs7)
            have X7 := hid (And.intro (hs7.heap HXJ.out.1 HXJ.out.2) (hs7.out HXJ.out.2 (lt_of_heap HXJ.out.1)))
            have K7 := hid (And.intro (hs7.heap HKJ.out.1 HKJ.out.2) (hs7.out HKJ.out.2 (lt_of_heap HKJ.out.1)))
            have Y7 := hid (And.intro hy7 (hs7.out HYJ.out.2 (lt_of_heap HYJ.out.1)))
            clear a6 s6 a7 s7 hs6 hs7 hy6 hy7 KX KX6 KB hHeld HAJ HSJ HXJ HKJ HYJ
            go_wp2
            go_roundw
            case rel => exact ⟨j + 1, F7, (Aj.loadN (L + k)).storeN (L + k) x', by omega, by go_num, A7.out, S7.out, X7.out, K7.out, Y7.out, HWN.out, HWD.out⟩
            case measure => simp [intOf]; omega
          · have hje : j = ls.length := by omega
            rw [hje, List.take_length] at HWJ HDJ
            have hrn : rk b (k + 1) = r + (if bk then 1 else 0) := by rw [rk_succ, HR.out, HB2.out]
            have HRN := hid (show subW r (mk bk) = rk b (k + 1) by rw [hrn]; exact sub_mk r bk (by have := HR.out; have := HRK.out k; omega))
            have HSN := hid (show Sf A.word Aj.word keep ways ls n (k + 1) from HSF.out.snoc hlt HPW.out y0 (by
                rw [HBE.out, HBK.out, HB2.out, ← HY0.out, ← HVE.out, ← HR.out]; rfl) (by
                rw [HDJ.out, HBK.out, HB2.out]
                funext q
                by_cases hq : q ∈ ls.map (· + k)
                · rw [upd_in _ _ _ _ hq, upd_in _ _ _ _ hq]
                  obtain ⟨M, hM, rfl⟩ := List.mem_map.1 hq
                  have := ((List.pairwise_cons.1 (List.pairwise_cons.1 HPW.out).2).1 M hM).d
                  rw [HVK.out _ (by omega)]
                · rw [upd_out _ _ _ _ hq, upd_out _ _ _ _ hq, ← HVV.out]; rfl))
            have HWN := hid (show Went A Aj (upTo (evSf keep ways ls) (k + 1)) by
              have := HWJ.out
              rw [upTo_succ]
              show Went A Aj (upTo (evSf keep ways ls) k ++ ([evLd (keep + k), evSt (ways + k)] ++ evSf1 ls k))
              simpa using this)
            have ky : wr.cell? ⟨y, 0, none⟩ = some (.int .u32 (mk bk : Int)) := cell_of_heap HYJ.out.1 rfl
            have kr : wr.cell? ⟨w.heap.size + 1 + 1, 0, none⟩ = some (.int .u32 (r : Int)) := cell_of_heap HKJ.out.1 rfl
            have hnk := HKJ.out.2
            clear htj hrn
            go_wp2_with fail
            refine (sub_b r (mk bk) _ hrk2 hmb).mono ?_
            rintro e w8 ⟨rfl, hB8⟩
            rw [HRN.out]
            have K8 := hid ((hB8.block _ (lt_of_heap HKJ.out.1)).trans HKJ.out.1)
            have X8 := hid ((hB8.block _ (lt_of_heap HXJ.out.1)).trans HXJ.out.1)
            have A8 := hid (HAJ.out.below hB8)
            have S8 := hid (HSJ.out.trans (Step.ofBelow (F := Fj) hB8))
            have k8 := cell_of_heap (i := 0) K8.out rfl
            have f8 := frozen_of_heap (i := 0) K8.out
            clear hB8 ky kr
            go_wp2
            go_roundw
            case rel =>
              have hb9 := heap_setCell_at _ _ 0 _ _ _ (.int .u32 (rk b (k + 1) : Int)) K8.out
              refine ⟨k + 1, Fj, Aj, by omega, by go_num, A8.out.setOther _ _ hnk, S8.out.setNew _ _ (by show w.heap.size ≤ w.heap.size + 1 + 1; omega), ?_, hb9, HXJ.out.2, hnk, HWN.out, HSN.out⟩
              rw [heap_setCell_other _ _ _ _ (by show w.heap.size ≠ w.heap.size + 1 + 1; omega)]; exact X8.out
            case measure => simp [intOf]; omega
    · have hke : k = n := by omega
      subst hke
      have hkr : wr.cell? ⟨w.heap.size + 1 + 1, 0, none⟩ = some (.int .u32 (rk b k : Int)) := cell_of_heap hbk rfl
      have hxr : wr.cell? ⟨w.heap.size, 0, none⟩ = some (.int .u32 0) := cell_of_heap hbx rfl
      have hfr := frozen_of_heap (i := 0) hbx
      clear ak sk wt sf hbk
      go_wp2
      have hb9 := heap_setCell_at _ _ 0 _ _ _ (.int .u32 (rk b k : Int)) HX.out.1
      have d0 := cell_of_heap (i := 0) hb9 rfl
      exact bodyPost_ret (v := sec (rk b k : Nat)) (by simp only [results, Tryd.results52]; simp [go_sem, d0]) rfl ⟨rfl, Fk, Ak, HAK.out.setOther _ _ HX.out.2, HSK.out.setNew _ _ (Nat.le_refl _), HWT.out, HSF.out⟩
end Go.Proofs.YtjcnkigadlmpgaaDoor
