/- The laws' helpers of layer 10 (told, lay), the document's Bytes and Encode, and Cost, over this seat's translation. Conditions: at most a thousand points; Cost: at most 24. -/
import Derived.Test.YtjcnkigadlmpgaaDoorUnD
namespace Go.Proofs.YtjcnkigadlmpgaaDoor
open Go.RowKit
set_option linter.unusedVariables false

theorem unnoted_blw {g : Nat} {ob : Option Nat} {n B : Nat} {xs e : List Value} {w w' : World} (h : Noted g ob n xs e w w') (hB : B ≤ w.heap.size) (hg : B ≤ g) (hob : ∀ k, ob = some k → B ≤ k) : Below B w w' := by
  obtain ⟨k, _, _, h3⟩ := h
  exact h3.below hB (fun i hi x => x.elim (fun x => by omega) (fun x => by have := hob _ x; omega))
theorem un_one_u32s {w : World} {g c : Nat} (h : w.heap[g]? = some (.cells #[.int .u32 (c : Int)] 30 (0, 0))) : U32s w (some ⟨g, 0, none⟩) [c] := fun k hk => by
  have : k = 0 := by simp at hk; omega
  subst this
  exact ⟨_, rfl, by rw [add_plain]; exact cell_of_heap h rfl⟩
set_option maxHeartbeats 800000 in
theorem told10_any (v : Int) (w : World) : Calls Tryd.prog 15 #[sec v] w fun e w' => e = .returned (u32 v) ∧ Below w.heap.size w w' := by
  have HL := hid (show LogAt ((w.alloc (sb v)).alloc (.cells #[.slice none 0 0] 63)).drew (w.heap.size + 1) none 0 [] by
    have := newlog_at (w.alloc (sb v))
    rw [World.size_alloc] at this
    exact this.kept (S := fun _ => False) (Fr.refl _ _).drew (fun x => x) (fun _ _ x => x))
  go_enter Tryd.func15, Tryd.ntmps15
  go_wp2
  go_region_with (first | (go_at_call 38; refine (newlog_any _).mono ?_; rintro e w1 ⟨rfl, rfl⟩) | (go_at_call 39; refine (release_any (w.heap.size + 1) none 0 [] v _ HL.out (by decide)).mono ?_; rintro e w1 ⟨rfl, hN⟩))
  all_goals
    go_wp2
    go_ret
    refine ⟨rfl, ?_⟩
    exact Below.trans (by repeat (first | exact Below.refl _ _ | refine blw_alloc ?_ | refine blw_drew ?_ | assumption)) (unnoted_blw hN (by simp; omega) (by omega) (by intro k hk; cases hk))

/-- points and a keep lane, laid -/
def layU (xs ks : List Nat) (m : Nat) : Ars := (((Ars.new ((14 * xs.length + m : Nat) : Int)).take ((2 * xs.length + m : Nat) : Int)).putK 0 xs xs.length).putK xs.length ks xs.length
theorem layU_take (n m : Nat) : (Ars.new ((14 * n + m : Nat) : Int)).canTake ((2 * n + m : Nat) : Int) = true := by simp only [Ars.canTake, Ars.new, List.length_replicate]; exact decide_eq_true (by omega)
theorem layU_taken (n m : Nat) : ((Ars.new ((14 * n + m : Nat) : Int)).take ((2 * n + m : Nat) : Int)).top = 2 * n + m ∧ ((Ars.new ((14 * n + m : Nat) : Int)).take ((2 * n + m : Nat) : Int)).ws.length = 14 * n + m ∧ ((Ars.new ((14 * n + m : Nat) : Int)).take ((2 * n + m : Nat) : Int)).es = [⟨4, 0, cnt ((2 * n + m : Nat) : Int)⟩] := by
  rw [Ars.take_yes (layU_take n m)]
  refine ⟨?_, ?_, rfl⟩
  · show 0 + ((2 * n + m : Nat) : Int).toNat = _; omega
  · simp only [Ars.new, List.length_replicate]; omega
theorem layU_facts (xs ks : List Nat) (m : Nat) (hk : ks.length = xs.length) : (layU xs ks m).top = 2 * xs.length + m ∧ (layU xs ks m).ws.length = 14 * xs.length + m ∧
    (layU xs ks m).es = (⟨4, 0, cnt ((2 * xs.length + m : Nat) : Int)⟩ : Ev) :: ((List.range xs.length).map fun j => evSt (0 + j)) ++ ((List.range xs.length).map fun j => evSt (xs.length + j)) ∧
    ∀ i (h : i < xs.length), (layU xs ks m).word (0 + i) = xs[i] ∧ (layU xs ks m).word (xs.length + i) = ks[i]'(by omega) := by
  obtain ⟨h1, h2, h3⟩ := layU_taken xs.length m
  unfold layU
  refine ⟨by rw [Ars.putK_top, Ars.putK_top, h1], by rw [Ars.putK_wslen, Ars.putK_wslen, h2], by rw [putK_es, putK_es, h3]; simp, fun i hi => ?_⟩
  have hw : ∀ j, ((((Ars.new ((14 * xs.length + m : Nat) : Int)).take ((2 * xs.length + m : Nat) : Int)).putK 0 xs xs.length).putK xs.length ks xs.length).word j = if xs.length ≤ j ∧ j < xs.length + xs.length then ks.getD (j - xs.length) 0 else if 0 ≤ j ∧ j < 0 + xs.length then xs.getD (j - 0) 0 else ((Ars.new ((14 * xs.length + m : Nat) : Int)).take ((2 * xs.length + m : Nat) : Int)).word j := fun j => by
    rw [Ars.putK_word xs.length ks xs.length j (by omega) (by rw [Ars.putK_wslen, h2]; omega), Ars.putK_word 0 xs xs.length j (by omega) (by rw [h2]; omega)]
  rw [hw, hw, if_neg (by omega), if_pos (by omega), if_pos (by omega)]
  have e1 : 0 + i - 0 = i := by omega
  have e2 : xs.length + i - xs.length = i := by omega
  rw [e1, e2]
  have hi2 : i < ks.length := by omega
  exact ⟨by simp [List.getD_eq_getElem?_getD, hi], by simp [List.getD_eq_getElem?_getD, hi2]⟩
theorem ar_put_len (h : Hn) (F : Nat → Prop) (A : Ars) (i n : Nat) (ad : Option Addr) (cap : Nat) (l : List Nat) (w : World) (a : Ar w h F A) (hn : l.length = n) (hf : i + n ≤ A.top) (hl : ∀ x ∈ l, x < 4294967296) (hc : U32s w ad l) (ho : Off F ad n) (he : A.es.length + n ≤ 1000000000) :
    Calls Tryd.prog 20 #[arPtr h, .int .i64 (i : Int), .slice ad n cap] w fun e w' => e = .returned (.bool true) ∧ ∃ F', Ar w' h F' (A.putK i l n) ∧ Step w F w' F' := by
  subst hn
  exact ar_put_yes h F A i ad cap l w a hf hl hc ho he
theorem off_old {w : World} {ad : Option Addr} {l : List Nat} {F : Nat → Prop} {n : Nat} (h : U32s w ad l) (hn : l.length = n) (hF : ∀ i, F i → w.heap.size ≤ i) : Off F ad n := fun x hx hp hf => by
  have := h.lt x hx (by omega)
  have := hF _ hf
  omega
theorem u32s_blw {w w' : World} {ad : Option Addr} {l : List Nat} (h : U32s w ad l) (hB : Below w.heap.size w w') : U32s w' ad l := fun k hk => by
  obtain ⟨x, h1, h2⟩ := h k hk
  exact ⟨x, h1, cell_later hB h2⟩

set_option maxHeartbeats 1600000 in
theorem lay10_any (a1 a2 : Option Addr) (c1 c2 n m : Nat) (xs ks : List Nat) (w : World) (hx : xs.length = n) (hk : ks.length = n) (h1 : U32s w a1 xs) (h2 : U32s w a2 ks) (hlx : ∀ x ∈ xs, x < 4294967296) (hlk : ∀ x ∈ ks, x < 4294967296) (hn : n ≤ 1000) (hm : m ≤ 4000) :
    Calls Tryd.prog 7 #[.slice a1 n c1, .slice a2 n c2, .int .i64 (m : Int)] w fun e w' => ∃ h F, e = .returned (arPtr h) ∧ Ar w' h F (layU xs ks m) ∧ (∀ i, F i → w.heap.size ≤ i) ∧ Below w.heap.size w w' := by
  have H1 := hid h1
  have H2 := hid h2
  have HLX := hid hlx
  have HLK := hid hlk
  have HX := hid hx
  have HK := hid hk
  have HF := hid (layU_taken n m)
  have HNN := hid (show 14 * (n : Int) + (m : Int) = ((14 * n + m : Nat) : Int) by omega)
  have HN2 := hid (show 2 * (n : Int) + (m : Int) = ((2 * n + m : Nat) : Int) by omega)
  have HDEF := hid (show layU xs ks m = (((Ars.new ((14 * n + m : Nat) : Int)).take ((2 * n + m : Nat) : Int)).putK 0 xs n).putK n ks n by unfold layU; rw [hx])
  rw [HDEF.out]
  clear h1 h2 hlx hlk hx hk
  go_enter Tryd.func7, Tryd.ntmps7
  go_wp2_with fail
  rw [HNN.out]
  refine (ar_new_at ((14 * n + m : Nat) : Int) (14 * n + m) _ (Or.inr rfl) (by omega)).mono ?_
  rintro e w1 ⟨h, F1, rfl, a1', hF1, hB1⟩
  have A1 := hid a1'
  have F1h := hid hF1
  have B1 := hid hB1
  clear a1' hF1 hB1
  go_wp2_with fail
  rw [HN2.out]
  refine (ar_take_yes h F1 _ ((2 * n + m : Nat) : Int) _ A1.out (layU_take _ _) (by simp [Ars.new])).mono ?_
  rintro e w2 ⟨rfl, F2, a2', s2⟩
  have A2 := hid a2'
  have F2h := hid (show ∀ i, F2 i → w.heap.size ≤ i from s2.high B1.out.size F1h.out)
  have B2 := hid (show Below w.heap.size w w2 from B1.out.trans (s2.below B1.out.size F1h.out))
  clear a2' s2 A1 F1h B1
  go_wp2_with fail
  refine (ar_put_len h F2 _ 0 n a1 c1 xs _ A2.out HX.out (by rw [HF.out.1]; omega) HLX.out (u32s_blw H1.out B2.out) (off_old H1.out HX.out F2h.out) (by rw [HF.out.2.2]; simp; omega)).mono ?_
  rintro e w3 ⟨rfl, F3, a3', s3⟩
  have A3 := hid a3'
  have F3h := hid (show ∀ i, F3 i → w.heap.size ≤ i from s3.high B2.out.size F2h.out)
  have B3 := hid (show Below w.heap.size w w3 from B2.out.trans (s3.below B2.out.size F2h.out))
  clear a3' s3 A2 F2h B2
  go_wp2_with fail
  refine (ar_put_len h F3 _ n n a2 c2 ks _ A3.out HK.out (by rw [Ars.putK_top, HF.out.1]; omega) HLK.out (u32s_blw H2.out B3.out) (off_old H2.out HK.out F3h.out) (by rw [Ars.putK_eslen, HF.out.2.2]; simp; omega)).mono ?_
  rintro e w4 ⟨rfl, F4, a4', s4⟩
  have A4 := hid a4'
  have F4h := hid (show ∀ i, F4 i → w.heap.size ≤ i from s4.high B3.out.size F3h.out)
  have B4 := hid (show Below w.heap.size w w4 from B3.out.trans (s4.below B3.out.size F3h.out))
  clear a4' s4 A3 F3h B3
  go_wp2
  go_ret
  exact ⟨h, F4, rfl, A4.out, F4h.out, B4.out⟩

theorem pc_wraps2 : ∀ (n : Fin 97) (l : Fin 2), wrap64 (wrap64 (wrap64 (1 + (n.val : Int) + 1 + wrap64 (2 * (n.val : Int) * (1 + (l.val : Int)))) + wrap64 (wrap64 (wrap64 (3 * (n.val : Int) * (stp n.val : Int)) - wrap64 (wrap64 (2 ^ stp n.val) - 1)) * (1 + (l.val : Int)))) + (n.val : Int)) = (pc n.val l.val : Int) := by decide +kernel
set_option maxHeartbeats 800000 in
theorem pcost2_any (n l : Nat) (hn : n ≤ 96) (hl : l ≤ 1) (w : World) :
    Calls Tryd.prog 35 #[.int .i64 (n : Int), .int .i64 (l : Int)] w fun e w' => e = .returned (.int .i64 (pc n l : Nat)) ∧ w' = w := by
  have hmay : decide (0 ≤ (l : Int) ∧ 0 ≤ (n : Int) ∧ (n : Int) ≤ 49152) = true := decide_eq_true (by omega)
  obtain ⟨S, hS⟩ : ∃ S, stp n = S := ⟨_, rfl⟩
  have HS := hid hS
  have hS16 : S ≤ 16 := by rw [← hS]; exact (stp_facts n (by omega)).2.1
  clear hS
  go_enter Tryd.func35, Tryd.ntmps35
  go_wp2_with (first | (go_at_call 51; refine (pmay_any _ _ _).mono ?_; rintro e w' ⟨rfl, hw⟩; subst w'; rw [hmay]) | (go_at_call 53; refine (steps_any n (by omega) _).mono ?_; rintro e w' ⟨rfl, hw⟩; subst w'; rw [HS.out]))
  go_ret
  refine ⟨retI ?_, rfl⟩
  have := pc_wraps2 ⟨n, by omega⟩ ⟨l, by omega⟩
  simp only [HS.out] at this
  exact this
/-- how many events Encode notes -/
def ucN (n m : Nat) : Nat := 2 + 18 * n + pc (4 * n) 1 + 2 * m
set_option maxHeartbeats 800000 in
theorem uncost_any (n m : Nat) (hn : n ≤ 24) (hm : m ≤ 4 * n) (w : World) :
    Calls Tryd.prog 11 #[.int .i64 (n : Int), .int .i64 (m : Int)] w fun e w' => e = .returned (.int .i64 (ucN n m : Nat)) ∧ w' = w := by
  have HM := hid (fun w' => unmay_any (n : Int) (m : Int) w' (by omega))
  rw [decide_eq_true (show 0 ≤ (n : Int) ∧ (n : Int) ≤ 12288 ∧ 0 ≤ (m : Int) ∧ (m : Int) ≤ 4 * (n : Int) by omega)] at HM
  have HP := hid (fun w' => pcost2_any (4 * n) 1 (by omega) (by decide) w')
  have hpc := pc1_le (4 * n) (by omega)
  have HU := hid (show ucN n m = 2 + 18 * n + pc (4 * n) 1 + 2 * m from rfl)
  have HN4 := hid (show 4 * (n : Int) = ((4 * n : Nat) : Int) by omega)
  obtain ⟨c, hc⟩ : ∃ c, pc (4 * n) 1 = c := ⟨_, rfl⟩
  rw [hc] at HP hpc HU
  clear hc
  go_enter Tryd.func11, Tryd.ntmps11
  go_wp2_with (first | (go_at_call 24; refine (HM.out _).mono ?_; rintro e w' ⟨rfl, hw⟩; subst w') | (go_at_call 35; rw [HN4.out]; refine (HP.out _).mono ?_; rintro e w' ⟨rfl, hw⟩; subst w'))
  go_ret
  exact ⟨retI (by rw [HU.out]; omega), rfl⟩
theorem enc_es {A B : Ars} {P K n O M : Nat} (e : Encd A B P K n O M) (hn : n ≤ 12288) : B.es.length = A.es.length + ucN n M := by
  have h1 := evEnc_len A.top P K n O M hn
  have h2 := evFull_len (A.top + 8 * n) (A.top + 4 * n) (4 * n) [A.top] (by omega)
  rw [List.length_singleton] at h2
  rw [e.es, List.length_append, h1, h2]
  unfold ucN; omega
theorem ucN_le (n m : Nat) (hn : n ≤ 12288) (hm : m ≤ 4 * n) : ucN n m ≤ 6000000 := by
  have := pc1_le (4 * n) (by omega)
  unfold ucN; omega
/-- lanes one behind the other lie apart -/
theorem unlay_rfine (A : Ars) (n m : Nat) (h : 2 * n + m ≤ A.top) : Rfine A [(((0 : Nat) : Int), (n : Int)), ((n : Int), (n : Int)), (((2 * n : Nat) : Int), (m : Int))] := by
  refine ⟨fun z hz => ?_, ?_⟩
  · simp only [List.mem_cons, List.not_mem_nil, or_false] at hz
    rw [Ars.fits_iff]
    rcases hz with rfl | rfl | rfl
    · show 0 ≤ ((0 : Nat) : Int) ∧ 0 ≤ (n : Int) ∧ (n : Int) ≤ (A.top : Int) - ((0 : Nat) : Int); omega
    · show 0 ≤ (n : Int) ∧ 0 ≤ (n : Int) ∧ (n : Int) ≤ (A.top : Int) - (n : Int); omega
    · show 0 ≤ ((2 * n : Nat) : Int) ∧ 0 ≤ (m : Int) ∧ (m : Int) ≤ (A.top : Int) - ((2 * n : Nat) : Int); omega
  · refine List.Pairwise.filter _ ?_
    simp only [List.pairwise_cons, List.mem_cons, List.not_mem_nil, or_false, forall_eq_or_imp, forall_eq, Rap]
    refine ⟨⟨Or.inl (by omega), Or.inl (by omega)⟩, Or.inl (by omega), ?_⟩
    simp
theorem told_four (A : Ars) (i a b c d : Nat) (h0 : A.word (i + 0) = a) (h1 : A.word (i + 1) = b) (h2 : A.word (i + 2) = c) (h3 : A.word (i + 3) = d) : A.told i 4 = [a, b, c, d] := by
  unfold Ars.told
  rw [show List.range 4 = [0, 1, 2, 3] from rfl]
  simp only [List.map_cons, List.map_nil, h0, h1, h2, h3]

set_option maxHeartbeats 1600000 in
theorem awake10_any (w : World) (t : Pv w) : Calls Tryd.prog 6 #[] w fun e w' => e = .returned (.bool true) ∧ Below w.heap.size w w' := by
  have HB0 := hid (show Below w.heap.size w ((w.alloc (.cells #[.int .u32 228] 30)).alloc (.cells #[.int .u32 1] 30)) from (by repeat (first | exact Below.refl _ _ | refine blw_alloc ?_ | refine blw_drew ?_ | assumption)))
  have HU1 := hid (show U32s ((w.alloc (.cells #[.int .u32 228] 30)).alloc (.cells #[.int .u32 1] 30)) (some ⟨w.heap.size, 0, none⟩) [228] from un_one_u32s (c := 228) (bk (w := w.alloc (.cells #[.int .u32 228] 30)) (by repeat (first | exact Below.refl _ _ | refine blw_alloc ?_ | refine blw_drew ?_ | assumption)) (heap_alloc_at _ _)))
  have HU2 := hid (show U32s ((w.alloc (.cells #[.int .u32 228] 30)).alloc (.cells #[.int .u32 1] 30)) (some ⟨w.heap.size + 1, 0, none⟩) [1] from un_one_u32s (c := 1) (by have := heap_alloc_at (w.alloc (.cells #[.int .u32 228] 30)) (.cells #[.int .u32 1] 30); rwa [World.size_alloc] at this))
  have HEN := hid (show encL (fun i => (layU [228] [1] 4).word (0 + i)) (fun i => (layU [228] [1] 4).word (1 + i)) 1 = [195, 164] by decide +kernel)
  have HSZ := hid (layU_facts [228] [1] 4 rfl)
  have HRF := hid (unlay_rfine (layU [228] [1] 4) 1 4 (by rw [HSZ.out.1]; decide))
  have HT := hid t
  have HTP := hid t.pos
  clear t
  go_enter Tryd.func6, Tryd.ntmps6
  go_wp2_with fail
  refine (lay10_any (some ⟨w.heap.size, 0, none⟩) (some ⟨w.heap.size + 1, 0, none⟩) 1 1 1 4 [228] [1] _ rfl rfl HU1.out HU2.out (by decide) (by decide) (by decide) (by decide)).mono ?_
  rintro e w1 ⟨h, F1, rfl, a1, hF1, hB1⟩
  have A1 := hid a1
  have F1h := hid (show ∀ i, F1 i → w.heap.size ≤ i from fun i hi => Nat.le_trans HB0.out.size (hF1 i hi))
  have B1 := hid (show Below w.heap.size w w1 from belowCat HB0.out hB1)
  clear a1 hF1 hB1
  go_wp2_with fail
  refine (encode_yes h F1 (layU [228] [1] 4) 0 1 1 2 4 _ A1.out (by decide) (by decide) HRF.out (by rw [HSZ.out.1, HSZ.out.2.1]; decide) (by rw [HSZ.out.2.2.1]; simp) (HT.out.below B1.out) (fun x => by have := F1h.out _ x; have := HTP.out; omega)).mono ?_
  rintro e w2 ⟨rfl, F2, A', a2, s2, enc⟩
  rw [HEN.out]
  have A2 := hid (a2.below ((by repeat (first | exact Below.refl _ _ | refine blw_alloc ?_ | refine blw_drew ?_ | assumption)) : Below w2.heap.size w2 ((w2.alloc (sb 2)).alloc (sb 0))))
  have F2h := hid (show ∀ i, F2 i → w.heap.size ≤ i from s2.high B1.out.size F1h.out)
  have B2 := hid (show Below w.heap.size w ((w2.alloc (sb 2)).alloc (sb 0)) from belowCat (B1.out.trans (s2.below B1.out.size F1h.out)) (by repeat (first | exact Below.refl _ _ | refine blw_alloc ?_ | refine blw_drew ?_ | assumption)))
  have HTD := hid (show A'.told 2 4 = [195, 164, 0, 0] from told_four A' 2 _ _ _ _
    (by have := enc.out 0 (by decide); rw [HEN.out] at this; exact this) (by have := enc.out 1 (by decide); rw [HEN.out] at this; exact this)
    (by have := enc.out 2 (by decide); rw [HEN.out] at this; exact this) (by have := enc.out 3 (by decide); rw [HEN.out] at this; exact this))
  have HTO := hid (show A'.top = 6 by rw [enc.top, HSZ.out.1]; rfl)
  have HES := hid (show A'.es.length ≤ 6000010 by rw [enc_es enc (by decide), HSZ.out.2.2.1]; have := ucN_le 1 4 (by decide) (by decide); simp; omega)
  have X2 := hid (show Kp ((w2.alloc (sb 2)).alloc (sb 0)) F2 w2.heap.size (sb 2) from ⟨bk (w := w2.alloc (sb 2)) (by repeat (first | exact Below.refl _ _ | refine blw_alloc ?_ | refine blw_drew ?_ | assumption)) (heap_alloc_at _ _), fun x => absurd (a2.lt _ x) (Nat.lt_irrefl _)⟩)
  have X3 := hid (show Kp ((w2.alloc (sb 2)).alloc (sb 0)) F2 (w2.heap.size + 1) (sb 0) from ⟨by have := heap_alloc_at (w2.alloc (sb 2)) (sb 0); rwa [World.size_alloc] at this, fun x => by have := a2.lt _ x; omega⟩)
  have hov : mk (decide (4 < [195, 164].length)) = 0 := by decide
  rw [hov]
  clear a2 s2 enc hov
  go_wp2_with fail
  refine (ar_show_yes h F2 A' 2 4 _ A2.out (by rw [HTO.out]; decide) (by have := HES.out; omega)).mono ?_
  rintro e w4 ⟨g, F4, rfl, hg, hgs, hgF, a4, s4⟩
  rw [HTD.out] at hg
  have HK := hid hg
  have Y2 := hid (X2.out.step s4)
  have Y3 := hid (X3.out.step s4)
  have B4 := hid (show Below w.heap.size w w4 from B2.out.trans (s4.below B2.out.size F2h.out))
  have y2 := cell_s1 Y2.out.1
  clear hg hgs hgF a4 s4
  go_wp2_with fail
  refine (told10_any _ _).mono ?_
  rintro e w5 ⟨rfl, hB5⟩
  have B5 := hid (belowCat B4.out hB5)
  have HK5 := hid (bk hB5 HK.out)
  have y3 := cell_s1 (bk hB5 Y3.out.1)
  clear hB5 y2
  go_wp2_with fail
  refine (told10_any _ _).mono ?_
  rintro e w6 ⟨rfl, hB6⟩
  have B6 := hid (belowCat B5.out hB6)
  have HK6 := hid (bk hB6 HK5.out)
  have d0 : w6.cell? ⟨g, 0, none⟩ = some (.int .u32 195) := cell_of_heap HK6.out rfl
  have d1 : w6.cell? ⟨g, 1, none⟩ = some (.int .u32 164) := cell_of_heap HK6.out rfl
  have d2 : w6.cell? ⟨g, 2, none⟩ = some (.int .u32 0) := cell_of_heap HK6.out rfl
  clear hB6 y3
  go_wp2
  go_ret
  exact ⟨rfl, B6.out⟩
end Go.Proofs.YtjcnkigadlmpgaaDoor
