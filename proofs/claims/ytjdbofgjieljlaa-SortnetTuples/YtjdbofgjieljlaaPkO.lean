/- The contract of the laws' lay (layer 4), over this seat's translation. Conditions: at most 60 tuples of at most 4 words. Rows of words that a call makes, and the contract of the document's Pack (layer 4), over this seat's translation. Conditions: at most 1000 rows, of at most 1000 words. The contract of the document's Pack (layer 4), over this seat's translation. Conditions: at most 1000 rows, of at most 1000 words. -/
import Derived.Test.YtjdbofgjieljlaaPkL
import Derived.Deep.AppendLies
namespace Go.Proofs.Ytjdbofgjieljlaa
open Go.RowKit

set_option maxHeartbeats 1600000 in
set_option maxRecDepth 4000 in
theorem lay_any (kl : List Nat) (L : List (List Nat)) (W : Nat) (adk adl : Option Addr) (capk capl : Nat) (w : World) (hk : U32s w adk kl) (hg : Grid w adl L) (hkl : ∀ x ∈ kl, x < 4294967296) (hL : ∀ i k, wd L i k < 4294967296) (hn : kl.length ≤ 60) (hW : W ≤ 4) :
    Calls Try.prog 20 #[.slice adk kl.length capk, .slice adl L.length capl, .int .i64 (W : Int)] w fun e w' => ∃ h v F A, e = .returned (.tuple #[arPtr h, v]) ∧ LayS w w' h kl.length W (tgF kl L kl.length) W (kl.length * (W + 1)) F A v := by
  have HK := hid hk
  have HG := hid hg
  have HKL := hid hkl
  have HL := hid hL
  obtain ⟨n, hne⟩ : ∃ n, kl.length = n := ⟨_, rfl⟩
  have HNE := hid hne
  have HT0 := hid (laid0 kl L W)
  rw [hne] at hn HT0 ⊢
  obtain ⟨Z, hZ⟩ : ∃ Z, n * (W + 2) = Z := ⟨_, rfl⟩
  obtain ⟨T, hT⟩ : ∃ T, n * (W + 1) = T := ⟨_, rfl⟩
  have hZ2 : Z ≤ 360 := by rw [← hZ]; exact Nat.mul_le_mul hn (show W + 2 ≤ 6 by omega)
  have hT2 : T ≤ 300 := by rw [← hT]; exact Nat.mul_le_mul hn (show W + 1 ≤ 5 by omega)
  have HZ := hid hZ
  have HT := hid hT
  have HZI := hid (show wrap64 ((n : Int) * ((W : Int) + 2)) = (Z : Int) by
    have : (n : Int) * ((W : Int) + 2) = (Z : Int) := by rw [← hZ]; push_cast; rfl
    rw [this]; unfold wrap64; omega)
  have HTI := hid (show wrap64 ((n : Int) * ((W : Int) + 1)) = (T : Int) by
    have : (n : Int) * ((W : Int) + 1) = (T : Int) := by rw [← hT]; push_cast; rfl
    rw [this]; unfold wrap64; omega)
  rw [hZ, hT] at HT0
  obtain ⟨tg, hte⟩ : ∃ tg, tgF kl L n = tg := ⟨_, rfl⟩
  rw [hte] at HT0 ⊢
  have HTE := hid hte
  clear hte
  clear hk hg hkl hL hne hZ hT
  obtain ⟨i0, hi, hz0, hz1, hz2⟩ := info_parts Try.infoInt
  go_enter Try.func20, Try.ntmps20
  go_wp2_with fail
  rw [HZI.out]
  refine (ar_new_at (Z : Int) Z _ (Or.inr rfl) (by omega)).mono ?_
  rintro e w1 ⟨h, F1, rfl, a1, hi1, hb1⟩
  have H1 := hid (And.intro a1 (And.intro hi1 hb1))
  clear a1 hi1 hb1
  go_wp2_with fail
  rw [HTI.out]
  refine (ar_take h F1 _ (T : Int) _ H1.out.1 (by simp [Ars.new])).mono ?_
  rintro e w2 ⟨rfl, F2, a2, s2⟩
  have HB2 := hid (H1.out.2.2.trans (s2.below H1.out.2.2.size H1.out.2.1))
  have HF2 := hid (show ∀ i, F2 i → w.heap.size ≤ i from fun i hi => (s2.sub i hi).elim (H1.out.2.1 i) fun x => Nat.le_trans H1.out.2.2.size x)
  have HPU := hid (show Calls Try.prog 12 #[arPtr h, .int .i64 0, .slice adk n capk] w2 fun e w' => e = .returned (.bool (((Ars.new (Z : Int)).take (T : Int)).fits 0 n)) ∧ ∃ F', Ar w' h F' (((Ars.new (Z : Int)).take (T : Int)).put 0 kl) ∧ Step w2 F2 w' F' by
    have := ar_put h F2 _ 0 adk capk kl w2 a2 (by decide) HKL.out (HK.out.belowG HB2.out) (fun x hx h0 hF => by have := HF2.out _ hF; have := HK.out.lt x hx h0; omega) (by
      have : ((Ars.new (Z : Int)).take (T : Int)).es.length ≤ 1 := by unfold Ars.take; split <;> simp [Ars.new]
      have := HNE.out; omega)
    rw [HNE.out] at this; exact this)
  clear a2 s2
  go_wp2_with fail
  refine HPU.out.mono ?_
  rintro e w3 ⟨rfl, F3, a3, s3⟩
  have HS := hid (show LayS w w3 h n W tg 0 n F3 (((Ars.new (Z : Int)).take (T : Int)).put 0 kl) (.slice none 0 0) from
    ⟨a3, HB2.out.trans (s3.below HB2.out.size HF2.out), fun i hi => (s3.sub i hi).elim (HF2.out i) fun x => Nat.le_trans HB2.out.size x, ⟨rfl, Or.inl ⟨rfl, rfl⟩⟩, fun q hq => (by cases hq), HT0.out⟩)
  clear a3 s3 HPU HB2 HF2 H1 HT0
  generalize ((Ars.new (Z : Int)).take (T : Int)).put 0 kl = A3 at *
  go_wp2_with fail
  go_loopw [10, 30] (fun v c wr => ∃ (k : Nat) (F : Nat → Prop) (A : Ars) (sd : Option Addr) (sc : Nat), k ≤ W ∧ c = .int .i64 (k : Int) ∧ v = .slice sd k sc ∧ LayS w wr h n W tg k (n * (k + 1)) F A (.slice sd k sc)) (fun _ c _ => W - (intOf c).toNat)
  case atStart => exact ⟨0, F3, A3, none, 0, Nat.zero_le _, rfl, rfl, by simpa using HS.out⟩
  case round =>
    obtain ⟨k, F, A, sd, sc, hk, rfl, rfl, ls⟩ := hrel
    have HLS := hid ls
    clear ls
    by_cases hlt : k < W
    · obtain ⟨P, hP⟩ : ∃ P, n * (k + 1) = P := ⟨_, rfl⟩
      have hPT : P + n ≤ T := by
        rw [← hP, ← HT.out, ← Nat.mul_succ]; exact Nat.mul_le_mul_left _ (by omega)
      have HPI := hid (show wrap64 ((n : Int) * ((k : Int) + 1)) = (P : Int) by
        have : (n : Int) * ((k : Int) + 1) = (P : Int) := by rw [← hP]; push_cast; rfl
        rw [this]; unfold wrap64; omega)
      have HSU := hid (show ints (lanesI n (k + 1)) = ints (lanesI n k) ++ [.int .i64 (P : Int)] by rw [lanesI_succ, hP])
      rw [hP] at HLS
      have HP := hid hP
      clear hP
      go_wp2_with (at_builtin; rw [HPI.out]; refine wpList_append_lies _ rfl (.tmp 33) (.tmp 38) 28 rfl w.heap.size 3 i0 _ 1 8 Try.underlying28 hi hz0 hz1 hz2 rfl (by decide) _ k (ints (lanesI n k)) rfl (HLS.out.own.alloc _) ⟨wr.heap.size, 0, none⟩ 1 1 [.int .i64 (P : Int)] rfl rfl (World.news_of_block (heap_alloc_at _ _)) (by intro u hu; simp at hu; subst hu; rfl) (by decide) (by unfold maxLen; omega) (by omega) (by have := HLS.out.bel.size; simp; omega) _ rfl ?_; intro g cap w5 hown hgrow hat hlt5; have H5 := hid (And.intro hown (And.intro hgrow hat)); clear hown hgrow hat hlt5)
      have HL5 := hid (show LayS w w5 h n W tg (k + 1) P F A (.slice (some ⟨g, 0, none⟩) (k + 1) cap) from by
        have ho := H5.out.1
        rw [← HSU.out] at ho
        exact (HLS.out.alloc _).grown ho H5.out.2.1 H5.out.2.2)
      clear H5
      obtain ⟨wz, rfl⟩ : ∃ y, y = wr := ⟨_, rfl⟩
      go_loopw [41] (fun c wr => ∃ (i : Nat) (F : Nat → Prop) (A : Ars), i ≤ n ∧ c = .int .i64 (i : Int) ∧ LayS w wr h n W tg (k + 1) (P + i) F A (.slice (some ⟨g, 0, none⟩) (k + 1) cap)) (fun c _ => n - (intOf c).toNat)
      case atStart => exact ⟨0, F, A, Nat.zero_le _, rfl, HL5.out⟩
      case round =>
        clear HL5 HLS
        obtain ⟨i, F6, A6, hin, rfl, l6⟩ := hrel
        have HL6 := hid l6
        clear l6
        by_cases hil : i < n
        · have HX := hid (show wrap64 (wrap64 ((n : Int) * ((k : Int) + 1)) + (i : Int)) = ((P + i : Nat) : Int) by rw [HPI.out]; unfold wrap64; omega)
          have HWD := hid (word4_any adl capl L i k wr (HG.out.below HL6.out.bel))
          have HTG := hid (show tg (P + i) = wd L i k by rw [← HTE.out, ← HP.out]; exact tgF_at kl L n k i hil)
          have HV := hid (HL.out i k)
          obtain ⟨v, hv⟩ : ∃ v, wd L i k = v := ⟨_, rfl⟩
          rw [hv] at HWD HTG HV
          clear hv
          have hlt6 : P + i < n * (W + 1) := by rw [HT.out]; omega
          have HLT := hid hlt6
          have HTP := hid (show P + i < A6.top by rw [HL6.out.laid.top]; exact hlt6)
          have HES := hid (show A6.es.length ≤ 400 by rw [HL6.out.laid.es]; simp; omega)
          have HN6 := hid (freshF HL6.out.ar)
          clear hlt6
          go_wp2_with (first
            | (go_at_call 25; refine HWD.out.mono ?_; rintro e w' ⟨rfl, hw⟩; subst w')
            | (go_at_call 12; (rw [HX.out]; refine (ar_put h F6 A6 ((P + i : Nat) : Int) (some ⟨wr.heap.size, 0, none⟩) 1 [v] _ (HL6.out.ar.alloc _) (by omega) (by intro x hx; simp at hx; subst hx; exact HV.out) (u32s_new wr [v]) (fun x hx _ => by cases hx; exact HN6.out) (by have := HES.out; simp; omega)).mono ?_; rintro e w7 ⟨rfl, F7, a7, s7⟩; rw [put1 _ _ _ HTP.out, ← HTG.out] at a7; have HL7 := hid ((HL6.out.alloc _).put s7 a7 HLT.out); clear a7 s7)))
          go_roundw
          case rel => exact ⟨i + 1, F7, _, by omega, by go_num, HL7.out⟩
          case measure => simp [intOf]; omega
        · have hie : i = n := by omega
          subst hie
          have HL8 := hid (show LayS w wr h i W tg (k + 1) (i * (k + 1 + 1)) F6 A6 (.slice (some ⟨g, 0, none⟩) (k + 1) cap) by
            have := HL6.out
            rw [show i * (k + 1 + 1) = P + i by rw [Nat.mul_succ, HP.out]]; exact this)
          clear HL6
          go_wp2_with fail
          go_roundw
          case rel => exact ⟨k + 1, F6, A6, some ⟨g, 0, none⟩, cap, by omega, by go_num, by simp, HL8.out⟩
          case measure => simp [intOf]; omega
    · have hke : k = W := by omega
      subst hke
      go_wp2_with fail
      rw [HT.out] at HLS
      exact bodyPost_ret (v := .tuple #[arPtr h, .slice sd k sc]) (by simp only [results, Try.results20]; simp [go_sem]) rfl ⟨h, _, F, A, rfl, by rw [HT.out]; exact HLS.out⟩

theorem Try.infoRowU : (Try.prog.info? 29).map (fun i => (i.zero, i.size, i.bytes)) = some (some (.slice none 0 0), 1, 24) := by kernel_rfl
/-- a row of words, by its header -/
def RowB (w : World) (lo : Nat) (v : Value) (l : List Nat) : Prop := ∃ ra rc, v = .slice ra l.length rc ∧ (l = [] ∨ ∃ q cs, lo ≤ q ∧ ra = some ⟨q, 0, none⟩ ∧ w.heap[q]? = some (.cells cs 31 (0, 0)) ∧ ∀ k (h : k < l.length), cs[k]? = some (.int .u32 (l[k] : Int)))
theorem RowB.keep {w w' : World} {lo : Nat} {v : Value} {l : List Nat} (r : RowB w lo v l) (hk : ∀ (q : Nat) (cs : Array Value), lo ≤ q → w.heap[q]? = some (.cells cs 31 (0, 0)) → w'.heap[q]? = some (.cells cs 31 (0, 0))) : RowB w' lo v l := by
  obtain ⟨ra, rc, h1, h2⟩ := r
  refine ⟨ra, rc, h1, h2.imp id ?_⟩
  rintro ⟨q, cs, h0, h3, h4, h5⟩
  exact ⟨q, cs, h0, h3, hk q cs h0 h4, h5⟩
theorem RowB.below {w w' : World} {lo : Nat} {v : Value} {l : List Nat} (r : RowB w lo v l) (hB : Below w.heap.size w w') : RowB w' lo v l :=
  r.keep fun q _ _ h => (hB.block q (lt_of_heap h)).trans h
theorem RowB.u32s {w : World} {lo : Nat} {ra : Option Addr} {rc n : Nat} {l : List Nat} (r : RowB w lo (.slice ra n rc) l) : n = l.length ∧ U32s w ra l := by
  obtain ⟨ra', rc', h1, h2⟩ := r
  cases h1
  refine ⟨rfl, fun k hk => ?_⟩
  rcases h2 with rfl | ⟨q, cs, _, rfl, h4, h5⟩
  · simp at hk
  · exact ⟨_, rfl, by rw [add_plain]; exact cell_of_heap h4 (h5 k hk)⟩
theorem RowB.one {w : World} {lo : Nat} {v : Value} {l : List Nat} (r : RowB w lo v l) : v.oneCell' = true := by obtain ⟨ra, rc, rfl, _⟩ := r; rfl
theorem rowB_of_own {w : World} {base : Nat} {sd : Option Addr} {sc : Nat} {l : List Nat} (h : w.ownsRow base 31 1 (.slice sd l.length sc) l.length (secs l)) : RowB w base (.slice sd l.length sc) l := by
  refine ⟨sd, sc, rfl, ?_⟩
  rcases h.2 with ⟨_, h0⟩ | ⟨g, cap, cur, hv, hb, hg, h1, h2, h3, h4⟩
  · exact Or.inl (List.eq_nil_of_length_eq_zero h0)
  · cases hv
    refine Or.inr ⟨g, cur, hb, rfl, hg, fun k hk => ?_⟩
    have : (cur.toList.take (l.length * 1))[k]? = some (.int .u32 (l[k] : Int)) := by rw [h4]; simp [secs, hk]
    rw [List.getElem?_take] at this
    simp [hk] at this; exact this
theorem rowB_new (w : World) (lo : Nat) (hlo : lo ≤ w.heap.size) (l : List Nat) : RowB (w.alloc (.cells (secs l).toArray 31 (0, 0))) lo (.slice (some ⟨w.heap.size, 0, none⟩) l.length l.length) l :=
  ⟨_, _, rfl, Or.inr ⟨_, _, hlo, rfl, heap_alloc_at _ _, fun k hk => by simp [secs, hk]⟩⟩
/-- a slice of such rows that is the call's own -/
structure OutR (w : World) (lo base : Nat) (v : Value) (L : List (List Nat)) (vs : List Value) : Prop where
  own : w.ownsRow base 29 1 v L.length vs
  row : ∀ i (h : i < L.length), ∃ r, vs[i]? = some r ∧ RowB w lo r L[i]
theorem OutR.nil (w : World) (lo base : Nat) : OutR w lo base (.slice none 0 0) [] [] := ⟨⟨rfl, Or.inl ⟨rfl, rfl⟩⟩, fun i h => by simp at h⟩
theorem OutR.below {w w' : World} {lo base : Nat} {v : Value} {L : List (List Nat)} {vs : List Value} (o : OutR w lo base v L vs) (hB : Below w.heap.size w w') : OutR w' lo base v L vs :=
  ⟨owns_below o.own hB, fun i h => by obtain ⟨r, h1, h2⟩ := o.row i h; exact ⟨r, h1, h2.below hB⟩⟩
theorem OutR.append {w w2 : World} {lo base : Nat} {v v2 r : Value} {L : List (List Nat)} {vs : List Value} {l : List Nat} (o : OutR w lo base v L vs) (hr : RowB w lo r l) (ho : w2.ownsRow base 29 1 v2 (L.length + 1) (vs ++ [r])) (hg : w.grownBy w2 v.ownBlock) : OutR w2 lo base v2 (L ++ [l]) (vs ++ [r]) := by
  have keep : ∀ (q : Nat) (cs : Array Value), lo ≤ q → w.heap[q]? = some (.cells cs 31 (0, 0)) → w2.heap[q]? = some (.cells cs 31 (0, 0)) := fun q cs _ h =>
    (hg.block q (lt_of_heap h) (fun e => rowNe o.own h (by decide) e.symm)).trans h
  have hlen : vs.length = L.length := by have := o.own.1; omega
  refine ⟨by simpa using ho, fun i hi => ?_⟩
  by_cases e : i < L.length
  · obtain ⟨r', h1, h2⟩ := o.row i e
    exact ⟨r', by rw [List.getElem?_append_left (by omega)]; exact h1, by rw [List.getElem_append_left e]; exact h2.keep keep⟩
  · have : i = L.length := by simp at hi; omega
    subst this
    exact ⟨r, by rw [← hlen]; simp, by simp; exact hr.keep keep⟩
theorem OutR.at {w : World} {lo base n : Nat} {ad : Option Addr} {cap : Nat} {L : List (List Nat)} {vs : List Value} (o : OutR w lo base (.slice ad n cap) L vs) (hn : n = L.length) (i : Nat) (h : i < L.length) : ∃ g ra rc, ad = some ⟨g, 0, none⟩ ∧ w.cell? ⟨g, i, none⟩ = some (.slice ra (L[i]).length rc) ∧ RowB w lo (.slice ra (L[i]).length rc) L[i] := by
  subst hn
  obtain ⟨g, h1, _, _, h2⟩ := owns_cell o.own (by omega)
  obtain ⟨r, h3, h4⟩ := o.row i h
  obtain ⟨ra, rc, rfl, _⟩ := id h4
  exact ⟨g, ra, rc, h1, h2 i _ h3, h4⟩
theorem OutR.grid {w : World} {lo base : Nat} {ad : Option Addr} {cap : Nat} {L : List (List Nat)} {vs : List Value} (o : OutR w lo base (.slice ad L.length cap) L vs) : Grid w ad L := fun i h => by
  obtain ⟨g, ra, rc, h1, h2, h3⟩ := o.at rfl i h
  exact ⟨_, h1, ra, rc, by rw [add_plain]; exact h2, h3.u32s.2⟩
theorem OutR.step {w w' : World} {lo base : Nat} {v : Value} {L : List (List Nat)} {vs : List Value} {F F' : Nat → Prop} (o : OutR w lo base v L vs) (s : Step w F w' F') (hF : ∀ q, lo ≤ q → q < w.heap.size → ¬ F q) (hb : lo ≤ base) : OutR w' lo base v L vs :=
  ⟨owns_of_blocks o.own fun q hq => s.fr.block q (o.own.lt q hq).2 (hF q (Nat.le_trans hb (o.own.lt q hq).1) (o.own.lt q hq).2),
    fun i h => by obtain ⟨r, h1, h2⟩ := o.row i h; exact ⟨r, h1, h2.keep fun q _ h0 h3 => s.heap h3 (hF q h0 (lt_of_heap h3))⟩⟩
/-- the rows that are kept, of the first k -/
def kpR (kl : List Nat) (L : List (List Nat)) (k : Nat) : List (List Nat) := (kp (fun i => kl.getD i 0 % 2 == 1) k).map fun p => L.getD p []
theorem kpR_yes (kl : List Nat) (L : List (List Nat)) (k : Nat) (h : kl.getD k 0 % 2 = 1) : kpR kl L (k + 1) = kpR kl L k ++ [L.getD k []] := by
  have hb : (kl.getD k 0 % 2 == 1) = true := by simpa using h
  unfold kpR; rw [kp_succ, hb]; simp
theorem kpR_no (kl : List Nat) (L : List (List Nat)) (k : Nat) (h : ¬ kl.getD k 0 % 2 = 1) : kpR kl L (k + 1) = kpR kl L k := by
  have hb : (kl.getD k 0 % 2 == 1) = false := by simpa using h
  unfold kpR; rw [kp_succ, hb]; simp
theorem kpR_len (kl : List Nat) (L : List (List Nat)) (k : Nat) : (kpR kl L k).length = rk (fun i => kl.getD i 0 % 2 == 1) k := by simp [kpR, rk]
/-- and zeros, up to row m -/
def wantR (kl : List Nat) (L : List (List Nat)) (m : Nat) : List (List Nat) := kpR kl L L.length ++ ((List.range (m - rk (fun i => kl.getD i 0 % 2 == 1) L.length)).map fun j => List.replicate (L.getD (rk (fun i => kl.getD i 0 % 2 == 1) L.length + j) []).length 0)

theorem wantR_len (kl : List Nat) (L : List (List Nat)) (m : Nat) (h : rk (fun i => kl.getD i 0 % 2 == 1) L.length ≤ m) : (wantR kl L m).length = m := by
  unfold wantR; rw [List.length_append, kpR_len, List.length_map, List.length_range]; omega
theorem wantR_start (kl : List Nat) (L : List (List Nat)) : wantR kl L (rk (fun i => kl.getD i 0 % 2 == 1) L.length) = kpR kl L L.length := by simp [wantR]
theorem wantR_succ (kl : List Nat) (L : List (List Nat)) (m : Nat) (h : rk (fun i => kl.getD i 0 % 2 == 1) L.length ≤ m) : wantR kl L (m + 1) = wantR kl L m ++ [List.replicate (L.getD m []).length 0] := by
  unfold wantR
  rw [show m + 1 - rk (fun i => kl.getD i 0 % 2 == 1) L.length = (m - rk (fun i => kl.getD i 0 % 2 == 1) L.length) + 1 by omega, List.range_succ, List.map_append, List.append_assoc]
  simp only [List.map_cons, List.map_nil]
  rw [show rk (fun i => kl.getD i 0 % 2 == 1) L.length + (m - rk (fun i => kl.getD i 0 % 2 == 1) L.length) = m by omega]
set_option maxHeartbeats 1600000 in
set_option maxRecDepth 4000 in
theorem refpack_any (kl : List Nat) (L : List (List Nat)) (adk ad : Option Addr) (capk cap lo base : Nat) (vs : List Value) (w : World) (hk : U32s w adk kl) (o : OutR w lo base (.slice ad L.length cap) L vs) (hlo : lo ≤ w.heap.size) (hn : kl.length = L.length) (hL : L.length ≤ 1000) (hr : ∀ l ∈ L, l.length ≤ 1000) (hkl : ∀ x ∈ kl, x < 4294967296) :
    Calls Try.prog 26 #[.slice adk kl.length capk, .slice ad L.length cap] w fun e w' => ∃ ad' cap' vs', e = .returned (.tuple #[.slice ad' L.length cap', .int .i64 (rk (fun i => kl.getD i 0 % 2 == 1) L.length : Nat)]) ∧ OutR w' lo w.heap.size (.slice ad' L.length cap') (wantR kl L L.length) vs' ∧ Below w.heap.size w w' := by
  have HK := hid hk
  have HO := hid o
  have HR := hid hr
  have HKL := hid hkl
  have HRK := hid (rk_le (fun i => kl.getD i 0 % 2 == 1) L.length)
  have HKR := hid (fun k => kpR_len kl L k)
  have HKM := hid (fun k => rk_le (fun i => kl.getD i 0 % 2 == 1) k)
  have HNE := hid hn
  obtain ⟨i0, hi, hz0, hz1, hz2⟩ := info_parts Try.infoRowU
  clear hk o hr hkl hn
  go_enter Try.func26, Try.ntmps26
  go_wp2_with fail
  go_loopw [6, 7] (fun v c wr => ∃ (k : Nat) (sd : Option Addr) (sc : Nat) (us : List Value), k ≤ L.length ∧ c = .int .i64 (k : Int) ∧ v = .slice sd (kpR kl L k).length sc ∧ OutR wr lo w.heap.size (.slice sd (kpR kl L k).length sc) (kpR kl L k) us ∧ Below w.heap.size w wr) (fun _ c _ => L.length - (intOf c).toNat)
  case atStart => exact ⟨0, none, 0, [], Nat.zero_le _, rfl, rfl, OutR.nil _ _ _, Below.refl _ _⟩
  case round =>
    obtain ⟨k, sd, sc, us, hk, rfl, rfl, ou, hB⟩ := hrel
    have HU := hid ou
    have HB := hid hB
    clear ou hB
    by_cases hlt : k < L.length
    · obtain ⟨x, rfl, cx⟩ := (HK.out.belowG HB.out) k (by have := HNE.out; omega)
      obtain ⟨g, ra, rc, rfl, cg, rb⟩ := (HO.out.below HB.out).at rfl k hlt
      have HRB := hid rb
      have HGD := hid (show L.getD k [] = L[k] by simp [hlt])
      have HKD := hid (show kl.getD k 0 = kl[k]'(by have := HNE.out; omega) by simp [show k < kl.length by have := HNE.out; omega])
      have HYE := hid (fun h => kpR_yes kl L k h)
      have HNO := hid (fun h => kpR_no kl L k h)
      have HUL := hid (show (kpR kl L k).length ≤ 1000 by have := HKR.out k; have := HKM.out k; omega)
      obtain ⟨u, hu⟩ : ∃ u, kl[k]'(by have := HNE.out; omega) = u := ⟨_, rfl⟩
      rw [hu] at cx HKD
      obtain ⟨l, hl⟩ : ∃ l, L[k] = l := ⟨_, rfl⟩
      rw [hl] at cg HRB HGD
      rw [HKD.out] at HYE HNO
      rw [HGD.out] at HYE
      clear rb hu hl HGD HKD
      have hkk : k < kl.length := by have := HNE.out; omega
      by_cases hodd : u % 2 = 1
      · have e1 : ((u : Int) % 2 == 1) = true := by simp; omega
        have HY := hid (HYE.out hodd)
        have HLL := hid (show (kpR kl L k).length + 1 = (kpR kl L (k + 1)).length by rw [HY.out]; simp)
        clear HYE HNO hodd
        obtain ⟨q, hq⟩ : ∃ q, (kpR kl L k).length = q := ⟨_, rfl⟩
        have HU2 := hid (show OutR (wr.alloc (.cells #[.slice ra l.length rc] 29 (0, 0))) lo w.heap.size (.slice sd q sc) (kpR kl L k) us by rw [← hq]; exact HU.out.below (below1p _ _))
        have HOW := hid (show (wr.alloc (.cells #[.slice ra l.length rc] 29 (0, 0))).ownsRow w.heap.size 29 1 (.slice sd q sc) q us by have := HU2.out.own; rw [hq] at this; exact this)
        have HQ := hid hq
        rw [hq] at HLL HUL ⊢
        clear hq HU
        have hq1 : q ≤ 1000 := HUL.out
        go_wp2_with (at_builtin; refine wpList_append_own _ rfl (.tmp 22) (.tmp 27) 22 rfl w.heap.size 29 i0 _ 1 24 Try.underlying22 hi hz0 hz1 hz2 rfl (by decide) _ q us rfl HOW.out ⟨wr.heap.size, 0, none⟩ 1 1 [.slice ra l.length rc] rfl rfl (World.news_of_block (heap_alloc_at _ _)) (by intro y hy; simp at hy; subst hy; rfl) (by unfold maxLen; omega) (by omega) (by have := HB.out.size; simp; omega) ?_; intro v' w6 hown hgrow _; obtain ⟨sd', sc', rfl⟩ := owns_shape hown; have H6 := hid (And.intro hown hgrow); clear hown hgrow)
        go_roundw
        case rel =>
          have hB6 := (HB.out.alloc HB.out.size (.cells #[.slice ra l.length rc] 29 (0, 0))).grown H6.out.2 (by have := HB.out.size; simp; omega) (fun q hq => (HOW.out.lt q hq).1)
          have hO := HU2.out.append (HRB.out.below (below1p _ _)) (by rw [HQ.out]; exact H6.out.1) H6.out.2
          rw [← HY.out] at hO
          exact ⟨k + 1, sd', sc', _, by omega, by go_num, by rw [← HLL.out], by rw [← HLL.out]; exact hO, hB6⟩
        case measure => simp [intOf]; omega
      · have e1 : ((u : Int) % 2 == 1) = false := by simp; omega
        have HN := hid (HNO.out hodd)
        clear HYE HNO hodd
        go_wp2_with fail
        go_roundw
        case rel => exact ⟨k + 1, sd, sc, us, by omega, by go_num, by rw [HN.out], by rw [HN.out]; exact HU.out, HB.out⟩
        case measure => simp [intOf]; omega
    · have hke : k = L.length := by omega
      subst hke
      have HW0 := hid (wantR_start kl L)
      have HWS := hid (fun m h => wantR_succ kl L m h)
      have HWL := hid (fun m h => wantR_len kl L m h)
      have HKR2 := hid (HKR.out L.length)
      obtain ⟨R, hR⟩ : ∃ R, rk (fun i => kl.getD i 0 % 2 == 1) L.length = R := ⟨_, rfl⟩
      have HRE := hid hR
      rw [hR] at HRK HW0 HWS HWL HKR2
      rw [HKR2.out] at HU ⊢
      rw [← HW0.out] at HU
      clear hR HKR HKM HKR2 HW0
      have hR1 : R ≤ L.length := HRK.out
      obtain ⟨wz, rfl⟩ : ∃ y, y = wr := ⟨_, rfl⟩
      go_wp2_with fail
      go_loopw [6, 9] (fun v c wr => ∃ (m : Nat) (sd : Option Addr) (sc : Nat) (us : List Value), R ≤ m ∧ m ≤ L.length ∧ c = .int .i64 (m : Int) ∧ v = .slice sd m sc ∧ OutR wr lo w.heap.size (.slice sd m sc) (wantR kl L m) us ∧ Below w.heap.size w wr) (fun _ c _ => L.length - (intOf c).toNat)
      case atStart => exact ⟨R, sd, sc, us, Nat.le_refl _, hR1, rfl, rfl, HU.out, HB.out⟩
      case round =>
        clear HU HB
        obtain ⟨m, sd, sc, us, hm0, hm1, rfl, rfl, ou, hB⟩ := hrel
        have HU := hid ou
        have HB := hid hB
        clear ou hB
        by_cases hlt : m < L.length
        · obtain ⟨g, ra, rc, rfl, cg, rb⟩ := (HO.out.below HB.out).at rfl m hlt
          have HSU := hid (HWS.out m hm0)
          have HGD := hid (show L.getD m [] = L[m] by simp [hlt])
          have hl1 : (L[m]).length ≤ 1000 := HR.out L[m] (List.getElem_mem hlt)
          rw [HGD.out] at HSU
          obtain ⟨z, hz⟩ : ∃ z, (L[m]).length = z := ⟨_, rfl⟩
          rw [hz] at cg HSU hl1
          clear rb hz HGD
          have hmk := run_make_u32s (z : Int) z rfl (by omega)
          have HM1 := hid (rowB_new wr lo (Nat.le_trans hlo HB.out.size) (List.replicate z 0))
          rw [List.length_replicate] at HM1
          have HU2 := hid (show OutR ((wr.alloc (.cells (rowZ z) 31 (0, 0))).alloc (.cells #[.slice (some ⟨wr.heap.size, 0, none⟩) z z] 29 (0, 0))) lo w.heap.size (.slice sd m sc) (wantR kl L m) us from (HU.out.below (below1p _ _)).below (below1p _ _))
          have HOW := hid (show ((wr.alloc (.cells (rowZ z) 31 (0, 0))).alloc (.cells #[.slice (some ⟨wr.heap.size, 0, none⟩) z z] 29 (0, 0))).ownsRow w.heap.size 29 1 (.slice sd m sc) m us by have := HU2.out.own; rw [HWL.out m hm0] at this; exact this)
          have HNB := hid (show ((wr.alloc (.cells (rowZ z) 31 (0, 0))).alloc (.cells #[.slice (some ⟨wr.heap.size, 0, none⟩) z z] 29 (0, 0))).heap[wr.heap.size + 1]? = some (.cells #[.slice (some ⟨wr.heap.size, 0, none⟩) z z] 29 (0, 0)) by
            have := heap_alloc_at (wr.alloc (.cells (rowZ z) 31 (0, 0))) (.cells #[.slice (some ⟨wr.heap.size, 0, none⟩) z z] 29 (0, 0))
            rw [World.size_alloc] at this; exact this)
          go_wp2_with (at_builtin; refine wpList_append_own _ rfl (.tmp 38) (.tmp 45) 22 rfl w.heap.size 29 i0 _ 1 24 Try.underlying22 hi hz0 hz1 hz2 rfl (by decide) _ m us rfl HOW.out ⟨wr.heap.size + 1, 0, none⟩ 1 1 [.slice (some ⟨wr.heap.size, 0, none⟩) z z] rfl rfl (World.news_of_block HNB.out) (by intro y hy; simp at hy; subst hy; rfl) (by unfold maxLen; omega) (by omega) (by have := HB.out.size; simp; omega) ?_; intro v' w6 hown hgrow _; obtain ⟨sd', sc', rfl⟩ := owns_shape hown; have H6 := hid (And.intro hown hgrow); clear hown hgrow)
          clear hmk
          go_roundw
          case rel =>
            have hB6 := (belowCat (belowCat (below1p wr (.cells (rowZ z) 31 (0, 0))) (below1p _ (.cells #[.slice (some ⟨wr.heap.size, 0, none⟩) z z] 29 (0, 0)))) (Below.refl _ _))
            have hB7 := (HB.out.trans (hB6.mono HB.out.size)).grown H6.out.2 (by have := HB.out.size; simp; omega) (fun q hq => (HOW.out.lt q hq).1)
            have hO := HU2.out.append (HM1.out.below (below1p _ _)) (by rw [HWL.out m hm0]; exact H6.out.1) H6.out.2
            rw [← HSU.out] at hO
            exact ⟨m + 1, sd', sc', _, by omega, by omega, by go_num, rfl, hO, hB7⟩
          case measure => simp [intOf]; omega
        · have hme : m = L.length := by omega
          subst hme
          go_wp2_with fail
          exact bodyPost_ret (v := .tuple #[.slice sd L.length sc, .int .i64 (R : Int)]) (by simp only [results, Try.results26]; simp [go_sem]) rfl ⟨sd, sc, us, by rw [HRE.out], HU.out, HB.out⟩
end Go.Proofs.Ytjdbofgjieljlaa
