/- The laws' told (layer 4), over this seat's translation. No conditions. The laws' first lines (awake, layer 4) return true, over this seat's translation. No conditions. Contracts of the laws' word and same, and of package pack's Cost (layer 4), over this seat's translation. Conditions: Cost: at most 60 tuples, 4 lanes; same: logs that are the same, of at most a million events. The contract of the laws' lay (layer 4), over this seat's translation. Conditions: at most 60 tuples of at most 4 words. -/
import Derived.Test.YtjdbofgjieljlaaPkH
import Derived.Test.YtjdbofgjieljlaaArQ
import Derived.Deep.RegionWith
namespace Go.Proofs.Ytjdbofgjieljlaa
open Go.RowKit

theorem noted_below {g : Nat} {ob : Option Nat} {n B : Nat} {xs e : List Value} {w w' : World} (h : Noted g ob n xs e w w') (hB : B ≤ w.heap.size) (hg : B ≤ g) (hob : ∀ k, ob = some k → B ≤ k) : Below B w w' := by
  obtain ⟨k, _, _, h3⟩ := h
  exact h3.below hB (fun i hi x => x.elim (fun x => by omega) (fun x => by have := hob _ x; omega))
theorem log_new_at (W : World) : LogAt (W.alloc (.cells #[.slice none 0 0] 88)) W.heap.size none 0 [] := ⟨_, heap_alloc_at _ _, rfl, ⟨rfl, Or.inl ⟨rfl, rfl⟩⟩⟩
set_option maxHeartbeats 800000 in
theorem told_any (v : Int) (w : World) : Calls Try.prog 27 #[sec v] w fun e w' => e = .returned (u32 v) ∧ Below w.heap.size w w' := by
  have HL := hid (show LogAt ((w.alloc (sb v)).alloc (.cells #[.slice none 0 0] 88)).drew (w.heap.size + 1) none 0 [] by
    have := log_new_at (w.alloc (sb v))
    rw [World.size_alloc] at this
    exact this.kept (S := fun _ => False) (Fr.refl _ _).drew (fun x => x) (fun _ _ x => x))
  go_enter Try.func27, Try.ntmps27
  go_wp2
  go_region_with (first | (go_at_call 51; refine (newlog_any _).mono ?_; rintro e w1 ⟨rfl, rfl⟩) | (go_at_call 69; refine (release_any (w.heap.size + 1) none 0 [] v _ HL.out (by decide)).mono ?_; rintro e w1 ⟨rfl, hN⟩))
  all_goals
    go_wp2
    go_ret
    refine ⟨rfl, ?_⟩
    exact Below.trans (by repeat (first | exact Below.refl _ _ | refine blw_alloc ?_ | refine blw_drew ?_ | assumption)) (noted_below hN (by simp; omega) (by omega) (by intro k hk; cases hk))

theorem u32s_new (w : World) (l : List Nat) : U32s (w.alloc (.cells (secs l).toArray 31 (0, 0))) (some ⟨w.heap.size, 0, none⟩) l := fun k hk =>
  ⟨_, rfl, by rw [add_plain]; exact cell_of_heap (heap_alloc_at _ _) (by simp [secs, hk])⟩
theorem lz_new (w : World) (F : Nat → Prop) (z : Int) (h : ¬ F w.heap.size) : Lz (w.alloc (.cells #[.int .i64 z] 3 (0, 0))) F (some ⟨w.heap.size, 0, none⟩) 1 [z] :=
  Or.inr ⟨_, rfl, by simp, h, fun j hj => by
    have : j = 0 := by simpa using hj
    subst this; exact cell_of_heap (heap_alloc_at _ _) rfl⟩
theorem freshF {w : World} {h : Hn} {F : Nat → Prop} {A : Ars} (a : Ar w h F A) : ¬ F w.heap.size := fun x => by have := a.lt _ x; omega
set_option maxHeartbeats 1600000 in
set_option maxRecDepth 4000 in
theorem awake4_any (w : World) : Calls Try.prog 19 #[] w fun e w' => e = .returned (.bool true) ∧ Below w.heap.size w w' := by
  go_enter Try.func19, Try.ntmps19
  go_wp2_with fail
  refine (ar_new_at 20 20 _ (Or.inr rfl) (by decide)).mono ?_
  rintro e w1 ⟨h, F1, rfl, a1, hi, hb⟩
  have HB1 := hid hb
  have HI1 := hid hi
  have HA1 := hid a1
  clear a1 hi hb
  go_wp2_with fail
  refine (ar_take h F1 _ 6 _ HA1.out (by decide)).mono ?_
  rintro e w2 ⟨rfl, F2, a2, s2⟩
  have HA2 := hid a2
  have HS2 := hid s2
  clear a2 s2
  go_wp2_with fail
  have HU := hid (u32s_new w2 [1, 0, 1, 5, 6, 7])
  refine (ar_put h F2 _ 0 (some ⟨w2.heap.size, 0, none⟩) 6 [1, 0, 1, 5, 6, 7] _ (HA2.out.alloc _) (by decide) (by decide) HU.out (fun x hx _ => by cases hx; exact freshF HA2.out) (by decide)).mono ?_
  rintro e w3 ⟨rfl, F3, a3, s3⟩
  have HS3 := hid (HS2.out.trans ((Step.refl w2 F2).alloc _ |>.trans s3))
  obtain ⟨A, eA, hA⟩ : ∃ A, A = ((Ars.new 20).take 6).put 0 [1, 0, 1, 5, 6, 7] ∧ Ar w3 h F3 A := ⟨_, rfl, a3⟩
  have k3 : A.top = 6 ∧ A.ws.length = 20 ∧ A.es.length = 7 ∧ rk (fun i => A.word (0 + i) % 2 == 1) 3 = 2 ∧ ((kp (fun i => A.word (0 + i) % 2 == 1) 3).map fun p => A.word (3 + p)) = [5, 7] := by subst eA; decide +kernel
  have HA3 := hid hA
  have HK := hid k3
  clear a3 s3 hA eA k3 HU
  go_wp2_with fail
  refine (pack_yes h F3 A 3 0 3 0 1 (some ⟨w3.heap.size, 0, none⟩) [3] [3] _ (HA3.out.alloc _) rfl rfl rfl (by decide) (by decide) (lz_new _ _ _ (freshF HA3.out)) (fun L hL => by have := HK.out.1; simp at hL; omega) (by simp; exact ⟨by omega⟩) (by have := HK.out.1; have := HK.out.2.1; omega) (by have := HK.out.2.2.1; omega)).mono ?_
  rintro e w4 ⟨rfl, F4, B, a4, s4, pk⟩
  rw [HK.out.2.2.2.1]
  have hw : B.word 0 = 4294967295 ∧ B.word 1 = 4294967295 ∧ B.word 2 = 0 ∧ B.word 3 = 5 ∧ B.word 4 = 7 ∧ B.word 5 = 0 := by
    have q0 := pk.kps 0 (by decide)
    have q1 := pk.kps 1 (by decide)
    have q2 := pk.kps 2 (by decide)
    have l0 := pk.lane 3 (by simp) 0 (by decide)
    have l1 := pk.lane 3 (by simp) 1 (by decide)
    have l2 := pk.lane 3 (by simp) 2 (by decide)
    rw [HK.out.2.2.2.1] at q0 q1 q2
    rw [HK.out.2.2.2.2] at l0 l1 l2
    exact ⟨q0, q1, q2, l0, l1, l2⟩
  have HT4 := hid (show B.top = 6 from pk.top.trans HK.out.1)
  have HE4 := hid (show B.es.length ≤ 100000 by rw [pk.es, List.length_append, HK.out.2.2.1, HK.out.1]; decide +kernel)
  have HW4 := hid hw
  have HS4 := hid (HS3.out.trans ((Step.refl w3 F3).alloc _ |>.trans s4))
  have HA4 := hid a4
  clear a4 s4 pk hw
  go_wp2_with fail
  have hN4 := freshF HA4.out
  have HN4 := hid (And.intro (heap_alloc_at w4 (sb 2)) hN4)
  have HL4 := hid (show w4.heap.size < (w4.alloc (sb 2)).heap.size by simp)
  have HSA := hid ((HS4.out.alloc (sb 2)))
  have HAA := hid (HA4.out.alloc (sb 2))
  clear hN4
  obtain ⟨z, hz⟩ : ∃ z, w4.heap.size = z := ⟨_, rfl⟩
  rw [hz] at HN4 HL4 ⊢
  generalize w4.alloc (sb 2) = w5 at *
  refine (ar_show_yes h F4 B 0 6 _ HAA.out (by have := HT4.out; omega) (by have := HE4.out; omega)).mono ?_
  rintro e w6 ⟨g, F6, rfl, hg, hlt, hng, a6, s6⟩
  have htold : B.told 0 6 = [4294967295, 4294967295, 0, 5, 7, 0] := by
    obtain ⟨q0, q1, q2, q3, q4, q5⟩ := HW4.out
    show [B.word 0, B.word 1, B.word 2, B.word 3, B.word 4, B.word 5] = _
    rw [q0, q1, q2, q3, q4, q5]
  rw [htold] at hg
  have HG := hid (show ∀ w' : World, Below w6.heap.size w6 w' → w'.heap[g]? = some (.cells (secs [4294967295, 4294967295, 0, 5, 7, 0]).toArray 31 (0, 0)) from fun w' hb => (hb.block g (lt_of_heap hg)).trans hg)
  have hz6 := s6.heap HN4.out.1 HN4.out.2
  have kz : w6.cell? ⟨z, 0, none⟩ = some (.int .u32 2) := cell_of_heap hz6 rfl
  have HA6 := hid a6
  have HT6 := hid (show (B.relK 0 6).top = 6 by rw [Ars.relK_top]; exact HT4.out)
  have HS6 := hid (HSA.out.trans s6)
  clear htold hg hlt hng a6 s6 hz6
  go_wp2_with (first
    | (go_at_call 27; refine (told_any 2 _).mono ?_; rintro e w7 ⟨rfl, hB7⟩; have HB7 := hid hB7; have hg7 := HG.out w7 hB7; have c0 : w7.cell? ⟨g, 0, none⟩ = some (.int .u32 4294967295) := cell_of_heap hg7 rfl; have c2 : w7.cell? ⟨g, 2, none⟩ = some (.int .u32 0) := cell_of_heap hg7 rfl; have c3 : w7.cell? ⟨g, 3, none⟩ = some (.int .u32 5) := cell_of_heap hg7 rfl; have c4 : w7.cell? ⟨g, 4, none⟩ = some (.int .u32 7) := cell_of_heap hg7 rfl; have c5 : w7.cell? ⟨g, 5, none⟩ = some (.int .u32 0) := cell_of_heap hg7 rfl; clear hB7 hg7)
    | (go_at_call 24; refine (ar_top h F6 _ _ (HA6.out.below HB7.out)).mono ?_; rintro e w' ⟨rfl, hw⟩; subst w'; rw [HT6.out]))
  go_ret
  refine ⟨rfl, ?_⟩
  exact HB1.out.trans (Below.trans (HS6.out.below HB1.out.size HI1.out) (HB7.out.mono (Nat.le_trans HB1.out.size HS6.out.size)))

/-- rows of words that came in -/
def Grid (w : World) (ad : Option Addr) (L : List (List Nat)) : Prop := ∀ i (h : i < L.length), ∃ x, ad = some x ∧ ∃ ra rc, w.cell? (x.add i) = some (.slice ra (L[i]).length rc) ∧ U32s w ra L[i]
theorem U32s.belowG {w w' : World} {ad : Option Addr} {l : List Nat} (h : U32s w ad l) (hB : Below w.heap.size w w') : U32s w' ad l := fun k hk => by
  obtain ⟨x, h1, h2⟩ := h k hk
  exact ⟨x, h1, cell_below hB h2 (cell_blk h2)⟩
theorem Grid.below {w w' : World} {ad : Option Addr} {L : List (List Nat)} (g : Grid w ad L) (hB : Below w.heap.size w w') : Grid w' ad L := fun i hi => by
  obtain ⟨x, h1, ra, rc, h2, h3⟩ := g i hi
  exact ⟨x, h1, ra, rc, cell_below hB h2 (cell_blk h2), h3.belowG hB⟩
/-- a word of them; 0 -/
def wd (L : List (List Nat)) (i k : Nat) : Nat := (L.getD i []).getD k 0
set_option maxHeartbeats 800000 in
theorem word4_any (ad : Option Addr) (cap : Nat) (L : List (List Nat)) (i k : Nat) (w : World) (g : Grid w ad L) :
    Calls Try.prog 25 #[.slice ad L.length cap, .int .i64 (i : Int), .int .i64 (k : Int)] w fun e w' => e = .returned (u32 (wd L i k : Nat)) ∧ w' = w := by
  by_cases h1 : i < L.length
  · obtain ⟨x, rfl, ra, rc, c1, hr⟩ := g i h1
    have HW := hid (show wd L i k = (L[i]).getD k 0 by unfold wd; simp [h1])
    have HL := hid hr
    obtain ⟨l, hl⟩ : ∃ l, L[i] = l := ⟨_, rfl⟩
    rw [hl] at c1 HW HL
    clear hl hr g
    by_cases h2 : k < l.length
    · obtain ⟨y, rfl, c2⟩ := HL.out k h2
      have HW2 := hid (show wd L i k = l[k] by rw [HW.out]; simp [h2])
      rw [HW2.out]
      obtain ⟨v, hv⟩ : ∃ v, l[k] = v := ⟨_, rfl⟩
      rw [hv] at c2 ⊢
      clear hv HW HW2 HL
      go_enter Try.func25, Try.ntmps25
      go_wp2
      go_ret
      exact ⟨rfl, rfl⟩
    · have HW2 := hid (show wd L i k = 0 by rw [HW.out]; simp [h2])
      rw [HW2.out]
      clear HW HW2 HL
      go_enter Try.func25, Try.ntmps25
      go_wp2
      go_ret
      exact ⟨rfl, rfl⟩
  · have HW2 := hid (show wd L i k = 0 by unfold wd; simp [h1])
    rw [HW2.out]
    clear HW2 g
    go_enter Try.func25, Try.ntmps25
    go_wp2
    go_ret
    exact ⟨rfl, rfl⟩
/-- how many events Pack notes, by a formula -/
def pc (n l : Nat) : Nat := 2 + n + 2 * n * (1 + l) + (3 * n * stp n - (2 ^ stp n - 1)) * (1 + l) + n
theorem evFull_len (t keep n : Nat) (ls : List Nat) (hn : n ≤ 49152) : (evFull t keep n ls).length = pc n ls.length := by
  obtain ⟨h1, h2, h3⟩ := stp_facts n hn
  have hm := evMvss_len n (stp n) (t :: ls) h3
  have hs : (upTo (evSf keep t ls) n).length = n * (2 + 2 * ls.length) := upTo_len _ n _ (fun i _ => evSf_len ..)
  have hk : (upTo (fun i => [evSt (keep + i)]) n).length = n * 1 := upTo_len _ n _ (fun i _ => rfl)
  unfold evFull evPack pc
  rw [List.length_cons, List.length_append, List.length_append, List.length_append, hs, hk, evGv_len]
  rw [List.length_cons] at hm
  have e : (upTo (fun s => upTo (evMv n s (t :: ls)) n) (stp n)).length = (3 * n * stp n - (2 ^ stp n - 1)) * (1 + ls.length) := by
    rw [Nat.sub_mul, Nat.add_comm 1 ls.length]; omega
  rw [e]
  have e2 : n * (2 + 2 * ls.length) = 2 * n * (1 + ls.length) := by rw [show 2 + 2 * ls.length = 2 * (1 + ls.length) by omega, ← Nat.mul_assoc, Nat.mul_comm n 2]
  rw [e2]
  omega
theorem rowAt {w w' : World} {base : Nat} {e : TypeId} {size n cap : Nat} {ad : Option Addr} {xs : List Value} (h : w.ownsRow base e size (.slice ad n cap) n xs) (hb : Below w.heap.size w w') : ∀ i (_ : i < n), ∃ g, ad = some ⟨g, 0, none⟩ ∧ ∀ j u, xs[j]? = some u → w'.cell? ⟨g, j, none⟩ = some u := fun i hi => by
  obtain ⟨g, h1, _, h2, h3⟩ := owns_cell h (by omega)
  exact ⟨g, h1, fun j u hj => cell_below hb (h3 j u hj) h2⟩
set_option maxHeartbeats 1600000 in
theorem same4_any (ha hb : Hn) (F G : Nat → Prop) (A B : Ars) (w : World) (a : Ar w ha F A) (b : Ar w hb G B) (he : A.es = B.es) (hl : A.es.length ≤ 1000000) :
    Calls Try.prog 22 #[arPtr ha, arPtr hb] w fun e w' => e = .returned (.bool true) ∧ Below w.heap.size w w' := by
  have HA := hid a
  have HB := hid b
  obtain ⟨es, hes⟩ : ∃ es, es = A.es.map blindE := ⟨_, rfl⟩
  have hesl : es.length = A.es.length := by rw [hes]; simp
  have hesb : es.length = B.es.length := by rw [hesl, he]
  have HE1 := hid hes
  have HE2 := hid (show es = B.es.map blindE by rw [hes, he])
  have HE3 := hid hesl
  have HE4 := hid hesb
  have hen : es.length ≤ 1000000 := by omega
  clear a b he hl hes hesl hesb
  go_enter Try.func22, Try.ntmps22
  go_wp2_with fail
  refine (ar_log ha F A _ HA.out).mono ?_
  rintro e w' ⟨rfl, hw⟩
  subst w'
  go_wp2_with fail
  obtain ⟨oa, hLa, _⟩ := HA.out.log
  refine (blind_any _ _ A.es _ hLa (by rw [← HE3.out]; omega)).mono ?_
  rintro e w5 ⟨ad1, cap1, rfl, ho1, hb5⟩
  rw [← HE1.out] at ho1
  rw [← HE3.out] at ho1 ⊢
  have O1 := hid ho1
  have HB5 := hid hb5
  clear ho1 hLa hb5
  go_wp2_with fail
  refine (ar_log hb G B _ (HB.out.below HB5.out)).mono ?_
  rintro e w' ⟨rfl, hw⟩
  subst w'
  go_wp2_with fail
  obtain ⟨ob, hLb, _⟩ := (HB.out.below HB5.out).log
  refine (blind_any _ _ B.es _ hLb (by rw [← HE4.out]; omega)).mono ?_
  rintro e w6 ⟨ad2, cap2, rfl, ho2, hb6⟩
  rw [← HE2.out] at ho2
  rw [← HE4.out] at ho2 ⊢
  have RP := hid (rowAt O1.out hb6)
  have RQ := hid (rowAt ho2 (Below.refl _ _))
  have HB6 := hid (belowCat HB5.out hb6)
  clear ho2 hLb hb6 O1 HE1 HE2 HE3 HE4
  go_wp2_with fail
  go_loopw [21] (fun c wq => ∃ q : Nat, q ≤ es.length ∧ c = .int .i64 q ∧ Below w6.heap.size w6 wq) (fun c _ => es.length - (intOf c).toNat)
  case atStart => exact ⟨0, Nat.zero_le _, rfl, Below.refl _ _⟩
  case round =>
    obtain ⟨q, hq, rfl, hBq⟩ := hrel
    have HBq := hid hBq
    by_cases hql : q < es.length
    · obtain ⟨g1, rfl, f1⟩ := RP.out q hql
      obtain ⟨g2, rfl, f2⟩ := RQ.out q hql
      have e1 := ecells_at es q hql
      obtain ⟨ee, hee⟩ : ∃ ee, ee = es[q] := ⟨_, rfl⟩
      rw [← hee] at e1
      have later : ∀ {g j : Nat} {u : Value}, w6.cell? ⟨g, j, none⟩ = some u → wr.cell? ⟨g, j, none⟩ = some u := fun hc => cell_below hBq hc (cell_blk hc)
      have a0 := later (f1 _ _ e1.1)
      have a1 := later (f1 _ _ e1.2.1)
      have a2 := later (f1 _ _ e1.2.2)
      have b0 := later (f2 _ _ e1.1)
      have b1 := later (f2 _ _ e1.2.1)
      have b2 := later (f2 _ _ e1.2.2)
      clear f1 f2 e1 hee RP RQ later hBq
      go_wp2_with fail
      go_quiet (fail)
      go_wp2_with fail
      go_roundw
      case rel => exact ⟨q + 1, by omega, by go_num, belowDN HBq.out _⟩
      case measure => simp [intOf]; omega
    · have hqe : q = es.length := by omega
      clear RP RQ hBq
      go_wp2_with fail
      go_ret
      exact ⟨rfl, belowCat HB6.out HBq.out⟩
theorem pc_wraps : ∀ (n : Fin 61) (l : Fin 5), wrap64 (wrap64 (wrap64 (1 + (n.val : Int) + 1 + wrap64 (2 * (n.val : Int) * (1 + (l.val : Int)))) + wrap64 (wrap64 (wrap64 (3 * (n.val : Int) * (stp n.val : Int)) - wrap64 (wrap64 (2 ^ stp n.val) - 1)) * (1 + (l.val : Int)))) + (n.val : Int)) = (pc n.val l.val : Int) := by decide +kernel
set_option maxHeartbeats 800000 in
theorem pcost_any (n l : Nat) (hn : n ≤ 60) (hl : l ≤ 4) (w : World) :
    Calls Try.prog 23 #[.int .i64 (n : Int), .int .i64 (l : Int)] w fun e w' => e = .returned (.int .i64 (pc n l : Nat)) ∧ w' = w := by
  have hmay : decide (0 ≤ (l : Int) ∧ 0 ≤ (n : Int) ∧ (n : Int) ≤ 49152) = true := decide_eq_true (by omega)
  obtain ⟨S, hS⟩ : ∃ S, stp n = S := ⟨_, rfl⟩
  have HS := hid hS
  have hS16 : S ≤ 16 := by rw [← hS]; exact (stp_facts n (by omega)).2.1
  clear hS
  go_enter Try.func23, Try.ntmps23
  go_wp2_with (first | (go_at_call 63; refine (pmay_any _ _ _).mono ?_; rintro e w' ⟨rfl, hw⟩; subst w'; rw [hmay]) | (go_at_call 65; refine (steps_any n (by omega) _).mono ?_; rintro e w' ⟨rfl, hw⟩; subst w'; rw [HS.out]))
  go_ret
  refine ⟨retI ?_, rfl⟩
  have := pc_wraps ⟨n, by omega⟩ ⟨l, by omega⟩
  simp only [HS.out] at this
  exact this

abbrev lanesI (n k : Nat) : List Int := (List.range k).map fun j => ((n * (j + 1) : Nat) : Int)
structure Laid (A : Ars) (n W : Nat) (tg : Nat → Nat) (c : Nat) : Prop where
  top : A.top = n * (W + 1)
  wl : A.ws.length = n * (W + 2)
  es : A.es = ⟨4, 0, cnt ((n * (W + 1) : Nat) : Int)⟩ :: (List.range c).map evSt
  wd : ∀ x, x < c → A.word x = tg x
structure LayS (w wr : World) (h : Hn) (n W : Nat) (tg : Nat → Nat) (k c : Nat) (F : Nat → Prop) (A : Ars) (v : Value) : Prop where
  ar : Ar wr h F A
  bel : Below w.heap.size w wr
  far : ∀ i, F i → w.heap.size ≤ i
  own : wr.ownsRow w.heap.size 3 1 v k (ints (lanesI n k))
  off : ∀ q, v.ownBlock = some q → ¬ F q
  laid : Laid A n W tg c
section
variable {w wr w2 : World} {h : Hn} {n W k c : Nat} {tg : Nat → Nat} {F F' : Nat → Prop} {A : Ars} {v : Value}
theorem Laid.put (l : Laid A n W tg c) (hc : c < n * (W + 1)) : Laid (A.storeN c (tg c)) n W tg (c + 1) := by
  have hw : c < A.ws.length := by rw [l.wl]; exact Nat.lt_of_lt_of_le hc (Nat.mul_le_mul_left _ (by omega))
  refine ⟨l.top, by rw [← l.wl]; simp [Ars.storeN], ?_, fun x hx => ?_⟩
  · show A.es ++ [evSt c] = _
    rw [l.es, List.range_succ, List.map_append]; rfl
  · rw [word_st _ _ _ hw]
    by_cases e : x = c
    · simp [e]
    · simp [e]; exact l.wd x (by omega)
theorem LayS.put (l : LayS w wr h n W tg k c F A v) (s : Step wr F w2 F') (a : Ar w2 h F' (A.storeN c (tg c))) (hc : c < n * (W + 1)) : LayS w w2 h n W tg k (c + 1) F' (A.storeN c (tg c)) v :=
  ⟨a, l.bel.trans (s.below l.bel.size l.far), fun i hi => (s.sub i hi).elim (l.far i) fun x => Nat.le_trans l.bel.size x,
    owns_of_blocks l.own fun q hq => s.fr.block q (l.own.lt q hq).2 (l.off q hq), fun q hq => s.out (l.off q hq) (l.own.lt q hq).2, l.laid.put hc⟩
theorem LayS.alloc (l : LayS w wr h n W tg k c F A v) (o : Obj) : LayS w (wr.alloc o) h n W tg k c F A v :=
  ⟨l.ar.alloc o, l.bel.alloc l.bel.size o, l.far, l.own.alloc o, l.off, l.laid⟩
theorem LayS.grown {g cap : Nat} (l : LayS w wr h n W tg k c F A v) (ho : w2.ownsRow w.heap.size 3 1 (.slice (some ⟨g, 0, none⟩) (k + 1) cap) (k + 1) (ints (lanesI n (k + 1)))) (hg : wr.grownBy w2 v.ownBlock) (hat : v.ownBlock = some g ∨ g = wr.heap.size) : LayS w w2 h n W tg (k + 1) c F A (.slice (some ⟨g, 0, none⟩) (k + 1) cap) := by
  refine ⟨l.ar.kept (G := fun q => some q = v.ownBlock) ⟨hg.os, hg.tape, hg.output, hg.size, fun k hk hn => hg.block k hk hn⟩ (fun i hi e => l.off i e.symm hi), l.bel.grown hg l.bel.size (fun q hq => (l.own.lt q hq).1), l.far, ho, fun q hq => ?_, l.laid⟩
  have : g = q := by simpa [Value.ownBlock] using hq
  subst this
  rcases hat with hat | hat
  · exact l.off g hat
  · intro x; have := l.ar.lt _ x; omega
end
theorem lanesI_succ (n k : Nat) : ints (lanesI n (k + 1)) = ints (lanesI n k) ++ [.int .i64 ((n * (k + 1) : Nat) : Int)] := by simp [ints, lanesI, List.range_succ]
def tgF (kl : List Nat) (L : List (List Nat)) (n x : Nat) : Nat := if x < n then kl.getD x 0 else wd L (x % n) (x / n - 1)
theorem tgF_at (kl : List Nat) (L : List (List Nat)) (n k i : Nat) (hi : i < n) : tgF kl L n (n * (k + 1) + i) = wd L i k := by
  have h1 : ¬ n * (k + 1) + i < n := by rw [Nat.mul_succ]; omega
  unfold tgF
  rw [if_neg h1, Nat.mul_add_mod, Nat.mod_eq_of_lt hi, Nat.mul_add_div (by omega), Nat.div_eq_of_lt hi]
  rfl
theorem put1 (A : Ars) (x v : Nat) (h : x < A.top) : A.put (x : Int) [v] = A.storeN x v := by
  have hf : A.fits (x : Int) (([v] : List Nat).length : Nat) = true := by rw [Ars.fits_iff]; simp; omega
  rw [Ars.put_yes hf]
  simp [Ars.putK]
theorem putK_es (A : Ars) (i : Nat) (l : List Nat) (k : Nat) : (A.putK i l k).es = A.es ++ (List.range k).map fun j => evSt (i + j) := by
  induction k with
  | zero => simp [Ars.putK]
  | succ k ih => simp only [Ars.putK, Ars.storeN]; rw [ih, List.range_succ, List.map_append, List.append_assoc]; rfl
theorem laid0 (kl : List Nat) (L : List (List Nat)) (W : Nat) : Laid (((Ars.new ((kl.length * (W + 2) : Nat) : Int)).take ((kl.length * (W + 1) : Nat) : Int)).put 0 kl) kl.length W (tgF kl L kl.length) kl.length := by
  have hle : kl.length * (W + 1) ≤ kl.length * (W + 2) := Nat.mul_le_mul_left _ (by omega)
  have hc : (Ars.new ((kl.length * (W + 2) : Nat) : Int)).canTake ((kl.length * (W + 1) : Nat) : Int) = true := decide_eq_true (by simp only [Ars.new, List.length_replicate]; omega)
  have h1 : kl.length ≤ kl.length * (W + 1) := Nat.le_mul_of_pos_right _ (by omega)
  obtain ⟨B, hB⟩ : ∃ B, (Ars.new ((kl.length * (W + 2) : Nat) : Int)).take ((kl.length * (W + 1) : Nat) : Int) = B := ⟨_, rfl⟩
  have hBt : B.top = kl.length * (W + 1) ∧ B.ws.length = kl.length * (W + 2) ∧ B.es = [⟨4, 0, cnt ((kl.length * (W + 1) : Nat) : Int)⟩] := by
    rw [← hB]; unfold Ars.take; rw [if_pos hc]
    refine ⟨?_, ?_, rfl⟩
    · show 0 + ((kl.length * (W + 1) : Nat) : Int).toNat = _; omega
    · simp only [Ars.new, List.length_replicate]; omega
  rw [hB]
  have hf : B.fits 0 kl.length = true := by rw [Ars.fits_iff, hBt.1]; omega
  rw [Ars.put_yes hf]
  refine ⟨by rw [Ars.putK_top]; exact hBt.1, by rw [Ars.putK_wslen]; exact hBt.2.1, ?_, fun x hx => ?_⟩
  · rw [putK_es, hBt.2.2]
    simp
  · rw [Ars.putK_word _ _ _ _ (Nat.le_refl _) (by rw [hBt.2.1]; simp; omega), if_pos (by simp; exact hx)]
    unfold tgF; rw [if_pos hx]; simp
end Go.Proofs.Ytjdbofgjieljlaa
