/- The contract of package pack's Pack where it packs, over this seat's translation. Conditions: rows that lie apart; n of at most 49152; at most 20 lanes, in a slice apart from the arena; room for n words; the log has at most 200 million events. -/
import Derived.Test.YtjcnkigadlmpgaaDoorPkG
import Derived.Test.YtjcnkigadlmpgaaDoorArE
namespace Go.Proofs.YtjcnkigadlmpgaaDoor
open Go.RowKit

theorem Lz.lns {w : World} {F : Nat → Prop} {ad : Option Addr} {cap : Nat} {zs : List Int} {ls : List Nat} (l : Lz w F ad cap zs) (hz : zs = ls.map (fun (L : Nat) => (L : Int))) : Lns w F ad ls := fun j hj => by
  subst hz
  rcases l with ⟨_, _, h⟩ | ⟨b, h1, h2, h3, h4⟩
  · have := congrArg List.length h; simp at this; subst this; simp at hj
  · have := h4 j (by simpa using hj)
    simp [hj] at this
    exact ⟨b, h1, h3, this⟩
set_option maxHeartbeats 3200000 in
set_option maxRecDepth 4000 in
theorem pack_yes (h : Hn) (F : Nat → Prop) (A : Ars) (N K : Nat) (n keep : Int) (cap : Nat) (ad : Option Addr) (zs : List Int) (ls : List Nat) (w : World) (a : Ar w h F A) (hnN : n = (N : Int)) (hkK : keep = (K : Int)) (hzl : zs = ls.map (fun (L : Nat) => (L : Int))) (hN : N ≤ 49152) (hlen : zs.length ≤ 20) (hl : Lz w F ad cap zs) (hin : ∀ L ∈ K :: ls, L + N ≤ A.top) (hp : (K :: ls).Pairwise (Apart N)) (hroom : A.top + N ≤ A.ws.length) (hes : A.es.length ≤ 200000000) :
    Calls Tryd.prog 28 #[arPtr h, .int .i64 keep, .int .i64 n, .slice ad zs.length cap] w fun e w' => e = .returned (.tuple #[sec (rk (fun i => A.word (K + i) % 2 == 1) N : Nat), .bool true]) ∧ ∃ F' A', Ar w' h F' A' ∧ Step w F w' F' ∧ Packed A A' K N ls := by
  have hb1 := a.ok.1
  have hb2 := a.ok.2.1
  have hz : ∀ z ∈ keep :: zs, z < 9223372036854775808 := fun z hz' => by
    have : ∃ L ∈ K :: ls, z = (L : Int) := by
      rcases List.mem_cons.1 hz' with rfl | hz'
      · exact ⟨K, List.mem_cons_self .., hkK⟩
      · rw [hzl] at hz'; obtain ⟨L, hL, rfl⟩ := List.mem_map.1 hz'; exact ⟨L, List.mem_cons_of_mem _ hL, rfl⟩
    obtain ⟨L, hL, rfl⟩ := this
    have := hin L hL; omega
  have HA := hid a
  have HL := hid hl
  have HZ := hid hz
  have HLE := hid (show 1 + zs.length = (keep :: zs).length by simp; omega)
  have HL21 := hid (show (keep :: zs).length ≤ 1000000 by simp; omega)
  have HLM := hid (show zs.length + 1 = ((keep :: zs).map fun z => (z, n)).length by simp)
  have HZ2 := hid (show ∀ x ∈ (keep :: zs).map fun z => (z, n), x.1 < 9223372036854775808 from fun x hx => by obtain ⟨z, hz', rfl⟩ := List.mem_map.1 hx; exact HZ.out z hz')
  obtain ⟨i0, hi, hz0, hz1, hz2⟩ := info_parts Tryd.infoInt
  have HOW := hid (show ((w.alloc (.cells #[.int .u32 0] 32 (0, 0))).alloc (.cells #[.int .i64 keep] 3 (0, 0))).ownsRow (w.heap.size + 1) 3 1 (.slice (some ⟨w.heap.size + 1, 0, none⟩) 1 1) 1 (ints [keep]) by
    have := owns_one (w.alloc (.cells #[.int .u32 0] 32 (0, 0))) (w.heap.size + 1) keep (by simp)
    rwa [World.size_alloc] at this)
  have HSRC := hid (hl.src (belowCat (below1p w (.cells #[.int .u32 0] 32 (0, 0))) (below1p _ (.cells #[.int .i64 keep] 3 (0, 0)))))
  have HZL := hid (show zs.length = ls.length by rw [hzl]; simp)
  have HLS := hid (hl.lns hzl)
  have HNF := hid (show ¬ F w.heap.size from fun x => by have := a.lt _ x; omega)
  have HES := hid (show A.es.length ≤ 1000000000 by omega)
  have hct : A.canTake n = true := decide_eq_true (by omega)
  have hmay : decide (0 ≤ (zs.length : Int) ∧ 0 ≤ n ∧ n ≤ 49152) = true := decide_eq_true (by omega)
  have HRF := hid (show Rfine A ((keep :: zs).map fun z => (z, n)) by
    rw [rfine_of A n (keep :: zs) (by omega)]
    have e : keep :: zs = (K :: ls).map (fun (L : Nat) => (L : Int)) := by rw [hkK, hzl]; rfl
    rw [e]
    refine ⟨fun z hz' => ?_, ?_⟩
    · obtain ⟨L, hL, rfl⟩ := List.mem_map.1 hz'
      have := hin L hL
      rw [Ars.fits_iff]; omega
    · rw [List.pairwise_map]
      exact hp.imp fun {x y} hxy => by have := hxy.d; unfold ApartZ; omega)
  have HIN := hid (show ∀ L ∈ K :: A.top :: ls, L + N ≤ (A.take n).top from fun L hL => by
    have e : (A.take n).top = A.top + N := by unfold Ars.take; rw [if_pos hct]; show A.top + n.toNat = _; omega
    rw [e]
    rcases List.mem_cons.1 hL with rfl | hL
    · have := hin L (List.mem_cons_self ..); omega
    · rcases List.mem_cons.1 hL with rfl | hL
      · omega
      · have := hin L (List.mem_cons_of_mem _ hL); omega)
  have HPW := hid (show (K :: A.top :: ls).Pairwise (Apart N) by
    have h1 := List.pairwise_cons.1 hp
    refine List.pairwise_cons.2 ⟨fun x hx => ?_, List.pairwise_cons.2 ⟨fun x hx => ⟨?_⟩, h1.2⟩⟩
    · rcases List.mem_cons.1 hx with rfl | hx
      · have := hin K (List.mem_cons_self ..); exact ⟨by omega⟩
      · exact h1.1 x hx
    · have := hin x (List.mem_cons_of_mem _ hx); omega)
  have HKT := hid (show K + N ≤ A.top from hin K (List.mem_cons_self ..))
  have HPD := hid (fun B0 B1 B2 B3 => @Packed.of A B0 B1 B2 B3 K N ls hroom hN hin hp)
  have HTK := hid (show (A.take n).word = A.word ∧ (A.take n).es.length ≤ 200000001 ∧ (A.take n).top = A.top + N by
    unfold Ars.take; rw [if_pos hct]; refine ⟨rfl, by simp; omega, ?_⟩; show A.top + n.toNat = _; omega)
  have HLL := hid (show ls.length ≤ 20 by rw [← HZL.out]; exact hlen)
  obtain ⟨q1, q2, q3⟩ := stp_facts N hN
  have HSP := hid (And.intro q1 q2)
  have HEQ := hid (And.intro hnN (And.intro hkK hzl))
  clear q1 q2 q3 a hl hz hp hin hes hnN hkK hzl hroom hN
  go_enter Tryd.func28, Tryd.ntmps28
  go_wp2_with (first | (at_builtin; refine wpList_append_opt rfl (.tmp 16) (.tmp 17) 56 rfl (w.heap.size + 1) 3 i0 _ 1 8 Tryd.underlying56 hi hz0 hz1 hz2 rfl (by decide) _ 1 (ints [keep]) rfl HOW.out ad zs.length cap (ints zs) rfl HSRC.out (ints_one zs) (by unfold maxLen; omega) (by omega) (by simp) ?_; intro v w3 hown hgrow; obtain ⟨sd, sc, g, rfl, rfl, hX⟩ := all_row hown hgrow; have HX := hid hX; have c3 : w3.cell? ⟨w.heap.size, 0, none⟩ = some (.int .u32 0) := cell_of_heap hX.1 rfl; have f3 : w3.frozen? ⟨w.heap.size, 0, none⟩ = false := frozen_of_heap hX.1; have c3' : (w3.alloc (.cells #[.int .u32 0] 32 (0, 0))).cell? ⟨w.heap.size, 0, none⟩ = some (.int .u32 0) := keepA c3; have f3' : (w3.alloc (.cells #[.int .u32 0] 32 (0, 0))).frozen? ⟨w.heap.size, 0, none⟩ = false := frozen_of_heap ((heap_alloc_old _ _ _ (lt_of_heap hX.1)).trans hX.1); clear hown hgrow hX) | (go_at_call 51; refine (pmay_any n _ _).mono ?_; rintro e w' ⟨rfl, hw⟩; subst w'; rw [hmay]) | (go_at_call 44; rw [HLE.out]; refine (ofRows_any n g sc (keep :: zs) _ HL21.out HX.out.2.2.1 HX.out.2.2.2).mono ?_; rintro e w4 ⟨rfl, hc4, hB4, hlt4⟩; have H4 := hid (And.intro hc4 (And.intro hB4 hlt4)); clear hc4 hB4 hlt4 c3 f3 c3' f3') | (go_at_call 25; rw [HLM.out]; refine (apart_any h F A _ _ ((keep :: zs).map fun z => (z, n)) _ (HA.out.below (belowCat HX.out.2.1 H4.out.2.1)) (by have := HL21.out; simpa using this) HZ2.out H4.out.2.2 H4.out.1).mono ?_; rintro e w5 ⟨r, rfl, hr, hB5⟩; have hB5' := belowCat (belowCat HX.out.2.1 H4.out.2.1) hB5; have hX5 := (hB5.block _ (Nat.lt_of_lt_of_le (lt_of_heap HX.out.1) H4.out.2.1.size)).trans ((H4.out.2.1.block _ (lt_of_heap HX.out.1)).trans HX.out.1); have H5 := hid (And.intro hX5 hB5'); have c5 : w5.cell? ⟨w.heap.size, 0, none⟩ = some (.int .u32 0) := cell_of_heap hX5 rfl; have f5 : w5.frozen? ⟨w.heap.size, 0, none⟩ = false := frozen_of_heap hX5; have c5' : (w5.alloc (.cells #[.int .u32 0] 32 (0, 0))).cell? ⟨w.heap.size, 0, none⟩ = some (.int .u32 0) := keepA c5; have f5' : (w5.alloc (.cells #[.int .u32 0] 32 (0, 0))).frozen? ⟨w.heap.size, 0, none⟩ = false := frozen_of_heap ((heap_alloc_old _ _ _ (lt_of_heap hX5)).trans hX5); clear hB5 hB5' hX5; obtain rfl : r = true := hr.2 HRF.out; clear hr) | (go_at_call 19; refine (ar_take_yes h F A n _ (HA.out.below H5.out.2) hct HES.out).mono ?_; rintro e w6 ⟨rfl, F6, a6, s6⟩; have s6' := (Step.ofBelow (F := F) H5.out.2).trans s6; have HS6 := hid s6'; have HX6 := hid (And.intro (s6.heap H5.out.1 HNF.out) (s6.out HNF.out (lt_of_heap H5.out.1))); have HA6 := hid a6; clear a6 s6 s6' c5 f5 c5' f5'))
  obtain ⟨rfl, rfl, hzz⟩ := HEQ.out
  clear hzz HEQ
  rw [HZL.out]
  have hN : N ≤ 49152 := by have := of_decide_eq_true hmay; omega
  have HL6 := hid (HLS.out.step HS6.out)
  have HEB := hid (show ∀ s, s ≤ stp N → (upTo (fun s => upTo (evMv N s (A.top :: ls)) N) s).length ≤ 49545216 from fun s hs => by
    have h0 : ∀ s, (upTo (evMv N s (A.top :: ls)) N).length ≤ 3096576 := fun s => by
      have h1 := up_le (evMv N s (A.top :: ls)) (3 * (ls.length + 1)) N N (fun i => evMv_le ..) (Nat.le_refl _)
      have h2 : N * (3 * (ls.length + 1)) ≤ 49152 * 63 := Nat.mul_le_mul hN (by have := HLL.out; omega)
      omega
    have h3 := up_le (fun s => upTo (evMv N s (A.top :: ls)) N) 3096576 s 16 h0 (by have := HSP.out.2; omega)
    omega)
  have HE1 := hid (show (upTo (evSf K A.top ls) N).length ≤ 2064384 by
    have h1 := up_le (evSf K A.top ls) (2 + 2 * ls.length) N N (fun i => Nat.le_of_eq (evSf_len ..)) (Nat.le_refl _)
    have h2 : N * (2 + 2 * ls.length) ≤ 49152 * 42 := Nat.mul_le_mul hN (by have := HLL.out; omega)
    omega)
  have HT1 := hid HTK.out.1
  have HT2 := hid HTK.out.2.1
  have HT3 := hid HTK.out.2.2
  have HB0 := hid (show A.take (N : Int) = A.take (N : Int) from rfl)
  obtain ⟨B0, hB0⟩ : ∃ B, A.take (N : Int) = B := ⟨_, rfl⟩
  rw [hB0] at HA6 HIN HT1 HT2 HT3
  have HB := hid hB0.symm
  clear hB0 HB0 HTK hct hmay H5 H4 HX HRF HZ2 HLM HLE HL21 HSRC HOW HL HZ
  obtain ⟨ways, hwy⟩ : ∃ y, A.top = y := ⟨_, rfl⟩
  rw [hwy] at HIN HPW HKT HPD HT3 HEB HE1 ⊢
  refine (sift_any h F6 B0 K ways N cap ad ls _ HA6.out hN HIN.out HPW.out HL6.out (by have := HLL.out; omega) (by have := HT2.out; omega)).mono ?_
  rintro e w7 ⟨rfl, F7, B1, a7, s7, wt1, sf1⟩
  rw [HT1.out] at sf1 ⊢
  have HG0 := hid (show Gone (fun i => A.word (K + i) % 2 == 1) N 0 (fun i => B1.word (ways + i)) (fun L i => B1.word (L + i)) (fun L i => A.word (L + i)) ls from sf1.gone)
  have HR0 := hid (show ∀ x, (∀ L ∈ ways :: ls, x < L ∨ L + N ≤ x) → B1.word x = A.word x from sf1.rest)
  have HVL := hid (rk_le (fun i => A.word (K + i) % 2 == 1) N)
  obtain ⟨b, hbe⟩ : ∃ b : Nat → Bool, (fun i => A.word (K + i) % 2 == 1) = b := ⟨_, rfl⟩
  have HBE := hid hbe
  rw [hbe] at HG0 HVL ⊢
  obtain ⟨V, hVe⟩ : ∃ V, rk b N = V := ⟨_, rfl⟩
  have HVE := hid hVe
  rw [hVe] at HVL ⊢
  have HW1 := hid wt1
  have s8 := s7.alloc (sb (V : Int))
  have HA8 := hid (a7.alloc (sb (V : Int)))
  have HS8 := hid (HS6.out.trans s8)
  have HX8 := hid (And.intro (s8.heap HX6.out.1 HX6.out.2) (s8.out HX6.out.2 (lt_of_heap HX6.out.1)))
  have HV8 := hid (And.intro (heap_alloc_at w7 (sb (V : Int))) (show ¬ F7 w7.heap.size from fun x => by have := a7.lt _ x; omega))
  have HWV := hid (show w.heap.size ≤ w7.heap.size from Nat.le_trans HS6.out.size s7.size)
  clear hbe hVe a7 s7 s8 wt1 sf1 HA6 HX6 HS6 HL6
  go_wp2_with (go_at_call 53; refine (steps_any N hN _).mono ?_; rintro e w' ⟨rfl, hw⟩; subst w')
  obtain ⟨z, hze⟩ : ∃ z, w7.heap.size = z := ⟨_, rfl⟩
  rw [hze] at HV8 HWV ⊢
  generalize w7.alloc (sb (V : Int)) = w8 at *
  clear hze
  have h16 : stp N ≤ 16 := HSP.out.2
  have HE2 := hid (show B1.es.length ≤ 202064385 by rw [HW1.out.es, List.length_append]; have := HT2.out; have := HE1.out; omega)
  have HT1' := hid (show B1.top = ways + N by rw [HW1.out.top]; exact HT3.out)
  obtain ⟨S, hSe⟩ : ∃ S, stp N = S := ⟨_, rfl⟩
  rw [hSe] at h16 HEB ⊢
  have HSE := hid hSe
  clear hSe
  go_loopw [50] (fun c wr => ∃ (s : Nat) (Fs : Nat → Prop) (As : Ars), s ≤ S ∧ c = .int .i64 (s : Int) ∧ Ar wr h Fs As ∧ Step w F wr Fs ∧ (wr.heap[w.heap.size]? = some (.cells #[.int .u32 0] 32 (0, 0)) ∧ ¬ Fs w.heap.size) ∧ (wr.heap[z]? = some (sb (V : Int)) ∧ ¬ Fs z) ∧ Went B1 As (upTo (fun s => upTo (evMv N s (ways :: ls)) N) s) ∧ Gone b N s (fun i => As.word (ways + i)) (fun L i => As.word (L + i)) (fun L i => A.word (L + i)) ls ∧ (∀ x, (∀ L ∈ ways :: ls, x < L ∨ L + N ≤ x) → As.word x = A.word x)) (fun c _ => S - (intOf c).toNat)
  case atStart => exact ⟨0, F7, B1, Nat.zero_le _, rfl, HA8.out, HS8.out, HX8.out, HV8.out, Went.refl _, HG0.out, HR0.out⟩
  case round =>
    clear HA8 HS8 HX8 HV8 HG0 HR0
    obtain ⟨s, Fs, As, hs, rfl, asx, ss, xs, vs, wts, gs, rs⟩ := hrel
    have HAS := hid asx
    have HSS := hid ss
    have HXS := hid xs
    have HVS := hid vs
    have HWS := hid wts
    have HGS := hid gs
    have HRS := hid rs
    have HTS := hid (show As.top = ways + N by rw [wts.top]; exact HT1'.out)
    have HES2 := hid (show As.es.length ≤ 251609601 by rw [wts.es, List.length_append]; have := HE2.out; have := HEB.out s hs; omega)
    clear asx ss xs vs wts gs rs
    by_cases hlt : s < S
    · have HIN2 := hid (show ∀ L ∈ ways :: ls, L + N ≤ As.top from fun L hL => by
        rw [HTS.out, ← HT3.out]; exact HIN.out L (List.mem_cons_of_mem _ hL))
      go_wp2_with fail
      refine (move_any h Fs As s ways N cap ad ls _ HAS.out (by omega) hN HIN2.out (List.pairwise_cons.1 HPW.out).2 (HLS.out.step HSS.out) (by have := HLL.out; omega) (by have := HES2.out; omega)).mono ?_
      rintro e w9 ⟨rfl, F9, A9, a9, s9, wt9, mv9⟩
      have A9' := hid a9
      have S9 := hid (HSS.out.trans s9)
      have X9 := hid (And.intro (s9.heap HXS.out.1 HXS.out.2) (s9.out HXS.out.2 (lt_of_heap HXS.out.1)))
      have V9 := hid (And.intro (s9.heap HVS.out.1 HVS.out.2) (s9.out HVS.out.2 (lt_of_heap HVS.out.1)))
      have W9 := hid (show Went B1 A9 (upTo (fun s => upTo (evMv N s (ways :: ls)) N) (s + 1)) by rw [upTo_succ]; exact HWS.out.trans wt9)
      have G9 := hid (mv9.gone HGS.out)
      have R9 := hid (show ∀ x, (∀ L ∈ ways :: ls, x < L ∨ L + N ≤ x) → A9.word x = A.word x from fun x hx => (mv9.rest x hx).trans (HRS.out x hx))
      clear a9 s9 wt9 mv9
      go_wp2
      go_roundw
      case rel => exact ⟨s + 1, F9, A9, by omega, by go_num, A9'.out, S9.out, X9.out, V9.out, W9.out, G9.out, R9.out⟩
      case measure => simp [intOf]; omega
    · have hse : s = S := by omega
      subst hse
      have kz : wr.cell? ⟨z, 0, none⟩ = some (.int .u32 (V : Int)) := cell_of_heap HVS.out.1 rfl
      have hVN : V ≤ N := HVL.out
      go_wp2_with fail
      refine (mark_any h Fs As K N V _ HAS.out hN (by have := HTS.out; have := HKT.out; omega) (by omega) (by have := HES2.out; omega)).mono ?_
      rintro e w9 ⟨rfl, F9, A9, a9, s9, wt9, mk9⟩
      have HA9 := hid a9
      have HS9 := hid (HSS.out.trans s9)
      have HX9 := hid (And.intro (s9.heap HXS.out.1 HXS.out.2) (s9.out HXS.out.2 (lt_of_heap HXS.out.1)))
      have HV9 := hid (And.intro (s9.heap HVS.out.1 HVS.out.2) (s9.out HVS.out.2 (lt_of_heap HVS.out.1)))
      have HW9 := hid wt9
      have HM9 := hid mk9
      have HT9 := hid (show A9.top = ways + N by rw [wt9.top]; exact HTS.out)
      have HE9 := hid (show A9.es.length ≤ 251658753 by rw [wt9.es, List.length_append, upTo_len _ N 1 (fun _ _ => rfl)]; have := HES2.out; omega)
      clear a9 s9 wt9 mk9 kz
      go_wp2_with fail
      refine (ar_give_yes h F9 A9 ways _ HA9.out (by have := HT9.out; omega) (by have := HT9.out; have := HE9.out; omega)).mono ?_
      rintro e w10 ⟨rfl, F10, a10, s10⟩
      have HA10 := hid a10
      have HS10 := hid (HS9.out.trans s10)
      have hx10 := s10.heap HX9.out.1 HX9.out.2
      have hv10 := s10.heap HV9.out.1 HV9.out.2
      have HX10 := hid (And.intro hx10 (s10.out HX9.out.2 (lt_of_heap HX9.out.1)))
      have kx : w10.cell? ⟨w.heap.size, 0, none⟩ = some (.int .u32 0) := cell_of_heap hx10 rfl
      have kf : w10.frozen? ⟨w.heap.size, 0, none⟩ = false := frozen_of_heap hx10
      have kv : w10.cell? ⟨z, 0, none⟩ = some (.int .u32 (V : Int)) := cell_of_heap hv10 rfl
      clear a10 s10 hx10 hv10
      have HPK := hid (show Packed A (A9.giveN ways) K N ls by
        have := HPD.out B0 B1 As A9 HB.out HW1.out (by rw [HSE.out]; exact HWS.out) (by rw [HT1.out, HBE.out, HSE.out]; exact HGS.out) HW9.out (by rw [HT1.out, HBE.out, HVE.out]; exact HM9.out) HRS.out
        exact this)
      go_wp2
      have hb9 := own_put (x := (V : Int)) HX10.out.1
      have d0 := cell_of_heap (i := 0) hb9 rfl
      exact bodyPost_ret (v := .tuple #[sec (V : Nat), .bool true]) (by simp only [results, Tryd.results28]; simp [go_sem, d0]) rfl ⟨by rw [HBE.out, HVE.out], F10, _, HA10.out.setOther _ _ HX10.out.2, HS10.out.setNew _ _ (Nat.le_refl _), HPK.out⟩
end Go.Proofs.YtjcnkigadlmpgaaDoor
