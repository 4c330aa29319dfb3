/- Contracts of package sortnet's addTo, count, Pairs and Count, over this seat's translation. Conditions: rows of at most some millions of pairs. -/
import Derived.Test.YtjdbofgjieljlaaSnA
import Derived.BigQuiet
import Derived.Deep.QuietTactic
namespace Go.Proofs.Ytjdbofgjieljlaa
open Go.RowKit

theorem Try.infoPair : (Try.prog.info? 78).map (fun i => (i.zero, i.size, i.bytes)) = some (some (.agg #[.int .i64 0, .int .i64 0]), 2, 16) := by kernel_rfl

def prcells : List (Nat × Nat) → List Value
  | [] => []
  | p :: l => .int .i64 p.1 :: .int .i64 p.2 :: prcells l
theorem prcells_snoc (l : List (Nat × Nat)) (p : Nat × Nat) : prcells (l ++ [p]) = prcells l ++ [.int .i64 p.1, .int .i64 p.2] := by
  induction l with
  | nil => rfl
  | cons x l ih => simp [prcells, ih]
theorem prcells_at (l : List (Nat × Nat)) (j : Nat) (h : j < l.length) : (prcells l)[j * 2]? = some (.int .i64 l[j].1) ∧ (prcells l)[j * 2 + 1]? = some (.int .i64 l[j].2) := by
  induction l generalizing j with
  | nil => simp at h
  | cons e l ih =>
    cases j with
    | zero => exact ⟨rfl, rfl⟩
    | succ j =>
      have := ih j (by simpa using h)
      have e1 : (j + 1) * 2 = j * 2 + 2 := by omega
      simp only [e1, prcells, List.getElem_cons_succ]
      exact this
theorem prs_len_le (s : Sw) (x : Nat) : (s.prs x).length ≤ x := by
  unfold Sw.prs Sw.lows
  rw [List.length_map]
  exact Nat.le_trans (List.length_filter_le _ _) (by simp)

/-- blocks of cells of another type than the pairs' are as they were -/
def KeepT (w w' : World) : Prop := ∀ (k : Nat) (cs : Array Value) (t : TypeId), w.heap[k]? = some (.cells cs t (0, 0)) → 78 ≠ t → w'.heap[k]? = some (.cells cs t (0, 0))
theorem KeepT.step {w w1 w2 : World} {o : Obj} {base size n : Nat} {v : Value} {xs : List Value} (h : KeepT w w1) (hown : w1.ownsRow base 78 size v n xs) (hg : (w1.alloc o).grownBy w2 v.ownBlock) : KeepT w w2 := fun k cs t hk hne => by
  have h1 := h k cs t hk hne
  have hlt := lt_of_heap h1
  rw [hg.block k (by simp; omega) (fun e => rowNe hown h1 hne e.symm), heap_alloc_old _ _ _ hlt]; exact h1
set_option maxHeartbeats 1600000 in
theorem addTo_any (s : Sw) (n : Nat) (g : s.good n) (hn : n ≤ 12288) (acc : List (Nat × Nat)) (ad : Option Addr) (cap base : Nat) (w : World) (hown : w.ownsRow base 78 2 (.slice ad acc.length cap) acc.length (prcells acc)) (hbase : base ≤ w.heap.size) (hlen : acc.length ≤ 3000000) :
    Calls Try.prog 79 #[.agg #[.int .i64 s.bit, .int .i64 (s.odd * s.bit : Nat), .int .i64 s.far, .int .i64 s.fin], .slice ad acc.length cap] w fun e w' => ∃ ad' cap', e = .returned (.slice ad' (acc ++ s.prs s.fin).length cap') ∧
      w'.ownsRow base 78 2 (.slice ad' (acc ++ s.prs s.fin).length cap') (acc ++ s.prs s.fin).length (prcells (acc ++ s.prs s.fin)) ∧ Below base w w' ∧ KeepT w w' := by
  obtain ⟨gb, go, gf, ge, gl, gs⟩ := g
  have HS0 := hid (Sw.prs_first s (min (s.odd * s.bit) s.fin) go (Nat.min_le_left _ _))
  have HY := hid (fun i h => Sw.prs_yes s i h)
  have HR := hid (fun m j h1 h2 => low_row s m j go h1 h2)
  have HG := hid (fun m j h1 h2 => low_gap s m j h1 h2)
  have HK := hid (fun a b h1 h2 => Sw.prs_skip s a b h1 h2)
  have HL := hid (fun x => prs_len_le s x)
  have hob : s.odd * s.bit ≤ s.bit := by
    have : s.odd * s.bit ≤ 1 * s.bit := Nat.mul_le_mul_right _ (by omega)
    omega
  have HX0 := hid (show s.odd * s.bit = (s.odd + 2 * 0) * s.bit by simp)
  obtain ⟨r, hr⟩ : ∃ r, s.odd * s.bit = r := ⟨_, rfl⟩
  rw [hr] at hob HX0 HS0 ⊢
  clear hr
  obtain ⟨b, hbe⟩ : ∃ b, s.bit = b := ⟨_, rfl⟩
  obtain ⟨f, hfe⟩ : ∃ f, s.far = f := ⟨_, rfl⟩
  obtain ⟨e, hee⟩ : ∃ e, s.fin = e := ⟨_, rfl⟩
  obtain ⟨o, hoe⟩ : ∃ o, s.odd = o := ⟨_, rfl⟩
  rw [hbe] at gb gs hob HR HG HX0 ⊢
  rw [hfe] at gf ge gl HY ⊢
  rw [hee] at ge HS0 ⊢
  rw [hoe] at go HR HG HX0
  clear hbe hfe hee hoe
  have hf1 : f ≤ 12288 := by omega
  have he1 : e ≤ 12288 := by omega
  have hbb : 0 < b ∧ b ≤ 8192 := ⟨gb, gs⟩
  have HOB := hid hob
  have HLN := hid hlen
  clear ge gl gf gs gb hn hob go hlen
  obtain ⟨gb, gs⟩ := hbb
  have HO := hid hown
  clear hown
  obtain ⟨i0, hi, hz0, hz1, hz2⟩ := info_parts Try.infoPair
  go_enter Try.func79, Try.ntmps79
  go_wp2_with fail
  go_loopw [1, 5] (fun pa fr wr => ∃ (m x : Nat) (sd : Option Addr) (sc : Nat), x ≤ e + 2 * b ∧ fr = .int .i64 (x : Int) ∧ Hid (x = (o + 2 * m) * b) ∧ pa = .slice sd (acc ++ s.prs (min x e)).length sc ∧
    wr.ownsRow base 78 2 (.slice sd (acc ++ s.prs (min x e)).length sc) (acc ++ s.prs (min x e)).length (prcells (acc ++ s.prs (min x e))) ∧ Below base w wr ∧ KeepT w wr ∧
    wr.heap[w.heap.size]? = some (.cells #[.int .i64 (b : Int), .int .i64 (r : Int), .int .i64 (f : Int), .int .i64 (e : Int)] 111 (0, 0))) (fun _ fr _ => e - (intOf fr).toNat)
  case atStart =>
    refine ⟨0, r, ad, cap, by have := HOB.out; omega, rfl, HX0, ?_, ?_, (Below.refl _ _).alloc hbase _, fun k cs t hk _ => by rw [heap_alloc_old _ _ _ (lt_of_heap hk)]; exact hk, heap_alloc_at _ _⟩
    · rw [HS0.out]; simp
    · rw [HS0.out]; simpa using HO.out.alloc _
  case round =>
    clear HS0 HX0 HO
    obtain ⟨m, x, sd, sc, hx, rfl, hxm, rfl, hown, hB, hKT, hbox⟩ := hrel
    have KT := hid hKT
    clear hKT
    have b0 := cell_of_heap (i := 0) hbox rfl
    have b2 := cell_of_heap (i := 2) hbox rfl
    have b3 := cell_of_heap (i := 3) hbox rfl
    have HX := hid hx
    have hx2 : x ≤ 40000 := by omega
    clear hx
    by_cases hlt : x < e
    · have HO := hid hown
      have HB := hid hB
      have HBX := hid hbox
      obtain ⟨wz, rfl⟩ : ∃ y, y = wr := ⟨_, rfl⟩
      clear hown hB hbox
      go_wp2_with fail
      go_loopw [1, 6] (fun pa c wr => ∃ (i : Nat) (sd : Option Addr) (sc : Nat), x ≤ i ∧ Hid (i ≤ min (x + b) e) ∧ c = .int .i64 (i : Int) ∧ pa = .slice sd (acc ++ s.prs i).length sc ∧
        wr.ownsRow base 78 2 (.slice sd (acc ++ s.prs i).length sc) (acc ++ s.prs i).length (prcells (acc ++ s.prs i)) ∧ Below base w wr ∧ KeepT w wr ∧
        wr.heap[w.heap.size]? = some (.cells #[.int .i64 (b : Int), .int .i64 (r : Int), .int .i64 (f : Int), .int .i64 (e : Int)] 111 (0, 0))) (fun _ c _ => e - (intOf c).toNat)
      case atStart =>
        have e1 : min x e = x := by omega
        refine ⟨x, sd, sc, Nat.le_refl _, by unfold Hid; omega, rfl, by rw [e1], by rw [← e1]; exact HO.out, HB.out, KT.out, HBX.out⟩
      case round =>
        clear HO HB HBX b0 b2 b3 KT
        obtain ⟨i, sd2, sc2, hxi, hie, rfl, rfl, hown, hB, hKT, hbox⟩ := hrel
        have KT := hid hKT
        clear hKT
        have b0 := cell_of_heap (i := 0) hbox rfl
        have b2 := cell_of_heap (i := 2) hbox rfl
        have b3 := cell_of_heap (i := 3) hbox rfl
        have hi2 : i ≤ 12288 := by have := hie.out; omega
        have HO := hid hown
        have HB := hid hB
        have HBX := hid hbox
        have HSZ := hid (show w.heap.size < wr.heap.size from lt_of_heap hbox)
        by_cases hin : i < x + b ∧ i < e
        · obtain ⟨h1, h2⟩ := hin
          have hmin : ((i : Int) < min ((x : Int) + b) e) := by omega
          have HI := hid (show s.prs (i + 1) = s.prs i ++ [(i, i + f)] from HY.out i (HR.out m i (by rw [← hxm.out]; exact hxi) (by rw [← hxm.out]; exact h1)))
          have hl3 : (acc ++ s.prs i).length ≤ 4000000 := by
            rw [List.length_append]; have := HL.out i; have := HLN.out; omega
          have HXX := hid (show prcells (acc ++ s.prs i) ++ [.int .i64 (i : Int), .int .i64 ((i : Int) + f)] = prcells (acc ++ s.prs (i + 1)) by
            rw [HI.out, ← List.append_assoc, prcells_snoc]; simp)
          have HLL := hid (show (acc ++ s.prs i).length + 1 = (acc ++ s.prs (i + 1)).length by rw [HI.out]; simp; omega)
          clear hown hB hbox
          generalize hq : (acc ++ s.prs i).length = q at *
          go_wp2_with (at_builtin; refine wpList_append_own _ rfl (.tmp 30) (.tmp 37) 75 rfl base 78 i0 _ 2 16 Try.underlying75 hi hz0 hz1 hz2 rfl (by decide) _ q (prcells (acc ++ s.prs i)) rfl (HO.out.alloc _) ⟨wr.heap.size, 0, none⟩ 1 1 [.int .i64 (i : Int), .int .i64 ((i : Int) + f)] rfl rfl (World.news_of_block (heap_alloc_at _ _)) (by intro u hu; simp at hu; rcases hu with rfl | rfl <;> rfl) (by unfold maxLen; omega) (by omega) (by have := HB.out.size; simp; omega) ?_; intro v' w6 hown' hgrow _; obtain ⟨sd', sc', rfl⟩ := owns_shape hown'; have HO5 := hid hown'; have HG5 := hid hgrow; clear hown' hgrow)
          go_roundw
          case rel =>
            have h5 := HO5.out
            rw [HXX.out, HLL.out] at h5
            refine ⟨i + 1, sd', sc', by omega, by unfold Hid; omega, by go_num, by rw [← HLL.out], h5, (HB.out.alloc (by have := HB.out.size; omega) _).grown HG5.out (by have := HB.out.size; simp; omega) (fun k hk => (HO.out.lt k hk).1), KT.out.step HO.out HG5.out, ?_⟩
            rw [HG5.out.block _ (by have := HSZ.out; simp; omega) (fun e => rowNe HO.out HBX.out (by decide) e.symm), heap_alloc_old _ _ _ HSZ.out]; exact HBX.out
          case measure => simp [intOf]; omega
        · have hmin : ¬ ((i : Int) < min ((x : Int) + b) e) := by omega
          have HI := hid (show s.prs (min (x + 2 * b) e) = s.prs i from HK.out i (min (x + 2 * b) e) (by have := hie.out; omega) (fun j h1 h2 => HG.out m j (by rw [← hxm.out]; omega) (by rw [← hxm.out]; omega)))
          have HM := hid (show x + 2 * b = (o + 2 * (m + 1)) * b by rw [hxm.out, show o + 2 * (m + 1) = o + 2 * m + 2 by omega, Nat.add_mul (o + 2 * m)])
          clear hown hB hbox
          generalize hq : (acc ++ s.prs i).length = q at *
          go_wp2
          go_roundw
          case rel =>
            refine ⟨m + 1, x + 2 * b, sd2, sc2, by have := HX.out; omega, by go_num, HM, by rw [HI.out, hq], by rw [HI.out, hq]; exact HO.out, HB.out, KT.out, HBX.out⟩
          case measure => simp [intOf]; omega
    · have HE := hid (show min x e = e by omega)
      have HO := hid hown
      have HB := hid hB
      clear hown hB hbox
      go_wp2
      go_ret
      refine ⟨sd, sc, by rw [HE.out]; rfl, by rw [← HE.out]; exact HO.out, HB.out, KT.out⟩

theorem tdiv_nat (a b : Nat) : Int.tdiv (a : Int) (b : Int) = ((a / b : Nat) : Int) := rfl
theorem tmod_nat (a b : Nat) : Int.tmod (a : Int) (b : Int) = ((a % b : Nat) : Int) := rfl
theorem w64 {x : Int} (h0 : 0 ≤ x) (h1 : x ≤ 1000000000) : wrap64 x = x := by unfold wrap64; omega
theorem w64n {x : Int} (h0 : -1000000000 ≤ x) (h1 : x ≤ 1000000000) : wrap64 x = x := by unfold wrap64; omega
theorem ediv_at (e b Q : Nat) (hQ : e / (2 * b) = Q) : (e : Int) / (2 * (b : Int)) = (Q : Int) := by
  rw [← hQ, Int.natCast_ediv]; simp
theorem emod_at (e b Q : Nat) (hQ : e % (2 * b) = Q) : (e : Int) % (2 * (b : Int)) = (Q : Int) := by
  rw [← hQ, Int.natCast_emod]; simp
theorem cnt_val (e b r Q R : Nat) (hQ : e / (2 * b) = Q) (hR : e % (2 * b) = R) (h1 : Q * b ≤ 12288) (h2 : Q ≤ 12288) (h3 : R < 2 * b) (h4 : b ≤ 8192) (h5 : r ≤ b) :
    wrap64 (wrap64 (wrap64 ((e : Int) / (2 * (b : Int))) * (b : Int)) + min (max (wrap64 ((e : Int) % (2 * (b : Int)) - (r : Int))) 0) (b : Int)) = ((Q * b + min (R - r) b : Nat) : Int) := by
  rw [ediv_at e b Q hQ, emod_at e b R hR]
  clear hQ hR
  have a4 : (Q : Int) * (b : Int) = ((Q * b : Nat) : Int) := by simp
  rw [w64 (x := (Q : Int)) (by omega) (by omega), a4]
  generalize Q * b = X at *
  rw [w64 (x := (X : Int)) (by omega) (by omega), w64n (x := (R : Int) - (r : Int)) (by omega) (by omega)]
  have a7 : min (max ((R : Int) - (r : Int)) 0) (b : Int) = ((min (R - r) b : Nat) : Int) := by omega
  have a8 : min (R - r) b ≤ 8192 := by omega
  rw [a7, w64 (by omega) (by omega)]
  omega
set_option maxHeartbeats 1600000 in
theorem swcount_any (s : Sw) (n : Nat) (g : s.good n) (hn : n ≤ 12288) (w : World) :
    Calls Try.prog 81 #[.agg #[.int .i64 s.bit, .int .i64 (s.odd * s.bit : Nat), .int .i64 s.far, .int .i64 s.fin]] w fun e w' => e = .returned (.int .i64 s.cnt) ∧ Below w.heap.size w w' := by
  obtain ⟨gb, go, gf, ge, gl, gs⟩ := g
  have HC := hid (show s.cnt = s.fin / (2 * s.bit) * s.bit + min (s.fin % (2 * s.bit) - s.odd * s.bit) s.bit from rfl)
  have hob : s.odd * s.bit ≤ s.bit := by
    have : s.odd * s.bit ≤ 1 * s.bit := Nat.mul_le_mul_right _ (by omega)
    omega
  have hq0 : s.fin / (2 * s.bit) * s.bit ≤ 12288 := by
    have := Nat.div_mul_le_self s.fin (2 * s.bit)
    rw [Nat.mul_comm 2, ← Nat.mul_assoc] at this; rw [Nat.mul_comm 2]; omega
  have hr0 : s.fin % (2 * s.bit) < 2 * s.bit := Nat.mod_lt _ (by omega)
  have hq1 : s.fin / (2 * s.bit) ≤ 12288 := Nat.le_trans (Nat.div_le_self _ _) (by omega)
  have he1 : s.fin ≤ 12288 := by omega
  have hf1 : s.far ≤ 12288 := by omega
  have hd := tdiv_nat s.fin (2 * s.bit)
  have hm := tmod_nat s.fin (2 * s.bit)
  obtain ⟨r, hr⟩ : ∃ r, s.odd * s.bit = r := ⟨_, rfl⟩
  obtain ⟨b, hbe⟩ : ∃ b, s.bit = b := ⟨_, rfl⟩
  obtain ⟨f, hfe⟩ : ∃ f, s.far = f := ⟨_, rfl⟩
  obtain ⟨e, hee⟩ : ∃ e, s.fin = e := ⟨_, rfl⟩
  rw [hr] at hob HC ⊢
  rw [hbe] at gb gs hob HC hq0 hr0 hq1 hd hm ⊢
  rw [hfe] at hf1 ⊢
  rw [hee] at he1 HC hq0 hr0 hq1 hd hm ⊢
  clear hr hbe hfe hee ge gl gf go hn
  go_enter Try.func81, Try.ntmps81
  go_wp2_with fail
  go_quiet (fail)
  go_wp2
  go_ret
  exact ⟨retI (by rw [HC.out]; exact cnt_val e b r _ _ rfl rfl hq0 hq1 hr0 gs hob), belowDN ((Below.refl _ w).alloc (Nat.le_refl _) _) _⟩

theorem sw_split (l : List Sw) (k : Nat) (h : k < l.length) : l.take (k + 1) = l.take k ++ [l[k]] := List.take_succ_eq_append_getElem h
def cntK (l : List Sw) (k : Nat) : Nat := ((l.take k).map Sw.cnt).sum
theorem cntK_succ (l : List Sw) (k : Nat) (h : k < l.length) : cntK l (k + 1) = cntK l k + l[k].cnt := by
  unfold cntK; rw [sw_split l k h, List.map_append, List.sum_append]; simp
theorem cntK_le (n k : Nat) : cntK (swsOf n) k ≤ cntOf n := by
  unfold cntK cntOf
  conv => rhs; rw [← List.take_append_drop k (swsOf n)]
  rw [List.map_append, List.sum_append]; omega
def netK (l : List Sw) (k : Nat) : List (Nat × Nat) := (l.take k).flatMap fun s => s.prs s.fin
theorem netK_succ (l : List Sw) (k : Nat) (h : k < l.length) : netK l (k + 1) = netK l k ++ l[k].prs l[k].fin := by
  unfold netK; rw [sw_split l k h, List.flatMap_append]; simp
theorem netK_le (n k : Nat) : (netK (swsOf n) k).length ≤ 2408448 := by
  have h1 := net_len n
  have h2 := cnt_small n
  unfold netOf at h1
  rw [← List.take_append_drop k (swsOf n), List.flatMap_append, List.length_append] at h1
  unfold netK; omega

set_option maxHeartbeats 1600000 in
theorem count_net (z : Int) (w : World) :
    Calls Try.prog 50 #[.int .i64 z] w fun e w' => e = .returned (.int .i64 (cntOf z.toNat)) ∧ Below w.heap.size w w' := by
  have HG := hid (sws_good z.toNat)
  have HN := hid (show swsOf z.toNat ≠ [] → z.toNat ≤ 12288 by
    intro h; unfold swsOf at h; split at h
    · exact absurd rfl h
    · omega)
  have HCL := hid (fun k => cntK_le z.toNat k)
  have HCS := hid (cnt_small z.toNat)
  have HCE := hid (show cntOf z.toNat = cntK (swsOf z.toNat) (swsOf z.toNat).length by unfold cntK cntOf; rw [List.take_length])
  have HSL := hid (sws_len z.toNat)
  have HSW := hid (fun w => sweeps_any z w)
  obtain ⟨C, hC⟩ : ∃ C, cntOf z.toNat = C := ⟨_, rfl⟩
  obtain ⟨N, hN⟩ : ∃ N, z.toNat = N := ⟨_, rfl⟩
  rw [hC] at HCL HCS HCE ⊢
  clear hC
  rw [hN] at HG HN HCL HCE HSL HSW
  clear hN
  obtain ⟨l, hl⟩ : ∃ l, swsOf N = l := ⟨_, rfl⟩
  rw [hl] at HG HN HCL HCE HSL HSW
  clear hl
  go_enter Try.func50, Try.ntmps50
  go_wp2_with fail
  refine (HSW.out _).mono ?_
  rintro e w1 ⟨ad, cap, rfl, hown, hB⟩
  have HO := hid hown
  have HB := hid hB
  have hsl : l.length ≤ 196 := HSL.out
  clear hown hB
  go_wp2_with fail
  go_loopw [3, 9] (fun c i wr => ∃ k : Nat, k ≤ l.length ∧ i = .int .i64 (k : Int) ∧ c = .int .i64 (cntK l k : Nat) ∧ Below w1.heap.size w1 wr) (fun _ i _ => l.length - (intOf i).toNat)
  case atStart => exact ⟨0, Nat.zero_le _, rfl, by simp [cntK], Below.refl _ _⟩
  case round =>
    obtain ⟨k, hk, rfl, rfl, hBr⟩ := hrel
    by_cases hlt : k < l.length
    · have good := HG.out l[k] (List.getElem_mem hlt)
      have hN : N ≤ 12288 := HN.out (by intro h; rw [h] at hlt; simp at hlt)
      have HC1 := hid (cntK_succ l k hlt)
      have hle : cntK l k + l[k].cnt ≤ 2408448 := by rw [← HC1.out]; exact Nat.le_trans (HCL.out _) HCS.out
      obtain ⟨gg, rfl, hgb, hgl, hcell⟩ := owns_cell HO.out (by omega)
      obtain ⟨c0, c1, c2, c3⟩ := swcells_at l k hlt
      replace c0 := cell_below hBr (hcell _ _ c0) hgl
      replace c1 := cell_below hBr (hcell _ _ c1) hgl
      replace c2 := cell_below hBr (hcell _ _ c2) hgl
      replace c3 := cell_below hBr (hcell _ _ c3) hgl
      have HS := hid (fun w => swcount_any l[k] N good hN w)
      generalize l[k] = s at *
      have HBr := hid hBr
      clear hcell hBr good
      obtain ⟨r, hr⟩ : ∃ r, s.odd * s.bit = r := ⟨_, rfl⟩
      rw [hr] at c1 HS
      clear hr
      obtain ⟨A, hA⟩ : ∃ A, cntK l k = A := ⟨_, rfl⟩
      rw [hA] at hle HC1 ⊢
      clear hA
      go_wp2_with fail
      refine (HS.out _).mono ?_
      rintro e w2 ⟨rfl, hB2⟩
      have HB2 := hid hB2
      clear hB2
      go_wp2
      go_roundw
      case rel => exact ⟨k + 1, by omega, by go_num, by rw [HC1.out]; go_num, HBr.out.trans (((Below.refl _ wr).alloc (Nat.le_refl _) _ |>.trans (HB2.out.mono (by simp))).mono HBr.out.size)⟩
      case measure => simp [intOf]; omega
    · have e : k = l.length := by omega
      subst e
      have HBr := hid hBr
      clear hBr
      go_wp2
      go_ret
      exact ⟨by rw [HCE.out]; rfl, HB.out.trans (HBr.out.mono HB.out.size)⟩

set_option maxHeartbeats 1600000 in
theorem pairs_net (z : Int) (w : World) :
    Calls Try.prog 48 #[.int .i64 z] w fun e w' => ∃ ad cap, e = .returned (.slice ad (netOf z.toNat).length cap) ∧ w'.ownsRow w.heap.size 78 2 (.slice ad (netOf z.toNat).length cap) (netOf z.toNat).length (prcells (netOf z.toNat)) ∧ Below w.heap.size w w' := by
  have HG := hid (sws_good z.toNat)
  have HN := hid (show swsOf z.toNat ≠ [] → z.toNat ≤ 12288 by
    intro h; unfold swsOf at h; split at h
    · exact absurd rfl h
    · omega)
  have HCS := hid (cnt_small z.toNat)
  have HNE := hid (show netOf z.toNat = netK (swsOf z.toNat) (swsOf z.toNat).length by unfold netK netOf; rw [List.take_length])
  have HNL := hid (fun k => netK_le z.toNat k)
  have HSL := hid (sws_len z.toNat)
  have HSW := hid (fun w => sweeps_any z w)
  have HCN := hid (fun w => count_net z w)
  obtain ⟨C, hC⟩ : ∃ C, cntOf z.toNat = C := ⟨_, rfl⟩
  obtain ⟨N, hN⟩ : ∃ N, z.toNat = N := ⟨_, rfl⟩
  rw [hC] at HCN HCS
  clear hC
  rw [hN] at HG HN HNE HNL HSL HSW ⊢
  clear hN
  obtain ⟨P, hP⟩ : ∃ P, netOf N = P := ⟨_, rfl⟩
  rw [hP] at HNE ⊢
  clear hP
  obtain ⟨l, hl⟩ : ∃ l, swsOf N = l := ⟨_, rfl⟩
  rw [hl] at HG HN HNE HNL HSL HSW
  clear hl
  have hC : C ≤ 2408448 := HCS.out
  obtain ⟨i0, hi, hz0, hz1, hz2⟩ := info_parts Try.infoPair
  go_enter Try.func48, Try.ntmps48
  go_wp2_with fail
  refine (HCN.out _).mono ?_
  rintro e w1 ⟨rfl, hB1⟩
  have HB1 := hid hB1
  clear hB1
  go_wp2_with (at_make; refine wpList_make_own _ rfl _ _ 75 rfl w.heap.size 78 i0 _ 2 Try.underlying75 hi hz0 hz1 .i64 .i64 _ C rfl rfl rfl (by rw [hz2]; omega) (by unfold maxLen; omega) HB1.out.size ?_; intro w2 hown hgrow; have HO := hid hown; have HG2 := hid hgrow; clear hown hgrow)
  refine (HSW.out _).mono ?_
  rintro e w3 ⟨ad, cap, rfl, hown, hB⟩
  have HO3 := hid hown
  have HB3 := hid hB
  have hsl : l.length ≤ 196 := HSL.out
  have HBw := hid (show Below w.heap.size w w3 from (HB1.out.grown HG2.out HB1.out.size (fun k e => by cases e)).trans (HB3.out.mono (Nat.le_trans HB1.out.size HG2.out.size)))
  have HOp := hid (owns_below HO.out HB3.out)
  clear hown hB
  go_wp2_with fail
  go_loopw [3, 12] (fun pa i wr => ∃ (k : Nat) (sd : Option Addr) (sc : Nat), k ≤ l.length ∧ i = .int .i64 (k : Int) ∧ pa = .slice sd (netK l k).length sc ∧
    wr.ownsRow w.heap.size 78 2 (.slice sd (netK l k).length sc) (netK l k).length (prcells (netK l k)) ∧ Below w.heap.size w wr ∧ KeepT w3 wr) (fun _ i _ => l.length - (intOf i).toNat)
  case atStart => exact ⟨0, some ⟨w1.heap.size, 0, none⟩, C, Nat.zero_le _, rfl, rfl, HOp.out, HBw.out, fun _ _ _ h _ => h⟩
  case round =>
    obtain ⟨k, sd, sc, hk, rfl, rfl, hown, hBr, hKT⟩ := hrel
    have HO5 := hid hown
    have HBr := hid hBr
    have KT := hid hKT
    clear hown hBr hKT HO HOp
    by_cases hlt : k < l.length
    · have good := HG.out l[k] (List.getElem_mem hlt)
      have hN : N ≤ 12288 := HN.out (by intro h; rw [h] at hlt; simp at hlt)
      have HC1 := hid (netK_succ l k hlt)
      have HLE := hid (show (netK l k).length ≤ 3000000 from Nat.le_trans (HNL.out k) (by decide))
      obtain ⟨gg, rfl, hgb, hgl, hcell⟩ := owns_cell HO3.out (by omega)
      obtain ⟨csr, hblk⟩ := rowB HO3.out (x := gg) rfl
      have hblk2 := KT.out gg csr _ hblk (by decide)
      obtain ⟨c0, c1, c2, c3⟩ := swcells_at l k hlt
      have keep : ∀ {a : Addr} {u : Value}, a.block = gg → w3.cell? a = some u → wr.cell? a = some u := fun {a u} h1 h2 => (World.cell?_of_block (by rw [h1, hblk2, hblk])).trans h2
      replace c0 := keep rfl (hcell _ _ c0)
      replace c1 := keep rfl (hcell _ _ c1)
      replace c2 := keep rfl (hcell _ _ c2)
      replace c3 := keep rfl (hcell _ _ c3)
      have HS := hid (fun (acc : List (Nat × Nat)) (ad : Option Addr) (cap base : Nat) (w : World) h1 h2 h3 => addTo_any l[k] N good hN acc ad cap base w h1 h2 h3)
      generalize l[k] = s at *
      clear hcell good keep hblk hblk2
      obtain ⟨r, hr⟩ : ∃ r, s.odd * s.bit = r := ⟨_, rfl⟩
      rw [hr] at c1 HS
      clear hr
      generalize netK l k = acc at *
      go_wp2_with fail
      refine (HS.out acc sd sc w.heap.size _ (HO5.out.alloc _) (by have := HBr.out.size; simp; omega) HLE.out).mono ?_
      rintro e w5 ⟨sd', sc', rfl, hown, hB5, hK5⟩
      have H6 := hid hown
      have H7 := hid hB5
      have H8 := hid hK5
      clear hown hB5 hK5
      have HL := hid (show (acc ++ s.prs s.fin) = netK l (k + 1) from HC1.out.symm)
      have h6 := H6.out
      rw [HL.out] at h6 ⊢
      have H9 := hid h6
      clear h6
      go_wp2
      go_roundw
      case rel => exact ⟨k + 1, sd', sc', by omega, by go_num, rfl, H9.out, HBr.out.trans (((Below.refl _ wr).alloc (HBr.out.size) _).trans H7.out), fun i cs t h1 h2 => H8.out i cs t (by rw [heap_alloc_old _ _ _ (lt_of_heap (KT.out i cs t h1 h2))]; exact KT.out i cs t h1 h2) h2⟩
      case measure => simp [intOf]; omega
    · have e : k = l.length := by omega
      subst e
      go_wp2
      go_ret
      rw [HNE.out]
      exact ⟨sd, sc, rfl, HO5.out, HBr.out⟩
end Go.Proofs.Ytjdbofgjieljlaa
