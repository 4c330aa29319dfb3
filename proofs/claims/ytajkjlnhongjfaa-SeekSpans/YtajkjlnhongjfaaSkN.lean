/- The law SeekSpans returns true at all lists of runs, as they are read. -/
import Derived.Test.YtajkjlnhongjfaaSkM
import Derived.Test.YtajkjlnhongjfaaSkI
namespace Go.Proofs.Ytajkjlnhongjfaa
open Go.RowKit

def spc (l : List Rn) : List Value := l.flatMap fun r => [.int .u32 (r.s.f : Int), .int .u32 (r.s.l : Int)]
def wtc (l : List Rn) : List Value := l.flatMap fun r => [.int .u32 (r.s.f : Int), .int .u32 (r.s.l : Int), .int .u32 (r.t : Int)]
theorem spc_snoc (l : List Rn) (r : Rn) : spc (l ++ [r]) = spc l ++ [.int .u32 (r.s.f : Int), .int .u32 (r.s.l : Int)] := by simp [spc]
theorem wtc_snoc (l : List Rn) (r : Rn) : wtc (l ++ [r]) = wtc l ++ [.int .u32 (r.s.f : Int), .int .u32 (r.s.l : Int), .int .u32 (r.t : Int)] := by simp [wtc]
theorem spc_at (l : List Rn) (j : Nat) (h : j < l.length) : (spc l)[j * 2]? = some (.int .u32 (l[j].s.f : Int)) ∧ (spc l)[j * 2 + 1]? = some (.int .u32 (l[j].s.l : Int)) := by
  induction l generalizing j with
  | nil => simp at h
  | cons r l ih =>
    cases j with
    | zero => simp [spc]
    | succ j =>
      have := ih j (by simpa using h)
      have e : (j + 1) * 2 = j * 2 + 2 := by omega
      have e2 : (j + 1) * 2 + 1 = j * 2 + 1 + 2 := by omega
      rw [e2, e]
      simpa [spc] using this
theorem wtc_at (l : List Rn) (j : Nat) (h : j < l.length) : (wtc l)[j * 3]? = some (.int .u32 (l[j].s.f : Int)) ∧ (wtc l)[j * 3 + 1]? = some (.int .u32 (l[j].s.l : Int)) ∧ (wtc l)[j * 3 + 2]? = some (.int .u32 (l[j].t : Int)) := by
  induction l generalizing j with
  | nil => simp at h
  | cons r l ih =>
    cases j with
    | zero => simp [wtc]
    | succ j =>
      have := ih j (by simpa using h)
      have e : (j + 1) * 3 = j * 3 + 3 := by omega
      have e2 : (j + 1) * 3 + 1 = j * 3 + 1 + 3 := by omega
      have e3 : (j + 1) * 3 + 2 = j * 3 + 2 + 3 := by omega
      rw [e3, e2, e]
      simpa [wtc] using this
theorem sps_of {w : World} {base : Nat} {ad : Option Addr} {cap : Nat} {l : List Rn} {n : Nat} (hn : l.length = n) (hl : ∀ r ∈ l, r.ok) (h : w.ownsRow base 44 2 (.slice ad n cap) n (spc l)) : SpsAt w ad (l.map (·.s)) := by
  subst hn
  refine ⟨fun s hs => ?_, fun k hk => ?_⟩
  · obtain ⟨r, hr, rfl⟩ := List.mem_map.1 hs
    exact (hl r hr).1
  · have hk' : k < l.length := by simpa using hk
    obtain ⟨g, rfl, _, _, hc⟩ := owns_cell h (by omega)
    refine ⟨_, rfl, ?_⟩
    rw [add_plain, List.getElem_map]
    exact ⟨hc _ _ (spc_at l k hk').1, hc _ _ (spc_at l k hk').2⟩
theorem rns_of {w : World} {base : Nat} {ad : Option Addr} {cap : Nat} {l : List Rn} {n : Nat} (hn : l.length = n) (hl : ∀ r ∈ l, r.ok) (h : w.ownsRow base 48 3 (.slice ad n cap) n (wtc l)) : RnsAt w ad l := by
  subst hn
  refine ⟨hl, fun k hk => ?_⟩
  obtain ⟨g, rfl, _, _, hc⟩ := owns_cell h (by omega)
  refine ⟨_, rfl, ?_⟩
  rw [add_plain]
  exact ⟨hc _ _ (wtc_at l k hk).1, hc _ _ (wtc_at l k hk).2.1, hc _ _ (wtc_at l k hk).2.2⟩
theorem Try.infoSpan : (Try.prog.info? 44).map (fun i => (i.zero, i.size, i.bytes)) = some (some (.agg #[.int .u32 0, .int .u32 0]), 2, 8) := by kernel_rfl
theorem Try.infoWeight : (Try.prog.info? 48).map (fun i => (i.zero, i.size, i.bytes)) = some (some (.agg #[.int .u32 0, .int .u32 0, .int .u32 0]), 3, 12) := by kernel_rfl

set_option maxHeartbeats 3200000 in
theorem spans_core (ad : Option Addr) (cap x : Nat) (l : List Rn) (w : World) (hl : RnsAt w ad l) (hx : x < 4294967296) (hn : l.length ≤ 60) :
    Calls Try.prog 4 #[.slice ad l.length cap, u32 x] w fun e w' => e = .returned (.bool true) ∧ Below w.heap.size w w' := by
  have HL := hid hl
  have hn' : ¬ (60 : Int) < (l.length : Int) := by omega
  clear hl
  go_enter Try.func4, Try.ntmps4
  go_wp2_with fail
  refine (awake6_any _).mono ?_
  rintro e w1 ⟨rfl, hB1⟩
  have HB1 := hid hB1
  clear hB1
  go_wp2_with fail
  go_loopw [5, 6, 20] (fun s t c wr => ∃ (k : Nat) (ds : Option Addr) (cs : Nat) (dt : Option Addr) (ct : Nat), k ≤ l.length ∧ s = .slice ds k cs ∧ t = .slice dt k ct ∧ c = .int .i64 (k : Int) ∧ wr.ownsRow w1.heap.size 44 2 (.slice ds k cs) k (spc (l.take k)) ∧ wr.ownsRow w1.heap.size 48 3 (.slice dt k ct) k (wtc (l.take k)) ∧ Below w1.heap.size w1 wr) (fun _ _ c _ => l.length - (intOf c).toNat)
  case atStart => exact ⟨0, none, 0, none, 0, Nat.zero_le _, rfl, rfl, rfl, World.ownsRow_nil _ _ _ _, World.ownsRow_nil _ _ _ _, Below.refl _ _⟩
  case round =>
    obtain ⟨k, ds, cs, dt, ct, hk, rfl, rfl, rfl, hos, how, hB⟩ := hrel
    by_cases hlt : k < l.length
    · obtain ⟨y, rfl, hp⟩ := (HL.out.below (belowCat HB1.out hB)).2 k hlt
      have HTK := hid (show l.take (k + 1) = l.take k ++ [l[k]] from List.take_succ_eq_append_getElem hlt)
      obtain ⟨r, hre⟩ : ∃ r, l[k] = r := ⟨_, rfl⟩
      rw [hre] at hp HTK
      obtain ⟨c0, c1, c2⟩ := hp
      have HOS := hid hos
      have HOW := hid how
      have HB := hid hB
      obtain ⟨i0, hi, hz0, hz1, hz2⟩ := info_parts Try.infoSpan
      obtain ⟨j0, hj, hy0, hy1, hy2⟩ := info_parts Try.infoWeight
      clear hos how hB hre
      have HS1 := hid (show ((wr.alloc (rnO r)).alloc (spO r.s)).ownsRow w1.heap.size 44 2 (.slice ds k cs) k (spc (l.take k)) from (HOS.out.alloc _).alloc _)
      have HN1 := hid (show ∀ i u, [Value.int .u32 (r.s.f : Int), .int .u32 (r.s.l : Int)][i]? = some u → ((wr.alloc (rnO r)).alloc (spO r.s)).cell? ((⟨wr.heap.size + 1, 0, none⟩ : Addr).add i) = some u from World.news_of_block (show ((wr.alloc (rnO r)).alloc (spO r.s)).heap[wr.heap.size + 1]? = _ from (by simp only [hp_get, World.size_alloc]; repeat (first | rw [if_pos trivial] | rw [if_pos rfl] | rw [if_neg (by omega)]))))
      have HK1 := hid (show w1.heap.size ≤ wr.heap.size from HB.out.size)
      have HO1 := hid (show ∀ g, (Value.slice ds k cs).ownBlock = some g → w1.heap.size ≤ g ∧ g < wr.heap.size from fun g hg => HOS.out.lt g hg)
      have HO2 := hid (show ∀ g, (Value.slice dt k ct).ownBlock = some g → w1.heap.size ≤ g ∧ g < wr.heap.size from fun g hg => HOW.out.lt g hg)
      have HNE := hid (show ∀ g, (Value.slice ds k cs).ownBlock = some g → (Value.slice dt k ct).ownBlock ≠ some g from fun g hg => by
        obtain ⟨cs', hcs⟩ := rowB HOS.out hg
        exact rowNe HOW.out hcs (by decide))
      go_wp2_with (first
        | (at_builtin; have hS2 := HS2.out; refine wpList_append_own _ rfl (.tmp 29) (.tmp 35) 42 rfl w1.heap.size 48 j0 _ 3 12 Try.underlying42 hj hy0 hy1 hy2 rfl (by decide) (.slice dt k ct) k (wtc (l.take k)) rfl hS2 ⟨w5.heap.size, 0, none⟩ 1 1 [.int .u32 (r.s.f : Int), .int .u32 (r.s.l : Int), .int .u32 (r.t : Int)] rfl rfl (World.news_of_block (heap_alloc_at _ _)) (by intro u hu; simp at hu; rcases hu with rfl | rfl | rfl <;> rfl) (by unfold maxLen; omega) (by omega) (by have := HK5.out; simp; omega) ?_; intro s6 w6 hown6 hgrow6 _; obtain ⟨dt', ct', rfl⟩ := owns_shape hown6; have HW6 := hid hown6; have HG6 := hid hgrow6; clear hown6 hgrow6 hS2 q0 q1 q2)
        | (at_builtin; refine wpList_append_own _ rfl (.tmp 24) (.tmp 27) 41 rfl w1.heap.size 44 i0 _ 2 8 Try.underlying41 hi hz0 hz1 hz2 rfl (by decide) (.slice ds k cs) k (spc (l.take k)) rfl HS1.out ⟨wr.heap.size + 1, 0, none⟩ 1 1 [.int .u32 (r.s.f : Int), .int .u32 (r.s.l : Int)] rfl rfl HN1.out (by intro u hu; simp at hu; rcases hu with rfl | rfl <;> rfl) (by unfold maxLen; omega) (by omega) (by have := HK1.out; simp; omega) ?_; intro s' w5 hown hgrow _; obtain ⟨ds', cs', rfl⟩ := owns_shape hown; have HW5 := hid hown; have HG5 := hid hgrow; have hb5 : w5.heap[wr.heap.size]? = some (rnO r) := (hgrow.block wr.heap.size (by simp; omega) (fun e => by have := (HO1.out _ e.symm).2; omega)).trans (show ((wr.alloc (rnO r)).alloc (spO r.s)).heap[wr.heap.size]? = some (rnO r) from (by simp only [hp_get, World.size_alloc]; repeat (first | rw [if_pos trivial] | rw [if_pos rfl] | rw [if_neg (by omega)]))); have q0 := (cell_wt hb5).1; have q1 := (cell_wt hb5).2.1; have q2 := (cell_wt hb5).2.2; have HK5 := hid (show w1.heap.size ≤ w5.heap.size from Nat.le_trans HK1.out (Nat.le_trans (by simp; omega) hgrow.size)); have HS2 := hid (show (w5.alloc (wtO r)).ownsRow w1.heap.size 48 3 (.slice dt k ct) k (wtc (l.take k)) from (owns_of_blocks HOW.out (fun q hq => (hgrow.block q (by have := (HO2.out q hq).2; simp; omega) (fun e => HNE.out q e.symm hq)).trans ((heap_alloc_old _ _ _ (by have := (HO2.out q hq).2; simp; omega)).trans (heap_alloc_old _ _ _ (HO2.out q hq).2)))).alloc _); clear hown hgrow hb5 c0 c1 c2))
      go_roundw
      case rel =>
        have hS6 : w6.ownsRow w1.heap.size 44 2 (.slice ds' (k + 1) cs') (k + 1) (spc (l.take k) ++ [.int .u32 (r.s.f : Int), .int .u32 (r.s.l : Int)]) := by
          refine owns_of_blocks HW5.out fun q hq => ?_
          have hlt5 := (HW5.out.lt q hq).2
          refine (HG6.out.block q (by simp; omega) (fun e => ?_)).trans (heap_alloc_old _ _ _ hlt5)
          obtain ⟨cc, hcc⟩ := rowB HS2.out e.symm
          exact rowNe (HW5.out.alloc _) hcc (by decide) hq
        have hB5 : Below w1.heap.size w1 w5 := ((HB.out.alloc HK1.out (rnO r)).alloc (by have := HK1.out; simp; omega) (spO r.s)).grown HG5.out (by have := HK1.out; simp; omega) (fun q hq => (HO1.out q hq).1)
        have hB6 : Below w1.heap.size w1 w6 := (hB5.alloc HK5.out (wtO r)).grown HG6.out (by have := HK5.out; simp; omega) (fun q hq => (HO2.out q hq).1)
        exact ⟨k + 1, ds', cs', dt', ct', by omega, rfl, rfl, by go_num, by rw [HTK.out, spc_snoc]; exact hS6, by rw [HTK.out, wtc_snoc]; exact HW6.out, hB6⟩
      case measure => simp [intOf]; omega
    · have hke : k = l.length := by omega
      subst hke
      rw [List.take_length] at hos how
      have HSP := hid (sps_of rfl HL.out.1 hos)
      have HWT := hid (rns_of rfl HL.out.1 how)
      have HB := hid (belowCat HB1.out hB)
      have HLR := hid (HL.out.below HB.out)
      clear hos how hB
      go_wp2_with (go_at_call 8; refine (of_any _ _).mono ?_; rintro e w' ⟨rfl, rfl⟩)
      have HBA := hid (show Below wr.heap.size wr (wr.alloc (sb x)) from (by repeat (first | exact Below.refl _ _ | refine blw_alloc ?_ | refine blw_drew ?_ | assumption)))
      refine (map_any x cap ad l _ hx (HLR.out.below HBA.out) (by omega)).mono ?_
      rintro e w2 ⟨rfl, hB2⟩
      have HB2 := hid (belowCat HBA.out hB2)
      clear hB2 HBA
      obtain ⟨T, hT⟩ : ∃ T, mpT l x l.length = T := ⟨_, rfl⟩
      obtain ⟨M, hM⟩ : ∃ M, mpM l x l.length = M := ⟨_, rfl⟩
      have HE := hid (And.intro hT hM)
      rw [hT, hM]
      clear hT hM
      go_wp2_with fail
      have HBC := hid (show Below w2.heap.size w2 ((w2.alloc (sb T)).alloc (sb (mk M : Nat))) from (by repeat (first | exact Below.refl _ _ | refine blw_alloc ?_ | refine blw_drew ?_ | assumption)))
      have H0 := hid (show ((w2.alloc (sb T)).alloc (sb (mk M : Nat))).heap[w2.heap.size]? = some (sb T) from (by simp only [hp_get, World.size_alloc]; repeat (first | rw [if_pos trivial] | rw [if_pos rfl] | rw [if_neg (by omega)])))
      have H1 := hid (show ((w2.alloc (sb T)).alloc (sb (mk M : Nat))).heap[w2.heap.size + 1]? = some (sb (mk M : Nat)) from (by simp only [hp_get, World.size_alloc]; repeat (first | rw [if_pos trivial] | rw [if_pos rfl] | rw [if_neg (by omega)])))
      refine (rmap_any x cap ad l _ (HLR.out.below (belowCat HB2.out HBC.out)) (by omega)).mono ?_
      rintro e w3 ⟨rfl, hB3⟩
      rw [HE.out.1, HE.out.2]
      have J0 := hid (hpB hB3 H0.out)
      have J1 := hid (hpB hB3 H1.out)
      have HB3 := hid (belowCat (belowCat HB2.out HBC.out) hB3)
      clear hB3 H0 H1 HBC
      have HI1 := hid (fun w => is_any T T w)
      have HI2 := hid (fun w => is_any (mk M) (mk M) w)
      have HIn := hid (fun w' hb => in_any x cs ds (l.map (·.s)) w' hx (HSP.out.below hb) (by simp; omega))
      have HRn := hid (fun w' hb => rin_any x cs ds (l.map (·.s)) w' (HSP.out.below hb) (by simp; omega))
      have HCl := hid (fun w' hb => class_any x ct dt l w' hx (HWT.out.below hb) (by omega))
      have HRc := hid (fun w' hb => rclass_any x ct dt l w' (HWT.out.below hb) (by omega))
      rw [List.length_map] at HIn HRn
      obtain ⟨I, hI⟩ : ∃ I, inM (l.map (·.s)) x l.length = I := ⟨_, rfl⟩
      obtain ⟨C, hC⟩ : ∃ C, clT l x l.length = C := ⟨_, rfl⟩
      rw [hI] at HIn HRn
      rw [hC] at HCl HRc
      have HI3 := hid (fun w => is_any (mk I) (mk I) w)
      have HI4 := hid (fun w => is_any C C w)
      simp only [beq_self_eq_true] at HI1 HI2 HI3 HI4
      have KB := hid (show ∀ w' : World, Below w3.heap.size w3 w' → w'.cell? ⟨w2.heap.size, 0, none⟩ = some (.int .u32 (T : Int)) ∧ w'.cell? ⟨w2.heap.size + 1, 0, none⟩ = some (.int .u32 (mk M : Nat)) from fun w' hb => ⟨cell_sb (hpB hb J0.out), cell_sb (hpB hb J1.out)⟩)
      clear hI hC
      go_wp2_with fail
      refine wp_region_held_drew (S := (fun w' => w'.cell? ⟨w2.heap.size, 0, none⟩ = some (.int .u32 (T : Int)) ∧ w'.cell? ⟨w2.heap.size + 1, 0, none⟩ = some (.int .u32 (mk M : Nat)))) (by kernel_rfl) (KB.out _ (blw_drew (Below.refl _ _))) (fun hHeld => ?_)
      refine tk_at (i := 0) (d := some 51) (v := ?_) rfl rfl (by kernel_rfl) (by kernel_rfl) (by kernel_rfl) (fun _ _ _ h => h) (Or.inl ⟨by rfl, ?_⟩) (by assumption) ?_
      rotate_left
      · (intro w hSw; (try dsimp only at hSw); go_simp; try (with_reducible rfl))
      simp only [Act.put, List.setIfInBounds_toArray, List.set_cons_zero, List.set_cons_succ]
      refine tk_at (i := 1) (d := some 52) (v := ?_) rfl rfl (by kernel_rfl) (by kernel_rfl) (by kernel_rfl) (fun _ _ _ h => h) (Or.inl ⟨by rfl, ?_⟩) (by assumption) ?_
      rotate_left
      · (intro w hSw; (try dsimp only at hSw); go_simp; try (with_reducible rfl))
      simp only [Act.put, List.setIfInBounds_toArray, List.set_cons_zero, List.set_cons_succ]
      refine wpAnyH_ready (rs := [2]) (by kernel_rfl) (by simp) ?_
      refine AllReadyH.cons rfl (fun K hK => ?_) AllReadyH.nil
      go_simp
      refine (HI1.out _).mono ?_
      rintro e w4 ⟨rfl, hB4⟩
      have L4 := hid (belowCat (blw_drew (Below.refl _ _)) hB4)
      clear hB4
      go_wp2_with fail
      refine hK.out _ _ (KB.out _ L4.out) (fun hHeld => ?_)
      clear hK K
      try simp only [Act.put, List.setIfInBounds_toArray, List.set_cons_zero, List.set_cons_succ]
      refine tk_at (i := 3) (d := some 54) (v := ?_) rfl rfl (by kernel_rfl) (by kernel_rfl) (by kernel_rfl) (fun _ _ _ h => h) (Or.inl ⟨by rfl, ?_⟩) (by assumption) ?_
      rotate_left
      · (intro w hSw; (try dsimp only at hSw); go_simp; try (with_reducible rfl))
      simp only [Act.put, List.setIfInBounds_toArray, List.set_cons_zero, List.set_cons_succ]
      refine tk_at (i := 4) (d := some 55) (v := ?_) rfl rfl (by kernel_rfl) (by kernel_rfl) (by kernel_rfl) (fun _ _ _ h => h) (Or.inl ⟨by rfl, ?_⟩) (by assumption) ?_
      rotate_left
      · (intro w hSw; (try dsimp only at hSw); go_simp; try (with_reducible rfl))
      simp only [Act.put, List.setIfInBounds_toArray, List.set_cons_zero, List.set_cons_succ]
      refine tk_at (i := 5) (d := some 56) (v := ?_) rfl rfl (by kernel_rfl) (by kernel_rfl) (by kernel_rfl) (fun _ _ _ h => h) (Or.inl ⟨by rfl, ?_⟩) (by assumption) ?_
      rotate_left
      · (intro w hSw; (try dsimp only at hSw); go_simp; try (with_reducible rfl))
      simp only [Act.put, List.setIfInBounds_toArray, List.set_cons_zero, List.set_cons_succ]
      refine wpAnyH_ready (rs := [6]) (by kernel_rfl) (by simp) ?_
      refine AllReadyH.cons rfl (fun K hK => ?_) AllReadyH.nil
      go_simp
      refine (all_any M _).mono ?_
      rintro e w5 ⟨rfl, hw5⟩
      subst w5
      go_wp2_with fail
      refine hK.out _ _ (KB.out _ L4.out) (fun hHeld => ?_)
      clear hK K
      try simp only [Act.put, List.setIfInBounds_toArray, List.set_cons_zero, List.set_cons_succ]
      refine wpAnyH_ready (rs := [7]) (by kernel_rfl) (by simp) ?_
      refine AllReadyH.cons rfl (fun K hK => ?_) AllReadyH.nil
      go_simp
      refine (HI2.out _).mono ?_
      rintro e w6 ⟨rfl, hB6⟩
      have L6 := hid (belowCat L4.out hB6)
      clear hB6
      go_wp2_with fail
      refine hK.out _ _ (KB.out _ L6.out) (fun hHeld => ?_)
      clear hK K
      try simp only [Act.put, List.setIfInBounds_toArray, List.set_cons_zero, List.set_cons_succ]
      refine tk_at (i := 8) (d := some 59) (v := ?_) rfl rfl (by kernel_rfl) (by kernel_rfl) (by kernel_rfl) (fun _ _ _ h => h) (Or.inl ⟨by rfl, ?_⟩) (by assumption) ?_
      rotate_left
      · (intro w hSw; (try dsimp only at hSw); go_simp; try (with_reducible rfl))
      simp only [Act.put, List.setIfInBounds_toArray, List.set_cons_zero, List.set_cons_succ]
      refine tk_at (i := 9) (d := some 60) (v := ?_) rfl rfl (by kernel_rfl) (by kernel_rfl) (by kernel_rfl) (fun _ _ _ h => h) (Or.inl ⟨by rfl, ?_⟩) (by assumption) ?_
      rotate_left
      · (intro w hSw; (try dsimp only at hSw); go_simp; try (with_reducible rfl))
      simp only [Act.put, List.setIfInBounds_toArray, List.set_cons_zero, List.set_cons_succ]
      refine tk_at (i := 10) (d := some 61) (v := ?_) rfl rfl (by kernel_rfl) (by kernel_rfl) (by kernel_rfl) (fun _ _ _ h => h) (Or.inl ⟨by rfl, ?_⟩) (by assumption) ?_
      rotate_left
      · (intro w hSw; (try dsimp only at hSw); go_simp; try (with_reducible rfl))
      simp only [Act.put, List.setIfInBounds_toArray, List.set_cons_zero, List.set_cons_succ]
      refine tk_at (i := 11) (d := some 62) (v := ?_) rfl rfl (by kernel_rfl) (by kernel_rfl) (by kernel_rfl) (fun _ _ _ h => h) (Or.inl ⟨by rfl, ?_⟩) (by assumption) ?_
      rotate_left
      · (intro w hSw; (try dsimp only at hSw); go_simp; try (with_reducible rfl))
      simp only [Act.put, List.setIfInBounds_toArray, List.set_cons_zero, List.set_cons_succ]
      refine tk_at (i := 14) (d := some 65) (v := ?_) rfl rfl (by kernel_rfl) (by kernel_rfl) (by kernel_rfl) (fun _ _ _ h => h) (Or.inl ⟨by rfl, ?_⟩) (by assumption) ?_
      rotate_left
      · (intro w hSw; (try dsimp only at hSw); go_simp; try (with_reducible rfl))
      simp only [Act.put, List.setIfInBounds_toArray, List.set_cons_zero, List.set_cons_succ]
      refine tk_at (i := 15) (d := some 66) (v := ?_) rfl rfl (by kernel_rfl) (by kernel_rfl) (by kernel_rfl) (fun _ _ _ h => h) (Or.inl ⟨by rfl, ?_⟩) (by assumption) ?_
      rotate_left
      · (intro w hSw; (try dsimp only at hSw); go_simp; try (with_reducible rfl))
      simp only [Act.put, List.setIfInBounds_toArray, List.set_cons_zero, List.set_cons_succ]
      refine wpAnyH_ready (rs := [12]) (by kernel_rfl) (by simp) ?_
      refine AllReadyH.cons rfl (fun K hK => ?_) AllReadyH.nil
      go_simp
      refine (of_b _ _).mono ?_
      rintro e w7 ⟨rfl, hB7⟩
      have L7 := hid (belowCat L6.out hB7)
      clear hB7
      go_wp2_with fail
      refine hK.out _ _ (KB.out _ L7.out) (fun hHeld => ?_)
      clear hK K
      try simp only [Act.put, List.setIfInBounds_toArray, List.set_cons_zero, List.set_cons_succ]
      refine wpAnyH_ready (rs := [13]) (by kernel_rfl) (by simp) ?_
      refine AllReadyH.cons rfl (fun K hK => ?_) AllReadyH.nil
      go_simp
      refine (HIn.out _ (belowCat HB3.out L7.out)).mono ?_
      rintro e w8 ⟨rfl, hB8⟩
      have L8 := hid (belowCat L7.out hB8)
      clear hB8
      go_wp2_with fail
      refine hK.out _ _ (KB.out _ L8.out) (fun hHeld => ?_)
      clear hK K
      try simp only [Act.put, List.setIfInBounds_toArray, List.set_cons_zero, List.set_cons_succ]
      refine wpAnyH_ready (rs := [16]) (by kernel_rfl) (by simp) ?_
      refine AllReadyH.cons rfl (fun K hK => ?_) AllReadyH.nil
      go_simp
      refine (HRn.out _ (belowCat HB3.out L8.out)).mono ?_
      rintro e w9 ⟨rfl, hB9⟩
      have L9 := hid (belowCat L8.out hB9)
      clear hB9
      go_wp2_with fail
      refine hK.out _ _ (KB.out _ L9.out) (fun hHeld => ?_)
      clear hK K
      try simp only [Act.put, List.setIfInBounds_toArray, List.set_cons_zero, List.set_cons_succ]
      refine wpAnyH_ready (rs := [17]) (by kernel_rfl) (by simp) ?_
      refine AllReadyH.cons rfl (fun K hK => ?_) AllReadyH.nil
      go_simp
      refine (all_any I _).mono ?_
      rintro e w5 ⟨rfl, hw5⟩
      subst w5
      go_wp2_with fail
      refine hK.out _ _ (KB.out _ L9.out) (fun hHeld => ?_)
      clear hK K
      try simp only [Act.put, List.setIfInBounds_toArray, List.set_cons_zero, List.set_cons_succ]
      refine wpAnyH_ready (rs := [18]) (by kernel_rfl) (by simp) ?_
      refine AllReadyH.cons rfl (fun K hK => ?_) AllReadyH.nil
      go_simp
      refine (HI3.out _).mono ?_
      rintro e wa ⟨rfl, hBa⟩
      have La := hid (belowCat L9.out hBa)
      clear hBa
      go_wp2_with fail
      refine hK.out _ _ (KB.out _ La.out) (fun hHeld => ?_)
      clear hK K
      try simp only [Act.put, List.setIfInBounds_toArray, List.set_cons_zero, List.set_cons_succ]
      refine tk_at (i := 19) (d := some 70) (v := ?_) rfl rfl (by kernel_rfl) (by kernel_rfl) (by kernel_rfl) (fun _ _ _ h => h) (Or.inl ⟨by rfl, ?_⟩) (by assumption) ?_
      rotate_left
      · (intro w hSw; (try dsimp only at hSw); go_simp; try (with_reducible rfl))
      simp only [Act.put, List.setIfInBounds_toArray, List.set_cons_zero, List.set_cons_succ]
      refine tk_at (i := 20) (d := some 71) (v := ?_) rfl rfl (by kernel_rfl) (by kernel_rfl) (by kernel_rfl) (fun _ _ _ h => h) (Or.inl ⟨by rfl, ?_⟩) (by assumption) ?_
      rotate_left
      · (intro w hSw; (try dsimp only at hSw); go_simp; try (with_reducible rfl))
      simp only [Act.put, List.setIfInBounds_toArray, List.set_cons_zero, List.set_cons_succ]
      refine tk_at (i := 21) (d := some 72) (v := ?_) rfl rfl (by kernel_rfl) (by kernel_rfl) (by kernel_rfl) (fun _ _ _ h => h) (Or.inl ⟨by rfl, ?_⟩) (by assumption) ?_
      rotate_left
      · (intro w hSw; (try dsimp only at hSw); go_simp; try (with_reducible rfl))
      simp only [Act.put, List.setIfInBounds_toArray, List.set_cons_zero, List.set_cons_succ]
      refine tk_at (i := 22) (d := some 73) (v := ?_) rfl rfl (by kernel_rfl) (by kernel_rfl) (by kernel_rfl) (fun _ _ _ h => h) (Or.inl ⟨by rfl, ?_⟩) (by assumption) ?_
      rotate_left
      · (intro w hSw; (try dsimp only at hSw); go_simp; try (with_reducible rfl))
      simp only [Act.put, List.setIfInBounds_toArray, List.set_cons_zero, List.set_cons_succ]
      refine tk_at (i := 25) (d := some 76) (v := ?_) rfl rfl (by kernel_rfl) (by kernel_rfl) (by kernel_rfl) (fun _ _ _ h => h) (Or.inl ⟨by rfl, ?_⟩) (by assumption) ?_
      rotate_left
      · (intro w hSw; (try dsimp only at hSw); go_simp; try (with_reducible rfl))
      simp only [Act.put, List.setIfInBounds_toArray, List.set_cons_zero, List.set_cons_succ]
      refine tk_at (i := 26) (d := some 77) (v := ?_) rfl rfl (by kernel_rfl) (by kernel_rfl) (by kernel_rfl) (fun _ _ _ h => h) (Or.inl ⟨by rfl, ?_⟩) (by assumption) ?_
      rotate_left
      · (intro w hSw; (try dsimp only at hSw); go_simp; try (with_reducible rfl))
      simp only [Act.put, List.setIfInBounds_toArray, List.set_cons_zero, List.set_cons_succ]
      refine wpAnyH_ready (rs := [23]) (by kernel_rfl) (by simp) ?_
      refine AllReadyH.cons rfl (fun K hK => ?_) AllReadyH.nil
      go_simp
      refine (of_b _ _).mono ?_
      rintro e wb ⟨rfl, hBb⟩
      have Lb := hid (belowCat La.out hBb)
      clear hBb
      go_wp2_with fail
      refine hK.out _ _ (KB.out _ Lb.out) (fun hHeld => ?_)
      clear hK K
      try simp only [Act.put, List.setIfInBounds_toArray, List.set_cons_zero, List.set_cons_succ]
      refine wpAnyH_ready (rs := [24]) (by kernel_rfl) (by simp) ?_
      refine AllReadyH.cons rfl (fun K hK => ?_) AllReadyH.nil
      go_simp
      refine (HCl.out _ (belowCat HB3.out Lb.out)).mono ?_
      rintro e wd ⟨rfl, hBd⟩
      have Ld := hid (belowCat Lb.out hBd)
      clear hBd
      go_wp2_with fail
      refine hK.out _ _ (KB.out _ Ld.out) (fun hHeld => ?_)
      clear hK K
      try simp only [Act.put, List.setIfInBounds_toArray, List.set_cons_zero, List.set_cons_succ]
      refine wpAnyH_ready (rs := [27]) (by kernel_rfl) (by simp) ?_
      refine AllReadyH.cons rfl (fun K hK => ?_) AllReadyH.nil
      go_simp
      refine (HRc.out _ (belowCat HB3.out Ld.out)).mono ?_
      rintro e we ⟨rfl, hBe⟩
      have Le := hid (belowCat Ld.out hBe)
      clear hBe
      go_wp2_with fail
      refine hK.out _ _ (KB.out _ Le.out) (fun hHeld => ?_)
      clear hK K
      try simp only [Act.put, List.setIfInBounds_toArray, List.set_cons_zero, List.set_cons_succ]
      refine wpAnyH_ready (rs := [28]) (by kernel_rfl) (by simp) ?_
      refine AllReadyH.cons rfl (fun K hK => ?_) AllReadyH.nil
      go_simp
      refine (HI4.out _).mono ?_
      rintro e wf ⟨rfl, hBf⟩
      have Lf := hid (belowCat Le.out hBf)
      clear hBf
      go_wp2_with fail
      refine hK.out _ _ (KB.out _ Lf.out) (fun hHeld => ?_)
      clear hK K
      try simp only [Act.put, List.setIfInBounds_toArray, List.set_cons_zero, List.set_cons_succ]
      refine tk_at (i := 29) (d := some 80) (v := ?_) rfl rfl (by kernel_rfl) (by kernel_rfl) (by kernel_rfl) (fun _ _ _ h => h) (Or.inl ⟨by rfl, ?_⟩) (by assumption) ?_
      rotate_left
      · (intro w hSw; (try dsimp only at hSw); go_simp; try (with_reducible rfl))
      simp only [Act.put, List.setIfInBounds_toArray, List.set_cons_zero, List.set_cons_succ]
      refine wpAnyH_ready (rs := [30]) (by kernel_rfl) (by simp) ?_
      refine AllReadyH.cons rfl (fun K hK => ?_) AllReadyH.nil
      go_simp
      go_wp2_with fail
      refine hK.out _ _ (KB.out _ Lf.out) (fun hHeld => ?_)
      clear hK K
      try simp only [Act.put, List.setIfInBounds_toArray, List.set_cons_zero, List.set_cons_succ]
      refine wpAnyH_done (by kernel_rfl) ?_ _
      clear hHeld
      go_wp2
      go_ret
      exact ⟨rfl, belowCat (belowCat HB.out HB3.out) Lf.out⟩

section
variable {H : Type} {enc : TypeId × Value → H}
/-- a run, read -/
theorem read_run {W : World} {base : Nat} {spare : Nat → Bool} {held : Bool} {fuel : Nat} {cs : List Value} {x : DataW H × List MemPlace}
    (h : DataW.trod enc Try.prog W base spare held fuel 46 cs = some x) : ∃ r : Rn, cs = [.int .u32 (r.s.f : Int), .int .u32 (r.s.l : Int), .int .u32 (r.t : Int)] ∧ r.ok := by
  obtain ⟨xs, n, _, _, hl, hx, hf⟩ := DataW.trod_struct Try.underlying46 h
  have hc : Try.prog.cellsOf 46 = 3 := by kernel_rfl
  have c22 : Try.prog.cellsOf 24 = 1 := by kernel_rfl
  have c44 : Try.prog.cellsOf 44 = 2 := by kernel_rfl
  rw [hc] at hl
  obtain ⟨y0, y1, y2, rfl⟩ : ∃ a b c, cs = [a, b, c] := by
    match cs, hl with
    | [a, b, c], _ => exact ⟨a, b, c, rfl⟩
  have g0 : DataW.trod enc Try.prog W base spare held n 44 (([y0, y1, y2].drop 0).take (Try.prog.cellsOf 44)) = xs[0]? := hf 0 _ rfl
  have g1 : DataW.trod enc Try.prog W base spare held n 24 (([y0, y1, y2].drop 2).take (Try.prog.cellsOf 24)) = xs[1]? := hf 1 _ rfl
  rw [c44] at g0
  rw [c22] at g1
  have hx2 : xs.length = 2 := hx
  obtain ⟨z0, z1, rfl⟩ : ∃ a b, xs = [a, b] := by
    match xs, hx2 with
    | [a, b], _ => exact ⟨a, b, rfl⟩
  obtain ⟨us, m, _, _, _, hu, hg⟩ := DataW.trod_struct Try.underlying44 (g0.trans rfl)
  have f0 : DataW.trod enc Try.prog W base spare held m 24 (([y0, y1].drop 0).take (Try.prog.cellsOf 24)) = us[0]? := hg 0 _ rfl
  have f1 : DataW.trod enc Try.prog W base spare held m 24 (([y0, y1].drop 1).take (Try.prog.cellsOf 24)) = us[1]? := hg 1 _ rfl
  rw [c22] at f0 f1
  have hu2 : us.length = 2 := hu
  obtain ⟨v0, v1, rfl⟩ : ∃ a b, us = [a, b] := by
    match us, hu2 with
    | [a, b], _ => exact ⟨a, b, rfl⟩
  obtain ⟨a, e0, _, wa⟩ := DataW.trod_int Try.underlying24 (f0.trans rfl)
  obtain ⟨b, e1, _, wb⟩ := DataW.trod_int Try.underlying24 (f1.trans rfl)
  obtain ⟨c, e2, _, wc⟩ := DataW.trod_int Try.underlying24 (g1.trans rfl)
  simp at e0 e1 e2
  subst e0 e1 e2
  have ba := wf_u32 wa
  have bb := wf_u32 wb
  have bc := wf_u32 wc
  refine ⟨⟨⟨a.toNat, b.toNat⟩, c.toNat⟩, ?_, ⟨by show a.toNat < 4294967296; omega, by show b.toNat < 4294967296; omega⟩, by show c.toNat < 4294967296; omega⟩
  simp only [Int.toNat_of_nonneg ba.1, Int.toNat_of_nonneg bb.1, Int.toNat_of_nonneg bc.1]
theorem read_seekSpans {W : World} {ad : Option Addr} {len cap : Nat} {d : DataW H} {p : List MemPlace} (h : DataW.Trod enc Try.prog W 0 (fun _ => true) true 40 (.slice ad len cap) d p) :
    ∃ l : List Rn, l.length = len ∧ RnsAt W ad l := by
  obtain ⟨fuel, hf⟩ := h
  rcases Deep.open_slice Try.underlying40 hf with ⟨hcs, _⟩ | ⟨a, len', cap', m, n, D, Pl, hcs, _, hlc, _, hm, _, hel⟩
  · simp [Value.cells] at hcs
    obtain ⟨rfl, rfl, rfl⟩ := hcs
    exact ⟨[], rfl, fun t ht => (by cases ht), fun k hk => (by cases hk)⟩
  · simp [Value.cells] at hcs
    obtain ⟨rfl, rfl, rfl⟩ := hcs
    simp only [if_true] at hm
    subst hm
    have hc : Try.prog.cellsOf 46 = 3 := by kernel_rfl
    rw [hc] at hel
    have hex : ∀ i, i < len → ∃ t : Rn, RnAt W (a.add (i * 3)) t ∧ t.ok := by
      intro i hi
      obtain ⟨cs', h1, h2⟩ := hel i (by omega)
      obtain ⟨t, rfl, hb⟩ := read_run h2
      have hE := cells_each h1
      exact ⟨t, ⟨hE 0 (by decide), hE 1 (by decide), hE 2 (by decide)⟩, hb⟩
    obtain ⟨f, hf⟩ := @Deep.choose_lt Rn ⟨⟨⟨0, 0⟩, 0⟩⟩ len _ hex
    refine ⟨(List.range len).map f, by simp, fun t ht => ?_, fun k hk => ⟨a, rfl, ?_⟩⟩
    · obtain ⟨i, hi, rfl⟩ := List.mem_map.1 ht
      exact (hf i (List.mem_range.1 hi)).2
    · simp only [List.getElem_map, List.getElem_range]
      exact (hf k (by simpa using hk)).1
end
set_option maxHeartbeats 800000 in
theorem seekSpans_walk (ad : Option Addr) (len cap : Nat) (x : Nat) (w : World) (h : ∃ l : List Rn, l.length = len ∧ RnsAt w ad l) (hx : x < 4294967296) :
    Calls Try.prog 4 #[.slice ad len cap, u32 x] w fun e w' => e = .returned (.bool true) ∧ Below w.heap.size w w' := by
  obtain ⟨l, rfl, hl⟩ := h
  by_cases h1 : l.length ≤ 60
  · exact spans_core ad cap x l w hl hx h1
  · obtain ⟨n, hn⟩ : ∃ n, l.length = n := ⟨_, rfl⟩
    rw [hn] at h1 ⊢
    clear hn hl hx
    have c1 : (60 : Int) < (n : Int) := by omega
    clear h1
    go_enter Try.func4, Try.ntmps4
    go_wp2_with (go_at_call 6; refine (awake6_any _).mono ?_; rintro e w1 ⟨rfl, hB1⟩; have HB1 := hid hB1; clear hB1)
    go_ret
    exact ⟨rfl, HB1.out⟩
end Go.Proofs.Ytajkjlnhongjfaa
