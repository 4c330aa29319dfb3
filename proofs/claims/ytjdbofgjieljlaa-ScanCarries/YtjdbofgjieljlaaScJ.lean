/- The law ScanRuns returns true at all words, as they are read. -/
import Derived.Test.YtjdbofgjieljlaaScI
namespace Go.Proofs.Ytjdbofgjieljlaa
open Go.RowKit

theorem row_u32s {w : World} {g n : Nat} {f : Nat → Nat} (h : w.heap[g]? = some (.cells (rowF n f) 31 (0, 0))) : U32s w (some ⟨g, 0, none⟩) ((List.range n).map f) := fun k hk => by
  have hk' : k < n := by simpa using hk
  refine ⟨_, rfl, ?_⟩
  rw [add_plain, List.getElem_map, List.getElem_range]
  exact cell_of_heap h (rowF_get hk')
theorem told_before {l : List Nat} {B : Ars} (h : Lain B l []) : (evo B (fun i => 0 + i) (fun i => sv B 0 i) l.length).told 0 l.length = (List.range l.length).map (slF l false) :=
  told_evo (p := fun i => i) (by rw [h.wl]; simp) (fun _ h => h) (fun _ _ _ _ e => e) (fun q hq => ⟨q, hq, rfl⟩) (fun i hi => by show sv B 0 i = slF l false i; rw [sv_sl h.a i (by omega)]; rfl)
theorem told_ors {l : List Nat} {B : Ars} (h : Lain B l []) : (evo B (fun i => 0 + i) (fun i => ov B 0 (fun i => i) (i + 1)) l.length).told 0 l.length = (List.range l.length).map (olF l false) :=
  told_evo (p := fun i => i) (by rw [h.wl]; simp) (fun _ h => h) (fun _ _ _ _ e => e) (fun q hq => ⟨q, hq, rfl⟩) (fun i hi => ors_word h.a i hi)
theorem told_behind {l : List Nat} {B : Ars} (h : Lain B l []) : (evo B (fun i => 0 + bk l.length i) (fun i => ov B 0 (bk l.length) (i + 1)) l.length).told 0 l.length = (List.range l.length).map (olF l true) :=
  told_evo (p := bk l.length) (by rw [h.wl]; simp) (fun k hk => by unfold bk; omega) (fun i j hi hj e => by unfold bk at e; omega) (fun q hq => ⟨bk l.length q, by unfold bk; omega, by unfold bk; omega⟩) (fun i hi => behind_word h.a i hi)

set_option maxHeartbeats 3200000 in
theorem runs_0 (ad : Option Addr) (c kind : Nat) (l : List Nat) (w : World) (hu : U32s w ad l) (hl : ∀ x ∈ l, x < 4294967296) (hn : l.length ≤ 100) (hk : kind < 256) (hr : kind % 4 = 0) :
    Calls Try.prog 6 #[.slice ad l.length c, .int .u8 (kind : Int)] w fun e w' => e = .returned (.bool true) ∧ Below w.heap.size w w' := by
  have HU := hid hu
  have HL := hid hl
  have hn' : ¬ (100 : Int) < (l.length : Int) := by omega
  have hr' : (kind : Int) % 4 = 0 := by omega
  have HLW := hid (fun w' hu => lay5_any ad none c 0 l [] w' hu (fun k hk => by cases hk) hl (by intro x hx; cases hx) (by simp; omega))
  have HLI := hid (lain_is l [])
  obtain ⟨B, hBe⟩ : ∃ B, lain l [] = B := ⟨_, rfl⟩
  rw [hBe] at HLI HLW
  have HTD := hid (told_sums HLI.out)
  have HEQ := hid (show sv B 0 l.length = sl l l.length from sv_sl HLI.out.a _ (Nat.le_refl _))
  have HTP := hid (show B.top = l.length by rw [HLI.out.top]; simp)
  have HES := hid (show B.es.length = 1 + l.length by rw [HLI.out.es]; simp)
  clear hu hl hBe
  go_enter Try.func6, Try.ntmps6
  go_wp2_with fail
  refine (awake5_any _).mono ?_
  rintro e w0 ⟨rfl, hB0⟩
  have B0 := hid hB0
  clear hB0
  go_wp2_with fail
  refine (HLW.out _ (HU.out.below B0.out)).mono ?_
  rintro e w1 ⟨h, F1, rfl, a1, hF1, hB1⟩
  have A1 := hid a1
  have F1h := hid (show ∀ i, F1 i → w.heap.size ≤ i from fun i hi => Nat.le_trans B0.out.size (hF1 i hi))
  have B1 := hid (show Below w.heap.size w w1 from B0.out.trans (hB1.mono B0.out.size))
  clear a1 hF1 hB1
  go_wp2_with fail
  refine (ar_log h F1 B _ A1.out).mono ?_
  rintro e w' ⟨rfl, hw'⟩
  subst w'
  obtain ⟨ob, hLo, _⟩ := A1.out.log
  go_wp2_with fail
  refine (len_any _ _ _ _ _ hLo).mono ?_
  rintro e w' ⟨rfl, hw'⟩
  subst w'
  clear hLo
  rw [HES.out]
  go_wp2_with fail
  have HBA := hid (show Below w.heap.size w (w1.alloc (sb 0)) from blw_alloc B1.out)
  have HG0 := hid (heap_alloc_at w1 (sb 0))
  have HF1 := hid (show ¬ F1 w1.heap.size from fun z => by have := A1.out.lt _ z; omega)
  refine (rsums_any ad c l true _ (HU.out.below HBA.out) (by omega)).mono ?_
  rintro e w2 ⟨rfl, hrow, hB2⟩
  rw [World.size_alloc] at hrow
  have A2 := hid ((A1.out.alloc (sb 0)).below hB2)
  have HR2 := hid (And.intro hrow (show ¬ F1 (w1.heap.size + 1) from fun z => by have := A1.out.lt _ z; omega))
  have HG2 := hid ((hB2.block _ (lt_of_heap HG0.out)).trans HG0.out)
  have B2 := hid (show Below w.heap.size w w2 from HBA.out.trans (hB2.mono HBA.out.size))
  clear hrow hB2
  go_wp2_with fail
  refine (sums_yes h F1 B 0 l.length _ A2.out (by rw [HTP.out]; omega) (by rw [HES.out]; omega)).mono ?_
  rintro e w3 ⟨rfl, F3, a3, s3⟩
  rw [HEQ.out]
  have A3 := hid a3
  have G3 := hid (And.intro (s3.heap HG2.out HF1.out) (s3.out HF1.out (lt_of_heap HG2.out)))
  have R3 := hid (And.intro (s3.heap HR2.out.1 HR2.out.2) (s3.out HR2.out.2 (lt_of_heap HR2.out.1)))
  have F3h := hid (show ∀ i, F3 i → w.heap.size ≤ i from s3.high B2.out.size F1h.out)
  have B3 := hid (show Below w.heap.size w w3 from B2.out.trans (s3.below B2.out.size F1h.out))
  have kg := cell_sb8 G3.out.1
  have fg := frozen_of_heap (i := 0) G3.out.1
  have HW1 := hid B1.out.size
  clear a3 s3
  have HS4 := hid (heap_setCell_at _ _ 0 _ _ _ (.int .u32 ((sl l l.length : Nat) : Int)) G3.out.1)
  have A4 := hid (A3.out.setOther ⟨w1.heap.size, 0, none⟩ (.int .u32 ((sl l l.length : Nat) : Int)) G3.out.2)
  have R4 := hid ((Below.heap_setCell w3 ⟨w1.heap.size, 0, none⟩ (.int .u32 ((sl l l.length : Nat) : Int)) (w1.heap.size + 1) (by show w1.heap.size + 1 ≠ w1.heap.size; omega)).trans R3.out.1)
  have B4 := hid (show Below w.heap.size w (w3.setCell ⟨w1.heap.size, 0, none⟩ (.int .u32 ((sl l l.length : Nat) : Int))) from B3.out.setCell (p := ⟨w1.heap.size, 0, none⟩) HW1.out _)
  go_wp2_with fail
  have HS5 := hid (show (w3.setCell ⟨w1.heap.size, 0, none⟩ (.int .u32 ((sl l l.length : Nat) : Int))).heap[w1.heap.size]? = some (sb ((sl l l.length : Nat) : Int)) from HS4.out)
  have A5 := hid A4.out
  obtain ⟨gw, hgw⟩ : ∃ gw, w1.heap.size + 1 = gw := ⟨_, rfl⟩
  have R5 := hid (And.intro R4.out R3.out.2)
  rw [hgw] at R5 ⊢
  have B5 := hid B4.out
  clear hgw kg fg
  generalize (w3.setCell ⟨w1.heap.size, 0, none⟩ (.int .u32 ((sl l l.length : Nat) : Int))) = w5 at *
  have kg := cell_sb8 HS5.out
  obtain ⟨V, hV⟩ : ∃ V, sl l l.length = V := ⟨_, rfl⟩
  rw [hV] at kg ⊢
  clear hV HS4 A4 R4 B4 R3 G3 B3 A3
  refine (told5_any _ _).mono ?_
  rintro e w6 ⟨rfl, hB6⟩
  have A6 := hid (A5.out.below hB6)
  have R6 := hid (And.intro ((hB6.block _ (lt_of_heap R5.out.1)).trans R5.out.1) R5.out.2)
  have B6 := hid (show Below w.heap.size w w6 from B5.out.trans (hB6.mono B5.out.size))
  clear hB6 kg
  go_wp2_with fail
  refine (ar_log h F3 _ _ A6.out).mono ?_
  rintro e w' ⟨rfl, hw'⟩
  subst w'
  obtain ⟨ob, hLo, _⟩ := A6.out.log
  go_wp2_with fail
  refine (len_any _ _ _ _ _ hLo).mono ?_
  rintro e w' ⟨rfl, hw'⟩
  subst w'
  clear hLo
  obtain ⟨m, hm⟩ : ∃ m, (evo B (fun i => 0 + i) (fun i => sv B 0 (i + 1)) l.length).es.length = m := ⟨_, rfl⟩
  have hme : m = 1 + l.length + 2 * l.length := by rw [← hm, evo_es, HES.out]
  have hm1 : (m : Int) - (1 + (l.length : Int)) = 2 * (l.length : Int) := by omega
  rw [hm]
  clear hm hme
  go_wp2_with fail
  refine (ar_show_yes h F3 _ 0 l.length _ A6.out (by rw [evo_top, HTP.out]; omega) (by rw [evo_es, HES.out]; omega)).mono ?_
  rintro e w7 ⟨g, F7, rfl, hg, hgs, hgF, a7, s7⟩
  rw [HTD.out] at hg
  have HU1 := hid (secs_row hg)
  have HU2 := hid (row_u32s (s7.heap R6.out.1 R6.out.2))
  have HSM := hid (same5_yes (some ⟨g, 0, none⟩) (some ⟨gw, 0, none⟩) l.length l.length _ w7 HU1.out HU2.out (by simp; omega))
  rw [List.length_map, List.length_range] at HSM
  have B7 := hid (show Below w.heap.size w w7 from B6.out.trans (s7.below B6.out.size F3h.out))
  clear hg hgs hgF a7 s7
  go_wp2_with fail
  refine HSM.out.mono ?_
  rintro e w8 ⟨rfl, hB8⟩
  have B8 := hid (B7.out.trans (hB8.mono B7.out.size))
  clear hB8
  go_wp2
  go_ret
  exact ⟨rfl, B8.out⟩

set_option maxHeartbeats 3200000 in
theorem runs_1 (ad : Option Addr) (c kind : Nat) (l : List Nat) (w : World) (hu : U32s w ad l) (hl : ∀ x ∈ l, x < 4294967296) (hn : l.length ≤ 100) (hk : kind < 256) (hr : kind % 4 = 1) :
    Calls Try.prog 6 #[.slice ad l.length c, .int .u8 (kind : Int)] w fun e w' => e = .returned (.bool true) ∧ Below w.heap.size w w' := by
  have HU := hid hu
  have HL := hid hl
  have hn' : ¬ (100 : Int) < (l.length : Int) := by omega
  have hr' : (kind : Int) % 4 = 1 := by omega
  have HLW := hid (fun w' hu => lay5_any ad none c 0 l [] w' hu (fun k hk => by cases hk) hl (by intro x hx; cases hx) (by simp; omega))
  have HLI := hid (lain_is l [])
  obtain ⟨B, hBe⟩ : ∃ B, lain l [] = B := ⟨_, rfl⟩
  rw [hBe] at HLI HLW
  have HTD := hid (told_before HLI.out)
  have HEQ := hid (show sv B 0 l.length = sl l l.length from sv_sl HLI.out.a _ (Nat.le_refl _))
  have HTP := hid (show B.top = l.length by rw [HLI.out.top]; simp)
  have HES := hid (show B.es.length = 1 + l.length by rw [HLI.out.es]; simp)
  clear hu hl hBe
  go_enter Try.func6, Try.ntmps6
  go_wp2_with fail
  refine (awake5_any _).mono ?_
  rintro e w0 ⟨rfl, hB0⟩
  have B0 := hid hB0
  clear hB0
  go_wp2_with fail
  refine (HLW.out _ (HU.out.below B0.out)).mono ?_
  rintro e w1 ⟨h, F1, rfl, a1, hF1, hB1⟩
  have A1 := hid a1
  have F1h := hid (show ∀ i, F1 i → w.heap.size ≤ i from fun i hi => Nat.le_trans B0.out.size (hF1 i hi))
  have B1 := hid (show Below w.heap.size w w1 from B0.out.trans (hB1.mono B0.out.size))
  clear a1 hF1 hB1
  go_wp2_with fail
  refine (ar_log h F1 B _ A1.out).mono ?_
  rintro e w' ⟨rfl, hw'⟩
  subst w'
  obtain ⟨ob, hLo, _⟩ := A1.out.log
  go_wp2_with fail
  refine (len_any _ _ _ _ _ hLo).mono ?_
  rintro e w' ⟨rfl, hw'⟩
  subst w'
  clear hLo
  rw [HES.out]
  go_wp2_with fail
  have HBA := hid (show Below w.heap.size w (w1.alloc (sb 0)) from blw_alloc B1.out)
  have HG0 := hid (heap_alloc_at w1 (sb 0))
  have HF1 := hid (show ¬ F1 w1.heap.size from fun z => by have := A1.out.lt _ z; omega)
  refine (rsums_any ad c l false _ (HU.out.below HBA.out) (by omega)).mono ?_
  rintro e w2 ⟨rfl, hrow, hB2⟩
  rw [World.size_alloc] at hrow
  have A2 := hid ((A1.out.alloc (sb 0)).below hB2)
  have HR2 := hid (And.intro hrow (show ¬ F1 (w1.heap.size + 1) from fun z => by have := A1.out.lt _ z; omega))
  have HG2 := hid ((hB2.block _ (lt_of_heap HG0.out)).trans HG0.out)
  have B2 := hid (show Below w.heap.size w w2 from HBA.out.trans (hB2.mono HBA.out.size))
  clear hrow hB2
  go_wp2_with fail
  refine (before_yes h F1 B 0 l.length _ A2.out (by rw [HTP.out]; omega) (by rw [HES.out]; omega)).mono ?_
  rintro e w3 ⟨rfl, F3, a3, s3⟩
  rw [HEQ.out]
  have A3 := hid a3
  have G3 := hid (And.intro (s3.heap HG2.out HF1.out) (s3.out HF1.out (lt_of_heap HG2.out)))
  have R3 := hid (And.intro (s3.heap HR2.out.1 HR2.out.2) (s3.out HR2.out.2 (lt_of_heap HR2.out.1)))
  have F3h := hid (show ∀ i, F3 i → w.heap.size ≤ i from s3.high B2.out.size F1h.out)
  have B3 := hid (show Below w.heap.size w w3 from B2.out.trans (s3.below B2.out.size F1h.out))
  have kg := cell_sb8 G3.out.1
  have fg := frozen_of_heap (i := 0) G3.out.1
  have HW1 := hid B1.out.size
  clear a3 s3
  have HS4 := hid (heap_setCell_at _ _ 0 _ _ _ (.int .u32 ((sl l l.length : Nat) : Int)) G3.out.1)
  have A4 := hid (A3.out.setOther ⟨w1.heap.size, 0, none⟩ (.int .u32 ((sl l l.length : Nat) : Int)) G3.out.2)
  have R4 := hid ((Below.heap_setCell w3 ⟨w1.heap.size, 0, none⟩ (.int .u32 ((sl l l.length : Nat) : Int)) (w1.heap.size + 1) (by show w1.heap.size + 1 ≠ w1.heap.size; omega)).trans R3.out.1)
  have B4 := hid (show Below w.heap.size w (w3.setCell ⟨w1.heap.size, 0, none⟩ (.int .u32 ((sl l l.length : Nat) : Int))) from B3.out.setCell (p := ⟨w1.heap.size, 0, none⟩) HW1.out _)
  go_wp2_with fail
  have HS5 := hid (show (w3.setCell ⟨w1.heap.size, 0, none⟩ (.int .u32 ((sl l l.length : Nat) : Int))).heap[w1.heap.size]? = some (sb ((sl l l.length : Nat) : Int)) from HS4.out)
  have A5 := hid A4.out
  obtain ⟨gw, hgw⟩ : ∃ gw, w1.heap.size + 1 = gw := ⟨_, rfl⟩
  have R5 := hid (And.intro R4.out R3.out.2)
  rw [hgw] at R5 ⊢
  have B5 := hid B4.out
  clear hgw kg fg
  generalize (w3.setCell ⟨w1.heap.size, 0, none⟩ (.int .u32 ((sl l l.length : Nat) : Int))) = w5 at *
  have kg := cell_sb8 HS5.out
  obtain ⟨V, hV⟩ : ∃ V, sl l l.length = V := ⟨_, rfl⟩
  rw [hV] at kg ⊢
  clear hV HS4 A4 R4 B4 R3 G3 B3 A3
  refine (told5_any _ _).mono ?_
  rintro e w6 ⟨rfl, hB6⟩
  have A6 := hid (A5.out.below hB6)
  have R6 := hid (And.intro ((hB6.block _ (lt_of_heap R5.out.1)).trans R5.out.1) R5.out.2)
  have B6 := hid (show Below w.heap.size w w6 from B5.out.trans (hB6.mono B5.out.size))
  clear hB6 kg
  go_wp2_with fail
  refine (ar_log h F3 _ _ A6.out).mono ?_
  rintro e w' ⟨rfl, hw'⟩
  subst w'
  obtain ⟨ob, hLo, _⟩ := A6.out.log
  go_wp2_with fail
  refine (len_any _ _ _ _ _ hLo).mono ?_
  rintro e w' ⟨rfl, hw'⟩
  subst w'
  clear hLo
  obtain ⟨m, hm⟩ : ∃ m, (evo B (fun i => 0 + i) (fun i => sv B 0 i) l.length).es.length = m := ⟨_, rfl⟩
  have hme : m = 1 + l.length + 2 * l.length := by rw [← hm, evo_es, HES.out]
  have hm1 : (m : Int) - (1 + (l.length : Int)) = 2 * (l.length : Int) := by omega
  rw [hm]
  clear hm hme
  go_wp2_with fail
  refine (ar_show_yes h F3 _ 0 l.length _ A6.out (by rw [evo_top, HTP.out]; omega) (by rw [evo_es, HES.out]; omega)).mono ?_
  rintro e w7 ⟨g, F7, rfl, hg, hgs, hgF, a7, s7⟩
  rw [HTD.out] at hg
  have HU1 := hid (secs_row hg)
  have HU2 := hid (row_u32s (s7.heap R6.out.1 R6.out.2))
  have HSM := hid (same5_yes (some ⟨g, 0, none⟩) (some ⟨gw, 0, none⟩) l.length l.length _ w7 HU1.out HU2.out (by simp; omega))
  rw [List.length_map, List.length_range] at HSM
  have B7 := hid (show Below w.heap.size w w7 from B6.out.trans (s7.below B6.out.size F3h.out))
  clear hg hgs hgF a7 s7
  go_wp2_with fail
  refine HSM.out.mono ?_
  rintro e w8 ⟨rfl, hB8⟩
  have B8 := hid (B7.out.trans (hB8.mono B7.out.size))
  clear hB8
  go_wp2
  go_ret
  exact ⟨rfl, B8.out⟩

set_option maxHeartbeats 3200000 in
theorem runs_2 (ad : Option Addr) (c kind : Nat) (l : List Nat) (w : World) (hu : U32s w ad l) (hl : ∀ x ∈ l, x < 4294967296) (hn : l.length ≤ 100) (hk : kind < 256) (hr : kind % 4 = 2) :
    Calls Try.prog 6 #[.slice ad l.length c, .int .u8 (kind : Int)] w fun e w' => e = .returned (.bool true) ∧ Below w.heap.size w w' := by
  have HU := hid hu
  have HL := hid hl
  have hn' : ¬ (100 : Int) < (l.length : Int) := by omega
  have hr' : (kind : Int) % 4 = 2 := by omega
  have HLW := hid (fun w' hu => lay5_any ad none c 0 l [] w' hu (fun k hk => by cases hk) hl (by intro x hx; cases hx) (by simp; omega))
  have HLI := hid (lain_is l [])
  obtain ⟨B, hBe⟩ : ∃ B, lain l [] = B := ⟨_, rfl⟩
  rw [hBe] at HLI HLW
  have HTD := hid (told_ors HLI.out)
  have HEQ := hid (show ov B 0 (fun i => i) l.length = oa l l.length from ov_oa HLI.out.a _ (Nat.le_refl _))
  have HTP := hid (show B.top = l.length by rw [HLI.out.top]; simp)
  have HES := hid (show B.es.length = 1 + l.length by rw [HLI.out.es]; simp)
  clear hu hl hBe
  go_enter Try.func6, Try.ntmps6
  go_wp2_with fail
  refine (awake5_any _).mono ?_
  rintro e w0 ⟨rfl, hB0⟩
  have B0 := hid hB0
  clear hB0
  go_wp2_with fail
  refine (HLW.out _ (HU.out.below B0.out)).mono ?_
  rintro e w1 ⟨h, F1, rfl, a1, hF1, hB1⟩
  have A1 := hid a1
  have F1h := hid (show ∀ i, F1 i → w.heap.size ≤ i from fun i hi => Nat.le_trans B0.out.size (hF1 i hi))
  have B1 := hid (show Below w.heap.size w w1 from B0.out.trans (hB1.mono B0.out.size))
  clear a1 hF1 hB1
  go_wp2_with fail
  refine (ar_log h F1 B _ A1.out).mono ?_
  rintro e w' ⟨rfl, hw'⟩
  subst w'
  obtain ⟨ob, hLo, _⟩ := A1.out.log
  go_wp2_with fail
  refine (len_any _ _ _ _ _ hLo).mono ?_
  rintro e w' ⟨rfl, hw'⟩
  subst w'
  clear hLo
  rw [HES.out]
  go_wp2_with fail
  have HBA := hid (show Below w.heap.size w (w1.alloc (sb 0)) from blw_alloc B1.out)
  have HG0 := hid (heap_alloc_at w1 (sb 0))
  have HF1 := hid (show ¬ F1 w1.heap.size from fun z => by have := A1.out.lt _ z; omega)
  refine (rsums_any ad c l false _ (HU.out.below HBA.out) (by omega)).mono ?_
  rintro e w2 ⟨rfl, hrow, hB2⟩
  rw [World.size_alloc] at hrow
  have A2 := hid ((A1.out.alloc (sb 0)).below hB2)
  have HR2 := hid (And.intro hrow (show ¬ F1 (w1.heap.size + 1) from fun z => by have := A1.out.lt _ z; omega))
  have HG2 := hid ((hB2.block _ (lt_of_heap HG0.out)).trans HG0.out)
  have B2 := hid (show Below w.heap.size w w2 from HBA.out.trans (hB2.mono HBA.out.size))
  clear hrow hB2
  go_wp2_with fail
  refine (ors_yes h F1 B 0 l.length _ A2.out (by rw [HTP.out]; omega) (by rw [HES.out]; omega)).mono ?_
  rintro e w3 ⟨rfl, F3, a3, s3⟩
  rw [HEQ.out]
  have A3 := hid a3
  have G3 := hid (And.intro (s3.heap HG2.out HF1.out) (s3.out HF1.out (lt_of_heap HG2.out)))
  have R3 := hid (And.intro (s3.heap HR2.out.1 HR2.out.2) (s3.out HR2.out.2 (lt_of_heap HR2.out.1)))
  have F3h := hid (show ∀ i, F3 i → w.heap.size ≤ i from s3.high B2.out.size F1h.out)
  have B3 := hid (show Below w.heap.size w w3 from B2.out.trans (s3.below B2.out.size F1h.out))
  have kg := cell_sb8 G3.out.1
  have fg := frozen_of_heap (i := 0) G3.out.1
  have HW1 := hid B1.out.size
  clear a3 s3
  have HS4 := hid (heap_setCell_at _ _ 0 _ _ _ (.int .u32 ((oa l l.length : Nat) : Int)) G3.out.1)
  have A4 := hid (A3.out.setOther ⟨w1.heap.size, 0, none⟩ (.int .u32 ((oa l l.length : Nat) : Int)) G3.out.2)
  have R4 := hid ((Below.heap_setCell w3 ⟨w1.heap.size, 0, none⟩ (.int .u32 ((oa l l.length : Nat) : Int)) (w1.heap.size + 1) (by show w1.heap.size + 1 ≠ w1.heap.size; omega)).trans R3.out.1)
  have B4 := hid (show Below w.heap.size w (w3.setCell ⟨w1.heap.size, 0, none⟩ (.int .u32 ((oa l l.length : Nat) : Int))) from B3.out.setCell (p := ⟨w1.heap.size, 0, none⟩) HW1.out _)
  go_wp2_with fail
  clear kg fg
  have HL4 := hid (show w1.heap.size < (w3.setCell ⟨w1.heap.size, 0, none⟩ (.int .u32 ((oa l l.length : Nat) : Int))).heap.size from lt_of_heap HS4.out)
  refine (rors_any ad c l false _ (HU.out.below B4.out) HL.out (by omega)).mono ?_
  rintro e w5 ⟨rfl, hrow, hB5⟩
  have HS5 := hid (show w5.heap[w1.heap.size]? = some (sb ((oa l l.length : Nat) : Int)) from (hB5.block _ (lt_of_heap HS4.out)).trans HS4.out)
  have A5 := hid (A4.out.below hB5)
  obtain ⟨gw, hgw⟩ : ∃ gw, (w3.setCell ⟨w1.heap.size, 0, none⟩ (.int .u32 ((oa l l.length : Nat) : Int))).heap.size = gw := ⟨_, rfl⟩
  rw [hgw] at hrow
  have R5 := hid (And.intro hrow (show ¬ F3 gw from fun z => by have := A4.out.lt _ z; omega))
  have B5 := hid (show Below w.heap.size w w5 from B4.out.trans (hB5.mono B4.out.size))
  rw [hgw]
  clear hrow hB5 hgw
  have kg := cell_sb8 HS5.out
  go_wp2_with fail
  obtain ⟨V, hV⟩ : ∃ V, oa l l.length = V := ⟨_, rfl⟩
  rw [hV] at kg ⊢
  clear hV HS4 A4 R4 B4 R3 G3 B3 A3
  refine (told5_any _ _).mono ?_
  rintro e w6 ⟨rfl, hB6⟩
  have A6 := hid (A5.out.below hB6)
  have R6 := hid (And.intro ((hB6.block _ (lt_of_heap R5.out.1)).trans R5.out.1) R5.out.2)
  have B6 := hid (show Below w.heap.size w w6 from B5.out.trans (hB6.mono B5.out.size))
  clear hB6 kg
  go_wp2_with fail
  refine (ar_log h F3 _ _ A6.out).mono ?_
  rintro e w' ⟨rfl, hw'⟩
  subst w'
  obtain ⟨ob, hLo, _⟩ := A6.out.log
  go_wp2_with fail
  refine (len_any _ _ _ _ _ hLo).mono ?_
  rintro e w' ⟨rfl, hw'⟩
  subst w'
  clear hLo
  obtain ⟨m, hm⟩ : ∃ m, (evo B (fun i => 0 + i) (fun i => ov B 0 (fun i => i) (i + 1)) l.length).es.length = m := ⟨_, rfl⟩
  have hme : m = 1 + l.length + 2 * l.length := by rw [← hm, evo_es, HES.out]
  have hm1 : (m : Int) - (1 + (l.length : Int)) = 2 * (l.length : Int) := by omega
  rw [hm]
  clear hm hme
  go_wp2_with fail
  refine (ar_show_yes h F3 _ 0 l.length _ A6.out (by rw [evo_top, HTP.out]; omega) (by rw [evo_es, HES.out]; omega)).mono ?_
  rintro e w7 ⟨g, F7, rfl, hg, hgs, hgF, a7, s7⟩
  rw [HTD.out] at hg
  have HU1 := hid (secs_row hg)
  have HU2 := hid (row_u32s (s7.heap R6.out.1 R6.out.2))
  have HSM := hid (same5_yes (some ⟨g, 0, none⟩) (some ⟨gw, 0, none⟩) l.length l.length _ w7 HU1.out HU2.out (by simp; omega))
  rw [List.length_map, List.length_range] at HSM
  have B7 := hid (show Below w.heap.size w w7 from B6.out.trans (s7.below B6.out.size F3h.out))
  clear hg hgs hgF a7 s7
  go_wp2_with fail
  refine HSM.out.mono ?_
  rintro e w8 ⟨rfl, hB8⟩
  have B8 := hid (B7.out.trans (hB8.mono B7.out.size))
  clear hB8
  go_wp2
  go_ret
  exact ⟨rfl, B8.out⟩

set_option maxHeartbeats 3200000 in
theorem runs_3 (ad : Option Addr) (c kind : Nat) (l : List Nat) (w : World) (hu : U32s w ad l) (hl : ∀ x ∈ l, x < 4294967296) (hn : l.length ≤ 100) (hk : kind < 256) (hr : kind % 4 = 3) :
    Calls Try.prog 6 #[.slice ad l.length c, .int .u8 (kind : Int)] w fun e w' => e = .returned (.bool true) ∧ Below w.heap.size w w' := by
  have HU := hid hu
  have HL := hid hl
  have hn' : ¬ (100 : Int) < (l.length : Int) := by omega
  have hr' : (kind : Int) % 4 = 3 := by omega
  have HLW := hid (fun w' hu => lay5_any ad none c 0 l [] w' hu (fun k hk => by cases hk) hl (by intro x hx; cases hx) (by simp; omega))
  have HLI := hid (lain_is l [])
  obtain ⟨B, hBe⟩ : ∃ B, lain l [] = B := ⟨_, rfl⟩
  rw [hBe] at HLI HLW
  have HTD := hid (told_behind HLI.out)
  have HEQ := hid (show ov B 0 (bk l.length) l.length = oa l l.length from behind_all HLI.out.a)
  have HTP := hid (show B.top = l.length by rw [HLI.out.top]; simp)
  have HES := hid (show B.es.length = 1 + l.length by rw [HLI.out.es]; simp)
  clear hu hl hBe
  go_enter Try.func6, Try.ntmps6
  go_wp2_with fail
  refine (awake5_any _).mono ?_
  rintro e w0 ⟨rfl, hB0⟩
  have B0 := hid hB0
  clear hB0
  go_wp2_with fail
  refine (HLW.out _ (HU.out.below B0.out)).mono ?_
  rintro e w1 ⟨h, F1, rfl, a1, hF1, hB1⟩
  have A1 := hid a1
  have F1h := hid (show ∀ i, F1 i → w.heap.size ≤ i from fun i hi => Nat.le_trans B0.out.size (hF1 i hi))
  have B1 := hid (show Below w.heap.size w w1 from B0.out.trans (hB1.mono B0.out.size))
  clear a1 hF1 hB1
  go_wp2_with fail
  refine (ar_log h F1 B _ A1.out).mono ?_
  rintro e w' ⟨rfl, hw'⟩
  subst w'
  obtain ⟨ob, hLo, _⟩ := A1.out.log
  go_wp2_with fail
  refine (len_any _ _ _ _ _ hLo).mono ?_
  rintro e w' ⟨rfl, hw'⟩
  subst w'
  clear hLo
  rw [HES.out]
  go_wp2_with fail
  have HBA := hid (show Below w.heap.size w (w1.alloc (sb 0)) from blw_alloc B1.out)
  have HG0 := hid (heap_alloc_at w1 (sb 0))
  have HF1 := hid (show ¬ F1 w1.heap.size from fun z => by have := A1.out.lt _ z; omega)
  refine (rsums_any ad c l false _ (HU.out.below HBA.out) (by omega)).mono ?_
  rintro e w2 ⟨rfl, hrow, hB2⟩
  rw [World.size_alloc] at hrow
  have A2 := hid ((A1.out.alloc (sb 0)).below hB2)
  have HR2 := hid (And.intro hrow (show ¬ F1 (w1.heap.size + 1) from fun z => by have := A1.out.lt _ z; omega))
  have HG2 := hid ((hB2.block _ (lt_of_heap HG0.out)).trans HG0.out)
  have B2 := hid (show Below w.heap.size w w2 from HBA.out.trans (hB2.mono HBA.out.size))
  clear hrow hB2
  go_wp2_with fail
  refine (behind_yes h F1 B 0 l.length _ A2.out (by rw [HTP.out]; omega) (by rw [HES.out]; omega)).mono ?_
  rintro e w3 ⟨rfl, F3, a3, s3⟩
  rw [HEQ.out]
  have A3 := hid a3
  have G3 := hid (And.intro (s3.heap HG2.out HF1.out) (s3.out HF1.out (lt_of_heap HG2.out)))
  have R3 := hid (And.intro (s3.heap HR2.out.1 HR2.out.2) (s3.out HR2.out.2 (lt_of_heap HR2.out.1)))
  have F3h := hid (show ∀ i, F3 i → w.heap.size ≤ i from s3.high B2.out.size F1h.out)
  have B3 := hid (show Below w.heap.size w w3 from B2.out.trans (s3.below B2.out.size F1h.out))
  have kg := cell_sb8 G3.out.1
  have fg := frozen_of_heap (i := 0) G3.out.1
  have HW1 := hid B1.out.size
  clear a3 s3
  have HS4 := hid (heap_setCell_at _ _ 0 _ _ _ (.int .u32 ((oa l l.length : Nat) : Int)) G3.out.1)
  have A4 := hid (A3.out.setOther ⟨w1.heap.size, 0, none⟩ (.int .u32 ((oa l l.length : Nat) : Int)) G3.out.2)
  have R4 := hid ((Below.heap_setCell w3 ⟨w1.heap.size, 0, none⟩ (.int .u32 ((oa l l.length : Nat) : Int)) (w1.heap.size + 1) (by show w1.heap.size + 1 ≠ w1.heap.size; omega)).trans R3.out.1)
  have B4 := hid (show Below w.heap.size w (w3.setCell ⟨w1.heap.size, 0, none⟩ (.int .u32 ((oa l l.length : Nat) : Int))) from B3.out.setCell (p := ⟨w1.heap.size, 0, none⟩) HW1.out _)
  go_wp2_with fail
  clear kg fg
  have HL4 := hid (show w1.heap.size < (w3.setCell ⟨w1.heap.size, 0, none⟩ (.int .u32 ((oa l l.length : Nat) : Int))).heap.size from lt_of_heap HS4.out)
  refine (rors_any ad c l true _ (HU.out.below B4.out) HL.out (by omega)).mono ?_
  rintro e w5 ⟨rfl, hrow, hB5⟩
  have HS5 := hid (show w5.heap[w1.heap.size]? = some (sb ((oa l l.length : Nat) : Int)) from (hB5.block _ (lt_of_heap HS4.out)).trans HS4.out)
  have A5 := hid (A4.out.below hB5)
  obtain ⟨gw, hgw⟩ : ∃ gw, (w3.setCell ⟨w1.heap.size, 0, none⟩ (.int .u32 ((oa l l.length : Nat) : Int))).heap.size = gw := ⟨_, rfl⟩
  rw [hgw] at hrow
  have R5 := hid (And.intro hrow (show ¬ F3 gw from fun z => by have := A4.out.lt _ z; omega))
  have B5 := hid (show Below w.heap.size w w5 from B4.out.trans (hB5.mono B4.out.size))
  rw [hgw]
  clear hrow hB5 hgw
  have kg := cell_sb8 HS5.out
  go_wp2_with fail
  obtain ⟨V, hV⟩ : ∃ V, oa l l.length = V := ⟨_, rfl⟩
  rw [hV] at kg ⊢
  clear hV HS4 A4 R4 B4 R3 G3 B3 A3
  refine (told5_any _ _).mono ?_
  rintro e w6 ⟨rfl, hB6⟩
  have A6 := hid (A5.out.below hB6)
  have R6 := hid (And.intro ((hB6.block _ (lt_of_heap R5.out.1)).trans R5.out.1) R5.out.2)
  have B6 := hid (show Below w.heap.size w w6 from B5.out.trans (hB6.mono B5.out.size))
  clear hB6 kg
  go_wp2_with fail
  refine (ar_log h F3 _ _ A6.out).mono ?_
  rintro e w' ⟨rfl, hw'⟩
  subst w'
  obtain ⟨ob, hLo, _⟩ := A6.out.log
  go_wp2_with fail
  refine (len_any _ _ _ _ _ hLo).mono ?_
  rintro e w' ⟨rfl, hw'⟩
  subst w'
  clear hLo
  obtain ⟨m, hm⟩ : ∃ m, (evo B (fun i => 0 + bk l.length i) (fun i => ov B 0 (bk l.length) (i + 1)) l.length).es.length = m := ⟨_, rfl⟩
  have hme : m = 1 + l.length + 2 * l.length := by rw [← hm, evo_es, HES.out]
  have hm1 : (m : Int) - (1 + (l.length : Int)) = 2 * (l.length : Int) := by omega
  rw [hm]
  clear hm hme
  go_wp2_with fail
  refine (ar_show_yes h F3 _ 0 l.length _ A6.out (by rw [evo_top, HTP.out]; omega) (by rw [evo_es, HES.out]; omega)).mono ?_
  rintro e w7 ⟨g, F7, rfl, hg, hgs, hgF, a7, s7⟩
  rw [HTD.out] at hg
  have HU1 := hid (secs_row hg)
  have HU2 := hid (row_u32s (s7.heap R6.out.1 R6.out.2))
  have HSM := hid (same5_yes (some ⟨g, 0, none⟩) (some ⟨gw, 0, none⟩) l.length l.length _ w7 HU1.out HU2.out (by simp; omega))
  rw [List.length_map, List.length_range] at HSM
  have B7 := hid (show Below w.heap.size w w7 from B6.out.trans (s7.below B6.out.size F3h.out))
  clear hg hgs hgF a7 s7
  go_wp2_with fail
  refine HSM.out.mono ?_
  rintro e w8 ⟨rfl, hB8⟩
  have B8 := hid (B7.out.trans (hB8.mono B7.out.size))
  clear hB8
  go_wp2
  go_ret
  exact ⟨rfl, B8.out⟩

set_option maxHeartbeats 800000 in
theorem scanRuns_walk (ad : Option Addr) (len cap : Nat) (zs : List Int) (kind : Nat) (w : World) (h : IsRow .u32 w ad len cap zs) (hk : kind < 256) :
    Calls Try.prog 6 #[.slice ad len cap, .int .u8 (kind : Int)] w fun e w' => e = .returned (.bool true) ∧ Below w.heap.size w w' := by
  obtain ⟨l, rfl, hl, hu⟩ := isRow_u32s h
  by_cases h1 : l.length ≤ 100
  · have h4 : kind % 4 = 0 ∨ kind % 4 = 1 ∨ kind % 4 = 2 ∨ kind % 4 = 3 := by omega
    rcases h4 with h4 | h4 | h4 | h4
    · exact runs_0 ad cap kind l w hu hl h1 hk h4
    · exact runs_1 ad cap kind l w hu hl h1 hk h4
    · exact runs_2 ad cap kind l w hu hl h1 hk h4
    · exact runs_3 ad cap kind l w hu hl h1 hk h4
  · clear h hl hu hk
    obtain ⟨n, hn⟩ : ∃ n, l.length = n := ⟨_, rfl⟩
    rw [hn] at h1 ⊢
    clear hn
    have c1 : (100 : Int) < (n : Int) := by omega
    clear h1
    go_enter Try.func6, Try.ntmps6
    go_wp2_with (go_at_call 29; refine (awake5_any _).mono ?_; rintro e w1 ⟨rfl, hB1⟩; have HB1 := hid hB1; clear hB1)
    go_ret
    exact ⟨rfl, HB1.out⟩
end Go.Proofs.Ytjdbofgjieljlaa
