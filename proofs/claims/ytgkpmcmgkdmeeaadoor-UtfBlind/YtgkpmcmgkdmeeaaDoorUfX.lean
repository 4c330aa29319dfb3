/- The law UtfBlind returns true at all inputs. Conditions: the variable leads holds what the program's text lays there. -/
import Derived.Test.YtgkpmcmgkdmeeaaDoorUfM
import Derived.Test.YtgkpmcmgkdmeeaaDoorUfV
import Derived.BigQuiet
import Derived.Deep.QuietTactic
namespace Go.Proofs.YtgkpmcmgkdmeeaaDoor
open Go.RowKit
set_option linter.unusedVariables false

/-- a thing in memory, and its blocks -/
structure UOwns (P : World → (Nat → Prop) → Prop) : Prop where
  lt : ∀ {w F}, P w F → ∀ i, F i → i < w.heap.size
  kept : ∀ {w w' F G}, P w F → Fr G w w' → (∀ i, F i → ¬ G i) → P w' F
theorem uar_owns (h : Hn) (A : Ars) : UOwns (fun w F => Ar w h F A) := ⟨fun a => a.lt, fun a hf hd => a.kept hf hd⟩
/-- both, apart from one another, and made from block B on -/
structure UPair (P Q : World → (Nat → Prop) → Prop) (w0 w : World) (F G : Nat → Prop) : Prop where
  p : P w F
  q : Q w G
  d : ∀ i, F i → ¬ G i
  hf : ∀ i, F i → w0.heap.size ≤ i
  hg : ∀ i, G i → w0.heap.size ≤ i
  bel : Below w0.heap.size w0 w
variable {P Q P' Q' : World → (Nat → Prop) → Prop} {w0 w w' : World} {F G F' G' : Nat → Prop}
theorem UPair.left (x : UPair P Q w0 w F G) (oq : UOwns Q) (a : P' w' F') (s : Step w F w' F') : UPair P' Q w0 w' F' G :=
  ⟨a, oq.kept x.q s.fr fun i hg hf => x.d i hf hg, fun i hf hg => (s.sub i hf).elim (fun y => x.d i y hg) (fun y => by have := oq.lt x.q i hg; omega),
    s.high x.bel.size x.hf, x.hg, x.bel.trans (s.below x.bel.size x.hf)⟩
theorem UPair.right (x : UPair P Q w0 w F G) (op : UOwns P) (b : Q' w' G') (s : Step w G w' G') : UPair P Q' w0 w' F G' :=
  ⟨op.kept x.p s.fr x.d, b, fun i hf hg => (s.sub i hg).elim (fun y => x.d i hf y) (fun y => by have := op.lt x.p i hf; omega),
    x.hf, s.high x.bel.size x.hg, x.bel.trans (s.below x.bel.size x.hg)⟩
theorem UPair.below (x : UPair P Q w0 w F G) (op : UOwns P) (oq : UOwns Q) (hb : Below w.heap.size w w') : UPair P Q w0 w' F G :=
  ⟨op.kept x.p (Fr.ofBelow (S := fun _ => False) hb) fun _ _ y => y, oq.kept x.q (Fr.ofBelow (S := fun _ => False) hb) fun _ _ y => y, x.d, x.hf, x.hg, x.bel.trans (hb.mono x.bel.size)⟩

theorem urowAt {w w' : World} {base : Nat} {e : TypeId} {size n cap : Nat} {ad : Option Addr} {xs : List Value} (h : w.ownsRow base e size (.slice ad n cap) n xs) (hb : Below w.heap.size w w') : ∀ i (_ : i < n), ∃ g, ad = some ⟨g, 0, none⟩ ∧ ∀ j u, xs[j]? = some u → w'.cell? ⟨g, j, none⟩ = some u := by
  intro i hi
  obtain ⟨g, cap2, hv, _, hc⟩ := owns_block h (by omega)
  cases hv
  exact ⟨g, rfl, fun j u hj => cell_later hb (hc j u hj)⟩

def zeroB (n : Nat) : Array Value := ((List.replicate n 0).map fun (b : Nat) => Value.int .u8 (b : Int)).toArray
theorem made_zeroB (n : Nat) : madeCells #[Value.int .u8 0] n = zeroB n := by
  unfold zeroB madeCells
  apply Array.ext
  · simp
  · intro i h1 h2
    simp [Nat.mod_one]
theorem Tryd.infoU8w : (Tryd.prog.info? 5).map (fun i => (i.zero, i.size, i.bytes)) = some (some (.int .u8 0), 1, 1) := by kernel_rfl
theorem run_make_u8 (n : Nat) (hn : n ≤ 4194304) (w : World) :
    (Instr.makeSlice 22 (.int .i64 (n : Int)) (.int .i64 (n : Int))).run Tryd.prog w = .ok (.slice (some ⟨w.heap.size, 0, none⟩) n n) (w.alloc (.cells (zeroB n) 5)) := by
  obtain ⟨i0, hi, hz0, hz1, hz2⟩ := info_parts Tryd.infoU8w
  have := run_make (P := Tryd.prog) w 22 5 i0 _ Tryd.underlying22 hi hz0 .i64 .i64 n n (by omega) (Int.le_refl _) (by rw [hz2]; omega) (by omega)
  rw [this, hz1, ← made_zeroB]; simp [Value.cells]
theorem zero_u8s (w : World) (n : Nat) : U8s (w.alloc (.cells (zeroB n) 5)) (some ⟨w.heap.size, 0, none⟩) (List.replicate n 0) := bytes_u8s (heap_alloc_at _ _)
theorem lay9_zero (ad : Option Addr) (n c : Nat) (w : World) (h : U8s w ad (List.replicate n 0)) (hn : n ≤ 1000) :
    Calls Tryd.prog 8 #[.slice ad n c, .int .i64 3] w fun e w' => ∃ h F, e = .returned (arPtr h) ∧ Ar w' h F (layK (List.replicate n 0) n) ∧ (∀ i, F i → w.heap.size ≤ i) ∧ Below w.heap.size w w' := by
  have := lay9_any ad c (List.replicate n 0) w h (by intro x hx; have := List.eq_of_mem_replicate hx; omega) (by simpa using hn)
  rwa [List.length_replicate] at this
/-- what is noted hangs on the number of bytes alone -/
def stE : Nat → List Ev
  | 0 => []
  | k + 1 => stE k ++ [⟨2, k, 0⟩]
theorem layK_evs (l : List Nat) (k : Nat) : (layK l k).es = ((Ars.new ((l.length * 3 : Nat) : Int)).take ((l.length * 3 : Nat) : Int)).es ++ stE k := by
  induction k with
  | zero => simp [layK, stE]
  | succ k ih => simp only [layK, Ars.storeN, ih, stE, List.append_assoc]
theorem blind_es (l : List Nat) (len len' : Nat) : (dec2 (layK l l.length) 0 l.length (2 * l.length) len l.length l.length).es = (dec2 (layK (List.replicate l.length 0) l.length) 0 l.length (2 * l.length) len' l.length l.length).es := by
  rw [dec_evs, dec_evs, layK_evs, layK_evs, List.length_replicate]

set_option maxHeartbeats 3200000 in
set_option maxRecDepth 20000 in
theorem blinds_core (ad : Option Addr) (c : Nat) (l : List Nat) (len : Nat) (w : World) (h1 : U8s w ad l) (hl : ∀ x ∈ l, x < 256) (hlen : len < 4294967296) (t : Lv w) :
    Calls Tryd.prog 4 #[.slice ad l.length c, .int .u32 (len : Int)] w fun e w' => e = .returned (.bool true) ∧ Below w.heap.size w w' := by
  have H1 := hid h1
  have HL := hid hl
  have HT := hid t
  have HTP := hid t.pos
  clear h1 hl t
  by_cases hn : l.length ≤ 100
  · have hni : ¬ (100 : Int) < (l.length : Int) := by omega
    have hn2 : l.length ≤ 1000 := by omega
    have hmk := run_make_u8 l.length (by omega)
    go_enter Tryd.func4, Tryd.ntmps4
    go_wp2_with fail
    refine (awake9_any _ HT.out).mono ?_
    rintro e w1 ⟨rfl, hB1⟩
    have B1 := hid hB1
    have HU := hid (H1.out.below hB1)
    clear hB1
    go_upto_region 6 with fail
    go_cut [6, 7] from 18 (fun c6 c7 wx => ∃ hx Fx hy Fy, c6 = arPtr hx ∧ c7 = arPtr hy ∧ UPair (fun w F => Ar w hx F (layK l l.length)) (fun w F => Ar w hy F (layK (List.replicate l.length 0) l.length)) w1 wx Fx Fy)
    case first =>
      refine wp_region_held_drew (S := (fun _ => True)) (by kernel_rfl) (trivial) (fun hHeld => ?_)
      refine tk_at (i := 0) (d := some 18) (v := ?_) rfl rfl (by kernel_rfl) (by kernel_rfl) (by kernel_rfl) (fun _ _ _ h => h) (Or.inl ⟨by rfl, ?_⟩) (by assumption) ?_
      rotate_left
      · (intro w hSw; (try dsimp only at hSw); go_simp; try (with_reducible rfl))
      simp only [Act.put, List.setIfInBounds_toArray, List.set_cons_zero, List.set_cons_succ]
      refine tk_at (i := 2) (d := some 20) (v := ?_) rfl rfl (by kernel_rfl) (by kernel_rfl) (by kernel_rfl) (fun _ _ _ h => h) (Or.inl ⟨by rfl, ?_⟩) (by assumption) ?_
      rotate_left
      · (intro w hSw; (try dsimp only at hSw); go_simp; try (with_reducible rfl))
      simp only [Act.put, List.setIfInBounds_toArray, List.set_cons_zero, List.set_cons_succ]
      refine wpAnyH_ready (rs := [1, 3]) (by kernel_rfl) (by simp) ?_
      refine AllReadyH.cons rfl (fun K hK => ?_) (AllReadyH.cons rfl (fun K hK => ?_) AllReadyH.nil)
      · go_simp
        refine (lay9_any ad c l _ (HU.out.below (blw_drew (Below.refl _ _))) HL.out hn2).mono ?_
        rintro e w2 ⟨hx, Fx, rfl, ax, hFx, hBx⟩
        have AX := hid ax
        have FX := hid hFx
        have BX := hid (belowCat (blw_drew (Below.refl w1.heap.size w1)) hBx)
        clear ax hFx hBx
        go_wp2_with fail
        refine hK.out _ _ (trivial) (fun hHeld => ?_)
        clear hK K
        try simp only [Act.put, List.setIfInBounds_toArray, List.set_cons_zero, List.set_cons_succ]
        refine wpAnyH_ready (rs := [3]) (by kernel_rfl) (by simp) ?_
        refine AllReadyH.cons rfl (fun K hK => ?_) AllReadyH.nil
        go_simp
        have BM := hid ((Below.refl w2.heap.size w2).alloc (Nat.le_refl _) (.cells (zeroB l.length) 5))
        have UM := hid (zero_u8s w2 l.length)
        go_wp2_with fail
        refine hK.out _ _ (trivial) (fun hHeld => ?_)
        clear hK K
        try simp only [Act.put, List.setIfInBounds_toArray, List.set_cons_zero, List.set_cons_succ]
        refine wpAnyH_ready (rs := [4]) (by kernel_rfl) (by simp) ?_
        refine AllReadyH.cons rfl (fun K hK => ?_) AllReadyH.nil
        go_simp
        refine (lay9_zero _ l.length _ _ UM.out hn2).mono ?_
        rintro e w4 ⟨hy, Fy, rfl, ay, hFy, hBy⟩
        have HP := hid (show UPair (fun w F => Ar w hx F (layK l l.length)) (fun w F => Ar w hy F (layK (List.replicate l.length 0) l.length)) w1 w4 Fx Fy from ⟨(AX.out.below BM.out).below hBy, ay, fun i h1 h2 => by have h3 := AX.out.lt _ h1; have h4 := hFy _ h2; have h5 := BM.out.size; omega, FX.out, fun i h2 => Nat.le_trans (Nat.le_trans BX.out.size BM.out.size) (hFy _ h2), belowCat (belowCat BX.out BM.out) hBy⟩)
        clear ay hFy hBy
        go_wp2_with fail
        refine hK.out _ _ (trivial) (fun hHeld => ?_)
        clear hK K
        try simp only [Act.put, List.setIfInBounds_toArray, List.set_cons_zero, List.set_cons_succ]
        refine wpAnyH_ready (rs := [5]) (by kernel_rfl) (by simp) ?_
        refine AllReadyH.cons rfl (fun K hK => ?_) AllReadyH.nil
        go_simp
        go_wp2_with fail
        refine hK.out _ _ (trivial) (fun hHeld => ?_)
        clear hK K
        try simp only [Act.put, List.setIfInBounds_toArray, List.set_cons_zero, List.set_cons_succ]
        refine wpAnyH_ready (rs := [6]) (by kernel_rfl) (by simp) ?_
        refine AllReadyH.cons rfl (fun K hK => ?_) AllReadyH.nil
        go_simp
        go_wp2_with fail
        refine hK.out _ _ (trivial) (fun hHeld => ?_)
        clear hK K
        try simp only [Act.put, List.setIfInBounds_toArray, List.set_cons_zero, List.set_cons_succ]
        refine wpAnyH_done (by kernel_rfl) ?_ _
        clear hHeld
        go_wp2_with fail
        go_meet
        case rel => exact ⟨hx, Fx, hy, Fy, rfl, rfl, HP.out⟩
      · go_simp
        have BM := hid (belowCat (blw_drew (Below.refl w1.heap.size w1)) ((Below.refl w1.drew.heap.size w1.drew).alloc (Nat.le_refl _) (.cells (zeroB l.length) 5)))
        have UM := hid (zero_u8s w1.drew l.length)
        go_wp2_with fail
        refine hK.out _ _ (trivial) (fun hHeld => ?_)
        clear hK K
        try simp only [Act.put, List.setIfInBounds_toArray, List.set_cons_zero, List.set_cons_succ]
        refine wpAnyH_ready (rs := [1]) (by kernel_rfl) (by simp) ?_
        refine AllReadyH.cons rfl (fun K hK => ?_) AllReadyH.nil
        go_simp
        refine (lay9_any ad c l _ (HU.out.below BM.out) HL.out hn2).mono ?_
        rintro e w2 ⟨hx, Fx, rfl, ax, hFx, hBx⟩
        have AX := hid ax
        have FX := hid hFx
        have BX := hid (belowCat BM.out hBx)
        have UM2 := hid (UM.out.below hBx)
        have SM := hid hBx.size
        clear ax hFx hBx
        go_wp2_with fail
        refine hK.out _ _ (trivial) (fun hHeld => ?_)
        clear hK K
        try simp only [Act.put, List.setIfInBounds_toArray, List.set_cons_zero, List.set_cons_succ]
        refine wpAnyH_ready (rs := [4]) (by kernel_rfl) (by simp) ?_
        refine AllReadyH.cons rfl (fun K hK => ?_) AllReadyH.nil
        go_simp
        refine (lay9_zero _ l.length _ _ UM2.out hn2).mono ?_
        rintro e w4 ⟨hy, Fy, rfl, ay, hFy, hBy⟩
        have HP := hid (show UPair (fun w F => Ar w hx F (layK l l.length)) (fun w F => Ar w hy F (layK (List.replicate l.length 0) l.length)) w1 w4 Fx Fy from ⟨AX.out.below hBy, ay, fun i h1 h2 => by have h3 := AX.out.lt _ h1; have h4 := hFy _ h2; omega, fun i h1 => Nat.le_trans BM.out.size (FX.out _ h1), fun i h2 => Nat.le_trans BX.out.size (hFy _ h2), belowCat BX.out hBy⟩)
        clear ay hFy hBy
        go_wp2_with fail
        refine hK.out _ _ (trivial) (fun hHeld => ?_)
        clear hK K
        try simp only [Act.put, List.setIfInBounds_toArray, List.set_cons_zero, List.set_cons_succ]
        refine wpAnyH_ready (rs := [5]) (by kernel_rfl) (by simp) ?_
        refine AllReadyH.cons rfl (fun K hK => ?_) AllReadyH.nil
        go_simp
        go_wp2_with fail
        refine hK.out _ _ (trivial) (fun hHeld => ?_)
        clear hK K
        try simp only [Act.put, List.setIfInBounds_toArray, List.set_cons_zero, List.set_cons_succ]
        refine wpAnyH_ready (rs := [6]) (by kernel_rfl) (by simp) ?_
        refine AllReadyH.cons rfl (fun K hK => ?_) AllReadyH.nil
        go_simp
        go_wp2_with fail
        refine hK.out _ _ (trivial) (fun hHeld => ?_)
        clear hK K
        try simp only [Act.put, List.setIfInBounds_toArray, List.set_cons_zero, List.set_cons_succ]
        refine wpAnyH_done (by kernel_rfl) ?_ _
        clear hHeld
        go_wp2_with fail
        go_meet
        case rel => exact ⟨hx, Fx, hy, Fy, rfl, rfl, HP.out⟩
    case rest =>
      obtain ⟨hx, Fx, hy, Fy, rfl, rfl, hp⟩ := hcut
      have P2 := hid hp
      clear hp hmk
      generalize hvv : wc = w2 at *
      clear hvv
      have HSX := hid (layK_sizes l l.length)
      have HSY := hid (show (layK (List.replicate l.length 0) l.length).top = l.length * 3 ∧ (layK (List.replicate l.length 0) l.length).ws.length = l.length * 3 ∧ (layK (List.replicate l.length 0) l.length).es.length = 1 + l.length from by have h := layK_sizes (List.replicate l.length 0) l.length; rw [List.length_replicate] at h; exact h)
      have HRX := hid (lay_rfine (layK l l.length) l.length (by rw [HSX.out.1]; exact Nat.le_refl _))
      have HRY := hid (lay_rfine (layK (List.replicate l.length 0) l.length) l.length (by rw [HSY.out.1]; exact Nat.le_refl _))
      have HDX := hid (dec_sizes (layK l l.length) 0 l.length (2 * l.length) len l.length l.length)
      have HEQ := hid (blind_es l len 0)
      obtain ⟨X, hX⟩ : ∃ A, layK l l.length = A := ⟨_, rfl⟩
      obtain ⟨Y, hY⟩ : ∃ A, layK (List.replicate l.length 0) l.length = A := ⟨_, rfl⟩
      rw [hX] at P2 HSX HRX HDX HEQ
      rw [hY] at P2 HSY HRY HEQ
      obtain ⟨X2, hX2⟩ : ∃ A, dec2 X 0 l.length (2 * l.length) len l.length l.length = A := ⟨_, rfl⟩
      obtain ⟨Y2, hY2⟩ : ∃ A, dec2 Y 0 l.length (2 * l.length) 0 l.length l.length = A := ⟨_, rfl⟩
      rw [hX2] at HDX HEQ
      rw [hY2] at HEQ
      have HX2 := hid hX2
      have HY2 := hid hY2
      have HEL := hid (show X2.es.length = 1 + l.length + 7 * l.length by rw [HDX.out.2.2, HSX.out.2.2]; omega)
      have HNN := hid (show (2 * (l.length : Int)) = ((2 * l.length : Nat) : Int) by omega)
      clear hX hY hX2 hY2
      go_wp2_with fail
      refine (ar_log hx Fx X _ P2.out.p).mono ?_
      rintro e w' ⟨rfl, hw⟩
      subst w'
      go_wp2_with fail
      obtain ⟨oa, hLa, _⟩ := P2.out.p.log
      refine (len_any _ _ _ _ _ hLa).mono ?_
      rintro e w' ⟨rfl, hw⟩
      subst w'
      rw [HSX.out.2.2]
      clear hLa
      go_wp2_with fail
      refine (of_b _ _).mono ?_
      rintro e w3 ⟨rfl, hB3⟩
      have P3 := hid (P2.out.below (uar_owns hx X) (uar_owns hy Y) hB3)
      clear hB3 P2
      go_wp2_with fail
      rw [HNN.out]
      refine (decode_yes hx Fx X 0 l.length (2 * l.length) l.length len _ P3.out.p hlen (by omega) HRX.out (by rw [HSX.out.2.2]; omega) ((HT.out.below B1.out).below P3.out.bel) (fun x => by have h3 := P3.out.hf _ x; have h4 := HTP.out; have h5 := B1.out.size; omega)).mono ?_
      rintro e w4 ⟨rfl, F4, a4, s4⟩
      rw [HX2.out] at a4
      have P4 := hid (UPair.left (P' := fun w F => Ar w hx F X2) P3.out (uar_owns hy Y) a4 s4)
      clear a4 s4 P3
      go_wp2_with fail
      refine (of_b _ _).mono ?_
      rintro e w5 ⟨rfl, hB5⟩
      have P5 := hid (P4.out.below (uar_owns hx X2) (uar_owns hy Y) hB5)
      clear hB5 P4
      go_wp2_with fail
      rw [HNN.out]
      refine (decode_yes hy Fy Y 0 l.length (2 * l.length) l.length 0 _ P5.out.q (by decide) (by omega) HRY.out (by rw [HSY.out.2.2]; omega) ((HT.out.below B1.out).below P5.out.bel) (fun x => by have h3 := P5.out.hg _ x; have h4 := HTP.out; have h5 := B1.out.size; omega)).mono ?_
      rintro e w6 ⟨rfl, G6, a6, s6⟩
      rw [HY2.out] at a6
      have P6 := hid (UPair.right (Q' := fun w F => Ar w hy F Y2) P5.out (uar_owns hx X2) a6 s6)
      clear a6 s6 P5
      go_wp2_with fail
      refine (ar_log hx F4 X2 _ P6.out.p).mono ?_
      rintro e w' ⟨rfl, hw⟩
      subst w'
      go_wp2_with fail
      obtain ⟨oa, hLa, _⟩ := P6.out.p.log
      refine (blind_any _ _ X2.es _ hLa (by rw [HEL.out]; omega)).mono ?_
      rintro e w7 ⟨ad1, cap1, rfl, ho1, hb7⟩
      have O1 := hid ho1
      have P7 := hid (P6.out.below (uar_owns hx X2) (uar_owns hy Y2) hb7)
      clear ho1 hLa hb7 P6
      go_wp2_with fail
      refine (ar_log hy G6 Y2 _ P7.out.q).mono ?_
      rintro e w' ⟨rfl, hw⟩
      subst w'
      go_wp2_with fail
      obtain ⟨ob, hLb, _⟩ := P7.out.q.log
      refine (blind_any _ _ Y2.es _ hLb (by rw [← HEQ.out, HEL.out]; omega)).mono ?_
      rintro e w8 ⟨ad2, cap2, rfl, ho2, hb8⟩
      rw [← HEQ.out] at ho2
      rw [← HEQ.out]
      have B8 := hid (show Below w.heap.size w w8 from belowCat (belowCat B1.out P7.out.bel) hb8)
      have hml : (X2.es.map blindE).length = X2.es.length := by simp
      have RP := hid (show ∀ i (_ : i < X2.es.length), ∃ g, ad1 = some ⟨g, 0, none⟩ ∧ ∀ j u, (ecells (X2.es.map blindE))[j]? = some u → w8.cell? ⟨g, j, none⟩ = some u from urowAt O1.out hb8)
      have RQ := hid (show ∀ i (_ : i < X2.es.length), ∃ g, ad2 = some ⟨g, 0, none⟩ ∧ ∀ j u, (ecells (X2.es.map blindE))[j]? = some u → w8.cell? ⟨g, j, none⟩ = some u from urowAt ho2 (Below.refl _ _))
      clear ho2 hLb hb8 O1 P7 B1
      rw [HEL.out] at RP RQ hml
      rw [HEL.out]
      obtain ⟨es, hes⟩ : ∃ es, X2.es.map blindE = es := ⟨_, rfl⟩
      rw [hes] at RP RQ hml
      clear hes
      go_wp2_with fail
      have HC7 := hid (show ((7 * l.length : Nat) : Int) = 7 * (l.length : Int) by omega)
      refine (ucost_any l.length (by omega) _).mono ?_
      rintro e w' ⟨rfl, hw⟩
      subst w'
      rw [HC7.out]
      go_wp2_with fail
      refine (ucost_any l.length (by omega) _).mono ?_
      rintro e w' ⟨rfl, hw⟩
      subst w'
      rw [HC7.out]
      go_wp2_with fail
      obtain ⟨n2, hn2e⟩ : ∃ n, 1 + l.length + 7 * l.length = n := ⟨_, rfl⟩
      have hnb : n2 ≤ 1000 := by omega
      go_loopw [70] (fun cc wq => ∃ q : Nat, q ≤ n2 ∧ cc = .int .i64 (q : Int) ∧ Below w8.heap.size w8 wq) (fun cc _ => n2 - (intOf cc).toNat)
      case atStart => exact ⟨0, Nat.zero_le _, rfl, Below.refl _ _⟩
      case round =>
        obtain ⟨q, hq, rfl, hBq⟩ := hrel
        rw [hn2e] at RP RQ hml
        by_cases hql : q < n2
        · obtain ⟨g1, rfl, f1⟩ := RP.out q hql
          obtain ⟨g2, rfl, f2⟩ := RQ.out q hql
          have e1 := ecells_at es q (by omega)
          obtain ⟨ee, hee⟩ : ∃ ee, ee = es[q]'(by omega) := ⟨_, rfl⟩
          rw [← hee] at e1
          have a0 := cell_later hBq (f1 _ _ e1.1)
          have a1 := cell_later hBq (f1 _ _ e1.2.1)
          have a2 := cell_later hBq (f1 _ _ e1.2.2)
          have b0 := cell_later hBq (f2 _ _ e1.1)
          have b1 := cell_later hBq (f2 _ _ e1.2.1)
          have b2 := cell_later hBq (f2 _ _ e1.2.2)
          have hqi : (q : Int) < ((1 + l.length + 7 * l.length : Nat) : Int) := by omega
          clear f1 f2 e1 hee RP RQ hml
          go_wp2_with fail
          go_quiet (fail)
          go_wp2_with fail
          go_roundw
          case rel => exact ⟨q + 1, by omega, by go_num, hBq.trans (below_drewN (Below.refl _ _) _)⟩
          case measure => simp [intOf]; omega
        · clear RP RQ hml
          have HB9 := hid (belowCat B8.out hBq)
          clear hBq
          go_wp2
          go_ret
          exact ⟨rfl, HB9.out⟩
  · have hni : (100 : Int) < (l.length : Int) := by omega
    go_enter Tryd.func4, Tryd.ntmps4
    go_wp2_with fail
    refine (awake9_any _ HT.out).mono ?_
    rintro e w0 ⟨rfl, hB0⟩
    have B0 := hid hB0
    clear hB0
    go_wp2
    go_ret
    exact ⟨rfl, B0.out⟩
theorem blinds_law (ad : Option Addr) (len cap : Nat) (zs : List Int) (n : Nat) (w : World) (hr : IsRow .u8 w ad len cap zs) (h1 : n < 4294967296) (t : Lv w) :
    Calls Tryd.prog 4 #[.slice ad len cap, .int .u32 (n : Int)] w fun e w' => e = .returned (.bool true) ∧ Below w.heap.size w w' := by
  obtain ⟨l, rfl, hl, hu, hc⟩ := u8s_row hr
  exact blinds_core ad cap l n w hu hl h1 t
end Go.Proofs.YtgkpmcmgkdmeeaaDoor
