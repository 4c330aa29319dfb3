/- The law UnutfEncodes returns true at all inputs. Conditions: the variable places holds what the program's text lays there. -/
import Derived.Test.YtjcnkigadlmpgaaDoorUnE
import Derived.Test.YtjcnkigadlmpgaaDoorUnI
import Derived.BigQuiet
import Derived.Deep.QuietTactic
import Derived.Deep.Cut
namespace Go.Proofs.YtjcnkigadlmpgaaDoor
open Go.RowKit
set_option linter.unusedVariables false

/-- a thing in memory, and its blocks -/
structure NOwns (P : World → (Nat → Prop) → Prop) : Prop where
  lt : ∀ {w F}, P w F → ∀ i, F i → i < w.heap.size
  kept : ∀ {w w' F G}, P w F → Fr G w w' → (∀ i, F i → ¬ G i) → P w' F
theorem nar_owns (h : Hn) (A : Ars) : NOwns (fun w F => Ar w h F A) := ⟨fun a => a.lt, fun a hf hd => a.kept hf hd⟩
/-- both, apart from one another, and made from block B on -/
structure NPair (P Q : World → (Nat → Prop) → Prop) (w0 w : World) (F G : Nat → Prop) : Prop where
  p : P w F
  q : Q w G
  d : ∀ i, F i → ¬ G i
  hf : ∀ i, F i → w0.heap.size ≤ i
  hg : ∀ i, G i → w0.heap.size ≤ i
  bel : Below w0.heap.size w0 w
section
variable {P Q P' Q' : World → (Nat → Prop) → Prop} {w0 w w' : World} {F G F' G' : Nat → Prop}
theorem NPair.left (x : NPair P Q w0 w F G) (oq : NOwns Q) (a : P' w' F') (s : Step w F w' F') : NPair P' Q w0 w' F' G :=
  ⟨a, oq.kept x.q s.fr fun i hg hf => x.d i hf hg, fun i hf hg => (s.sub i hf).elim (fun y => x.d i y hg) (fun y => by have := oq.lt x.q i hg; omega),
    s.high x.bel.size x.hf, x.hg, x.bel.trans (s.below x.bel.size x.hf)⟩
theorem NPair.right (x : NPair P Q w0 w F G) (op : NOwns P) (b : Q' w' G') (s : Step w G w' G') : NPair P Q' w0 w' F G' :=
  ⟨op.kept x.p s.fr x.d, b, fun i hf hg => (s.sub i hg).elim (fun y => x.d i hf y) (fun y => by have := op.lt x.p i hf; omega),
    x.hf, s.high x.bel.size x.hg, x.bel.trans (s.below x.bel.size x.hg)⟩
theorem NPair.below (x : NPair P Q w0 w F G) (op : NOwns P) (oq : NOwns Q) (hb : Below w.heap.size w w') : NPair P Q w0 w' F G :=
  ⟨op.kept x.p (Fr.ofBelow (S := fun _ => False) hb) fun _ _ y => y, oq.kept x.q (Fr.ofBelow (S := fun _ => False) hb) fun _ _ y => y, x.d, x.hf, x.hg, x.bel.trans (hb.mono x.bel.size)⟩
end
theorem nrowAt {w w' : World} {base : Nat} {e : TypeId} {size n cap : Nat} {ad : Option Addr} {xs : List Value} (h : w.ownsRow base e size (.slice ad n cap) n xs) (hb : Below w.heap.size w w') : ∀ i (_ : i < n), ∃ g, ad = some ⟨g, 0, none⟩ ∧ ∀ j u, xs[j]? = some u → w'.cell? ⟨g, j, none⟩ = some u := by
  intro i hi
  obtain ⟨g, cap2, hv, _, hc⟩ := owns_block h (by omega)
  cases hv
  exact ⟨g, rfl, fun j u hj => cell_later hb (hc j u hj)⟩
theorem zero_row {w : World} {g n : Nat} (h : w.heap[g]? = some (.cells (rowF n (fun _ => 0)) 30 (0, 0))) : U32s w (some ⟨g, 0, none⟩) (List.replicate n 0) := fun k hk => by
  refine ⟨_, rfl, ?_⟩
  rw [add_plain]
  refine cell_of_heap h ?_
  rw [rowF_get (by simpa using hk)]
  simp
theorem zero_lt {n : Nat} : ∀ x ∈ List.replicate n 0, x < 4294967296 := fun x hx => by rw [List.eq_of_mem_replicate hx]; decide
theorem unrel_at {A : Ars} {N i : Nat} (h : N + i < A.top) : A.loadV ((N : Int) + (i : Int)) = A.word (N + i) ∧ A.rel ((N : Int) + (i : Int)) = A.relN (N + i) := by
  have hf : A.fits ((N : Int) + (i : Int)) 1 = true := by rw [Ars.fits_iff]; omega
  have e : ((N : Int) + (i : Int)).toNat = N + i := by omega
  unfold Ars.loadV Ars.rel
  rw [if_pos hf, if_pos hf, e]; exact ⟨rfl, rfl⟩
theorem unrel_0 {A : Ars} {i : Nat} (h : i < A.top) : A.loadV (i : Int) = A.word i ∧ A.rel (i : Int) = A.relN i := by
  have hf : A.fits (i : Int) 1 = true := by rw [Ars.fits_iff]; omega
  have e : (i : Int).toNat = i := by omega
  unfold Ars.loadV Ars.rel
  rw [if_pos hf, if_pos hf, e]; exact ⟨rfl, rfl⟩
theorem unword_ws {A B : Ars} (h : A.ws = B.ws) (i : Nat) : A.word i = B.word i := by unfold Ars.word; rw [h]
/-- what is noted is the same for any words -/
theorem enc_same {A B A' B' : Ars} {P K n O M : Nat} (e : Encd A A' P K n O M) (f : Encd B B' P K n O M) (h : A.es = B.es) (ht : A.top = B.top) : A'.es = B'.es := by rw [e.es, f.es, h, ht]
theorem layU_es (xs ks ys js : List Nat) (m : Nat) (h1 : ks.length = xs.length) (h2 : js.length = ys.length) (h3 : xs.length = ys.length) : (layU xs ks m).es = (layU ys js m).es ∧ (layU xs ks m).top = (layU ys js m).top ∧ (layU xs ks m).es.length = 1 + 2 * xs.length := by
  obtain ⟨a1, a2, a3, _⟩ := layU_facts xs ks m h1
  obtain ⟨b1, b2, b3, _⟩ := layU_facts ys js m h2
  refine ⟨by rw [a3, b3, h3], by rw [a1, b1, h3], ?_⟩
  rw [a3]; simp; omega

theorem layU_n {xs ks : List Nat} {n m : Nat} (hx : xs.length = n) (hk : ks.length = n) : (layU xs ks m).top = 2 * n + m ∧ (layU xs ks m).ws.length = 14 * n + m ∧ (layU xs ks m).es.length = 1 + 2 * n ∧ ∀ i, i < n → (layU xs ks m).word (0 + i) = xs.getD i 0 ∧ (layU xs ks m).word (n + i) = ks.getD i 0 := by
  subst hx
  obtain ⟨h1, h2, h3, h4⟩ := layU_facts xs ks m hk
  refine ⟨h1, h2, by rw [h3]; simp; omega, fun i hi => ?_⟩
  obtain ⟨e1, e2⟩ := h4 i hi
  have hi2 : i < ks.length := by omega
  exact ⟨by rw [e1]; simp [List.getD_eq_getElem?_getD, hi], by rw [e2]; simp [List.getD_eq_getElem?_getD, hi2]⟩
/-- a block that stays, by two things -/
def Kq (w : World) (F G : Nat → Prop) (g : Nat) (o : Obj) : Prop := w.heap[g]? = some o ∧ ¬ F g ∧ ¬ G g
theorem Kq.below {w w' : World} {F G : Nat → Prop} {g : Nat} {o : Obj} (k : Kq w F G g o) (hB : Below w.heap.size w w') : Kq w' F G g o := ⟨bk hB k.1, k.2⟩
theorem Kq.left {w w' : World} {F G F' : Nat → Prop} {g : Nat} {o : Obj} (k : Kq w F G g o) (s : Step w F w' F') : Kq w' F' G g o := ⟨s.heap k.1 k.2.1, s.out k.2.1 (lt_of_heap k.1), k.2.2⟩
theorem Kq.right {w w' : World} {F G G' : Nat → Prop} {g : Nat} {o : Obj} (k : Kq w F G g o) (s : Step w G w' G') : Kq w' F G' g o := ⟨s.heap k.1 k.2.2, k.2.1, s.out k.2.2 (lt_of_heap k.1)⟩

set_option maxHeartbeats 6400000 in
set_option maxRecDepth 20000 in
theorem encodes_in (a1 a2 : Option Addr) (c1 c2 n b : Nat) (xs ks : List Nat) (w : World) (hx : xs.length = n) (hk : ks.length = n) (h1 : U32s w a1 xs) (h2 : U32s w a2 ks) (hlx : ∀ x ∈ xs, x < 4294967296) (hlk : ∀ x ∈ ks, x < 4294967296) (hn : n ≤ 24) (hb : b < 256) (t : Pv w) :
    Calls Tryd.prog 3 #[.slice a1 n c1, .slice a2 n c2, .int .u8 (b : Int)] w fun e w' => e = .returned (.bool true) ∧ Below w.heap.size w w' := by
  have H1 := hid h1
  have H2 := hid h2
  have HLX := hid hlx
  have HLK := hid hlk
  have HX := hid hx
  have HK := hid hk
  have HT := hid t
  have HTP := hid t.pos
  clear h1 h2 hlx hlk hx hk t
  have hni : ¬ (24 : Int) < (n : Int) := by omega
  have hmk := run_make_uk n (by omega)
  obtain ⟨m, hm⟩ : ∃ m, b % (4 * n + 1) = m := ⟨_, rfl⟩
  have hm4 : m ≤ 4 * n := by have := Nat.mod_lt b (show 0 < 4 * n + 1 by omega); omega
  have HMI := hid (show (b : Int) % (4 * (n : Int) + 1) = (m : Int) by rw [← hm, Int.natCast_emod, Int.natCast_add, Int.natCast_mul]; rfl)
  clear hm
  go_enter Tryd.func3, Tryd.ntmps3
  go_wp2_with fail
  refine (awake10_any _ HT.out).mono ?_
  rintro e w1 ⟨rfl, hB1⟩
  have B1 := hid hB1
  have HU1 := hid (u32s_blw H1.out hB1)
  have HU2 := hid (u32s_blw H2.out hB1)
  clear hB1
  have HLAY := hid (show ∀ w', Below w1.heap.size w1 w' → _ from fun w' hb => lay10_any a1 a2 c1 c2 n m xs ks w' HX.out HK.out (u32s_blw HU1.out hb) (u32s_blw HU2.out hb) HLX.out HLK.out (by omega) (by omega))
  have HLZ := hid (show ∀ w' d1 d2, U32s w' d1 (List.replicate n 0) → U32s w' d2 (List.replicate n 0) → _ from fun w' d1 d2 u1 u2 => lay10_any d1 d2 n n n m (List.replicate n 0) (List.replicate n 0) w' (by simp) (by simp) u1 u2 zero_lt zero_lt (by omega) (by omega))
  go_upto_region 7 with fail
  rw [HMI.out]
  go_cut [9, 10] from 43 (fun c9 c10 wx => ∃ hx Fx hy Fy, c9 = arPtr hx ∧ c10 = arPtr hy ∧ NPair (fun w F => Ar w hx F (layU xs ks m)) (fun w F => Ar w hy F (layU (List.replicate n 0) (List.replicate n 0) m)) w1 wx Fx Fy)
  case first =>
    refine wp_region_held_drew (S := (fun _ => True)) (by kernel_rfl) (trivial) (fun hHeld => ?_)
    refine tk_at (i := 0) (d := some 43) (v := ?_) rfl rfl (by kernel_rfl) (by kernel_rfl) (by kernel_rfl) (fun _ _ _ h => h) (Or.inl ⟨by rfl, ?_⟩) (by assumption) ?_
    rotate_left
    · (intro w hSw; (try dsimp only at hSw); go_simp; try (with_reducible rfl))
    simp only [Act.put, List.setIfInBounds_toArray, List.set_cons_zero, List.set_cons_succ]
    refine tk_at (i := 1) (d := some 44) (v := ?_) rfl rfl (by kernel_rfl) (by kernel_rfl) (by kernel_rfl) (fun _ _ _ h => h) (Or.inl ⟨by rfl, ?_⟩) (by assumption) ?_
    rotate_left
    · (intro w hSw; (try dsimp only at hSw); go_simp; try (with_reducible rfl))
    simp only [Act.put, List.setIfInBounds_toArray, List.set_cons_zero, List.set_cons_succ]
    refine tk_at (i := 2) (d := some 45) (v := ?_) rfl rfl (by kernel_rfl) (by kernel_rfl) (by kernel_rfl) (fun _ _ _ h => h) (Or.inl ⟨by rfl, ?_⟩) (by assumption) ?_
    rotate_left
    · (intro w hSw; (try dsimp only at hSw); go_simp; try (with_reducible rfl))
    simp only [Act.put, List.setIfInBounds_toArray, List.set_cons_zero, List.set_cons_succ]
    refine tk_at (i := 4) (d := some 47) (v := ?_) rfl rfl (by kernel_rfl) (by kernel_rfl) (by kernel_rfl) (fun _ _ _ h => h) (Or.inl ⟨by rfl, ?_⟩) (by assumption) ?_
    rotate_left
    · (intro w hSw; (try dsimp only at hSw); go_simp; try (with_reducible rfl))
    simp only [Act.put, List.setIfInBounds_toArray, List.set_cons_zero, List.set_cons_succ]
    refine tk_at (i := 6) (d := some 49) (v := ?_) rfl rfl (by kernel_rfl) (by kernel_rfl) (by kernel_rfl) (fun _ _ _ h => h) (Or.inl ⟨by rfl, ?_⟩) (by assumption) ?_
    rotate_left
    · (intro w hSw; (try dsimp only at hSw); go_simp; try (with_reducible rfl))
    simp only [Act.put, List.setIfInBounds_toArray, List.set_cons_zero, List.set_cons_succ]
    refine tk_at (i := 8) (d := some 51) (v := ?_) rfl rfl (by kernel_rfl) (by kernel_rfl) (by kernel_rfl) (fun _ _ _ h => h) (Or.inl ⟨by rfl, ?_⟩) (by assumption) ?_
    rotate_left
    · (intro w hSw; (try dsimp only at hSw); go_simp; try (with_reducible rfl))
    simp only [Act.put, List.setIfInBounds_toArray, List.set_cons_zero, List.set_cons_succ]
    have BW := hid (blw_drew (Below.refl w1.heap.size w1))
    refine wpAnyH_ready (rs := [3, 5, 7]) (by kernel_rfl) (by simp) ?_
    refine AllReadyH.cons rfl (fun K hK => ?_) (AllReadyH.cons rfl (fun K hK => ?_) (AllReadyH.cons rfl (fun K hK => ?_) AllReadyH.nil))
    · go_simp
      refine (HLAY.out _ BW.out).mono ?_
      rintro e wL ⟨hx, Fx, rfl, ax, hFx, hBx⟩
      have AX := hid ax
      have FX := hid (show ∀ i, Fx i → w1.heap.size ≤ i from fun i hi => Nat.le_trans BW.out.size (hFx i hi))
      replace BW := hid (belowCat BW.out hBx)
      clear ax hFx hBx
      go_wp2_with fail
      refine hK.out _ _ (trivial) (fun hHeld => ?_)
      clear hK K
      try simp only [Act.put, List.setIfInBounds_toArray, List.set_cons_zero, List.set_cons_succ]
      refine wpAnyH_ready (rs := [5, 7]) (by kernel_rfl) (by simp) ?_
      refine AllReadyH.cons rfl (fun K hK => ?_) (AllReadyH.cons rfl (fun K hK => ?_) AllReadyH.nil)
      · go_simp
        have hBm := (Below.refl ((wL).heap.size) (wL)).alloc (Nat.le_refl _) (.cells (rowF n (fun _ => 0)) 30 (0, 0))
        have M5 := hid (show ((wL).alloc (.cells (rowF n (fun _ => 0)) 30 (0, 0))).heap[wL.heap.size]? = some (.cells (rowF n (fun _ => 0)) 30 (0, 0)) from heap_alloc_at (wL) (.cells (rowF n (fun _ => 0)) 30 (0, 0)))
        replace AX := hid (AX.out.below hBm)
        replace BW := hid (belowCat BW.out hBm)
        clear hBm
        go_wp2_with fail
        refine hK.out _ _ (trivial) (fun hHeld => ?_)
        clear hK K
        try simp only [Act.put, List.setIfInBounds_toArray, List.set_cons_zero, List.set_cons_succ]
        refine wpAnyH_ready (rs := [7]) (by kernel_rfl) (by simp) ?_
        refine AllReadyH.cons rfl (fun K hK => ?_) AllReadyH.nil
        go_simp
        have hBm := (Below.refl (((wL).alloc (.cells (rowF n (fun _ => 0)) 30 (0, 0))).heap.size) ((wL).alloc (.cells (rowF n (fun _ => 0)) 30 (0, 0)))).alloc (Nat.le_refl _) (.cells (rowF n (fun _ => 0)) 30 (0, 0))
        have M7 := hid (show (((wL).alloc (.cells (rowF n (fun _ => 0)) 30 (0, 0))).alloc (.cells (rowF n (fun _ => 0)) 30 (0, 0))).heap[wL.heap.size + 1]? = some (.cells (rowF n (fun _ => 0)) 30 (0, 0)) from (by have h := heap_alloc_at ((wL).alloc (.cells (rowF n (fun _ => 0)) 30 (0, 0))) (.cells (rowF n (fun _ => 0)) 30 (0, 0)); simp only [World.size_alloc] at h; exact h))
        replace AX := hid (AX.out.below hBm)
        replace M5 := hid (bk hBm M5.out)
        replace BW := hid (belowCat BW.out hBm)
        clear hBm
        go_wp2_with fail
        refine hK.out _ _ (trivial) (fun hHeld => ?_)
        clear hK K
        try simp only [Act.put, List.setIfInBounds_toArray, List.set_cons_zero, List.set_cons_succ]
        refine wpAnyH_ready (rs := [9]) (by kernel_rfl) (by simp) ?_
        refine AllReadyH.cons rfl (fun K hK => ?_) AllReadyH.nil
        go_simp
        have Z5 := hid (zero_row M5.out)
        have Z7 := hid (zero_row M7.out)
        have QQ := hid (HLZ.out _ _ _ Z5.out Z7.out)
        refine QQ.out.mono ?_
        rintro e wZ ⟨hy, Fy, rfl, ay, hFy, hBy⟩
        have HP := hid (show NPair (fun w F => Ar w hx F (layU xs ks m)) (fun w F => Ar w hy F (layU (List.replicate n 0) (List.replicate n 0) m)) w1 wZ Fx Fy from ⟨AX.out.below hBy, ay, fun i h1 h2 => by have h3 := AX.out.lt _ h1; have h4 := hFy _ h2; omega, FX.out, fun i h2 => Nat.le_trans BW.out.size (hFy _ h2), belowCat BW.out hBy⟩)
        clear ay hFy hBy
        go_wp2_with fail
        refine hK.out _ _ (trivial) (fun hHeld => ?_)
        clear hK K
        try simp only [Act.put, List.setIfInBounds_toArray, List.set_cons_zero, List.set_cons_succ]
        refine wpAnyH_ready (rs := [10]) (by kernel_rfl) (by simp) ?_
        refine AllReadyH.cons rfl (fun K hK => ?_) AllReadyH.nil
        go_simp
        go_wp2_with fail
        refine hK.out _ _ (trivial) (fun hHeld => ?_)
        clear hK K
        try simp only [Act.put, List.setIfInBounds_toArray, List.set_cons_zero, List.set_cons_succ]
        refine wpAnyH_ready (rs := [11]) (by kernel_rfl) (by simp) ?_
        refine AllReadyH.cons rfl (fun K hK => ?_) AllReadyH.nil
        go_simp
        go_wp2_with fail
        refine hK.out _ _ (trivial) (fun hHeld => ?_)
        clear hK K
        try simp only [Act.put, List.setIfInBounds_toArray, List.set_cons_zero, List.set_cons_succ]
        refine wpAnyH_done (by kernel_rfl) ?_ _
        clear hHeld
        go_wp2_with fail
        go_meet
        case rel => exact ⟨hx, Fx, hy, Fy, rfl, rfl, HP.out⟩
      · go_simp
        have hBm := (Below.refl ((wL).heap.size) (wL)).alloc (Nat.le_refl _) (.cells (rowF n (fun _ => 0)) 30 (0, 0))
        have M7 := hid (show ((wL).alloc (.cells (rowF n (fun _ => 0)) 30 (0, 0))).heap[wL.heap.size]? = some (.cells (rowF n (fun _ => 0)) 30 (0, 0)) from heap_alloc_at (wL) (.cells (rowF n (fun _ => 0)) 30 (0, 0)))
        replace AX := hid (AX.out.below hBm)
        replace BW := hid (belowCat BW.out hBm)
        clear hBm
        go_wp2_with fail
        refine hK.out _ _ (trivial) (fun hHeld => ?_)
        clear hK K
        try simp only [Act.put, List.setIfInBounds_toArray, List.set_cons_zero, List.set_cons_succ]
        refine wpAnyH_ready (rs := [5]) (by kernel_rfl) (by simp) ?_
        refine AllReadyH.cons rfl (fun K hK => ?_) AllReadyH.nil
        go_simp
        have hBm := (Below.refl (((wL).alloc (.cells (rowF n (fun _ => 0)) 30 (0, 0))).heap.size) ((wL).alloc (.cells (rowF n (fun _ => 0)) 30 (0, 0)))).alloc (Nat.le_refl _) (.cells (rowF n (fun _ => 0)) 30 (0, 0))
        have M5 := hid (show (((wL).alloc (.cells (rowF n (fun _ => 0)) 30 (0, 0))).alloc (.cells (rowF n (fun _ => 0)) 30 (0, 0))).heap[wL.heap.size + 1]? = some (.cells (rowF n (fun _ => 0)) 30 (0, 0)) from (by have h := heap_alloc_at ((wL).alloc (.cells (rowF n (fun _ => 0)) 30 (0, 0))) (.cells (rowF n (fun _ => 0)) 30 (0, 0)); simp only [World.size_alloc] at h; exact h))
        replace AX := hid (AX.out.below hBm)
        replace M7 := hid (bk hBm M7.out)
        replace BW := hid (belowCat BW.out hBm)
        clear hBm
        go_wp2_with fail
        refine hK.out _ _ (trivial) (fun hHeld => ?_)
        clear hK K
        try simp only [Act.put, List.setIfInBounds_toArray, List.set_cons_zero, List.set_cons_succ]
        refine wpAnyH_ready (rs := [9]) (by kernel_rfl) (by simp) ?_
        refine AllReadyH.cons rfl (fun K hK => ?_) AllReadyH.nil
        go_simp
        have Z5 := hid (zero_row M5.out)
        have Z7 := hid (zero_row M7.out)
        have QQ := hid (HLZ.out _ _ _ Z5.out Z7.out)
        refine QQ.out.mono ?_
        rintro e wZ ⟨hy, Fy, rfl, ay, hFy, hBy⟩
        have HP := hid (show NPair (fun w F => Ar w hx F (layU xs ks m)) (fun w F => Ar w hy F (layU (List.replicate n 0) (List.replicate n 0) m)) w1 wZ Fx Fy from ⟨AX.out.below hBy, ay, fun i h1 h2 => by have h3 := AX.out.lt _ h1; have h4 := hFy _ h2; omega, FX.out, fun i h2 => Nat.le_trans BW.out.size (hFy _ h2), belowCat BW.out hBy⟩)
        clear ay hFy hBy
        go_wp2_with fail
        refine hK.out _ _ (trivial) (fun hHeld => ?_)
        clear hK K
        try simp only [Act.put, List.setIfInBounds_toArray, List.set_cons_zero, List.set_cons_succ]
        refine wpAnyH_ready (rs := [10]) (by kernel_rfl) (by simp) ?_
        refine AllReadyH.cons rfl (fun K hK => ?_) AllReadyH.nil
        go_simp
        go_wp2_with fail
        refine hK.out _ _ (trivial) (fun hHeld => ?_)
        clear hK K
        try simp only [Act.put, List.setIfInBounds_toArray, List.set_cons_zero, List.set_cons_succ]
        refine wpAnyH_ready (rs := [11]) (by kernel_rfl) (by simp) ?_
        refine AllReadyH.cons rfl (fun K hK => ?_) AllReadyH.nil
        go_simp
        go_wp2_with fail
        refine hK.out _ _ (trivial) (fun hHeld => ?_)
        clear hK K
        try simp only [Act.put, List.setIfInBounds_toArray, List.set_cons_zero, List.set_cons_succ]
        refine wpAnyH_done (by kernel_rfl) ?_ _
        clear hHeld
        go_wp2_with fail
        go_meet
        case rel => exact ⟨hx, Fx, hy, Fy, rfl, rfl, HP.out⟩
    · go_simp
      have hBm := (Below.refl ((w1.drew).heap.size) (w1.drew)).alloc (Nat.le_refl _) (.cells (rowF n (fun _ => 0)) 30 (0, 0))
      have M5 := hid (show ((w1.drew).alloc (.cells (rowF n (fun _ => 0)) 30 (0, 0))).heap[w1.heap.size]? = some (.cells (rowF n (fun _ => 0)) 30 (0, 0)) from heap_alloc_at (w1.drew) (.cells (rowF n (fun _ => 0)) 30 (0, 0)))
      replace BW := hid (belowCat BW.out hBm)
      clear hBm
      go_wp2_with fail
      refine hK.out _ _ (trivial) (fun hHeld => ?_)
      clear hK K
      try simp only [Act.put, List.setIfInBounds_toArray, List.set_cons_zero, List.set_cons_succ]
      refine wpAnyH_ready (rs := [3, 7]) (by kernel_rfl) (by simp) ?_
      refine AllReadyH.cons rfl (fun K hK => ?_) (AllReadyH.cons rfl (fun K hK => ?_) AllReadyH.nil)
      · go_simp
        refine (HLAY.out _ BW.out).mono ?_
        rintro e wL ⟨hx, Fx, rfl, ax, hFx, hBx⟩
        have AX := hid ax
        have FX := hid (show ∀ i, Fx i → w1.heap.size ≤ i from fun i hi => Nat.le_trans BW.out.size (hFx i hi))
        replace M5 := hid (bk hBx M5.out)
        replace BW := hid (belowCat BW.out hBx)
        clear ax hFx hBx
        go_wp2_with fail
        refine hK.out _ _ (trivial) (fun hHeld => ?_)
        clear hK K
        try simp only [Act.put, List.setIfInBounds_toArray, List.set_cons_zero, List.set_cons_succ]
        refine wpAnyH_ready (rs := [7]) (by kernel_rfl) (by simp) ?_
        refine AllReadyH.cons rfl (fun K hK => ?_) AllReadyH.nil
        go_simp
        have hBm := (Below.refl ((wL).heap.size) (wL)).alloc (Nat.le_refl _) (.cells (rowF n (fun _ => 0)) 30 (0, 0))
        have M7 := hid (show ((wL).alloc (.cells (rowF n (fun _ => 0)) 30 (0, 0))).heap[wL.heap.size]? = some (.cells (rowF n (fun _ => 0)) 30 (0, 0)) from heap_alloc_at (wL) (.cells (rowF n (fun _ => 0)) 30 (0, 0)))
        replace M5 := hid (bk hBm M5.out)
        replace AX := hid (AX.out.below hBm)
        replace BW := hid (belowCat BW.out hBm)
        clear hBm
        go_wp2_with fail
        refine hK.out _ _ (trivial) (fun hHeld => ?_)
        clear hK K
        try simp only [Act.put, List.setIfInBounds_toArray, List.set_cons_zero, List.set_cons_succ]
        refine wpAnyH_ready (rs := [9]) (by kernel_rfl) (by simp) ?_
        refine AllReadyH.cons rfl (fun K hK => ?_) AllReadyH.nil
        go_simp
        have Z5 := hid (zero_row M5.out)
        have Z7 := hid (zero_row M7.out)
        have QQ := hid (HLZ.out _ _ _ Z5.out Z7.out)
        refine QQ.out.mono ?_
        rintro e wZ ⟨hy, Fy, rfl, ay, hFy, hBy⟩
        have HP := hid (show NPair (fun w F => Ar w hx F (layU xs ks m)) (fun w F => Ar w hy F (layU (List.replicate n 0) (List.replicate n 0) m)) w1 wZ Fx Fy from ⟨AX.out.below hBy, ay, fun i h1 h2 => by have h3 := AX.out.lt _ h1; have h4 := hFy _ h2; omega, FX.out, fun i h2 => Nat.le_trans BW.out.size (hFy _ h2), belowCat BW.out hBy⟩)
        clear ay hFy hBy
        go_wp2_with fail
        refine hK.out _ _ (trivial) (fun hHeld => ?_)
        clear hK K
        try simp only [Act.put, List.setIfInBounds_toArray, List.set_cons_zero, List.set_cons_succ]
        refine wpAnyH_ready (rs := [10]) (by kernel_rfl) (by simp) ?_
        refine AllReadyH.cons rfl (fun K hK => ?_) AllReadyH.nil
        go_simp
        go_wp2_with fail
        refine hK.out _ _ (trivial) (fun hHeld => ?_)
        clear hK K
        try simp only [Act.put, List.setIfInBounds_toArray, List.set_cons_zero, List.set_cons_succ]
        refine wpAnyH_ready (rs := [11]) (by kernel_rfl) (by simp) ?_
        refine AllReadyH.cons rfl (fun K hK => ?_) AllReadyH.nil
        go_simp
        go_wp2_with fail
        refine hK.out _ _ (trivial) (fun hHeld => ?_)
        clear hK K
        try simp only [Act.put, List.setIfInBounds_toArray, List.set_cons_zero, List.set_cons_succ]
        refine wpAnyH_done (by kernel_rfl) ?_ _
        clear hHeld
        go_wp2_with fail
        go_meet
        case rel => exact ⟨hx, Fx, hy, Fy, rfl, rfl, HP.out⟩
      · go_simp
        have hBm := (Below.refl (((w1.drew).alloc (.cells (rowF n (fun _ => 0)) 30 (0, 0))).heap.size) ((w1.drew).alloc (.cells (rowF n (fun _ => 0)) 30 (0, 0)))).alloc (Nat.le_refl _) (.cells (rowF n (fun _ => 0)) 30 (0, 0))
        have M7 := hid (show (((w1.drew).alloc (.cells (rowF n (fun _ => 0)) 30 (0, 0))).alloc (.cells (rowF n (fun _ => 0)) 30 (0, 0))).heap[w1.heap.size + 1]? = some (.cells (rowF n (fun _ => 0)) 30 (0, 0)) from (by have h := heap_alloc_at ((w1.drew).alloc (.cells (rowF n (fun _ => 0)) 30 (0, 0))) (.cells (rowF n (fun _ => 0)) 30 (0, 0)); simp only [World.size_alloc] at h; exact h))
        replace M5 := hid (bk hBm M5.out)
        replace BW := hid (belowCat BW.out hBm)
        clear hBm
        go_wp2_with fail
        refine hK.out _ _ (trivial) (fun hHeld => ?_)
        clear hK K
        try simp only [Act.put, List.setIfInBounds_toArray, List.set_cons_zero, List.set_cons_succ]
        refine wpAnyH_ready (rs := [3]) (by kernel_rfl) (by simp) ?_
        refine AllReadyH.cons rfl (fun K hK => ?_) AllReadyH.nil
        go_simp
        refine (HLAY.out _ BW.out).mono ?_
        rintro e wL ⟨hx, Fx, rfl, ax, hFx, hBx⟩
        have AX := hid ax
        have FX := hid (show ∀ i, Fx i → w1.heap.size ≤ i from fun i hi => Nat.le_trans BW.out.size (hFx i hi))
        replace M5 := hid (bk hBx M5.out)
        replace M7 := hid (bk hBx M7.out)
        replace BW := hid (belowCat BW.out hBx)
        clear ax hFx hBx
        go_wp2_with fail
        refine hK.out _ _ (trivial) (fun hHeld => ?_)
        clear hK K
        try simp only [Act.put, List.setIfInBounds_toArray, List.set_cons_zero, List.set_cons_succ]
        refine wpAnyH_ready (rs := [9]) (by kernel_rfl) (by simp) ?_
        refine AllReadyH.cons rfl (fun K hK => ?_) AllReadyH.nil
        go_simp
        have Z5 := hid (zero_row M5.out)
        have Z7 := hid (zero_row M7.out)
        have QQ := hid (HLZ.out _ _ _ Z5.out Z7.out)
        refine QQ.out.mono ?_
        rintro e wZ ⟨hy, Fy, rfl, ay, hFy, hBy⟩
        have HP := hid (show NPair (fun w F => Ar w hx F (layU xs ks m)) (fun w F => Ar w hy F (layU (List.replicate n 0) (List.replicate n 0) m)) w1 wZ Fx Fy from ⟨AX.out.below hBy, ay, fun i h1 h2 => by have h3 := AX.out.lt _ h1; have h4 := hFy _ h2; omega, FX.out, fun i h2 => Nat.le_trans BW.out.size (hFy _ h2), belowCat BW.out hBy⟩)
        clear ay hFy hBy
        go_wp2_with fail
        refine hK.out _ _ (trivial) (fun hHeld => ?_)
        clear hK K
        try simp only [Act.put, List.setIfInBounds_toArray, List.set_cons_zero, List.set_cons_succ]
        refine wpAnyH_ready (rs := [10]) (by kernel_rfl) (by simp) ?_
        refine AllReadyH.cons rfl (fun K hK => ?_) AllReadyH.nil
        go_simp
        go_wp2_with fail
        refine hK.out _ _ (trivial) (fun hHeld => ?_)
        clear hK K
        try simp only [Act.put, List.setIfInBounds_toArray, List.set_cons_zero, List.set_cons_succ]
        refine wpAnyH_ready (rs := [11]) (by kernel_rfl) (by simp) ?_
        refine AllReadyH.cons rfl (fun K hK => ?_) AllReadyH.nil
        go_simp
        go_wp2_with fail
        refine hK.out _ _ (trivial) (fun hHeld => ?_)
        clear hK K
        try simp only [Act.put, List.setIfInBounds_toArray, List.set_cons_zero, List.set_cons_succ]
        refine wpAnyH_done (by kernel_rfl) ?_ _
        clear hHeld
        go_wp2_with fail
        go_meet
        case rel => exact ⟨hx, Fx, hy, Fy, rfl, rfl, HP.out⟩
    · go_simp
      have hBm := (Below.refl ((w1.drew).heap.size) (w1.drew)).alloc (Nat.le_refl _) (.cells (rowF n (fun _ => 0)) 30 (0, 0))
      have M7 := hid (show ((w1.drew).alloc (.cells (rowF n (fun _ => 0)) 30 (0, 0))).heap[w1.heap.size]? = some (.cells (rowF n (fun _ => 0)) 30 (0, 0)) from heap_alloc_at (w1.drew) (.cells (rowF n (fun _ => 0)) 30 (0, 0)))
      replace BW := hid (belowCat BW.out hBm)
      clear hBm
      go_wp2_with fail
      refine hK.out _ _ (trivial) (fun hHeld => ?_)
      clear hK K
      try simp only [Act.put, List.setIfInBounds_toArray, List.set_cons_zero, List.set_cons_succ]
      refine wpAnyH_ready (rs := [3, 5]) (by kernel_rfl) (by simp) ?_
      refine AllReadyH.cons rfl (fun K hK => ?_) (AllReadyH.cons rfl (fun K hK => ?_) AllReadyH.nil)
      · go_simp
        refine (HLAY.out _ BW.out).mono ?_
        rintro e wL ⟨hx, Fx, rfl, ax, hFx, hBx⟩
        have AX := hid ax
        have FX := hid (show ∀ i, Fx i → w1.heap.size ≤ i from fun i hi => Nat.le_trans BW.out.size (hFx i hi))
        replace M7 := hid (bk hBx M7.out)
        replace BW := hid (belowCat BW.out hBx)
        clear ax hFx hBx
        go_wp2_with fail
        refine hK.out _ _ (trivial) (fun hHeld => ?_)
        clear hK K
        try simp only [Act.put, List.setIfInBounds_toArray, List.set_cons_zero, List.set_cons_succ]
        refine wpAnyH_ready (rs := [5]) (by kernel_rfl) (by simp) ?_
        refine AllReadyH.cons rfl (fun K hK => ?_) AllReadyH.nil
        go_simp
        have hBm := (Below.refl ((wL).heap.size) (wL)).alloc (Nat.le_refl _) (.cells (rowF n (fun _ => 0)) 30 (0, 0))
        have M5 := hid (show ((wL).alloc (.cells (rowF n (fun _ => 0)) 30 (0, 0))).heap[wL.heap.size]? = some (.cells (rowF n (fun _ => 0)) 30 (0, 0)) from heap_alloc_at (wL) (.cells (rowF n (fun _ => 0)) 30 (0, 0)))
        replace M7 := hid (bk hBm M7.out)
        replace AX := hid (AX.out.below hBm)
        replace BW := hid (belowCat BW.out hBm)
        clear hBm
        go_wp2_with fail
        refine hK.out _ _ (trivial) (fun hHeld => ?_)
        clear hK K
        try simp only [Act.put, List.setIfInBounds_toArray, List.set_cons_zero, List.set_cons_succ]
        refine wpAnyH_ready (rs := [9]) (by kernel_rfl) (by simp) ?_
        refine AllReadyH.cons rfl (fun K hK => ?_) AllReadyH.nil
        go_simp
        have Z5 := hid (zero_row M5.out)
        have Z7 := hid (zero_row M7.out)
        have QQ := hid (HLZ.out _ _ _ Z5.out Z7.out)
        refine QQ.out.mono ?_
        rintro e wZ ⟨hy, Fy, rfl, ay, hFy, hBy⟩
        have HP := hid (show NPair (fun w F => Ar w hx F (layU xs ks m)) (fun w F => Ar w hy F (layU (List.replicate n 0) (List.replicate n 0) m)) w1 wZ Fx Fy from ⟨AX.out.below hBy, ay, fun i h1 h2 => by have h3 := AX.out.lt _ h1; have h4 := hFy _ h2; omega, FX.out, fun i h2 => Nat.le_trans BW.out.size (hFy _ h2), belowCat BW.out hBy⟩)
        clear ay hFy hBy
        go_wp2_with fail
        refine hK.out _ _ (trivial) (fun hHeld => ?_)
        clear hK K
        try simp only [Act.put, List.setIfInBounds_toArray, List.set_cons_zero, List.set_cons_succ]
        refine wpAnyH_ready (rs := [10]) (by kernel_rfl) (by simp) ?_
        refine AllReadyH.cons rfl (fun K hK => ?_) AllReadyH.nil
        go_simp
        go_wp2_with fail
        refine hK.out _ _ (trivial) (fun hHeld => ?_)
        clear hK K
        try simp only [Act.put, List.setIfInBounds_toArray, List.set_cons_zero, List.set_cons_succ]
        refine wpAnyH_ready (rs := [11]) (by kernel_rfl) (by simp) ?_
        refine AllReadyH.cons rfl (fun K hK => ?_) AllReadyH.nil
        go_simp
        go_wp2_with fail
        refine hK.out _ _ (trivial) (fun hHeld => ?_)
        clear hK K
        try simp only [Act.put, List.setIfInBounds_toArray, List.set_cons_zero, List.set_cons_succ]
        refine wpAnyH_done (by kernel_rfl) ?_ _
        clear hHeld
        go_wp2_with fail
        go_meet
        case rel => exact ⟨hx, Fx, hy, Fy, rfl, rfl, HP.out⟩
      · go_simp
        have hBm := (Below.refl (((w1.drew).alloc (.cells (rowF n (fun _ => 0)) 30 (0, 0))).heap.size) ((w1.drew).alloc (.cells (rowF n (fun _ => 0)) 30 (0, 0)))).alloc (Nat.le_refl _) (.cells (rowF n (fun _ => 0)) 30 (0, 0))
        have M5 := hid (show (((w1.drew).alloc (.cells (rowF n (fun _ => 0)) 30 (0, 0))).alloc (.cells (rowF n (fun _ => 0)) 30 (0, 0))).heap[w1.heap.size + 1]? = some (.cells (rowF n (fun _ => 0)) 30 (0, 0)) from (by have h := heap_alloc_at ((w1.drew).alloc (.cells (rowF n (fun _ => 0)) 30 (0, 0))) (.cells (rowF n (fun _ => 0)) 30 (0, 0)); simp only [World.size_alloc] at h; exact h))
        replace M7 := hid (bk hBm M7.out)
        replace BW := hid (belowCat BW.out hBm)
        clear hBm
        go_wp2_with fail
        refine hK.out _ _ (trivial) (fun hHeld => ?_)
        clear hK K
        try simp only [Act.put, List.setIfInBounds_toArray, List.set_cons_zero, List.set_cons_succ]
        refine wpAnyH_ready (rs := [3]) (by kernel_rfl) (by simp) ?_
        refine AllReadyH.cons rfl (fun K hK => ?_) AllReadyH.nil
        go_simp
        refine (HLAY.out _ BW.out).mono ?_
        rintro e wL ⟨hx, Fx, rfl, ax, hFx, hBx⟩
        have AX := hid ax
        have FX := hid (show ∀ i, Fx i → w1.heap.size ≤ i from fun i hi => Nat.le_trans BW.out.size (hFx i hi))
        replace M7 := hid (bk hBx M7.out)
        replace M5 := hid (bk hBx M5.out)
        replace BW := hid (belowCat BW.out hBx)
        clear ax hFx hBx
        go_wp2_with fail
        refine hK.out _ _ (trivial) (fun hHeld => ?_)
        clear hK K
        try simp only [Act.put, List.setIfInBounds_toArray, List.set_cons_zero, List.set_cons_succ]
        refine wpAnyH_ready (rs := [9]) (by kernel_rfl) (by simp) ?_
        refine AllReadyH.cons rfl (fun K hK => ?_) AllReadyH.nil
        go_simp
        have Z5 := hid (zero_row M5.out)
        have Z7 := hid (zero_row M7.out)
        have QQ := hid (HLZ.out _ _ _ Z5.out Z7.out)
        refine QQ.out.mono ?_
        rintro e wZ ⟨hy, Fy, rfl, ay, hFy, hBy⟩
        have HP := hid (show NPair (fun w F => Ar w hx F (layU xs ks m)) (fun w F => Ar w hy F (layU (List.replicate n 0) (List.replicate n 0) m)) w1 wZ Fx Fy from ⟨AX.out.below hBy, ay, fun i h1 h2 => by have h3 := AX.out.lt _ h1; have h4 := hFy _ h2; omega, FX.out, fun i h2 => Nat.le_trans BW.out.size (hFy _ h2), belowCat BW.out hBy⟩)
        clear ay hFy hBy
        go_wp2_with fail
        refine hK.out _ _ (trivial) (fun hHeld => ?_)
        clear hK K
        try simp only [Act.put, List.setIfInBounds_toArray, List.set_cons_zero, List.set_cons_succ]
        refine wpAnyH_ready (rs := [10]) (by kernel_rfl) (by simp) ?_
        refine AllReadyH.cons rfl (fun K hK => ?_) AllReadyH.nil
        go_simp
        go_wp2_with fail
        refine hK.out _ _ (trivial) (fun hHeld => ?_)
        clear hK K
        try simp only [Act.put, List.setIfInBounds_toArray, List.set_cons_zero, List.set_cons_succ]
        refine wpAnyH_ready (rs := [11]) (by kernel_rfl) (by simp) ?_
        refine AllReadyH.cons rfl (fun K hK => ?_) AllReadyH.nil
        go_simp
        go_wp2_with fail
        refine hK.out _ _ (trivial) (fun hHeld => ?_)
        clear hK K
        try simp only [Act.put, List.setIfInBounds_toArray, List.set_cons_zero, List.set_cons_succ]
        refine wpAnyH_done (by kernel_rfl) ?_ _
        clear hHeld
        go_wp2_with fail
        go_meet
        case rel => exact ⟨hx, Fx, hy, Fy, rfl, rfl, HP.out⟩
  case rest =>
    obtain ⟨hx, Fx, hy, Fy, rfl, rfl, hp⟩ := hcut
    have P2 := hid hp
    clear hp hmk
    generalize hvv : wc = w2 at *
    clear hvv
    have HSX := hid (layU_n (m := m) HX.out HK.out)
    have HSY := hid (layU_n (xs := List.replicate n 0) (ks := List.replicate n 0) (n := n) (m := m) (by simp) (by simp))
    have HEQ := hid (layU_es xs ks (List.replicate n 0) (List.replicate n 0) m (HK.out.trans HX.out.symm) rfl (by rw [HX.out]; simp))
    obtain ⟨X, hX⟩ : ∃ A, layU xs ks m = A := ⟨_, rfl⟩
    obtain ⟨Y, hY⟩ : ∃ A, layU (List.replicate n 0) (List.replicate n 0) m = A := ⟨_, rfl⟩
    rw [hX] at P2 HSX HEQ
    rw [hY] at P2 HSY HEQ
    clear hX hY
    have HRX := hid (unlay_rfine X n m (by rw [HSX.out.1]; exact Nat.le_refl _))
    have HRY := hid (unlay_rfine Y n m (by rw [HSY.out.1]; exact Nat.le_refl _))
    have HEL := hid (show encL (fun i => X.word (0 + i)) (fun i => X.word (n + i)) n = encL (fun i => xs.getD i 0) (fun i => ks.getD i 0) n from encL_congr fun i hi => HSX.out.2.2.2 i hi)
    have HRE := hid (fun w' u1 u2 => rencode_any a1 a2 c1 c2 n xs ks w' HX.out HK.out u1 u2 (by omega))
    have HEC := hid (show (encL (fun i => xs.getD i 0) (fun i => ks.getD i 0) n).length ≤ 4 * n from encL_len _ _ n)
    have HEB := hid (encL_lt (fun i => xs.getD i 0) (fun i => ks.getD i 0) n)
    obtain ⟨EL, hEL⟩ : ∃ l, encL (fun i => xs.getD i 0) (fun i => ks.getD i 0) n = l := ⟨_, rfl⟩
    rw [hEL] at HEL HRE HEC HEB
    clear hEL
    obtain ⟨C, hC⟩ : ∃ c, EL.length = c := ⟨_, rfl⟩
    have HC := hid hC
    rw [hC] at HRE HEC
    clear hC
    have hC96 : C ≤ 96 := by have := HEC.out; omega
    obtain ⟨U, hU⟩ : ∃ u, ucN n m = u := ⟨_, rfl⟩
    have HU := hid hU
    have hUb : U ≤ 6000000 := by rw [← hU]; exact ucN_le n m (by omega) hm4
    clear hU
    obtain ⟨E0, hE0⟩ : ∃ e, 1 + 2 * n = e := ⟨_, rfl⟩
    have hE0b : E0 ≤ 49 := by omega
    have HE0 := hid hE0
    rw [hE0] at HSX HSY
    clear hE0
    have HNN := hid (show 2 * (n : Int) = ((2 * n : Nat) : Int) by omega)
    go_wp2_with fail
    refine (ar_log hx Fx X _ P2.out.p).mono ?_
    rintro e w' ⟨rfl, hw⟩
    subst w'
    go_wp2_with fail
    obtain ⟨oa, hLa, _⟩ := P2.out.p.log
    refine (len_any _ _ _ _ _ hLa).mono ?_
    rintro e w' ⟨rfl, hw⟩
    subst w'
    rw [HSX.out.2.2.1]
    clear hLa
    go_wp2_with fail
    rw [HNN.out]
    refine (encode_yes hx Fx X 0 n n (2 * n) m _ P2.out.p (by omega) hm4 HRX.out (by rw [HSX.out.1, HSX.out.2.1]; omega) (by rw [HSX.out.2.2.1]; omega) ((HT.out.below B1.out).below P2.out.bel) (fun x => by have h3 := P2.out.hf _ x; have h4 := HTP.out; have h5 := B1.out.size; omega)).mono ?_
    rintro e w3 ⟨rfl, F3, X2, a3, s3, ex⟩
    rw [HEL.out, HC.out]
    have EX := hid ex
    have P3 := hid (NPair.left (P' := fun w F => Ar w hx F X2) P2.out (nar_owns hy Y) a3 s3)
    clear a3 s3 ex P2
    obtain ⟨ov, hov⟩ : ∃ b, decide (m < C) = b := ⟨_, rfl⟩
    rw [hov]
    have HOV := hid hov
    clear hov
    have hBa : Below w3.heap.size w3 ((w3.alloc (sb (C : Nat))).alloc (sb (mk ov : Nat))) := (by repeat (first | exact Below.refl _ _ | refine blw_alloc ?_ | refine blw_drew ?_ | assumption))
    have K1 := hid (show Kq ((w3.alloc (sb (C : Nat))).alloc (sb (mk ov : Nat))) F3 Fy w3.heap.size (sb (C : Nat)) from ⟨bk (w := w3.alloc (sb (C : Nat))) (by repeat (first | exact Below.refl _ _ | refine blw_alloc ?_ | refine blw_drew ?_ | assumption)) (heap_alloc_at _ _), fun x => absurd ((nar_owns hx X2).lt P3.out.p _ x) (Nat.lt_irrefl _), fun x => absurd ((nar_owns hy Y).lt P3.out.q _ x) (Nat.lt_irrefl _)⟩)
    have K2 := hid (show Kq ((w3.alloc (sb (C : Nat))).alloc (sb (mk ov : Nat))) F3 Fy (w3.heap.size + 1) (sb (mk ov : Nat)) from ⟨by have h := heap_alloc_at (w3.alloc (sb (C : Nat))) (sb (mk ov : Nat)); simp only [World.size_alloc] at h; exact h, fun x => by have := (nar_owns hx X2).lt P3.out.p _ x; omega, fun x => by have := (nar_owns hy Y).lt P3.out.q _ x; omega⟩)
    have P4 := hid (P3.out.below (nar_owns hx X2) (nar_owns hy Y) hBa)
    clear hBa P3
    have HE2 := hid (fun (G : Nat → Prop) (w' : World) (p : NPair (fun w F => Ar w hx F X2) (fun w F => Ar w hy F Y) w1 w' F3 G) => encode_yes hy G Y 0 n n (2 * n) m w' p.q (by omega) hm4 HRY.out (by rw [HSY.out.1, HSY.out.2.1]; omega) (by rw [HSY.out.2.2.1]; omega) ((HT.out.below B1.out).below p.bel) (fun x => by have h3 := p.hg _ x; have h4 := HTP.out; have h5 := B1.out.size; omega))
    go_wp2_with fail
    rw [HNN.out]
    generalize ((w3.alloc (.cells #[.int .u32 (C : Int)] 32)).alloc (.cells #[.int .u32 ((mk ov : Nat) : Int)] 32)) = w4 at *
    obtain ⟨y, hy3⟩ : ∃ y, w3.heap.size = y := ⟨_, rfl⟩
    rw [hy3] at K1 K2 ⊢
    clear hy3
    refine (HE2.out Fy _ P4.out).mono ?_
    rintro e w5 ⟨rfl, G5, Y2, a5, s5, ey⟩
    have P5 := hid (NPair.right (Q' := fun w F => Ar w hy F Y2) P4.out (nar_owns hx X2) a5 s5)
    have K15 := hid (K1.out.right s5)
    have K25 := hid (K2.out.right s5)
    have HYX := hid (show X2.es = Y2.es from enc_same EX.out ey HEQ.out.1 HEQ.out.2.1)
    have HXE := hid (show X2.es.length = E0 + U by rw [enc_es EX.out (by omega), HSX.out.2.2.1, HU.out])
    have HXT := hid (show X2.top = 2 * n + m by rw [EX.out.top, HSX.out.1])
    clear a5 s5 ey P4 K1 K2 HE2 HRY HEQ HSY HRX
    obtain ⟨C2, hC2⟩ : ∃ c, (encL (fun i => Y.word (0 + i)) (fun i => Y.word (n + i)) n).length = c := ⟨_, rfl⟩
    rw [hC2]
    clear hC2
    have hBb : Below w5.heap.size w5 ((w5.alloc (sb (C2 : Nat))).alloc (sb (mk (decide (m < C2)) : Nat))) := (by repeat (first | exact Below.refl _ _ | refine blw_alloc ?_ | refine blw_drew ?_ | assumption))
    have P6 := hid (P5.out.below (nar_owns hx X2) (nar_owns hy Y2) hBb)
    have K16 := hid (K15.out.below hBb)
    have K26 := hid (K25.out.below hBb)
    clear hBb P5 K15 K25
    obtain ⟨o2, ho2⟩ : ∃ c, mk (decide (m < C2)) = c := ⟨_, rfl⟩
    rw [ho2] at P6 K16 K26 ⊢
    clear ho2
    go_wp2_with fail
    generalize ((w5.alloc (.cells #[.int .u32 (C2 : Int)] 32)).alloc (.cells #[.int .u32 (o2 : Int)] 32)) = w6 at *
    refine (ar_log hx F3 X2 _ P6.out.p).mono ?_
    rintro e w' ⟨rfl, hw⟩
    subst w'
    go_wp2_with fail
    obtain ⟨ob, hLb, _⟩ := P6.out.p.log
    refine (len_any _ _ _ _ _ hLb).mono ?_
    rintro e w' ⟨rfl, hw⟩
    subst w'
    rw [HXE.out]
    clear hLb
    have HAD := hid (show ((E0 + U : Nat) : Int) = (E0 : Int) + (U : Int) by omega)
    rw [HAD.out]
    go_wp2_with fail
    refine (uncost_any n m hn hm4 _).mono ?_
    rintro e w' ⟨rfl, hw⟩
    subst w'
    rw [HU.out]
    go_wp2_with fail
    have HTN := hid (show ((2 * n + m : Nat) : Int) = 2 * (n : Int) + (m : Int) by omega)
    refine (ar_top hx F3 X2 _ P6.out.p).mono ?_
    rintro e w' ⟨rfl, hw⟩
    subst w'
    rw [HXT.out, HTN.out]
    go_wp2_with fail
    refine (ar_log hx F3 X2 _ P6.out.p).mono ?_
    rintro e w' ⟨rfl, hw⟩
    subst w'
    go_wp2_with fail
    obtain ⟨oa, hLa, _⟩ := P6.out.p.log
    refine (blind_any _ _ X2.es _ hLa (by rw [HXE.out]; omega)).mono ?_
    rintro e w7 ⟨ad1, cap1, rfl, ho1, hb7⟩
    have O1 := hid ho1
    have P7 := hid (P6.out.below (nar_owns hx X2) (nar_owns hy Y2) hb7)
    have K17 := hid (K16.out.below hb7)
    have K27 := hid (K26.out.below hb7)
    clear ho1 hLa hb7 P6 K16 K26
    go_wp2_with fail
    refine (ar_log hy G5 Y2 _ P7.out.q).mono ?_
    rintro e w' ⟨rfl, hw⟩
    subst w'
    go_wp2_with fail
    obtain ⟨oc, hLc, _⟩ := P7.out.q.log
    refine (blind_any _ _ Y2.es _ hLc (by rw [← HYX.out, HXE.out]; omega)).mono ?_
    rintro e w8 ⟨ad2, cap2, rfl, ho2, hb8⟩
    rw [← HYX.out] at ho2
    rw [← HYX.out]
    have P8 := hid (P7.out.below (nar_owns hx X2) (nar_owns hy Y2) hb8)
    have K18 := hid (K17.out.below hb8)
    have K28 := hid (K27.out.below hb8)
    have hml : (X2.es.map blindE).length = X2.es.length := by simp
    have RP := hid (show ∀ i (_ : i < X2.es.length), ∃ g, ad1 = some ⟨g, 0, none⟩ ∧ ∀ j u, (ecells (X2.es.map blindE))[j]? = some u → w8.cell? ⟨g, j, none⟩ = some u from nrowAt O1.out hb8)
    have RQ := hid (show ∀ i (_ : i < X2.es.length), ∃ g, ad2 = some ⟨g, 0, none⟩ ∧ ∀ j u, (ecells (X2.es.map blindE))[j]? = some u → w8.cell? ⟨g, j, none⟩ = some u from nrowAt ho2 (Below.refl _ _))
    clear ho2 hLc hb8 O1 P7 K17 K27
    rw [HXE.out] at RP RQ hml
    rw [HXE.out]
    obtain ⟨es, hes⟩ : ∃ es, X2.es.map blindE = es := ⟨_, rfl⟩
    rw [hes] at RP RQ hml
    clear hes
    obtain ⟨n2, hn2⟩ : ∃ k, E0 + U = k := ⟨_, rfl⟩
    have hn2b : n2 ≤ 6000100 := by omega
    rw [hn2] at RP RQ hml ⊢
    have HXE2 := hid (show X2.es.length = n2 by rw [HXE.out, hn2])
    clear hn2 HXE
    go_wp2_with fail
    go_loopw [117] (fun cc wq => ∃ q : Nat, q ≤ n2 ∧ cc = .int .i64 (q : Int) ∧ Below w8.heap.size w8 wq) (fun cc _ => n2 - (intOf cc).toNat)
    case atStart => exact ⟨0, Nat.zero_le _, rfl, Below.refl _ _⟩
    case round =>
      obtain ⟨q, hq, rfl, hBq⟩ := hrel
      by_cases hql : q < n2
      · obtain ⟨g1, rfl, f1⟩ := RP.out q hql
        obtain ⟨g2, rfl, f2⟩ := RQ.out q hql
        have e1 := ecells_at es q (by omega)
        obtain ⟨ee, hee⟩ : ∃ ee, ee = es[q]'(by omega) := ⟨_, rfl⟩
        rw [← hee] at e1
        have b0 := cell_later hBq (f1 _ _ e1.1)
        have b1 := cell_later hBq (f1 _ _ e1.2.1)
        have b2 := cell_later hBq (f1 _ _ e1.2.2)
        have d0 := cell_later hBq (f2 _ _ e1.1)
        have d1 := cell_later hBq (f2 _ _ e1.2.1)
        have d2 := cell_later hBq (f2 _ _ e1.2.2)
        have hqi : (q : Int) < (n2 : Int) := by omega
        clear f1 f2 e1 hee RP RQ hml
        go_wp2_with fail
        go_quiet (fail)
        go_wp2_with fail
        go_roundw
        case rel => exact ⟨q + 1, by omega, by go_num, hBq.trans (below_drewN (Below.refl _ _) _)⟩
        case measure => simp [intOf]; omega
      · have hqn : q = n2 := by omega
        subst hqn
        have P9 := hid (P8.out.below (nar_owns hx X2) (nar_owns hy Y2) hBq)
        have K19 := hid (K18.out.below hBq)
        have K29 := hid (K28.out.below hBq)
        clear hBq RP RQ hml P8 K18 K28
        have UX := hid (u32s_blw HU1.out P9.out.bel)
        have UK := hid (u32s_blw HU2.out P9.out.bel)
        go_wp2_with fail
        refine (HRE.out _ UX.out UK.out).mono ?_
        rintro e w10 ⟨sd, sc, rfl, ho, hb10⟩
        have HO := hid ho
        have P10 := hid (P9.out.below (nar_owns hx X2) (nar_owns hy Y2) hb10)
        have K110 := hid (K19.out.below hb10)
        have K210 := hid (K29.out.below hb10)
        have HRO := hid (show ∀ j, (Value.slice sd C sc).ownBlock = some j → ¬ F3 j from fun j hj x => by have h1 := (nar_owns hx X2).lt P9.out.p _ x; have h2 := (ho.lt j hj).1; omega)
        obtain ⟨bz, hbz⟩ : ∃ z, wr.heap.size = z := ⟨_, rfl⟩
        rw [hbz] at HO
        clear ho hb10 P9 K19 K29 UX UK hbz
        go_upto_region 23 with fail
        go_cut [148] from 133 to 148 (fun c148 wx => c148 = .bool false ∧ Below w10.heap.size w10 wx)
        case first =>
          have k1 := cell_s1 K110.out.1
          have k2 := cell_s1 K210.out.1
          have hcw : IntKind.u32.wrap (C : Int) = (C : Int) := by rw [IntKind.wrap_u32]; omega
          cases ov with
          | true =>
            have hmc : m < C := of_decide_eq_true HOV.out
            have hmi : (m : Int) < (C : Int) := by omega
            go_wp2_with fail
            refine (told10_any _ _).mono ?_
            rintro e w11 ⟨rfl, hB11⟩
            have k3 := cell_later hB11 k2
            clear k1 k2
            go_wp2_with fail
            refine (told10_any _ _).mono ?_
            rintro e w12 ⟨rfl, hB12⟩
            go_wp2_with fail
            go_meet
            case rel => exact ⟨rfl, belowCat hB11 hB12⟩
          | false =>
            have hmc : ¬ m < C := of_decide_eq_false HOV.out
            have hmi : ¬ (m : Int) < (C : Int) := by omega
            go_wp2_with fail
            refine (told10_any _ _).mono ?_
            rintro e w11 ⟨rfl, hB11⟩
            have k3 := cell_later hB11 k2
            clear k1 k2
            go_wp2_with fail
            refine (told10_any _ _).mono ?_
            rintro e w12 ⟨rfl, hB12⟩
            go_wp2_with fail
            go_meet
            case rel => exact ⟨rfl, belowCat hB11 hB12⟩
        case rest =>
          obtain ⟨rfl, hB11⟩ := hcut
          have A11 := hid (show Ar wc hx F3 X2 from (P10.out.below (nar_owns hx X2) (nar_owns hy Y2) hB11).p)
          have F11 := hid (show ∀ q, F3 q → w1.heap.size ≤ q from P10.out.hf)
          have B11 := hid (show Below w1.heap.size w1 wc from (P10.out.below (nar_owns hx X2) (nar_owns hy Y2) hB11).bel)
          have O11 := hid (owns_below HO.out hB11)
          clear hB11 P10 K110 K210 HO HYX
          generalize hvv : wc = w11 at *
          clear hvv
          go_wp2_with fail
          go_loopw [150] (fun cc wx => ∃ (i : Nat) (Fi : Nat → Prop) (Bi : Ars), i ≤ m ∧ cc = .int .i64 (i : Int) ∧ Ar wx hx Fi Bi ∧ (Bi.ws = X2.ws ∧ Bi.top = X2.top ∧ Bi.es.length ≤ 6000100 + 2 * i) ∧ wx.ownsRow bz 5 1 (.slice sd C sc) C (ucs EL) ∧ (∀ j, (Value.slice sd C sc).ownBlock = some j → ¬ Fi j) ∧ (∀ q, Fi q → w1.heap.size ≤ q) ∧ Below w1.heap.size w1 wx) (fun cc _ => m - (intOf cc).toNat)
          case atStart => exact ⟨0, F3, X2, Nat.zero_le _, rfl, A11.out, ⟨rfl, rfl, by rw [HXE2.out]; omega⟩, O11.out, HRO.out, F11.out, B11.out⟩
          case round =>
            clear A11 O11 HRO F11 B11
            obtain ⟨i, Fi, Bi, hi, rfl, ai, hbi, oi, roi, fi, bi⟩ := hrel
            have AI := hid ai
            have HBI := hid hbi
            have OI := hid oi
            have ROI := hid roi
            have FI := hid fi
            have BI := hid bi
            clear ai hbi oi roi fi bi
            by_cases hlt : i < m
            · have HW := hid (show Bi.word (2 * n + i) = if m < C then 0 else EL.getD i 0 from by
                rw [unword_ws HBI.out.1]
                have h := EX.out.out i hlt
                rw [HEL.out, HC.out] at h
                exact h)
              have HR1 := hid (unrel_at (A := Bi) (N := 2 * n) (i := i) (by rw [HBI.out.2.1, HXT.out]; omega))
              have HEB2 := hid (show Bi.es.length ≤ 6000300 by have := HBI.out.2.2; omega)
              have him : (i : Int) < (m : Int) := by omega
              by_cases hic : i < C ∧ C ≤ m
              · obtain ⟨g, rfl, _, _, hgc⟩ := owns_cell OI.out (by omega)
                have hiE : i < EL.length := by rw [HC.out]; exact hic.1
                have hv : EL[i] < 256 := HEB.out _ (List.getElem_mem hiE)
                have hcl := hgc i (.int .u8 (EL[i] : Int)) (by simp [ucs, hiE])
                rw [if_neg (by omega)] at HW
                have he : EL.getD i 0 = EL[i] := by simp [List.getD_eq_getElem?_getD, hiE]
                rw [he] at HW
                obtain ⟨v, hve⟩ : ∃ v, EL[i] = v := ⟨_, rfl⟩
                rw [hve] at HW hv hcl
                rw [HW.out] at HR1
                have hcv : IntKind.u32.wrap (v : Int) = (v : Int) := by rw [IntKind.wrap_u32]; omega
                have h1 : (i : Int) < (C : Int) := by omega
                have h2 : ¬ (m : Int) < (C : Int) := by omega
                clear hgc he hve hiE hic
                go_wp2_with fail
                rw [HNN.out]
                refine (ar_rel hx Fi Bi (((2 * n : Nat) : Int) + (i : Int)) _ AI.out (by omega) (by have := HEB2.out; omega)).mono ?_
                rintro e w12 ⟨rfl, F12, a12, s12⟩
                rw [HR1.out.1]
                rw [HR1.out.2] at a12
                have A12 := hid a12
                have O12 := hid (owns_of_blocks OI.out fun k hk => s12.fr.block k (OI.out.lt k hk).2 (ROI.out k hk))
                have R12 := hid (show ∀ j, (Value.slice (some ⟨g, 0, none⟩) C sc).ownBlock = some j → ¬ F12 j from fun j hj => s12.out (ROI.out j hj) (OI.out.lt j hj).2)
                have F12h := hid (show ∀ q, F12 q → w1.heap.size ≤ q from s12.high BI.out.size FI.out)
                have B12 := hid (show Below w1.heap.size w1 w12 from BI.out.trans (s12.below BI.out.size FI.out))
                clear a12 s12 hcl AI OI ROI FI BI
                go_wp2
                go_roundw
                case rel => exact ⟨i + 1, F12, Bi.relN (2 * n + i), by omega, by go_num, A12.out, ⟨HBI.out.1, HBI.out.2.1, by rw [Ars.relN_eslen]; have := HBI.out.2.2; omega⟩, O12.out, R12.out, F12h.out, B12.out⟩
                case measure => simp [intOf]; omega
              · have hz : (if m < C then 0 else EL.getD i 0) = 0 := by
                  by_cases hmc : m < C
                  · rw [if_pos hmc]
                  · rw [if_neg hmc, List.getD_eq_getElem?_getD, List.getElem?_eq_none (by rw [HC.out]; omega)]; rfl
                rw [hz] at HW
                rw [HW.out] at HR1
                clear hz
                by_cases hmc : m < C
                · have h2 : (m : Int) < (C : Int) := by omega
                  have h1 : (i : Int) < (C : Int) := by omega
                  clear hic
                  go_wp2_with fail
                  rw [HNN.out]
                  refine (ar_rel hx Fi Bi (((2 * n : Nat) : Int) + (i : Int)) _ AI.out (by omega) (by have := HEB2.out; omega)).mono ?_
                  rintro e w12 ⟨rfl, F12, a12, s12⟩
                  rw [HR1.out.1]
                  rw [HR1.out.2] at a12
                  have A12 := hid a12
                  have O12 := hid (owns_of_blocks OI.out fun k hk => s12.fr.block k (OI.out.lt k hk).2 (ROI.out k hk))
                  have R12 := hid (show ∀ j, (Value.slice sd C sc).ownBlock = some j → ¬ F12 j from fun j hj => s12.out (ROI.out j hj) (OI.out.lt j hj).2)
                  have F12h := hid (show ∀ q, F12 q → w1.heap.size ≤ q from s12.high BI.out.size FI.out)
                  have B12 := hid (show Below w1.heap.size w1 w12 from BI.out.trans (s12.below BI.out.size FI.out))
                  clear a12 s12 AI OI ROI FI BI
                  go_wp2
                  go_roundw
                  case rel => exact ⟨i + 1, F12, Bi.relN (2 * n + i), by omega, by go_num, A12.out, ⟨HBI.out.1, HBI.out.2.1, by rw [Ars.relN_eslen]; have := HBI.out.2.2; omega⟩, O12.out, R12.out, F12h.out, B12.out⟩
                  case measure => simp [intOf]; omega
                · have h1 : ¬ (i : Int) < (C : Int) := by omega
                  clear hic
                  go_wp2_with fail
                  rw [HNN.out]
                  refine (ar_rel hx Fi Bi (((2 * n : Nat) : Int) + (i : Int)) _ AI.out (by omega) (by have := HEB2.out; omega)).mono ?_
                  rintro e w12 ⟨rfl, F12, a12, s12⟩
                  rw [HR1.out.1]
                  rw [HR1.out.2] at a12
                  have A12 := hid a12
                  have O12 := hid (owns_of_blocks OI.out fun k hk => s12.fr.block k (OI.out.lt k hk).2 (ROI.out k hk))
                  have R12 := hid (show ∀ j, (Value.slice sd C sc).ownBlock = some j → ¬ F12 j from fun j hj => s12.out (ROI.out j hj) (OI.out.lt j hj).2)
                  have F12h := hid (show ∀ q, F12 q → w1.heap.size ≤ q from s12.high BI.out.size FI.out)
                  have B12 := hid (show Below w1.heap.size w1 w12 from BI.out.trans (s12.below BI.out.size FI.out))
                  clear a12 s12 AI OI ROI FI BI
                  go_wp2
                  go_roundw
                  case rel => exact ⟨i + 1, F12, Bi.relN (2 * n + i), by omega, by go_num, A12.out, ⟨HBI.out.1, HBI.out.2.1, by rw [Ars.relN_eslen]; have := HBI.out.2.2; omega⟩, O12.out, R12.out, F12h.out, B12.out⟩
                  case measure => simp [intOf]; omega
            · have hie : i = m := by omega
              subst hie
              clear hlt
              have AJ := hid AI.out
              have HBJ := hid (show Bi.ws = X2.ws ∧ Bi.top = X2.top ∧ Bi.es.length ≤ 6000300 from ⟨HBI.out.1, HBI.out.2.1, by have := HBI.out.2.2; omega⟩)
              have FJ := hid FI.out
              have BJ := hid BI.out
              clear AI HBI OI ROI FI BI HEB HC HRE
              go_wp2_with fail
              go_loopw [178] (fun cc wx => ∃ (j : Nat) (Fj : Nat → Prop) (Bj : Ars), j ≤ n ∧ cc = .int .i64 (j : Int) ∧ Ar wx hx Fj Bj ∧ (Bj.ws = X2.ws ∧ Bj.top = X2.top ∧ Bj.es.length ≤ 6000300 + 4 * j) ∧ (∀ q, Fj q → w1.heap.size ≤ q) ∧ Below w1.heap.size w1 wx) (fun cc _ => n - (intOf cc).toNat)
              case atStart => exact ⟨0, Fi, Bi, Nat.zero_le _, rfl, AJ.out, ⟨HBJ.out.1, HBJ.out.2.1, by have := HBJ.out.2.2; omega⟩, FJ.out, BJ.out⟩
              case round =>
                clear AJ HBJ FJ BJ
                obtain ⟨j, Fj, Bj, hj, rfl, aj, hbj, fj, bj⟩ := hrel
                have AI := hid aj
                have HBI := hid hbj
                have FI := hid fj
                have BI := hid bj
                clear aj hbj fj bj
                by_cases hjn : j < n
                · have hjx : j < xs.length := by rw [HX.out]; exact hjn
                  have hjk : j < ks.length := by rw [HK.out]; exact hjn
                  obtain ⟨p1, rfl, hc1⟩ := HU1.out j hjx
                  obtain ⟨p2, rfl, hc2⟩ := HU2.out j hjk
                  have NB1 := hid (show ¬ Fj (p1.add j).block from fun x => by have h1 := cell_blk hc1; have h2 := FI.out _ x; omega)
                  have NB2 := hid (show ¬ Fj (p2.add j).block from fun x => by have h1 := cell_blk hc2; have h2 := FI.out _ x; omega)
                  have HL1 := hid (cell_blk hc1)
                  have HL2 := hid (cell_blk hc2)
                  replace hc1 := cell_later BI.out hc1
                  replace hc2 := cell_later BI.out hc2
                  have HW1 := hid (show Bj.word j = xs[j] from by
                    rw [unword_ws HBI.out.1, EX.out.rest j (by rw [HSX.out.1]; omega) (by omega)]
                    have h := (HSX.out.2.2.2 j hjn).1
                    rw [Nat.zero_add] at h
                    rw [h]; simp [List.getD_eq_getElem?_getD, hjx])
                  have HW2 := hid (show Bj.word (n + j) = ks[j] from by
                    rw [unword_ws HBI.out.1, EX.out.rest (n + j) (by rw [HSX.out.1]; omega) (by omega)]
                    have h := (HSX.out.2.2.2 j hjn).2
                    rw [h]; simp [List.getD_eq_getElem?_getD, hjk])
                  have HR1 := hid (unrel_0 (A := Bj) (i := j) (by rw [HBI.out.2.1, HXT.out]; omega))
                  have HR2 := hid (unrel_at (A := Bj.relN j) (N := n) (i := j) (by show _ < Bj.top; rw [HBI.out.2.1, HXT.out]; omega))
                  have hrw : (Bj.relN j).ws = Bj.ws := rfl
                  rw [HW1.out] at HR1
                  rw [unword_ws hrw, HW2.out] at HR2
                  have HE8 := hid (show (Bj.relN j).es.length = Bj.es.length + 2 from Ars.relN_eslen)
                  have HE9 := hid (show ((Bj.relN j).relN (n + j)).es.length = Bj.es.length + 4 by rw [Ars.relN_eslen, Ars.relN_eslen])
                  obtain ⟨xv, hxv⟩ : ∃ v, xs[j] = v := ⟨_, rfl⟩
                  obtain ⟨kv, hkv⟩ : ∃ v, ks[j] = v := ⟨_, rfl⟩
                  rw [hxv] at hc1 HR1
                  rw [hkv] at hc2 HR2
                  have CC := hid (And.intro hc1 hc2)
                  have HWN := hid (show IntKind.i64.wrap ((n : Int) + (j : Int)) = (n : Int) + (j : Int) by rw [IntKind.wrap_i64]; omega)
                  clear hxv hkv hrw HW1 HW2 hjx hjk hc1 hc2
                  go_wp2_with fail
                  refine wp_region_held_drew (S := (fun w' => w'.cell? (p1.add j) = some (.int .u32 (xv : Int)) ∧ w'.cell? (p2.add j) = some (.int .u32 (kv : Int)))) (by kernel_rfl) (CC.out) (fun hHeld => ?_)
                  refine tk_at (i := 0) (d := some 181) (v := ?_) rfl rfl (by kernel_rfl) (by kernel_rfl) (by kernel_rfl) (fun _ _ _ h => h) (Or.inl ⟨by rfl, ?_⟩) (by assumption) ?_
                  rotate_left
                  · (intro w hSw; (try dsimp only at hSw); go_simp; try (with_reducible rfl))
                  simp only [Act.put, List.setIfInBounds_toArray, List.set_cons_zero, List.set_cons_succ]
                  refine tk_at (i := 1) (d := some 182) (v := ?_) rfl rfl (by kernel_rfl) (by kernel_rfl) (by kernel_rfl) (fun _ _ _ h => h) (Or.inl ⟨by rfl, ?_⟩) (by assumption) ?_
                  rotate_left
                  · (intro w hSw; (try dsimp only at hSw); go_simp; try (with_reducible rfl))
                  simp only [Act.put, List.setIfInBounds_toArray, List.set_cons_zero, List.set_cons_succ]
                  refine tk_at (i := 3) (d := some 184) (v := ?_) rfl rfl (by kernel_rfl) (by kernel_rfl) (by kernel_rfl) (fun _ _ _ h => h) (Or.inl ⟨by rfl, ?_⟩) (by assumption) ?_
                  rotate_left
                  · (intro w hSw; (try dsimp only at hSw); go_simp; try (with_reducible rfl))
                  simp only [Act.put, List.setIfInBounds_toArray, List.set_cons_zero, List.set_cons_succ]
                  refine tk_at (i := 4) (d := some 185) (v := ?_) rfl rfl (by kernel_rfl) (by kernel_rfl) (by kernel_rfl) (fun _ _ _ h => h) (Or.inl ⟨by rfl, ?_⟩) (by assumption) ?_
                  rotate_left
                  · (intro w hSw; (try dsimp only at hSw); go_simp; try (with_reducible rfl))
                  simp only [Act.put, List.setIfInBounds_toArray, List.set_cons_zero, List.set_cons_succ]
                  refine tk_at (i := 5) (d := some 186) (v := ?_) rfl rfl (by kernel_rfl) (by kernel_rfl) (by kernel_rfl) (fun _ _ _ h => h) (Or.inl ⟨by rfl, ?_⟩) (by assumption) ?_
                  rotate_left
                  · (intro w hSw; (try dsimp only at hSw); go_simp; try (with_reducible rfl))
                  simp only [Act.put, List.setIfInBounds_toArray, List.set_cons_zero, List.set_cons_succ]
                  refine tk_at (i := 6) (d := some 187) (v := ?_) rfl rfl (by kernel_rfl) (by kernel_rfl) (by kernel_rfl) (fun _ _ _ h => h) (Or.inl ⟨by rfl, ?_⟩) (by assumption) ?_
                  rotate_left
                  · (intro w hSw; (try dsimp only at hSw); go_simp; try (with_reducible rfl))
                  simp only [Act.put, List.setIfInBounds_toArray, List.set_cons_zero, List.set_cons_succ]
                  refine wpAnyH_ready (rs := [2]) (by kernel_rfl) (by simp) ?_
                  refine AllReadyH.cons rfl (fun K hK => ?_) AllReadyH.nil
                  go_simp
                  refine (ar_rel hx Fj Bj (j : Int) _ AI.out.drew (by omega) (by have := HBI.out.2.2; omega)).mono ?_
                  rintro e w8 ⟨rfl, F8, a8, s8⟩
                  rw [HR1.out.1]
                  rw [HR1.out.2] at a8
                  have D8 := hid a8
                  have F8h := hid (show ∀ q, F8 q → w1.heap.size ≤ q from s8.high BI.out.size FI.out)
                  have B8 := hid (show Below w1.heap.size w1 w8 from (blw_drew BI.out).trans (s8.below BI.out.size FI.out))
                  have C8 := hid (And.intro (s8.cell (show wr.drew.cell? (p1.add j) = some (.int .u32 (xv : Int)) from CC.out.1) NB1.out) (s8.cell (show wr.drew.cell? (p2.add j) = some (.int .u32 (kv : Int)) from CC.out.2) NB2.out))
                  have M1 := hid (s8.out NB1.out (cell_blk (show wr.drew.cell? (p1.add j) = some (.int .u32 (xv : Int)) from CC.out.1)))
                  have M2 := hid (s8.out NB2.out (cell_blk (show wr.drew.cell? (p2.add j) = some (.int .u32 (kv : Int)) from CC.out.2)))
                  clear a8 s8
                  go_wp2_with fail
                  refine hK.out _ _ (C8.out) (fun hHeld => ?_)
                  clear hK K
                  try simp only [Act.put, List.setIfInBounds_toArray, List.set_cons_zero, List.set_cons_succ]
                  refine tk_at (i := 7) (d := some 188) (v := ?_) rfl rfl (by kernel_rfl) (by kernel_rfl) (by kernel_rfl) (fun _ _ _ h => h) (Or.inl ⟨by rfl, ?_⟩) (by assumption) ?_
                  rotate_left
                  · (intro w hSw; (try dsimp only at hSw); go_simp; try (with_reducible rfl))
                  simp only [Act.put, List.setIfInBounds_toArray, List.set_cons_zero, List.set_cons_succ]
                  refine tk_at (i := 8) (d := some 189) (v := ?_) rfl rfl (by kernel_rfl) (by kernel_rfl) (by kernel_rfl) (fun _ _ _ h => h) (Or.inl ⟨by rfl, ?_⟩) (by assumption) ?_
                  rotate_left
                  · (intro w hSw; (try dsimp only at hSw); go_simp; try (with_reducible rfl))
                  simp only [Act.put, List.setIfInBounds_toArray, List.set_cons_zero, List.set_cons_succ]
                  refine tk_at (i := 9) (d := some 190) (v := ?_) rfl rfl (by kernel_rfl) (by kernel_rfl) (by kernel_rfl) (fun _ _ _ h => h) (Or.inl ⟨by rfl, ?_⟩) (by assumption) ?_
                  rotate_left
                  · (intro w hSw; (try dsimp only at hSw); go_simp; try (with_reducible rfl))
                  simp only [Act.put, List.setIfInBounds_toArray, List.set_cons_zero, List.set_cons_succ]
                  refine tk_at (i := 10) (d := some 191) (v := ?_) rfl rfl (by kernel_rfl) (by kernel_rfl) (by kernel_rfl) (fun _ _ _ h => h) (Or.inl ⟨by rfl, ?_⟩) (by assumption) ?_
                  rotate_left
                  · (intro w hSw; (try dsimp only at hSw); go_simp; try (with_reducible rfl))
                  simp only [Act.put, List.setIfInBounds_toArray, List.set_cons_zero, List.set_cons_succ]
                  refine tk_at (i := 11) (d := some 192) (v := ?_) rfl rfl (by kernel_rfl) (by kernel_rfl) (by kernel_rfl) (fun _ _ _ h => h) (Or.inl ⟨by rfl, ?_⟩) (by assumption) ?_
                  rotate_left
                  · (intro w hSw; (try dsimp only at hSw); go_simp; try (with_reducible rfl))
                  simp only [Act.put, List.setIfInBounds_toArray, List.set_cons_zero, List.set_cons_succ]
                  refine tk_at (i := 12) (d := some 193) (v := ?_) rfl rfl (by kernel_rfl) (by kernel_rfl) (by kernel_rfl) (fun _ _ _ h => h) (Or.inl ⟨by rfl, ?_⟩) (by assumption) ?_
                  rotate_left
                  · (intro w hSw; (try dsimp only at hSw); go_simp; try (with_reducible rfl))
                  simp only [Act.put, List.setIfInBounds_toArray, List.set_cons_zero, List.set_cons_succ]
                  refine tk_at (i := 14) (d := some 195) (v := ?_) rfl rfl (by kernel_rfl) (by kernel_rfl) (by kernel_rfl) (fun _ _ _ h => h) (Or.inl ⟨by rfl, ?_⟩) (by assumption) ?_
                  rotate_left
                  · (intro w hSw; (try dsimp only at hSw); go_simp; try (with_reducible rfl))
                  simp only [Act.put, List.setIfInBounds_toArray, List.set_cons_zero, List.set_cons_succ]
                  refine tk_at (i := 15) (d := some 196) (v := ?_) rfl rfl (by kernel_rfl) (by kernel_rfl) (by kernel_rfl) (fun _ _ _ h => h) (Or.inl ⟨by rfl, ?_⟩) (by assumption) ?_
                  rotate_left
                  · (intro w hSw; (try dsimp only at hSw); go_simp; try (with_reducible rfl))
                  simp only [Act.put, List.setIfInBounds_toArray, List.set_cons_zero, List.set_cons_succ]
                  refine tk_at (i := 16) (d := some 197) (v := ?_) rfl rfl (by kernel_rfl) (by kernel_rfl) (by kernel_rfl) (fun _ _ _ h => h) (Or.inl ⟨by rfl, ?_⟩) (by assumption) ?_
                  rotate_left
                  · (intro w hSw; (try dsimp only at hSw); go_simp; try (with_reducible rfl))
                  simp only [Act.put, List.setIfInBounds_toArray, List.set_cons_zero, List.set_cons_succ]
                  refine tk_at (i := 17) (d := some 198) (v := ?_) rfl rfl (by kernel_rfl) (by kernel_rfl) (by kernel_rfl) (fun _ _ _ h => h) (Or.inl ⟨by rfl, ?_⟩) (by assumption) ?_
                  rotate_left
                  · (intro w hSw; (try dsimp only at hSw); go_simp; try (with_reducible rfl))
                  simp only [Act.put, List.setIfInBounds_toArray, List.set_cons_zero, List.set_cons_succ]
                  refine wpAnyH_ready (rs := [13]) (by kernel_rfl) (by simp) ?_
                  refine AllReadyH.cons rfl (fun K hK => ?_) AllReadyH.nil
                  go_simp
                  rw [HWN.out]
                  refine (ar_rel hx F8 (Bj.relN j) ((n : Int) + (j : Int)) _ D8.out (by omega) (by rw [HE8.out]; have := HBI.out.2.2; omega)).mono ?_
                  rintro e w9 ⟨rfl, F9, a9, s9⟩
                  rw [HR2.out.1]
                  rw [HR2.out.2] at a9
                  have D9 := hid a9
                  have F9h := hid (show ∀ q, F9 q → w1.heap.size ≤ q from s9.high B8.out.size F8h.out)
                  have B9 := hid (show Below w1.heap.size w1 w9 from B8.out.trans (s9.below B8.out.size F8h.out))
                  have C9 := hid (And.intro (s9.cell C8.out.1 M1.out) (s9.cell C8.out.2 M2.out))
                  clear a9 s9
                  go_wp2_with fail
                  refine hK.out _ _ (C9.out) (fun hHeld => ?_)
                  clear hK K
                  try simp only [Act.put, List.setIfInBounds_toArray, List.set_cons_zero, List.set_cons_succ]
                  refine tk_at (i := 18) (d := some 199) (v := ?_) rfl rfl (by kernel_rfl) (by kernel_rfl) (by kernel_rfl) (fun _ _ _ h => h) (Or.inl ⟨by rfl, ?_⟩) (by assumption) ?_
                  rotate_left
                  · (intro w hSw; (try dsimp only at hSw); go_simp; try (with_reducible rfl))
                  simp only [Act.put, List.setIfInBounds_toArray, List.set_cons_zero, List.set_cons_succ]
                  refine tk_at (i := 19) (d := some 200) (v := ?_) rfl rfl (by kernel_rfl) (by kernel_rfl) (by kernel_rfl) (fun _ _ _ h => h) (Or.inl ⟨by rfl, ?_⟩) (by assumption) ?_
                  rotate_left
                  · (intro w hSw; (try dsimp only at hSw); go_simp; try (with_reducible rfl))
                  simp only [Act.put, List.setIfInBounds_toArray, List.set_cons_zero, List.set_cons_succ]
                  refine wpAnyH_done (by kernel_rfl) ?_ _
                  clear hHeld
                  go_wp2
                  go_roundw
                  case rel => exact ⟨j + 1, F9, (Bj.relN j).relN (n + j), by omega, by go_num, D9.out, ⟨HBI.out.1, HBI.out.2.1, by rw [HE9.out]; have := HBI.out.2.2; omega⟩, F9h.out, B9.out⟩
                  case measure => simp [intOf]; omega
                · have hje : j = n := by omega
                  subst hje
                  clear hjn
                  go_wp2
                  go_ret
                  exact ⟨rfl, B1.out.trans (BI.out.mono B1.out.size)⟩
end Go.Proofs.YtjcnkigadlmpgaaDoor
