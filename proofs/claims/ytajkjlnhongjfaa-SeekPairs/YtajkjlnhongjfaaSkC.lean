/- Tables of package seek as they lie in memory, their width and their rows, over this seat's translation. No conditions but the words' bounds. -/
import Derived.Test.YtajkjlnhongjfaaSkB
import Derived.OwnWalk
import Derived.Laws.MakeOwn
namespace Go.Proofs.Ytajkjlnhongjfaa
open Go.RowKit

/-- words that lie behind one another -/
def Uw (w : World) (ad : Option Addr) (l : List Nat) : Prop := ∀ k (hk : k < l.length), ∃ x, ad = some x ∧ w.cell? (x.add k) = some (.int .u32 (l[k] : Int))
theorem Uw.below {w w' : World} {ad : Option Addr} {l : List Nat} (h : Uw w ad l) (hb : Below w.heap.size w w') : Uw w' ad l := fun k hk => by
  obtain ⟨x, h1, h2⟩ := h k hk
  exact ⟨x, h1, blw_cell hb h2⟩
/-- a row: where it lies, and its words -/
structure Rw where
  ad : Option Addr
  cap : Nat
  ws : List Nat
structure Rw.Ok (w : World) (r : Rw) : Prop where
  u : Uw w r.ad r.ws
  lt : ∀ x ∈ r.ws, x < 4294967296
  le : r.ws.length ≤ r.cap
  cp : r.cap ≤ 9223372036854775807
def RwsAt (w : World) (ad : Option Addr) (L : List Rw) : Prop := ∀ k (hk : k < L.length), ∃ x, ad = some x ∧ w.cell? (x.add k) = some (.slice L[k].ad L[k].ws.length L[k].cap) ∧ Rw.Ok w L[k]
theorem RwsAt.below {w w' : World} {ad : Option Addr} {L : List Rw} (h : RwsAt w ad L) (hb : Below w.heap.size w w') : RwsAt w' ad L := fun k hk => by
  obtain ⟨x, h1, h2, h3⟩ := h k hk
  exact ⟨x, h1, blw_cell hb h2, ⟨h3.u.below hb, h3.lt, h3.le, h3.cp⟩⟩
/-- a table's two slices -/
structure Tb where
  ka : Option Addr
  kc : Nat
  ks : List Nat
  ra : Option Addr
  rc : Nat
  L : List Rw
structure Tb.Ok (w : World) (t : Tb) : Prop where
  ku : Uw w t.ka t.ks
  kl : ∀ x ∈ t.ks, x < 4294967296
  r : RwsAt w t.ra t.L
theorem Tb.Ok.below {w w' : World} {t : Tb} (h : t.Ok w) (hb : Below w.heap.size w w') : t.Ok w' := ⟨h.ku.below hb, h.kl, h.r.below hb⟩
abbrev tbV (t : Tb) : Value := .agg #[.slice t.ka t.ks.length t.kc, .slice t.ra t.L.length t.rc]
abbrev tbO (t : Tb) : Obj := .cells #[.slice t.ka t.ks.length t.kc, .slice t.ra t.L.length t.rc] 27 (0, 0)
theorem cell_tb {w : World} {g : Nat} {t : Tb} (h : w.heap[g]? = some (tbO t)) : w.cell? ⟨g, 0, none⟩ = some (.slice t.ka t.ks.length t.kc) ∧ w.cell? ⟨g, 1, none⟩ = some (.slice t.ra t.L.length t.rc) := ⟨cell_of_heap h rfl, cell_of_heap h rfl⟩
def Tb.wd (t : Tb) : Nat := match t.L with
  | [] => 0
  | r :: _ => r.ws.length
theorem Tb.wd_nil {t : Tb} (h : t.L.length = 0) : t.wd = 0 := by unfold Tb.wd; cases hL : t.L with
  | nil => rfl
  | cons r l => rw [hL] at h; simp at h
theorem Tb.wd_cons {t : Tb} (h : 0 < t.L.length) : t.wd = (t.L[0]).ws.length := by
  unfold Tb.wd
  split
  · next he => rw [he] at h; simp at h
  · next r l he => simp [he]
theorem add_zero' (x : Addr) : x.add 0 = x := by unfold Addr.add; split <;> simp_all

set_option maxHeartbeats 800000 in
theorem width_any (t : Tb) (w : World) (h : t.Ok w) :
    Calls Try.prog 20 #[tbV t] w fun e w' => e = .returned (.int .i64 (t.wd : Int)) ∧ w' = w.alloc (tbO t) := by
  obtain ⟨ka, kc, ks, ra, rc, L⟩ := t
  by_cases h0 : L.length = 0
  · obtain rfl : L = [] := List.length_eq_zero_iff.1 h0
    clear h h0
    go_enter Try.func20, Try.ntmps20
    go_wp2
    go_ret
    exact ⟨rfl, rfl⟩
  · have hp : 0 < L.length := by omega
    obtain ⟨x, hx, hc, _⟩ := h.r 0 hp
    dsimp only at hx hc
    rw [add_zero'] at hc
    have e0 := Tb.wd_cons (t := ⟨ka, kc, ks, ra, rc, L⟩) hp
    dsimp only at e0
    obtain ⟨n, hn⟩ : ∃ n, (L[0]).ws.length = n := ⟨_, rfl⟩
    rw [hn] at hc e0
    rw [e0]
    subst hx
    have hlc := lt_cell hc
    clear h e0 hn
    go_enter Try.func20, Try.ntmps20
    go_wp2
    go_ret
    exact ⟨rfl, rfl⟩

theorem retS {ad : Option Addr} {a b c : Nat} (h : a = b) : Ending.returned (.slice ad a c) = Ending.returned (.slice ad b c) := by rw [h]
/-- how many words of a row count -/
def Tb.rl (t : Tb) (i : Nat) : Nat := if h : i < t.L.length then min t.wd (t.L[i]).ws.length else 0
set_option maxHeartbeats 1600000 in
theorem row_any (t : Tb) (i : Nat) (w : World) (h : t.Ok w) (_hi : i ≤ 1000000000) :
    Calls Try.prog 23 #[tbV t, .int .i64 (i : Int)] w fun e w' => (∃ ad cap, e = .returned (.slice ad (t.rl i) cap) ∧ (∀ hlt : i < t.L.length, ad = (t.L[i]).ad)) ∧ Below w.heap.size w w' := by
  have HOK := hid h
  obtain ⟨ka, kc, ks, ra, rc, L⟩ := t
  by_cases h0 : i < L.length
  · obtain ⟨x, hx, hc, hr⟩ := h.r i h0
    dsimp only at hx hc hr
    have e1 : Tb.rl ⟨ka, kc, ks, ra, rc, L⟩ i = min (Tb.wd ⟨ka, kc, ks, ra, rc, L⟩) (L[i]).ws.length := by unfold Tb.rl; rw [dif_pos h0]
    rw [e1]
    have HG := hid (show ∀ hlt : i < L.length, (L[i]).ad = (L[i]).ad from fun _ => rfl)
    obtain ⟨n, hn⟩ : ∃ n, (L[i]).ws.length = n := ⟨_, rfl⟩
    obtain ⟨ia, hia⟩ : ∃ ia, (L[i]).ad = ia := ⟨_, rfl⟩
    obtain ⟨ic, hic⟩ : ∃ ic, (L[i]).cap = ic := ⟨_, rfl⟩
    have hle := hr.le
    have hcp := hr.cp
    rw [hn, hic] at hle
    rw [hic] at hcp
    rw [hn, hia, hic] at hc
    rw [hn]
    have HIA := hid hia
    subst hx
    have hlc := lt_cell hc
    obtain ⟨m, hm⟩ : ∃ m, Tb.wd ⟨ka, kc, ks, some x, rc, L⟩ = m := ⟨_, rfl⟩
    have HW := hid (fun w' hb => width_any ⟨ka, kc, ks, some x, rc, L⟩ w' (HOK.out.below hb))
    rw [hm]
    rw [hm] at HW
    have HM := hid hm
    clear h e1 hn hic hr hia HG hm
    go_enter Try.func23, Try.ntmps23
    go_wp2_with fail
    have HT := hid (heap_alloc_at w (tbO ⟨ka, kc, ks, some x, rc, L⟩))
    have HB := hid ((Below.refl w.heap.size w).alloc (Nat.le_refl _) (tbO ⟨ka, kc, ks, some x, rc, L⟩))
    have HC := hid hc
    clear hc
    generalize w.alloc (tbO ⟨ka, kc, ks, some x, rc, L⟩) = w1 at *
    have KB := hid (show ∀ w' : World, Below w1.heap.size w1 w' → w'.cell? ⟨w.heap.size, 0, none⟩ = some (.slice ka ks.length kc) ∧ w'.cell? ⟨w.heap.size, 1, none⟩ = some (.slice (some x) L.length rc) ∧ w'.cell? (x.add i) = some (.slice ia n ic) from fun w' hb =>
      ⟨(cell_tb (hpB hb HT.out)).1, (cell_tb (hpB hb HT.out)).2, blw_cell (belowCat HB.out hb) HC.out⟩)
    rcases Nat.lt_or_ge n m with hmn | hmn
    · have e1 : min m n = n := Nat.min_eq_right (Nat.le_of_lt hmn)
      have e2 : min (m : Int) (n : Int) = (n : Int) := by omega
      have i1 : (0 : Int) ≤ (n : Int) := by omega
      have i2 : (n : Int) ≤ (ic : Int) := by omega
      have i3 : (n : Int) < (m : Int) := by omega
      refine wp_region_held_drew (S := (fun w' => w'.cell? ⟨w.heap.size, 0, none⟩ = some (.slice ka ks.length kc) ∧ w'.cell? ⟨w.heap.size, 1, none⟩ = some (.slice (some x) L.length rc) ∧ w'.cell? (x.add i) = some (.slice ia n ic))) (by kernel_rfl) (KB.out _ (blw_drew (Below.refl _ _))) (fun hHeld => ?_)
      refine tk_at (i := 0) (d := some 10) (v := ?_) rfl rfl (by kernel_rfl) (by kernel_rfl) (by kernel_rfl) (fun _ _ _ h => h) (Or.inl ⟨by rfl, ?_⟩) (by assumption) ?_
      rotate_left
      · (intro w hSw; (try dsimp only at hSw); go_simp; try (with_reducible rfl))
      simp only [Act.put, List.setIfInBounds_toArray, List.set_cons_zero, List.set_cons_succ]
      refine tk_at (i := 1) (d := some 11) (v := ?_) rfl rfl (by kernel_rfl) (by kernel_rfl) (by kernel_rfl) (fun _ _ _ h => h) (Or.inl ⟨by rfl, ?_⟩) (by assumption) ?_
      rotate_left
      · (intro w hSw; (try dsimp only at hSw); go_simp; try (with_reducible rfl))
      simp only [Act.put, List.setIfInBounds_toArray, List.set_cons_zero, List.set_cons_succ]
      refine tk_at (i := 2) (d := some 12) (v := ?_) rfl rfl (by kernel_rfl) (by kernel_rfl) (by kernel_rfl) (fun _ _ _ h => h) (Or.inl ⟨by rfl, ?_⟩) (by assumption) ?_
      rotate_left
      · (intro w hSw; (try dsimp only at hSw); go_simp; try (with_reducible rfl))
      simp only [Act.put, List.setIfInBounds_toArray, List.set_cons_zero, List.set_cons_succ]
      refine tk_at (i := 3) (d := some 13) (v := ?_) rfl rfl (by kernel_rfl) (by kernel_rfl) (by kernel_rfl) (fun _ _ _ h => h) (Or.inl ⟨by rfl, ?_⟩) (by assumption) ?_
      rotate_left
      · (intro w hSw; (try dsimp only at hSw); go_simp; try (with_reducible rfl))
      simp only [Act.put, List.setIfInBounds_toArray, List.set_cons_zero, List.set_cons_succ]
      refine tk_at (i := 4) (d := some 14) (v := ?_) rfl rfl (by kernel_rfl) (by kernel_rfl) (by kernel_rfl) (fun _ _ _ h => h) (Or.inl ⟨by rfl, ?_⟩) (by assumption) ?_
      rotate_left
      · (intro w hSw; (try dsimp only at hSw); go_simp; try (with_reducible rfl))
      simp only [Act.put, List.setIfInBounds_toArray, List.set_cons_zero, List.set_cons_succ]
      refine tk_at (i := 5) (d := some 15) (v := ?_) rfl rfl (by kernel_rfl) (by kernel_rfl) (by kernel_rfl) (fun _ _ _ h => h) (Or.inl ⟨by rfl, ?_⟩) (by assumption) ?_
      rotate_left
      · (intro w hSw; (try dsimp only at hSw); go_simp; try (with_reducible rfl))
      simp only [Act.put, List.setIfInBounds_toArray, List.set_cons_zero, List.set_cons_succ]
      refine tk_at (i := 7) (d := some 17) (v := ?_) rfl rfl (by kernel_rfl) (by kernel_rfl) (by kernel_rfl) (fun _ _ _ h => h) (Or.inl ⟨by rfl, ?_⟩) (by assumption) ?_
      rotate_left
      · (intro w hSw; (try dsimp only at hSw); go_simp; try (with_reducible rfl))
      simp only [Act.put, List.setIfInBounds_toArray, List.set_cons_zero, List.set_cons_succ]
      refine tk_at (i := 8) (d := some 18) (v := ?_) rfl rfl (by kernel_rfl) (by kernel_rfl) (by kernel_rfl) (fun _ _ _ h => h) (Or.inl ⟨by rfl, ?_⟩) (by assumption) ?_
      rotate_left
      · (intro w hSw; (try dsimp only at hSw); go_simp; try (with_reducible rfl))
      simp only [Act.put, List.setIfInBounds_toArray, List.set_cons_zero, List.set_cons_succ]
      refine tk_at (i := 9) (d := some 19) (v := ?_) rfl rfl (by kernel_rfl) (by kernel_rfl) (by kernel_rfl) (fun _ _ _ h => h) (Or.inl ⟨by rfl, ?_⟩) (by assumption) ?_
      rotate_left
      · (intro w hSw; (try dsimp only at hSw); go_simp; try (with_reducible rfl))
      simp only [Act.put, List.setIfInBounds_toArray, List.set_cons_zero, List.set_cons_succ]
      refine tk_at (i := 10) (d := some 20) (v := ?_) rfl rfl (by kernel_rfl) (by kernel_rfl) (by kernel_rfl) (fun _ _ _ h => h) (Or.inl ⟨by rfl, ?_⟩) (by assumption) ?_
      rotate_left
      · (intro w hSw; (try dsimp only at hSw); go_simp; try (with_reducible rfl))
      simp only [Act.put, List.setIfInBounds_toArray, List.set_cons_zero, List.set_cons_succ]
      refine tk_at (i := 11) (d := some 21) (v := ?_) rfl rfl (by kernel_rfl) (by kernel_rfl) (by kernel_rfl) (fun _ _ _ h => h) (Or.inl ⟨by rfl, ?_⟩) (by assumption) ?_
      rotate_left
      · (intro w hSw; (try dsimp only at hSw); go_simp; try (with_reducible rfl))
      simp only [Act.put, List.setIfInBounds_toArray, List.set_cons_zero, List.set_cons_succ]
      refine tk_at (i := 12) (d := some 22) (v := ?_) rfl rfl (by kernel_rfl) (by kernel_rfl) (by kernel_rfl) (fun _ _ _ h => h) (Or.inl ⟨by rfl, ?_⟩) (by assumption) ?_
      rotate_left
      · (intro w hSw; (try dsimp only at hSw); go_simp; try (with_reducible rfl))
      simp only [Act.put, List.setIfInBounds_toArray, List.set_cons_zero, List.set_cons_succ]
      refine wpAnyH_ready (rs := [6]) (by kernel_rfl) (by simp) ?_
      refine AllReadyH.cons rfl (fun K hK => ?_) AllReadyH.nil
      go_simp
      refine (HW.out _ (belowCat HB.out (blw_drew (Below.refl _ _)))).mono ?_
      rintro e w' ⟨rfl, rfl⟩
      go_wp2_with fail
      refine hK.out _ _ (KB.out _ (blw_alloc (blw_drew (Below.refl _ _)))) (fun hHeld => ?_)
      clear hK K
      try simp only [Act.put, List.setIfInBounds_toArray, List.set_cons_zero, List.set_cons_succ]
      refine tk_at (i := 13) (d := some 23) (v := ?_) rfl rfl (by kernel_rfl) (by kernel_rfl) (by kernel_rfl) (fun _ _ _ h => h) (Or.inl ⟨by rfl, ?_⟩) (by assumption) ?_
      rotate_left
      · (intro w hSw; (try dsimp only at hSw); go_simp; try (with_reducible rfl))
      simp only [Act.put, List.setIfInBounds_toArray, List.set_cons_zero, List.set_cons_succ]
      refine tk_at (i := 14) (d := some 24) (v := ?_) rfl rfl (by kernel_rfl) (by kernel_rfl) (by kernel_rfl) (fun _ _ _ h => h) (Or.inl ⟨by rfl, ?_⟩) (by assumption) ?_
      rotate_left
      · (intro w hSw; (try dsimp only at hSw); go_simp; try (with_reducible rfl))
      simp only [Act.put, List.setIfInBounds_toArray, List.set_cons_zero, List.set_cons_succ]
      refine wpAnyH_ready (rs := [15]) (by kernel_rfl) (by simp) ?_
      refine AllReadyH.cons rfl (fun K hK => ?_) AllReadyH.nil
      go_simp
      go_wp2_with fail
      refine hK.out _ _ (KB.out _ (blw_alloc (blw_drew (Below.refl _ _)))) (fun hHeld => ?_)
      clear hK K
      try simp only [Act.put, List.setIfInBounds_toArray, List.set_cons_zero, List.set_cons_succ]
      refine wpAnyH_done (by kernel_rfl) ?_ _
      clear hHeld
      go_wp2
      go_ret
      exact ⟨⟨_, _, retS e1.symm, fun _ => HIA.out.symm⟩, belowCat HB.out (blw_alloc (blw_drew (Below.refl _ _)))⟩
    · have e1 : min m n = m := Nat.min_eq_left hmn
      have e2 : min (m : Int) (n : Int) = (m : Int) := by omega
      have i1 : (0 : Int) ≤ (m : Int) := by omega
      have i2 : (m : Int) ≤ (ic : Int) := by omega
      have i3 : (m : Int) ≤ (n : Int) := by omega
      have i4 : ¬ n < m := by omega
      refine wp_region_held_drew (S := (fun w' => w'.cell? ⟨w.heap.size, 0, none⟩ = some (.slice ka ks.length kc) ∧ w'.cell? ⟨w.heap.size, 1, none⟩ = some (.slice (some x) L.length rc) ∧ w'.cell? (x.add i) = some (.slice ia n ic))) (by kernel_rfl) (KB.out _ (blw_drew (Below.refl _ _))) (fun hHeld => ?_)
      refine tk_at (i := 0) (d := some 10) (v := ?_) rfl rfl (by kernel_rfl) (by kernel_rfl) (by kernel_rfl) (fun _ _ _ h => h) (Or.inl ⟨by rfl, ?_⟩) (by assumption) ?_
      rotate_left
      · (intro w hSw; (try dsimp only at hSw); go_simp; try (with_reducible rfl))
      simp only [Act.put, List.setIfInBounds_toArray, List.set_cons_zero, List.set_cons_succ]
      refine tk_at (i := 1) (d := some 11) (v := ?_) rfl rfl (by kernel_rfl) (by kernel_rfl) (by kernel_rfl) (fun _ _ _ h => h) (Or.inl ⟨by rfl, ?_⟩) (by assumption) ?_
      rotate_left
      · (intro w hSw; (try dsimp only at hSw); go_simp; try (with_reducible rfl))
      simp only [Act.put, List.setIfInBounds_toArray, List.set_cons_zero, List.set_cons_succ]
      refine tk_at (i := 2) (d := some 12) (v := ?_) rfl rfl (by kernel_rfl) (by kernel_rfl) (by kernel_rfl) (fun _ _ _ h => h) (Or.inl ⟨by rfl, ?_⟩) (by assumption) ?_
      rotate_left
      · (intro w hSw; (try dsimp only at hSw); go_simp; try (with_reducible rfl))
      simp only [Act.put, List.setIfInBounds_toArray, List.set_cons_zero, List.set_cons_succ]
      refine tk_at (i := 3) (d := some 13) (v := ?_) rfl rfl (by kernel_rfl) (by kernel_rfl) (by kernel_rfl) (fun _ _ _ h => h) (Or.inl ⟨by rfl, ?_⟩) (by assumption) ?_
      rotate_left
      · (intro w hSw; (try dsimp only at hSw); go_simp; try (with_reducible rfl))
      simp only [Act.put, List.setIfInBounds_toArray, List.set_cons_zero, List.set_cons_succ]
      refine tk_at (i := 4) (d := some 14) (v := ?_) rfl rfl (by kernel_rfl) (by kernel_rfl) (by kernel_rfl) (fun _ _ _ h => h) (Or.inl ⟨by rfl, ?_⟩) (by assumption) ?_
      rotate_left
      · (intro w hSw; (try dsimp only at hSw); go_simp; try (with_reducible rfl))
      simp only [Act.put, List.setIfInBounds_toArray, List.set_cons_zero, List.set_cons_succ]
      refine tk_at (i := 5) (d := some 15) (v := ?_) rfl rfl (by kernel_rfl) (by kernel_rfl) (by kernel_rfl) (fun _ _ _ h => h) (Or.inl ⟨by rfl, ?_⟩) (by assumption) ?_
      rotate_left
      · (intro w hSw; (try dsimp only at hSw); go_simp; try (with_reducible rfl))
      simp only [Act.put, List.setIfInBounds_toArray, List.set_cons_zero, List.set_cons_succ]
      refine tk_at (i := 7) (d := some 17) (v := ?_) rfl rfl (by kernel_rfl) (by kernel_rfl) (by kernel_rfl) (fun _ _ _ h => h) (Or.inl ⟨by rfl, ?_⟩) (by assumption) ?_
      rotate_left
      · (intro w hSw; (try dsimp only at hSw); go_simp; try (with_reducible rfl))
      simp only [Act.put, List.setIfInBounds_toArray, List.set_cons_zero, List.set_cons_succ]
      refine tk_at (i := 8) (d := some 18) (v := ?_) rfl rfl (by kernel_rfl) (by kernel_rfl) (by kernel_rfl) (fun _ _ _ h => h) (Or.inl ⟨by rfl, ?_⟩) (by assumption) ?_
      rotate_left
      · (intro w hSw; (try dsimp only at hSw); go_simp; try (with_reducible rfl))
      simp only [Act.put, List.setIfInBounds_toArray, List.set_cons_zero, List.set_cons_succ]
      refine tk_at (i := 9) (d := some 19) (v := ?_) rfl rfl (by kernel_rfl) (by kernel_rfl) (by kernel_rfl) (fun _ _ _ h => h) (Or.inl ⟨by rfl, ?_⟩) (by assumption) ?_
      rotate_left
      · (intro w hSw; (try dsimp only at hSw); go_simp; try (with_reducible rfl))
      simp only [Act.put, List.setIfInBounds_toArray, List.set_cons_zero, List.set_cons_succ]
      refine tk_at (i := 10) (d := some 20) (v := ?_) rfl rfl (by kernel_rfl) (by kernel_rfl) (by kernel_rfl) (fun _ _ _ h => h) (Or.inl ⟨by rfl, ?_⟩) (by assumption) ?_
      rotate_left
      · (intro w hSw; (try dsimp only at hSw); go_simp; try (with_reducible rfl))
      simp only [Act.put, List.setIfInBounds_toArray, List.set_cons_zero, List.set_cons_succ]
      refine tk_at (i := 11) (d := some 21) (v := ?_) rfl rfl (by kernel_rfl) (by kernel_rfl) (by kernel_rfl) (fun _ _ _ h => h) (Or.inl ⟨by rfl, ?_⟩) (by assumption) ?_
      rotate_left
      · (intro w hSw; (try dsimp only at hSw); go_simp; try (with_reducible rfl))
      simp only [Act.put, List.setIfInBounds_toArray, List.set_cons_zero, List.set_cons_succ]
      refine tk_at (i := 12) (d := some 22) (v := ?_) rfl rfl (by kernel_rfl) (by kernel_rfl) (by kernel_rfl) (fun _ _ _ h => h) (Or.inl ⟨by rfl, ?_⟩) (by assumption) ?_
      rotate_left
      · (intro w hSw; (try dsimp only at hSw); go_simp; try (with_reducible rfl))
      simp only [Act.put, List.setIfInBounds_toArray, List.set_cons_zero, List.set_cons_succ]
      refine wpAnyH_ready (rs := [6]) (by kernel_rfl) (by simp) ?_
      refine AllReadyH.cons rfl (fun K hK => ?_) AllReadyH.nil
      go_simp
      refine (HW.out _ (belowCat HB.out (blw_drew (Below.refl _ _)))).mono ?_
      rintro e w' ⟨rfl, rfl⟩
      go_wp2_with fail
      refine hK.out _ _ (KB.out _ (blw_alloc (blw_drew (Below.refl _ _)))) (fun hHeld => ?_)
      clear hK K
      try simp only [Act.put, List.setIfInBounds_toArray, List.set_cons_zero, List.set_cons_succ]
      refine tk_at (i := 13) (d := some 23) (v := ?_) rfl rfl (by kernel_rfl) (by kernel_rfl) (by kernel_rfl) (fun _ _ _ h => h) (Or.inl ⟨by rfl, ?_⟩) (by assumption) ?_
      rotate_left
      · (intro w hSw; (try dsimp only at hSw); go_simp; try (with_reducible rfl))
      simp only [Act.put, List.setIfInBounds_toArray, List.set_cons_zero, List.set_cons_succ]
      refine tk_at (i := 14) (d := some 24) (v := ?_) rfl rfl (by kernel_rfl) (by kernel_rfl) (by kernel_rfl) (fun _ _ _ h => h) (Or.inl ⟨by rfl, ?_⟩) (by assumption) ?_
      rotate_left
      · (intro w hSw; (try dsimp only at hSw); go_simp; try (with_reducible rfl))
      simp only [Act.put, List.setIfInBounds_toArray, List.set_cons_zero, List.set_cons_succ]
      refine wpAnyH_ready (rs := [15]) (by kernel_rfl) (by simp) ?_
      refine AllReadyH.cons rfl (fun K hK => ?_) AllReadyH.nil
      go_simp
      go_wp2_with fail
      refine hK.out _ _ (KB.out _ (blw_alloc (blw_drew (Below.refl _ _)))) (fun hHeld => ?_)
      clear hK K
      try simp only [Act.put, List.setIfInBounds_toArray, List.set_cons_zero, List.set_cons_succ]
      refine wpAnyH_done (by kernel_rfl) ?_ _
      clear hHeld
      go_wp2
      go_ret
      exact ⟨⟨_, _, retS e1.symm, fun _ => HIA.out.symm⟩, belowCat HB.out (blw_alloc (blw_drew (Below.refl _ _)))⟩
  · have e1 : Tb.rl ⟨ka, kc, ks, ra, rc, L⟩ i = 0 := by unfold Tb.rl; rw [dif_neg h0]
    rw [e1]
    have HN := hid h0
    have h1 : L.length ≤ i := by omega
    clear h e1 h0
    go_enter Try.func23, Try.ntmps23
    go_wp2
    go_ret
    exact ⟨⟨_, _, rfl, fun h => absurd h HN.out⟩, (by repeat (first | exact Below.refl _ _ | refine blw_alloc ?_ | refine blw_drew ?_ | assumption))⟩
end Go.Proofs.Ytajkjlnhongjfaa
