/- The law TablesSpans, over this seat's translation: its walk. Conditions: what the library's variables hold is some number, some errors. -/
import Derived.Test.YtgalmlelnolodaaGreatDoorTxU
import Derived.Test.YtgalmlelnolodaaGreatDoorTdI
import Derived.Test.YtgalmlelnolodaaGreatDoorTxR
import Derived.Test.YtgalmlelnolodaaGreatDoorTbW
namespace Go.Proofs.YtgalmlelnolodaaGreatDoor
open Go.RowKit
set_option linter.unusedVariables false
/-- the six answers, and what they shall be -/
structure El (w : World) (p : Nat) (a : Option Addr) (n c : Nat) (b : Bool) (q : Nat) (i : Nat) : Prop where
  l : w.cell? ⟨q, i * 2, none⟩ = some (.slice a n c)
  y : w.cell? ⟨q, i * 2 + 1, none⟩ = some (.bool b)
  g : Gd w p (a, n, c) b
theorem El.below {w w' : World} {p : Nat} {a : Option Addr} {n c : Nat} {b : Bool} {q i : Nat} (h : El w p a n c b q i) (hb : Below w.heap.size w w') : El w' p a n c b q i :=
  ⟨cellX hb h.l, cellX hb h.y, h.g.below hb⟩
def Els (w : World) (p q : Nat) : Prop := ∀ k, k < 6 → ∃ a n c b, El w p a n c b q k
theorem Els.below {w w' : World} {p q : Nat} (h : Els w p q) (hb : Below w.heap.size w w') : Els w' p q := fun k hk => by
  obtain ⟨a, n, c, b, he⟩ := h k hk
  exact ⟨a, n, c, b, he.below hb⟩
theorem Els.mk6 {w : World} {p q : Nat} {a1 a2 a3 a4 a5 a6 : Option Addr} {n1 n2 n3 n4 n5 n6 c1 c2 c3 c4 c5 c6 : Nat} {b1 b2 b3 b4 b5 b6 : Bool} {t : TypeId}
    (h : w.heap[q]? = some (.cells #[.slice a1 n1 c1, .bool b1, .slice a2 n2 c2, .bool b2, .slice a3 n3 c3, .bool b3, .slice a4 n4 c4, .bool b4, .slice a5 n5 c5, .bool b5, .slice a6 n6 c6, .bool b6] t (0, 0)))
    (g1 : Gd w p (a1, n1, c1) b1) (g2 : Gd w p (a2, n2, c2) b2) (g3 : Gd w p (a3, n3, c3) b3) (g4 : Gd w p (a4, n4, c4) b4) (g5 : Gd w p (a5, n5, c5) b5) (g6 : Gd w p (a6, n6, c6) b6) : Els w p q := fun k hk => by
  match k, hk with
  | 0, _ => exact ⟨a1, n1, c1, b1, cell_of_heap h rfl, cell_of_heap h rfl, g1⟩
  | 1, _ => exact ⟨a2, n2, c2, b2, cell_of_heap h rfl, cell_of_heap h rfl, g2⟩
  | 2, _ => exact ⟨a3, n3, c3, b3, cell_of_heap h rfl, cell_of_heap h rfl, g3⟩
  | 3, _ => exact ⟨a4, n4, c4, b4, cell_of_heap h rfl, cell_of_heap h rfl, g4⟩
  | 4, _ => exact ⟨a5, n5, c5, b5, cell_of_heap h rfl, cell_of_heap h rfl, g5⟩
  | 5, _ => exact ⟨a6, n6, c6, b6, cell_of_heap h rfl, cell_of_heap h rfl, g6⟩
theorem gd_is {w : World} {p : Nat} {s : Sl3} {b c : Bool} (h : Gd w p s b) (e : b = c) : Gd w p s c := by rw [← e]; exact h
theorem Gd.at_ {w : World} {p : Nat} {s : Sl3} {b : Bool} (h : Gd w p s b) : ∀ w', Below w.heap.size w w' → Gd w' p s b := fun w' hb => h.below hb
set_option maxRecDepth 4000 in
set_option maxHeartbeats 51200000 in
theorem spans_main (p : Nat) (na : Option Addr) (nc : Nat) (al : Bool) (nl : List ByteArray) (w : World) (h20 : nl.length ≤ 20) (hst : StAt w na nl) (v : Vr w) :
    Calls Tryz.prog 4 #[.int .u32 (p : Int), .slice na nl.length nc, .bool al] w fun e w' => e = .returned (.bool true) ∧ Below w.heap.size w w' := by
  have V0 := hid v
  have ST0 := hid hst
  clear v hst
  obtain ⟨itR, itC, itL, itW, itS, G⟩ := gi_ex
  obtain ⟨lr, rfl, okr⟩ := its_form (f := rgIt) (P := fun r => r.a ≤ r.b ∧ r.b ≤ 1114111 ∧ r.j.size = 1) G.r (fun ws i h => rg_form h)
  obtain ⟨ln, rfl, okn⟩ := its_form (f := nmIt) (P := fun r => r.a ≤ 1114111 ∧ r.b ≤ 1114111) G.s (fun ws i h => nm_form h)
  have UP := hid (show lr.Pairwise fun p q => p.b < q.a by
    have h := up_pair G.r (fun x hx => by
      obtain ⟨r, hr, rfl⟩ := List.mem_map.1 hx
      exact (okr r hr).1)
    exact List.pairwise_map.1 h)
  have NR := hid (show lr.length ≤ 1000001 by have := gi_len G.r (goodV_size gdR); rw [List.length_map] at this; omega)
  have NS := hid (show ln.length ≤ 1000001 by have := gi_len G.s (goodV_size gdS); rw [List.length_map] at this; omega)
  have OKR := hid okr
  have OKN := hid okn
  have HG := hid G
  obtain ⟨n, hn⟩ : ∃ n, nl.length = n := ⟨_, rfl⟩
  have HN := hid hn
  rw [hn] at h20 ⊢
  clear okr okn G hn
  go_enter Tryz.func4, Tryz.ntmps4
  go_wp2_with fail
  refine (awake8_any _ V0.out).mono ?_
  rintro e w1 ⟨rfl, hb⟩
  have B1 := hid hb
  clear hb
  go_wp2_with fail
  refine (rnewX_any _ _ _ _ _ HG.out _).mono ?_
  rintro e w2 ⟨⟨a0, n0, p0⟩, ⟨a1, n1, p1⟩, ⟨a3, n3, p3⟩, ⟨a4, n4, p4⟩, ⟨a5, n5, p5⟩, ad, cap, its, vs0, rfl, hl, ho, hA, hb⟩
  obtain ⟨ds, hdl, hgv, hda⟩ := outD_dpat ho hl
  rw [← hdl]
  simp only [Sl3.v]
  obtain ⟨qS, _, _, _, qR⟩ := hA.five
  have G2 := hid hgv
  have D2 := hid hda
  have R2 := hid (RgAt.of qR)
  have S2 := hid (NmAt.of qS)
  have B2 := hid (belowCat B1.out hb)
  clear hl ho hb hgv hda hdl B1 hA qS qR
  go_wp2_with fail
  refine (newX_any _ _ _ _ _ HG.out _ (V0.out.below B2.out)).mono ?_
  rintro e w3 ⟨g, ⟨c0, m0, q0⟩, ⟨c1, m1, q1⟩, ⟨c3, m3, q3⟩, ⟨c4, m4, q4⟩, ⟨c5, m5, q5⟩, ad2, cap2, its2, vs2, rfl, hg, _, hl, ho, hA, hb⟩
  obtain ⟨ds2, hdl2, hgv2, hda2⟩ := outD_dpat ho hl
  rw [← hdl2] at hg
  have hd506 := G2.out.len
  have hv2 : ds2.length = ds.length := by rw [hgv2.len, hd506]
  rw [hv2] at hg
  obtain ⟨qS, _, _, _, qR⟩ := hA.five
  obtain ⟨V, hV⟩ : ∃ V, ds.length = V := ⟨_, rfl⟩
  rw [hV] at hg hd506 hv2 ⊢
  have SXH := hid (show SX V lr ln ds ds2 from ⟨UP.out, OKR.out, OKN.out, NR.out, NS.out, G2.out.ris, G2.out.lit, hgv2.lit, hV, hv2, by omega⟩)
  have F3 := hid (fun (w' : World) (R : Nat) (h1 : Below w3.heap.size w3 w') (h2 : w'.heap[R]? = some (.cells #[.slice a0 n0 p0, .slice a1 n1 p1, .slice ad V cap, .slice a3 n3 p3, .slice a4 n4 p4, .slice a5 n5 p5] 30 (0, 0))) => show SF w' g R V (a0, n0, p0) (a1, n1, p1) (a3, n3, p3) (a4, n4, p4) (a5, n5, p5) (c0, m0, q0) (c1, m1, q1) (c3, m3, q3) (c4, m4, q4) (c5, m5, q5) ad ad2 na cap cap2 lr ln ds ds2 nl from
    ⟨(h1.block g (lt_of_heap hg)).trans hg, h2, ⟨R2.out.1, (R2.out.2.below hb).below h1⟩, ⟨(RgAt.of qR).1, (RgAt.of qR).2.below h1⟩, ⟨S2.out.1, (S2.out.2.below hb).below h1⟩, ⟨(NmAt.of qS).1, (NmAt.of qS).2.below h1⟩, (D2.out.below hb).below h1, hda2.below h1, ((ST0.out.below B2.out).below hb).below h1⟩)
  have B3 := hid (belowCat B2.out hb)
  have HV := hid hV
  clear hl ho hb hgv2 hda2 hdl2 B2 hA qS qR hg hv2 hd506 R2 S2 G2 D2 V0 HG OKR OKN UP NR NS ST0 hV
  go_upto_region 6 with fail
  have hBA := (Below.refl w3.heap.size w3).alloc (Nat.le_refl _) (.cells #[.slice a0 n0 p0, .slice a1 n1 p1, .slice ad V cap, .slice a3 n3 p3, .slice a4 n4 p4, .slice a5 n5 p5] 30)
  have F4 := hid (F3.out _ _ hBA (heap_alloc_at w3 (.cells #[.slice a0 n0 p0, .slice a1 n1 p1, .slice ad V cap, .slice a3 n3 p3, .slice a4 n4 p4, .slice a5 n5 p5] 30)))
  have B4 := hid (belowCat B3.out hBA)
  clear hBA F3 B3
  generalize w3.alloc (.cells #[.slice a0 n0 p0, .slice a1 n1 p1, .slice ad V cap, .slice a3 n3 p3, .slice a4 n4 p4, .slice a5 n5 p5] 30) = w4 at *
  obtain ⟨R, hR⟩ : ∃ R, w3.heap.size = R := ⟨_, rfl⟩
  rw [hR] at F4 ⊢
  clear hR
  have k0 := cell_of_heap (i := 0) F4.out.hR rfl
  have k1 := cell_of_heap (i := 1) F4.out.hR rfl
  have k2 := cell_of_heap (i := 2) F4.out.hR rfl
  have k3 := cell_of_heap (i := 3) F4.out.hR rfl
  have k4 := cell_of_heap (i := 4) F4.out.hR rfl
  have k5 := cell_of_heap (i := 5) F4.out.hR rfl
  go_wp2_with fail
  refine (F4.out.range SXH.out p).mono ?_
  rintro e w5 ⟨rfl, hb⟩
  have F5 := hid (F4.out.below hb)
  have B5 := hid (belowCat B4.out hb)
  clear hb k0 k1 k2 k3 k4 k5 F4 B4
  obtain ⟨TH, hth⟩ : ∃ b, rgIn lr p = b := ⟨_, rfl⟩
  obtain ⟨rg, hrg⟩ : ∃ r, rgGet lr p = r := ⟨_, rfl⟩
  have HJ := hid (show TH = true → rg.j.size = 1 from fun e => by
    rw [← hrg]
    exact (SXH.out.rb _ (rg_mem (hth.trans e))).2.2)
  have HTH := hid hth
  have HRG := hid hrg
  rw [hth, hrg]
  clear hth hrg
  obtain ⟨ya, yb, yc, yd, yj, yn⟩ := rg
  simp only [rgV]
  go_upto_region 7 with fail
  have hBA := (Below.refl w5.heap.size w5).alloc (Nat.le_refl _) (.cells #[.int .u32 (ya : Int), .int .u32 (yb : Int), .string yc, .string yd, .string yj, .bool yn] 49)
  have F6 := hid (F5.out.below hBA)
  have E6 := hid (heap_alloc_at w5 (.cells #[.int .u32 (ya : Int), .int .u32 (yb : Int), .string yc, .string yd, .string yj, .bool yn] 49))
  have B6 := hid (belowCat B5.out hBA)
  clear hBA F5 B5
  generalize w5.alloc (.cells #[.int .u32 (ya : Int), .int .u32 (yb : Int), .string yc, .string yd, .string yj, .bool yn] 49) = w6 at *
  obtain ⟨E, hE⟩ : ∃ E, w5.heap.size = E := ⟨_, rfl⟩
  rw [hE] at E6 ⊢
  clear hE
  have HNL := hid (show nl.length ≤ 1000000 by have := HN.out; omega)
  by_cases hz : n = 0
  · subst hz
    have HON := hid (show (ByteArray.mk #[]).size ≤ 100 by decide)
    obtain ⟨X5, hX5⟩ : ∃ b, (ln.find? fun r => eqB r.s (ByteArray.mk #[]) && hasB (r.a, r.b) p).isSome = b := ⟨_, rfl⟩
    have HX5 := hid hX5
    clear hX5
    have FQ := hid F6.out
    have k0 := cell_of_heap (i := 0) FQ.out.hR rfl
    have k1 := cell_of_heap (i := 1) FQ.out.hR rfl
    have k2 := cell_of_heap (i := 2) FQ.out.hR rfl
    have k3 := cell_of_heap (i := 3) FQ.out.hR rfl
    have k4 := cell_of_heap (i := 4) FQ.out.hR rfl
    have k5 := cell_of_heap (i := 5) FQ.out.hR rfl
    clear FQ
    go_wp2_with fail
    refine (F6.out.line SXH.out p).mono ?_
    rintro e wl ⟨hl, hb⟩
    obtain ⟨DN, dc, i, gd, rfl, hdn, hln⟩ := ln_one hl (F6.out.below hb).d
    rw [HV.out] at hdn
    have HDN := hid hdn
    have HLN := hid hln
    have FL := hid (F6.out.below hb)
    have EL := hid ((hb.block E (lt_of_heap E6.out)).trans E6.out)
    have BL := hid (belowCat B6.out hb)
    clear hl hb hdn hln k0 k1 k2 k3 k4 k5 F6 E6 B6
    go_upto_region 13 with fail
    have KS := hid (show ∀ w' : World, Below wl.heap.size wl w' → (fun w' => w'.cell? ⟨R, 0, none⟩ = some (.slice a0 n0 p0) ∧ w'.cell? ⟨R, 1, none⟩ = some (.slice a1 n1 p1) ∧ w'.cell? ⟨R, 2, none⟩ = some (.slice ad V cap) ∧ w'.cell? ⟨R, 3, none⟩ = some (.slice a3 n3 p3) ∧ w'.cell? ⟨R, 4, none⟩ = some (.slice a4 n4 p4) ∧ w'.cell? ⟨R, 5, none⟩ = some (.slice a5 n5 p5) ∧ w'.cell? ⟨E, 2, none⟩ = some (.string yc) ∧ w'.cell? ⟨E, 3, none⟩ = some (.string yd) ∧ w'.cell? ⟨E, 4, none⟩ = some (.string yj) ∧ w'.cell? ⟨E, 5, none⟩ = some (.bool yn) ∧ (DN = true → w'.cell? ⟨gd, i * 4 + 2, none⟩ = some (.bool dc))) w' from fun w' hb => by
      have h := (FL.out.below hb).hR
      have h2 := (hb.block E (lt_of_heap EL.out)).trans EL.out
      exact ⟨cell_of_heap h rfl, cell_of_heap h rfl, cell_of_heap h rfl, cell_of_heap h rfl, cell_of_heap h rfl, cell_of_heap h rfl, cell_of_heap h2 rfl, cell_of_heap h2 rfl, cell_of_heap h2 rfl, cell_of_heap h2 rfl, fun e => cellX hb (HDN.out e).2.2⟩)
    have B0 := hid (show Below wl.heap.size wl wl.drew from blwXD (Below.refl _ _))
    have hi0 : (0 : Int) ≤ (i : Int) := by omega
    refine wp_region_held_drew (S := (fun w' => w'.cell? ⟨R, 0, none⟩ = some (.slice a0 n0 p0) ∧ w'.cell? ⟨R, 1, none⟩ = some (.slice a1 n1 p1) ∧ w'.cell? ⟨R, 2, none⟩ = some (.slice ad V cap) ∧ w'.cell? ⟨R, 3, none⟩ = some (.slice a3 n3 p3) ∧ w'.cell? ⟨R, 4, none⟩ = some (.slice a4 n4 p4) ∧ w'.cell? ⟨R, 5, none⟩ = some (.slice a5 n5 p5) ∧ w'.cell? ⟨E, 2, none⟩ = some (.string yc) ∧ w'.cell? ⟨E, 3, none⟩ = some (.string yd) ∧ w'.cell? ⟨E, 4, none⟩ = some (.string yj) ∧ w'.cell? ⟨E, 5, none⟩ = some (.bool yn) ∧ (DN = true → w'.cell? ⟨gd, i * 4 + 2, none⟩ = some (.bool dc)))) (by kernel_rfl) (KS.out _ B0.out) (fun hHeld => ?_)
    refine tk_at (i := 0) (d := some 40) (v := ?_) rfl rfl (by kernel_rfl) (by kernel_rfl) (by kernel_rfl) (fun _ _ _ h => h) (Or.inl ⟨by rfl, ?_⟩) (by assumption) ?_
    rotate_left
    · (intro w hSw; (try dsimp only at hSw); go_simp; try (with_reducible rfl))
    simp only [Act.put, List.setIfInBounds_toArray, List.set_cons_zero, List.set_cons_succ]
    refine tk_at (i := 1) (d := some 41) (v := ?_) rfl rfl (by kernel_rfl) (by kernel_rfl) (by kernel_rfl) (fun _ _ _ h => h) (Or.inl ⟨by rfl, ?_⟩) (by assumption) ?_
    rotate_left
    · (intro w hSw; (try dsimp only at hSw); go_simp; try (with_reducible rfl))
    simp only [Act.put, List.setIfInBounds_toArray, List.set_cons_zero, List.set_cons_succ]
    refine tk_at (i := 3) (d := some 43) (v := ?_) rfl rfl (by kernel_rfl) (by kernel_rfl) (by kernel_rfl) (fun _ _ _ h => h) (Or.inl ⟨by rfl, ?_⟩) (by assumption) ?_
    rotate_left
    · (intro w hSw; (try dsimp only at hSw); go_simp; try (with_reducible rfl))
    simp only [Act.put, List.setIfInBounds_toArray, List.set_cons_zero, List.set_cons_succ]
    refine tk_at (i := 13) (d := some 53) (v := ?_) rfl rfl (by kernel_rfl) (by kernel_rfl) (by kernel_rfl) (fun _ _ _ h => h) (Or.inl ⟨by rfl, ?_⟩) (by assumption) ?_
    rotate_left
    · (intro w hSw; (try dsimp only at hSw); go_simp; try (with_reducible rfl))
    simp only [Act.put, List.setIfInBounds_toArray, List.set_cons_zero, List.set_cons_succ]
    refine tk_at (i := 14) (d := some 54) (v := ?_) rfl rfl (by kernel_rfl) (by kernel_rfl) (by kernel_rfl) (fun _ _ _ h => h) (Or.inl ⟨by rfl, ?_⟩) (by assumption) ?_
    rotate_left
    · (intro w hSw; (try dsimp only at hSw); go_simp; try (with_reducible rfl))
    simp only [Act.put, List.setIfInBounds_toArray, List.set_cons_zero, List.set_cons_succ]
    refine tk_at (i := 16) (d := some 56) (v := ?_) rfl rfl (by kernel_rfl) (by kernel_rfl) (by kernel_rfl) (fun _ _ _ h => h) (Or.inl ⟨by rfl, ?_⟩) (by assumption) ?_
    rotate_left
    · (intro w hSw; (try dsimp only at hSw); go_simp; try (with_reducible rfl))
    simp only [Act.put, List.setIfInBounds_toArray, List.set_cons_zero, List.set_cons_succ]
    refine tk_at (i := 24) (d := some 64) (v := ?_) rfl rfl (by kernel_rfl) (by kernel_rfl) (by kernel_rfl) (fun _ _ _ h => h) (Or.inl ⟨by rfl, ?_⟩) (by assumption) ?_
    rotate_left
    · (intro w hSw; (try dsimp only at hSw); go_simp; try (with_reducible rfl))
    simp only [Act.put, List.setIfInBounds_toArray, List.set_cons_zero, List.set_cons_succ]
    refine tk_at (i := 25) (d := some 65) (v := ?_) rfl rfl (by kernel_rfl) (by kernel_rfl) (by kernel_rfl) (fun _ _ _ h => h) (Or.inl ⟨by rfl, ?_⟩) (by assumption) ?_
    rotate_left
    · (intro w hSw; (try dsimp only at hSw); go_simp; try (with_reducible rfl))
    simp only [Act.put, List.setIfInBounds_toArray, List.set_cons_zero, List.set_cons_succ]
    refine tk_at (i := 27) (d := some 67) (v := ?_) rfl rfl (by kernel_rfl) (by kernel_rfl) (by kernel_rfl) (fun _ _ _ h => h) (Or.inl ⟨by rfl, ?_⟩) (by assumption) ?_
    rotate_left
    · (intro w hSw; (try dsimp only at hSw); go_simp; try (with_reducible rfl))
    simp only [Act.put, List.setIfInBounds_toArray, List.set_cons_zero, List.set_cons_succ]
    refine tk_at (i := 35) (d := some 75) (v := ?_) rfl rfl (by kernel_rfl) (by kernel_rfl) (by kernel_rfl) (fun _ _ _ h => h) (Or.inl ⟨by rfl, ?_⟩) (by assumption) ?_
    rotate_left
    · (intro w hSw; (try dsimp only at hSw); go_simp; try (with_reducible rfl))
    simp only [Act.put, List.setIfInBounds_toArray, List.set_cons_zero, List.set_cons_succ]
    refine tk_at (i := 36) (d := some 76) (v := ?_) rfl rfl (by kernel_rfl) (by kernel_rfl) (by kernel_rfl) (fun _ _ _ h => h) (Or.inl ⟨by rfl, ?_⟩) (by assumption) ?_
    rotate_left
    · (intro w hSw; (try dsimp only at hSw); go_simp; try (with_reducible rfl))
    simp only [Act.put, List.setIfInBounds_toArray, List.set_cons_zero, List.set_cons_succ]
    refine tk_at (i := 38) (d := some 78) (v := ?_) rfl rfl (by kernel_rfl) (by kernel_rfl) (by kernel_rfl) (fun _ _ _ h => h) (Or.inl ⟨by rfl, ?_⟩) (by assumption) ?_
    rotate_left
    · (intro w hSw; (try dsimp only at hSw); go_simp; try (with_reducible rfl))
    simp only [Act.put, List.setIfInBounds_toArray, List.set_cons_zero, List.set_cons_succ]
    refine tk_at (i := 46) (d := some 86) (v := ?_) rfl rfl (by kernel_rfl) (by kernel_rfl) (by kernel_rfl) (fun _ _ _ h => h) (Or.inl ⟨by rfl, ?_⟩) (by assumption) ?_
    rotate_left
    · (intro w hSw; (try dsimp only at hSw); go_simp; try (with_reducible rfl))
    simp only [Act.put, List.setIfInBounds_toArray, List.set_cons_zero, List.set_cons_succ]
    refine tk_at (i := 47) (d := some 87) (v := ?_) rfl rfl (by kernel_rfl) (by kernel_rfl) (by kernel_rfl) (fun _ _ _ h => h) (Or.inl ⟨by rfl, ?_⟩) (by assumption) ?_
    rotate_left
    · (intro w hSw; (try dsimp only at hSw); go_simp; try (with_reducible rfl))
    simp only [Act.put, List.setIfInBounds_toArray, List.set_cons_zero, List.set_cons_succ]
    refine tk_at (i := 49) (d := some 89) (v := ?_) rfl rfl (by kernel_rfl) (by kernel_rfl) (by kernel_rfl) (fun _ _ _ h => h) (Or.inl ⟨by rfl, ?_⟩) (by assumption) ?_
    rotate_left
    · (intro w hSw; (try dsimp only at hSw); go_simp; try (with_reducible rfl))
    simp only [Act.put, List.setIfInBounds_toArray, List.set_cons_zero, List.set_cons_succ]
    refine tk_at (i := 50) (d := some 90) (v := ?_) rfl rfl (by kernel_rfl) (by kernel_rfl) (by kernel_rfl) (fun _ _ _ h => h) (Or.inl ⟨by rfl, ?_⟩) (by assumption) ?_
    rotate_left
    · (intro w hSw; (try dsimp only at hSw); go_simp; try (with_reducible rfl))
    simp only [Act.put, List.setIfInBounds_toArray, List.set_cons_zero, List.set_cons_succ]
    refine tk_at (i := 51) (d := some 91) (v := ?_) rfl rfl (by kernel_rfl) (by kernel_rfl) (by kernel_rfl) (fun _ _ _ h => h) (Or.inl ⟨by rfl, ?_⟩) (by assumption) ?_
    rotate_left
    · (intro w hSw; (try dsimp only at hSw); go_simp; try (with_reducible rfl))
    simp only [Act.put, List.setIfInBounds_toArray, List.set_cons_zero, List.set_cons_succ]
    refine tk_at (i := 54) (d := some 94) (v := ?_) rfl rfl (by kernel_rfl) (by kernel_rfl) (by kernel_rfl) (fun _ _ _ h => h) (Or.inl ⟨by rfl, ?_⟩) (by assumption) ?_
    rotate_left
    · (intro w hSw; (try dsimp only at hSw); go_simp; try (with_reducible rfl))
    simp only [Act.put, List.setIfInBounds_toArray, List.set_cons_zero, List.set_cons_succ]
    refine tk_at (i := 56) (d := some 96) (v := ?_) rfl rfl (by kernel_rfl) (by kernel_rfl) (by kernel_rfl) (fun _ _ _ h => h) (Or.inl ⟨by rfl, ?_⟩) (by assumption) ?_
    rotate_left
    · (intro w hSw; (try dsimp only at hSw); go_simp; try (with_reducible rfl))
    simp only [Act.put, List.setIfInBounds_toArray, List.set_cons_zero, List.set_cons_succ]
    refine tk_at (i := 69) (d := some 109) (v := ?_) rfl rfl (by kernel_rfl) (by kernel_rfl) (by kernel_rfl) (fun _ _ _ h => h) (Or.inl ⟨by rfl, ?_⟩) (by assumption) ?_
    rotate_left
    · (intro w hSw; (try dsimp only at hSw); go_simp; try (with_reducible rfl))
    simp only [Act.put, List.setIfInBounds_toArray, List.set_cons_zero, List.set_cons_succ]
    refine tk_at (i := 57) (d := some 97) (v := .bool DN) rfl rfl (by kernel_rfl) (by kernel_rfl) (by kernel_rfl) (fun _ _ _ h => h) ?_ (by assumption) ?_
    · cases DN with
      | false =>
        refine Or.inl ⟨by rfl, ?_⟩
        intro w hSw
        try dsimp only at hSw
        try simp only [dnI_f]
        go_simp
        try (with_reducible rfl)
      | true =>
        refine Or.inl ⟨by rfl, ?_⟩
        intro w hSw
        try dsimp only at hSw
        try simp only [dnI_t]
        go_simp
        try (with_reducible rfl)
    simp only [Act.put, List.setIfInBounds_toArray, List.set_cons_zero, List.set_cons_succ]
    refine wpAnyH_ready (rs := [2]) (by kernel_rfl) (by simp) ?_
    refine AllReadyH.cons rfl (fun K hK => ?_) AllReadyH.nil
    go_simp
    refine ((FL.out.below B0.out).assigned SXH.out p al).mono ?_
    rintro e y1 ⟨x1, l1, u1, rfl, gd_, hb⟩
    have B1 := hid (belowCat B0.out hb)
    have G1 : Hid (Gd y1 p (x1, l1, u1) (TH && (al || !yn))) := hid (gd_is gd_ (by rw [HTH.out, HRG.out]))
    clear gd_ hb B0
    go_wp2_with fail
    refine hK.out _ _ (KS.out _ B1.out) (fun hHeld => ?_)
    clear hK K
    try simp only [Act.put, List.setIfInBounds_toArray, List.set_cons_zero, List.set_cons_succ]
    refine tk_at (i := 4) (d := some 44) (v := ?_) rfl rfl (by kernel_rfl) (by kernel_rfl) (by kernel_rfl) (fun _ _ _ h => h) (Or.inl ⟨by rfl, ?_⟩) (by assumption) ?_
    rotate_left
    · (intro w hSw; (try dsimp only at hSw); go_simp; try (with_reducible rfl))
    simp only [Act.put, List.setIfInBounds_toArray, List.set_cons_zero, List.set_cons_succ]
    refine tk_at (i := 5) (d := some 45) (v := (vOpt (TH) (.bool al))) rfl rfl (by kernel_rfl) (by kernel_rfl) (by kernel_rfl) (fun _ _ _ h => h) ?_ (by assumption) ?_
    · cases TH with
      | false =>
        exact Or.inr ⟨by rfl, rfl⟩
      | true =>
        refine Or.inl ⟨by rfl, ?_⟩
        intro w hSw
        try dsimp only at hSw
        try simp only [vOpt_t]
        go_simp
        try (with_reducible rfl)
    simp only [Act.put, List.setIfInBounds_toArray, List.set_cons_zero, List.set_cons_succ]
    refine tk_at (i := 6) (d := some 46) (v := (vOpt (TH) (.bool al))) rfl rfl (by kernel_rfl) (by kernel_rfl) (by kernel_rfl) (fun _ _ _ h => h) ?_ (by assumption) ?_
    · cases TH with
      | false =>
        exact Or.inr ⟨by rfl, rfl⟩
      | true =>
        refine Or.inl ⟨by rfl, ?_⟩
        intro w hSw
        try dsimp only at hSw
        try simp only [vOpt_t]
        go_simp
        try (with_reducible rfl)
    simp only [Act.put, List.setIfInBounds_toArray, List.set_cons_zero, List.set_cons_succ]
    refine tk_at (i := 7) (d := some 47) (v := (vOpt (TH && !al) (.pointer (some ⟨E, 5, none⟩)))) rfl rfl (by kernel_rfl) (by kernel_rfl) (by kernel_rfl) (fun _ _ _ h => h) ?_ (by assumption) ?_
    · cases TH with
      | false =>
        exact Or.inr ⟨by rfl, rfl⟩
      | true =>
        cases al with
        | false =>
          refine Or.inl ⟨by rfl, ?_⟩
          intro w hSw
          try dsimp only at hSw
          try simp only [Bool.not_false, Bool.true_and, vOpt_t]
          go_simp
          try (with_reducible rfl)
        | true =>
          exact Or.inr ⟨by rfl, rfl⟩
    simp only [Act.put, List.setIfInBounds_toArray, List.set_cons_zero, List.set_cons_succ]
    refine tk_at (i := 8) (d := some 48) (v := (vOpt (TH && !al) (.bool yn))) rfl rfl (by kernel_rfl) (by kernel_rfl) (by kernel_rfl) (fun _ _ _ h => h) ?_ (by assumption) ?_
    · cases TH with
      | false =>
        exact Or.inr ⟨by rfl, rfl⟩
      | true =>
        cases al with
        | false =>
          refine Or.inl ⟨by rfl, ?_⟩
          intro w hSw
          try dsimp only at hSw
          try simp only [Bool.not_false, Bool.true_and, vOpt_t]
          go_simp
          try (with_reducible rfl)
        | true =>
          exact Or.inr ⟨by rfl, rfl⟩
    simp only [Act.put, List.setIfInBounds_toArray, List.set_cons_zero, List.set_cons_succ]
    refine tk_at (i := 9) (d := some 49) (v := (vOpt (TH && !al) (.bool (!yn)))) rfl rfl (by kernel_rfl) (by kernel_rfl) (by kernel_rfl) (fun _ _ _ h => h) ?_ (by assumption) ?_
    · cases TH with
      | false =>
        exact Or.inr ⟨by rfl, rfl⟩
      | true =>
        cases al with
        | false =>
          refine Or.inl ⟨by rfl, ?_⟩
          intro w hSw
          try dsimp only at hSw
          try simp only [Bool.not_false, Bool.true_and, vOpt_t]
          go_simp
          try (with_reducible rfl)
        | true =>
          exact Or.inr ⟨by rfl, rfl⟩
    simp only [Act.put, List.setIfInBounds_toArray, List.set_cons_zero, List.set_cons_succ]
    refine tk_at (i := 10) (d := some 50) (v := (vOpt (TH) (.bool (al || !yn)))) rfl rfl (by kernel_rfl) (by kernel_rfl) (by kernel_rfl) (fun _ _ _ h => h) ?_ (by assumption) ?_
    · cases TH with
      | false =>
        exact Or.inr ⟨by rfl, rfl⟩
      | true =>
        cases al with
        | false =>
          refine Or.inl ⟨by rfl, ?_⟩
          intro w hSw
          try dsimp only at hSw
          try simp only [Bool.not_false, Bool.true_and, vOpt_t]
          try simp only [vOpt_t]
          go_simp
          try (with_reducible rfl)
        | true =>
          refine Or.inl ⟨by rfl, ?_⟩
          intro w hSw
          try dsimp only at hSw
          try simp only [vOpt_t]
          go_simp
          try (with_reducible rfl)
    simp only [Act.put, List.setIfInBounds_toArray, List.set_cons_zero, List.set_cons_succ]
    refine tk_at (i := 11) (d := some 51) (v := .bool (TH && (al || !yn))) rfl rfl (by kernel_rfl) (by kernel_rfl) (by kernel_rfl) (fun _ _ _ h => h) ?_ (by assumption) ?_
    · cases TH with
      | false =>
        refine Or.inl ⟨by rfl, ?_⟩
        intro w hSw
        try dsimp only at hSw
        try simp only [vOpt_f]
        go_simp
        try (with_reducible rfl)
      | true =>
        refine Or.inl ⟨by rfl, ?_⟩
        intro w hSw
        try dsimp only at hSw
        try simp only [vOpt_t]
        go_simp
        try (with_reducible rfl)
    simp only [Act.put, List.setIfInBounds_toArray, List.set_cons_zero, List.set_cons_succ]
    refine tk_at (i := 12) (d := some 52) (v := ?_) rfl rfl (by kernel_rfl) (by kernel_rfl) (by kernel_rfl) (fun _ _ _ h => h) (Or.inl ⟨by rfl, ?_⟩) (by assumption) ?_
    rotate_left
    · (intro w hSw; (try dsimp only at hSw); go_simp; try (with_reducible rfl))
    simp only [Act.put, List.setIfInBounds_toArray, List.set_cons_zero, List.set_cons_succ]
    refine wpAnyH_ready (rs := [15]) (by kernel_rfl) (by simp) ?_
    refine AllReadyH.cons rfl (fun K hK => ?_) AllReadyH.nil
    go_simp
    refine (show Calls Tryz.prog 20 #[.pointer (some ⟨g, 0, none⟩), .slice na 0 nc] _ _ by have h := (FL.out.below B1.out).cats SXH.out p nc HNL.out; rw [HN.out] at h; exact h).mono ?_
    rintro e y2 ⟨x2, l2, u2, rfl, gd_, hb⟩
    have B2 := hid (belowCat B1.out hb)
    have G1 := hid (G1.out.below hb)
    have G2 : Hid (Gd y2 p (x2, l2, u2) (TH && memB yc nl)) := hid (gd_is gd_ (by rw [HTH.out, HRG.out]))
    clear gd_ hb B1
    go_wp2_with fail
    refine hK.out _ _ (KS.out _ B2.out) (fun hHeld => ?_)
    clear hK K
    try simp only [Act.put, List.setIfInBounds_toArray, List.set_cons_zero, List.set_cons_succ]
    refine tk_at (i := 17) (d := some 57) (v := ?_) rfl rfl (by kernel_rfl) (by kernel_rfl) (by kernel_rfl) (fun _ _ _ h => h) (Or.inl ⟨by rfl, ?_⟩) (by assumption) ?_
    rotate_left
    · (intro w hSw; (try dsimp only at hSw); go_simp; try (with_reducible rfl))
    simp only [Act.put, List.setIfInBounds_toArray, List.set_cons_zero, List.set_cons_succ]
    refine tk_at (i := 18) (d := some 58) (v := (vOpt (TH) (.slice na 0 nc))) rfl rfl (by kernel_rfl) (by kernel_rfl) (by kernel_rfl) (fun _ _ _ h => h) ?_ (by assumption) ?_
    · cases TH with
      | false =>
        exact Or.inr ⟨by rfl, rfl⟩
      | true =>
        refine Or.inl ⟨by rfl, ?_⟩
        intro w hSw
        try dsimp only at hSw
        try simp only [vOpt_t]
        go_simp
        try (with_reducible rfl)
    simp only [Act.put, List.setIfInBounds_toArray, List.set_cons_zero, List.set_cons_succ]
    refine tk_at (i := 19) (d := some 59) (v := (vOpt (TH) (.pointer (some ⟨E, 2, none⟩)))) rfl rfl (by kernel_rfl) (by kernel_rfl) (by kernel_rfl) (fun _ _ _ h => h) ?_ (by assumption) ?_
    · cases TH with
      | false =>
        exact Or.inr ⟨by rfl, rfl⟩
      | true =>
        refine Or.inl ⟨by rfl, ?_⟩
        intro w hSw
        try dsimp only at hSw
        try simp only [vOpt_t]
        go_simp
        try (with_reducible rfl)
    simp only [Act.put, List.setIfInBounds_toArray, List.set_cons_zero, List.set_cons_succ]
    refine tk_at (i := 20) (d := some 60) (v := (vOpt (TH) (.string yc))) rfl rfl (by kernel_rfl) (by kernel_rfl) (by kernel_rfl) (fun _ _ _ h => h) ?_ (by assumption) ?_
    · cases TH with
      | false =>
        exact Or.inr ⟨by rfl, rfl⟩
      | true =>
        refine Or.inl ⟨by rfl, ?_⟩
        intro w hSw
        try dsimp only at hSw
        try simp only [vOpt_t]
        go_simp
        try (with_reducible rfl)
    simp only [Act.put, List.setIfInBounds_toArray, List.set_cons_zero, List.set_cons_succ]
    refine call_maybe (i := 21) (d := some 61) (v := .bool (memB yc nl)) TH rfl rfl (by kernel_rfl) (by cases TH <;> rfl) (by assumption) ?_ ?_
    · intro hth K' hK
      subst hth
      have hone := one_any na nl nc yc _ (FL.out.below B2.out).st HNL.out
      rw [HN.out] at hone
      simp only [vOpt_t]
      go_simp
      refine hone.mono ?_
      rintro e yz ⟨rfl, rfl⟩
      go_wp2_with fail
      exact hK
    simp only [Act.put, List.setIfInBounds_toArray, List.set_cons_zero, List.set_cons_succ]
    refine tk_at (i := 22) (d := some 62) (v := .bool (TH && memB yc nl)) rfl rfl (by kernel_rfl) (by kernel_rfl) (by kernel_rfl) (fun _ _ _ h => h) ?_ (by assumption) ?_
    · cases TH with
      | false =>
        refine Or.inl ⟨by rfl, ?_⟩
        intro w hSw
        try dsimp only at hSw
        try simp only [vOpt_f]
        go_simp
        try (with_reducible rfl)
      | true =>
        refine Or.inl ⟨by rfl, ?_⟩
        intro w hSw
        try dsimp only at hSw
        try simp only [vOpt_t]
        go_simp
        try (with_reducible rfl)
    simp only [Act.put, List.setIfInBounds_toArray, List.set_cons_zero, List.set_cons_succ]
    refine tk_at (i := 23) (d := some 63) (v := ?_) rfl rfl (by kernel_rfl) (by kernel_rfl) (by kernel_rfl) (fun _ _ _ h => h) (Or.inl ⟨by rfl, ?_⟩) (by assumption) ?_
    rotate_left
    · (intro w hSw; (try dsimp only at hSw); go_simp; try (with_reducible rfl))
    simp only [Act.put, List.setIfInBounds_toArray, List.set_cons_zero, List.set_cons_succ]
    refine wpAnyH_ready (rs := [26]) (by kernel_rfl) (by simp) ?_
    refine AllReadyH.cons rfl (fun K hK => ?_) AllReadyH.nil
    go_simp
    refine (show Calls Tryz.prog 22 #[.pointer (some ⟨g, 0, none⟩), .slice na 0 nc] _ _ by have h := (FL.out.below B2.out).sides SXH.out p nc HNL.out; rw [HN.out] at h; exact h).mono ?_
    rintro e y3 ⟨x3, l3, u3, rfl, gd_, hb⟩
    have B3 := hid (belowCat B2.out hb)
    have G1 := hid (G1.out.below hb)
    have G2 := hid (G2.out.below hb)
    have G3 : Hid (Gd y3 p (x3, l3, u3) (TH && memB yd nl)) := hid (gd_is gd_ (by rw [HTH.out, HRG.out]))
    clear gd_ hb B2
    go_wp2_with fail
    refine hK.out _ _ (KS.out _ B3.out) (fun hHeld => ?_)
    clear hK K
    try simp only [Act.put, List.setIfInBounds_toArray, List.set_cons_zero, List.set_cons_succ]
    refine tk_at (i := 28) (d := some 68) (v := ?_) rfl rfl (by kernel_rfl) (by kernel_rfl) (by kernel_rfl) (fun _ _ _ h => h) (Or.inl ⟨by rfl, ?_⟩) (by assumption) ?_
    rotate_left
    · (intro w hSw; (try dsimp only at hSw); go_simp; try (with_reducible rfl))
    simp only [Act.put, List.setIfInBounds_toArray, List.set_cons_zero, List.set_cons_succ]
    refine tk_at (i := 29) (d := some 69) (v := (vOpt (TH) (.slice na 0 nc))) rfl rfl (by kernel_rfl) (by kernel_rfl) (by kernel_rfl) (fun _ _ _ h => h) ?_ (by assumption) ?_
    · cases TH with
      | false =>
        exact Or.inr ⟨by rfl, rfl⟩
      | true =>
        refine Or.inl ⟨by rfl, ?_⟩
        intro w hSw
        try dsimp only at hSw
        try simp only [vOpt_t]
        go_simp
        try (with_reducible rfl)
    simp only [Act.put, List.setIfInBounds_toArray, List.set_cons_zero, List.set_cons_succ]
    refine tk_at (i := 30) (d := some 70) (v := (vOpt (TH) (.pointer (some ⟨E, 3, none⟩)))) rfl rfl (by kernel_rfl) (by kernel_rfl) (by kernel_rfl) (fun _ _ _ h => h) ?_ (by assumption) ?_
    · cases TH with
      | false =>
        exact Or.inr ⟨by rfl, rfl⟩
      | true =>
        refine Or.inl ⟨by rfl, ?_⟩
        intro w hSw
        try dsimp only at hSw
        try simp only [vOpt_t]
        go_simp
        try (with_reducible rfl)
    simp only [Act.put, List.setIfInBounds_toArray, List.set_cons_zero, List.set_cons_succ]
    refine tk_at (i := 31) (d := some 71) (v := (vOpt (TH) (.string yd))) rfl rfl (by kernel_rfl) (by kernel_rfl) (by kernel_rfl) (fun _ _ _ h => h) ?_ (by assumption) ?_
    · cases TH with
      | false =>
        exact Or.inr ⟨by rfl, rfl⟩
      | true =>
        refine Or.inl ⟨by rfl, ?_⟩
        intro w hSw
        try dsimp only at hSw
        try simp only [vOpt_t]
        go_simp
        try (with_reducible rfl)
    simp only [Act.put, List.setIfInBounds_toArray, List.set_cons_zero, List.set_cons_succ]
    refine call_maybe (i := 32) (d := some 72) (v := .bool (memB yd nl)) TH rfl rfl (by kernel_rfl) (by cases TH <;> rfl) (by assumption) ?_ ?_
    · intro hth K' hK
      subst hth
      have hone := one_any na nl nc yd _ (FL.out.below B3.out).st HNL.out
      rw [HN.out] at hone
      simp only [vOpt_t]
      go_simp
      refine hone.mono ?_
      rintro e yz ⟨rfl, rfl⟩
      go_wp2_with fail
      exact hK
    simp only [Act.put, List.setIfInBounds_toArray, List.set_cons_zero, List.set_cons_succ]
    refine tk_at (i := 33) (d := some 73) (v := .bool (TH && memB yd nl)) rfl rfl (by kernel_rfl) (by kernel_rfl) (by kernel_rfl) (fun _ _ _ h => h) ?_ (by assumption) ?_
    · cases TH with
      | false =>
        refine Or.inl ⟨by rfl, ?_⟩
        intro w hSw
        try dsimp only at hSw
        try simp only [vOpt_f]
        go_simp
        try (with_reducible rfl)
      | true =>
        refine Or.inl ⟨by rfl, ?_⟩
        intro w hSw
        try dsimp only at hSw
        try simp only [vOpt_t]
        go_simp
        try (with_reducible rfl)
    simp only [Act.put, List.setIfInBounds_toArray, List.set_cons_zero, List.set_cons_succ]
    refine tk_at (i := 34) (d := some 74) (v := ?_) rfl rfl (by kernel_rfl) (by kernel_rfl) (by kernel_rfl) (fun _ _ _ h => h) (Or.inl ⟨by rfl, ?_⟩) (by assumption) ?_
    rotate_left
    · (intro w hSw; (try dsimp only at hSw); go_simp; try (with_reducible rfl))
    simp only [Act.put, List.setIfInBounds_toArray, List.set_cons_zero, List.set_cons_succ]
    refine wpAnyH_ready (rs := [37]) (by kernel_rfl) (by simp) ?_
    refine AllReadyH.cons rfl (fun K hK => ?_) AllReadyH.nil
    go_simp
    refine ((FL.out.below B3.out).joins SXH.out p (ByteArray.mk #[])).mono ?_
    rintro e y4 ⟨x4, l4, u4, rfl, gd_, hb⟩
    have B4 := hid (belowCat B3.out hb)
    have G1 := hid (G1.out.below hb)
    have G2 := hid (G2.out.below hb)
    have G3 := hid (G3.out.below hb)
    have G4 : Hid (Gd y4 p (x4, l4, u4) (TH && jnF (ByteArray.mk #[]) ⟨ya, yb, yc, yd, yj, yn⟩)) := hid (gd_is gd_ (by rw [HTH.out, HRG.out]))
    clear gd_ hb B3
    go_wp2_with fail
    refine hK.out _ _ (KS.out _ B4.out) (fun hHeld => ?_)
    clear hK K
    try simp only [Act.put, List.setIfInBounds_toArray, List.set_cons_zero, List.set_cons_succ]
    refine tk_at (i := 39) (d := some 79) (v := ?_) rfl rfl (by kernel_rfl) (by kernel_rfl) (by kernel_rfl) (fun _ _ _ h => h) (Or.inl ⟨by rfl, ?_⟩) (by assumption) ?_
    rotate_left
    · (intro w hSw; (try dsimp only at hSw); go_simp; try (with_reducible rfl))
    simp only [Act.put, List.setIfInBounds_toArray, List.set_cons_zero, List.set_cons_succ]
    refine tk_at (i := 40) (d := some 80) (v := (vOpt (TH) (.string (ByteArray.mk #[])))) rfl rfl (by kernel_rfl) (by kernel_rfl) (by kernel_rfl) (fun _ _ _ h => h) ?_ (by assumption) ?_
    · cases TH with
      | false =>
        exact Or.inr ⟨by rfl, rfl⟩
      | true =>
        refine Or.inl ⟨by rfl, ?_⟩
        intro w hSw
        try dsimp only at hSw
        try simp only [vOpt_t]
        go_simp
        try (with_reducible rfl)
    simp only [Act.put, List.setIfInBounds_toArray, List.set_cons_zero, List.set_cons_succ]
    refine tk_at (i := 41) (d := some 81) (v := (vOpt (TH) (.pointer (some ⟨E, 4, none⟩)))) rfl rfl (by kernel_rfl) (by kernel_rfl) (by kernel_rfl) (fun _ _ _ h => h) ?_ (by assumption) ?_
    · cases TH with
      | false =>
        exact Or.inr ⟨by rfl, rfl⟩
      | true =>
        refine Or.inl ⟨by rfl, ?_⟩
        intro w hSw
        try dsimp only at hSw
        try simp only [vOpt_t]
        go_simp
        try (with_reducible rfl)
    simp only [Act.put, List.setIfInBounds_toArray, List.set_cons_zero, List.set_cons_succ]
    refine tk_at (i := 42) (d := some 82) (v := (vOpt (TH) (.string yj))) rfl rfl (by kernel_rfl) (by kernel_rfl) (by kernel_rfl) (fun _ _ _ h => h) ?_ (by assumption) ?_
    · cases TH with
      | false =>
        exact Or.inr ⟨by rfl, rfl⟩
      | true =>
        refine Or.inl ⟨by rfl, ?_⟩
        intro w hSw
        try dsimp only at hSw
        try simp only [vOpt_t]
        go_simp
        try (with_reducible rfl)
    simp only [Act.put, List.setIfInBounds_toArray, List.set_cons_zero, List.set_cons_succ]
    refine call_maybe (i := 43) (d := some 83) (v := .bool (jnF (ByteArray.mk #[]) ⟨ya, yb, yc, yd, yj, yn⟩)) TH rfl rfl (by kernel_rfl) (by cases TH <;> rfl) (by assumption) ?_ ?_
    · intro hth K' hK
      subst hth
      obtain ⟨yk, hyk⟩ := one_byte (HJ.out rfl)
      subst hyk
      have hone : ∀ wX : World, Calls Tryz.prog 24 #[.string (ByteArray.mk #[]), .string ⟨#[yk]⟩] wX fun e w' => e = .returned (.bool (jnF (ByteArray.mk #[]) ⟨ya, yb, yc, yd, ⟨#[yk]⟩, yn⟩)) ∧ w' = wX := fun wX => by rw [jnF_one (ss := (ByteArray.mk #[])) (c := yk) rfl]; exact letter_any (ByteArray.mk #[]) yk wX (by have := HON.out; omega)
      simp only [vOpt_t]
      go_simp
      refine (hone _).mono ?_
      rintro e yz ⟨rfl, rfl⟩
      go_wp2_with fail
      exact hK
    simp only [Act.put, List.setIfInBounds_toArray, List.set_cons_zero, List.set_cons_succ]
    refine tk_at (i := 44) (d := some 84) (v := .bool (TH && jnF (ByteArray.mk #[]) ⟨ya, yb, yc, yd, yj, yn⟩)) rfl rfl (by kernel_rfl) (by kernel_rfl) (by kernel_rfl) (fun _ _ _ h => h) ?_ (by assumption) ?_
    · cases TH with
      | false =>
        refine Or.inl ⟨by rfl, ?_⟩
        intro w hSw
        try dsimp only at hSw
        try simp only [vOpt_f]
        go_simp
        try (with_reducible rfl)
      | true =>
        refine Or.inl ⟨by rfl, ?_⟩
        intro w hSw
        try dsimp only at hSw
        try simp only [vOpt_t]
        go_simp
        try (with_reducible rfl)
    simp only [Act.put, List.setIfInBounds_toArray, List.set_cons_zero, List.set_cons_succ]
    refine tk_at (i := 45) (d := some 85) (v := ?_) rfl rfl (by kernel_rfl) (by kernel_rfl) (by kernel_rfl) (fun _ _ _ h => h) (Or.inl ⟨by rfl, ?_⟩) (by assumption) ?_
    rotate_left
    · (intro w hSw; (try dsimp only at hSw); go_simp; try (with_reducible rfl))
    simp only [Act.put, List.setIfInBounds_toArray, List.set_cons_zero, List.set_cons_succ]
    refine wpAnyH_ready (rs := [48]) (by kernel_rfl) (by simp) ?_
    refine AllReadyH.cons rfl (fun K hK => ?_) AllReadyH.nil
    go_simp
    refine ((FL.out.below B4.out).set_ SXH.out p (ByteArray.mk #[])).mono ?_
    rintro e y5 ⟨x5, l5, u5, rfl, gd_, hb⟩
    have B5 := hid (belowCat B4.out hb)
    have G1 := hid (G1.out.below hb)
    have G2 := hid (G2.out.below hb)
    have G3 := hid (G3.out.below hb)
    have G4 := hid (G4.out.below hb)
    have G5 : Hid (Gd y5 p (x5, l5, u5) (X5)) := hid (gd_is gd_ (HX5.out))
    clear gd_ hb B4
    go_wp2_with fail
    refine hK.out _ _ (KS.out _ B5.out) (fun hHeld => ?_)
    clear hK K
    try simp only [Act.put, List.setIfInBounds_toArray, List.set_cons_zero, List.set_cons_succ]
    refine wpAnyH_ready (rs := [52]) (by kernel_rfl) (by simp) ?_
    refine AllReadyH.cons rfl (fun K hK => ?_) AllReadyH.nil
    go_simp
    refine ((FL.out.below B5.out).rset SXH.out p (ByteArray.mk #[])).mono ?_
    rintro e y6 ⟨rfl, hb⟩
    rw [HX5.out]
    have B6 := hid (belowCat B5.out hb)
    have G1 := hid (G1.out.below hb)
    have G2 := hid (G2.out.below hb)
    have G3 := hid (G3.out.below hb)
    have G4 := hid (G4.out.below hb)
    have G5 := hid (G5.out.below hb)
    clear hb B5
    go_wp2_with fail
    refine hK.out _ _ (KS.out _ B6.out) (fun hHeld => ?_)
    clear hK K
    try simp only [Act.put, List.setIfInBounds_toArray, List.set_cons_zero, List.set_cons_succ]
    refine tk_at (i := 53) (d := some 93) (v := ?_) rfl rfl (by kernel_rfl) (by kernel_rfl) (by kernel_rfl) (fun _ _ _ h => h) (Or.inl ⟨by rfl, ?_⟩) (by assumption) ?_
    rotate_left
    · (intro w hSw; (try dsimp only at hSw); go_simp; try (with_reducible rfl))
    simp only [Act.put, List.setIfInBounds_toArray, List.set_cons_zero, List.set_cons_succ]
    refine wpAnyH_ready (rs := [55]) (by kernel_rfl) (by simp) ?_
    refine AllReadyH.cons rfl (fun K hK => ?_) AllReadyH.nil
    go_simp
    refine ((FL.out.below B6.out).alike SXH.out p _ HLN.out).mono ?_
    rintro e y7 ⟨x7, l7, u7, rfl, gd_, hb⟩
    have B7 := hid (belowCat B6.out hb)
    have G1 := hid (G1.out.below hb)
    have G2 := hid (G2.out.below hb)
    have G3 := hid (G3.out.below hb)
    have G4 := hid (G4.out.below hb)
    have G5 := hid (G5.out.below hb)
    have G7 : Hid (Gd y7 p (x7, l7, u7) (DN && dc)) := hid (gd_is gd_ (rfl))
    clear gd_ hb B6
    go_wp2_with fail
    refine hK.out _ _ (KS.out _ B7.out) (fun hHeld => ?_)
    clear hK K
    try simp only [Act.put, List.setIfInBounds_toArray, List.set_cons_zero, List.set_cons_succ]
    refine tk_at (i := 58) (d := some 98) (v := ?_) rfl rfl (by kernel_rfl) (by kernel_rfl) (by kernel_rfl) (fun _ _ _ h => h) (Or.inl ⟨by rfl, ?_⟩) (by assumption) ?_
    rotate_left
    · (intro w hSw; (try dsimp only at hSw); go_simp; try (with_reducible rfl))
    simp only [Act.put, List.setIfInBounds_toArray, List.set_cons_zero, List.set_cons_succ]
    refine tk_at (i := 59) (d := some 99) (v := (vOpt (DN) (.pointer (some ⟨R, 2, none⟩)))) rfl rfl (by kernel_rfl) (by kernel_rfl) (by kernel_rfl) (fun _ _ _ h => h) ?_ (by assumption) ?_
    · cases DN with
      | false =>
        exact Or.inr ⟨by rfl, rfl⟩
      | true =>
        refine Or.inl ⟨by rfl, ?_⟩
        intro w hSw
        try dsimp only at hSw
        try simp only [vOpt_t]
        go_simp
        try (with_reducible rfl)
    simp only [Act.put, List.setIfInBounds_toArray, List.set_cons_zero, List.set_cons_succ]
    refine tk_at (i := 60) (d := some 100) (v := (vOpt (DN) (.slice ad V cap))) rfl rfl (by kernel_rfl) (by kernel_rfl) (by kernel_rfl) (fun _ _ _ h => h) ?_ (by assumption) ?_
    · cases DN with
      | false =>
        exact Or.inr ⟨by rfl, rfl⟩
      | true =>
        refine Or.inl ⟨by rfl, ?_⟩
        intro w hSw
        try dsimp only at hSw
        try simp only [vOpt_t]
        go_simp
        try (with_reducible rfl)
    simp only [Act.put, List.setIfInBounds_toArray, List.set_cons_zero, List.set_cons_succ]
    refine tk_at (i := 61) (d := some 101) (v := (vOpt (DN) (.int .i64 (i : Int)))) rfl rfl (by kernel_rfl) (by kernel_rfl) (by kernel_rfl) (fun _ _ _ h => h) ?_ (by assumption) ?_
    · cases DN with
      | false =>
        exact Or.inr ⟨by rfl, rfl⟩
      | true =>
        refine Or.inl ⟨by rfl, ?_⟩
        intro w hSw
        try dsimp only at hSw
        try simp only [dnI_t]
        try simp only [vOpt_t]
        go_simp
        try (with_reducible rfl)
    simp only [Act.put, List.setIfInBounds_toArray, List.set_cons_zero, List.set_cons_succ]
    refine tk_at (i := 62) (d := some 102) (v := (vOpt (DN) (.pointer (some ⟨gd, i * 4, none⟩)))) rfl rfl (by kernel_rfl) (by kernel_rfl) (by kernel_rfl) (fun _ _ _ h => h) ?_ (by assumption) ?_
    · cases DN with
      | false =>
        exact Or.inr ⟨by rfl, rfl⟩
      | true =>
        obtain ⟨hiV, hadx, _⟩ := HDN.out rfl
        subst hadx
        refine Or.inl ⟨by rfl, ?_⟩
        intro w hSw
        try dsimp only at hSw
        try simp only [vOpt_t]
        go_simp
        try (with_reducible rfl)
    simp only [Act.put, List.setIfInBounds_toArray, List.set_cons_zero, List.set_cons_succ]
    refine tk_at (i := 63) (d := some 103) (v := (vOpt (DN) (.pointer (some ⟨gd, i * 4 + 2, none⟩)))) rfl rfl (by kernel_rfl) (by kernel_rfl) (by kernel_rfl) (fun _ _ _ h => h) ?_ (by assumption) ?_
    · cases DN with
      | false =>
        exact Or.inr ⟨by rfl, rfl⟩
      | true =>
        refine Or.inl ⟨by rfl, ?_⟩
        intro w hSw
        try dsimp only at hSw
        try simp only [vOpt_t]
        go_simp
        try (with_reducible rfl)
    simp only [Act.put, List.setIfInBounds_toArray, List.set_cons_zero, List.set_cons_succ]
    refine tk_at (i := 64) (d := some 104) (v := (vOpt (DN) (.bool dc))) rfl rfl (by kernel_rfl) (by kernel_rfl) (by kernel_rfl) (fun _ _ _ h => h) ?_ (by assumption) ?_
    · cases DN with
      | false =>
        exact Or.inr ⟨by rfl, rfl⟩
      | true =>
        refine Or.inl ⟨by rfl, ?_⟩
        intro w hSw
        have hc := hSw.2.2.2.2.2.2.2.2.2.2 rfl
        try dsimp only at hSw
        try simp only [vOpt_t]
        go_simp
        try (with_reducible rfl)
    simp only [Act.put, List.setIfInBounds_toArray, List.set_cons_zero, List.set_cons_succ]
    refine tk_at (i := 65) (d := some 105) (v := .bool (DN && dc)) rfl rfl (by kernel_rfl) (by kernel_rfl) (by kernel_rfl) (fun _ _ _ h => h) ?_ (by assumption) ?_
    · cases DN with
      | false =>
        refine Or.inl ⟨by rfl, ?_⟩
        intro w hSw
        try dsimp only at hSw
        try simp only [vOpt_f]
        go_simp
        try (with_reducible rfl)
      | true =>
        refine Or.inl ⟨by rfl, ?_⟩
        intro w hSw
        try dsimp only at hSw
        try simp only [vOpt_t]
        go_simp
        try (with_reducible rfl)
    simp only [Act.put, List.setIfInBounds_toArray, List.set_cons_zero, List.set_cons_succ]
    refine tk_at (i := 66) (d := some 106) (v := ?_) rfl rfl (by kernel_rfl) (by kernel_rfl) (by kernel_rfl) (fun _ _ _ h => h) (Or.inl ⟨by rfl, ?_⟩) (by assumption) ?_
    rotate_left
    · (intro w hSw; (try dsimp only at hSw); go_simp; try (with_reducible rfl))
    simp only [Act.put, List.setIfInBounds_toArray, List.set_cons_zero, List.set_cons_succ]
    refine wpAnyH_ready (rs := [67]) (by kernel_rfl) (by simp) ?_
    refine AllReadyH.cons rfl (fun K hK => ?_) AllReadyH.nil
    go_simp
    go_wp2_with fail
    refine hK.out _ _ (KS.out _ (blwXA B7.out)) (fun hHeld => ?_)
    clear hK K
    try simp only [Act.put, List.setIfInBounds_toArray, List.set_cons_zero, List.set_cons_succ]
    refine wpAnyH_ready (rs := [68]) (by kernel_rfl) (by simp) ?_
    refine AllReadyH.cons rfl (fun K hK => ?_) AllReadyH.nil
    go_simp
    go_wp2_with fail
    refine hK.out _ _ (KS.out _ (blwXA B7.out)) (fun hHeld => ?_)
    clear hK K
    try simp only [Act.put, List.setIfInBounds_toArray, List.set_cons_zero, List.set_cons_succ]
    refine wpAnyH_done (by kernel_rfl) ?_ _
    clear hHeld
    go_wp2_with fail
    have BZ := (Below.refl y7.heap.size y7).alloc (Nat.le_refl _) (.cells #[.slice x1 l1 u1, .bool (TH && (al || !yn)), .slice x2 l2 u2, .bool (TH && memB yc nl), .slice x3 l3 u3, .bool (TH && memB yd nl), .slice x4 l4 u4, .bool (TH && jnF (ByteArray.mk #[]) ⟨ya, yb, yc, yd, yj, yn⟩), .slice x5 l5 u5, .bool (X5), .slice x7 l7 u7, .bool (DN && dc)] 55)
    have HEL := hid (Els.mk6 (heap_alloc_at y7 (.cells #[.slice x1 l1 u1, .bool (TH && (al || !yn)), .slice x2 l2 u2, .bool (TH && memB yc nl), .slice x3 l3 u3, .bool (TH && memB yd nl), .slice x4 l4 u4, .bool (TH && jnF (ByteArray.mk #[]) ⟨ya, yb, yc, yd, yj, yn⟩), .slice x5 l5 u5, .bool (X5), .slice x7 l7 u7, .bool (DN && dc)] 55)) (G1.out.below BZ) (G2.out.below BZ) (G3.out.below BZ) (G4.out.below BZ) (G5.out.below BZ) (G7.out.below BZ))
    have BE := hid (belowCat (belowCat BL.out B7.out) BZ)
    clear BZ G1 G2 G3 G4 G5 G7 B7 FL EL BL KS
    generalize y7.alloc (.cells #[.slice x1 l1 u1, .bool (TH && (al || !yn)), .slice x2 l2 u2, .bool (TH && memB yc nl), .slice x3 l3 u3, .bool (TH && memB yd nl), .slice x4 l4 u4, .bool (TH && jnF (ByteArray.mk #[]) ⟨ya, yb, yc, yd, yj, yn⟩), .slice x5 l5 u5, .bool (X5), .slice x7 l7 u7, .bool (DN && dc)] 55) = wz at *
    obtain ⟨q, hq⟩ : ∃ q, y7.heap.size = q := ⟨_, rfl⟩
    rw [hq] at HEL ⊢
    clear hq
    go_loopw [109] (fun c wr => ∃ k : Nat, k ≤ 6 ∧ c = .int .i64 (k : Int) ∧ Below wz.heap.size wz wr) (fun c _ => 6 - (intOf c).toNat)
    case atStart => exact ⟨0, Nat.zero_le _, rfl, Below.refl _ _⟩
    case round =>
      obtain ⟨k, hk, rfl, hB⟩ := hrel
      have HB := hid hB
      by_cases hlt : k < 6
      · obtain ⟨a, m, c, b, hel⟩ := (HEL.out.below hB) k hlt
        have d0 := hel.l
        have d1 := hel.y
        have GD := hid hel.g
        clear hel hB
        cases b with
        | true =>
          go_upto_region 16 with fail
          clear d0 d1
          have hBA := (Below.refl wr.heap.size wr).alloc (Nat.le_refl _) (.cells #[.slice a m c, .bool true] 55)
          have GW := hid (GD.out.below hBA)
          have ZW := hid (heap_alloc_at wr (.cells #[.slice a m c, .bool true] 55))
          have BW := hid (belowCat HB.out hBA)
          clear hBA GD HB
          generalize wr.alloc (.cells #[.slice a m c, .bool true] 55) = ww at *
          obtain ⟨Q, hQ⟩ : ∃ Q, wr.heap.size = Q := ⟨_, rfl⟩
          rw [hQ] at ZW ⊢
          clear hQ
          have KS := hid (show ∀ w' : World, Below ww.heap.size ww w' → (fun w' => w'.cell? ⟨Q, 0, none⟩ = some (.slice a m c) ∧ w'.cell? ⟨Q, 1, none⟩ = some (.bool true)) w' from fun w' hb => ⟨cell_of_heap ((hb.block Q (lt_of_heap ZW.out)).trans ZW.out) rfl, cell_of_heap ((hb.block Q (lt_of_heap ZW.out)).trans ZW.out) rfl⟩)
          have BD := hid (show Below ww.heap.size ww ww.drew from blwXD (Below.refl _ _))
          refine wp_region_held_drew (S := (fun w' => w'.cell? ⟨Q, 0, none⟩ = some (.slice a m c) ∧ w'.cell? ⟨Q, 1, none⟩ = some (.bool true))) (by kernel_rfl) (KS.out _ BD.out) (fun hHeld => ?_)
          refine tk_at (i := 0) (d := some 113) (v := ?_) rfl rfl (by kernel_rfl) (by kernel_rfl) (by kernel_rfl) (fun _ _ _ h => h) (Or.inl ⟨by rfl, ?_⟩) (by assumption) ?_
          rotate_left
          · (intro w hSw; (try dsimp only at hSw); go_simp; try (with_reducible rfl))
          simp only [Act.put, List.setIfInBounds_toArray, List.set_cons_zero, List.set_cons_succ]
          refine tk_at (i := 1) (d := some 114) (v := ?_) rfl rfl (by kernel_rfl) (by kernel_rfl) (by kernel_rfl) (fun _ _ _ h => h) (Or.inl ⟨by rfl, ?_⟩) (by assumption) ?_
          rotate_left
          · (intro w hSw; (try dsimp only at hSw); go_simp; try (with_reducible rfl))
          simp only [Act.put, List.setIfInBounds_toArray, List.set_cons_zero, List.set_cons_succ]
          refine tk_at (i := 2) (d := some 115) (v := ?_) rfl rfl (by kernel_rfl) (by kernel_rfl) (by kernel_rfl) (fun _ _ _ h => h) (Or.inl ⟨by rfl, ?_⟩) (by assumption) ?_
          rotate_left
          · (intro w hSw; (try dsimp only at hSw); go_simp; try (with_reducible rfl))
          simp only [Act.put, List.setIfInBounds_toArray, List.set_cons_zero, List.set_cons_succ]
          refine tk_at (i := 4) (d := some 117) (v := ?_) rfl rfl (by kernel_rfl) (by kernel_rfl) (by kernel_rfl) (fun _ _ _ h => h) (Or.inl ⟨by rfl, ?_⟩) (by assumption) ?_
          rotate_left
          · (intro w hSw; (try dsimp only at hSw); go_simp; try (with_reducible rfl))
          simp only [Act.put, List.setIfInBounds_toArray, List.set_cons_zero, List.set_cons_succ]
          refine tk_at (i := 5) (d := some 118) (v := ?_) rfl rfl (by kernel_rfl) (by kernel_rfl) (by kernel_rfl) (fun _ _ _ h => h) (Or.inl ⟨by rfl, ?_⟩) (by assumption) ?_
          rotate_left
          · (intro w hSw; (try dsimp only at hSw); go_simp; try (with_reducible rfl))
          simp only [Act.put, List.setIfInBounds_toArray, List.set_cons_zero, List.set_cons_succ]
          refine wpAnyH_ready (rs := [3]) (by kernel_rfl) (by simp) ?_
          refine AllReadyH.cons rfl (fun K hK => ?_) AllReadyH.nil
          go_simp
          refine ((GW.out.below BD.out).in_).mono ?_
          rintro e we ⟨rfl, hb⟩
          have BI := hid (belowCat BD.out hb)
          clear hb
          go_wp2_with fail
          refine hK.out _ _ (KS.out _ BI.out) (fun hHeld => ?_)
          clear hK K
          try simp only [Act.put, List.setIfInBounds_toArray, List.set_cons_zero, List.set_cons_succ]
          refine tk_at (i := 6) (d := some 119) (v := ?_) rfl rfl (by kernel_rfl) (by kernel_rfl) (by kernel_rfl) (fun _ _ _ h => h) (Or.inl ⟨by rfl, ?_⟩) (by assumption) ?_
          rotate_left
          · (intro w hSw; (try dsimp only at hSw); go_simp; try (with_reducible rfl))
          simp only [Act.put, List.setIfInBounds_toArray, List.set_cons_zero, List.set_cons_succ]
          refine tk_at (i := 7) (d := some 120) (v := ?_) rfl rfl (by kernel_rfl) (by kernel_rfl) (by kernel_rfl) (fun _ _ _ h => h) (Or.inl ⟨by rfl, ?_⟩) (by assumption) ?_
          rotate_left
          · (intro w hSw; (try dsimp only at hSw); go_simp; try (with_reducible rfl))
          simp only [Act.put, List.setIfInBounds_toArray, List.set_cons_zero, List.set_cons_succ]
          refine tk_at (i := 8) (d := some 121) (v := ?_) rfl rfl (by kernel_rfl) (by kernel_rfl) (by kernel_rfl) (fun _ _ _ h => h) (Or.inl ⟨by rfl, ?_⟩) (by assumption) ?_
          rotate_left
          · (intro w hSw; (try dsimp only at hSw); go_simp; try (with_reducible rfl))
          simp only [Act.put, List.setIfInBounds_toArray, List.set_cons_zero, List.set_cons_succ]
          refine tk_at (i := 9) (d := some 122) (v := ?_) rfl rfl (by kernel_rfl) (by kernel_rfl) (by kernel_rfl) (fun _ _ _ h => h) (Or.inl ⟨by rfl, ?_⟩) (by assumption) ?_
          rotate_left
          · (intro w hSw; (try dsimp only at hSw); go_simp; try (with_reducible rfl))
          simp only [Act.put, List.setIfInBounds_toArray, List.set_cons_zero, List.set_cons_succ]
          refine wpAnyH_ready (rs := [10]) (by kernel_rfl) (by simp) ?_
          refine AllReadyH.cons rfl (fun K hK => ?_) AllReadyH.nil
          go_simp
          refine ((GW.out.below BI.out).mg).mono ?_
          rintro e wf ⟨rfl, hb⟩
          have BM := hid (belowCat BI.out hb)
          clear hb
          go_wp2_with fail
          refine hK.out _ _ (KS.out _ BM.out) (fun hHeld => ?_)
          clear hK K
          try simp only [Act.put, List.setIfInBounds_toArray, List.set_cons_zero, List.set_cons_succ]
          refine tk_at (i := 11) (d := some 124) (v := ?_) rfl rfl (by kernel_rfl) (by kernel_rfl) (by kernel_rfl) (fun _ _ _ h => h) (Or.inl ⟨by rfl, ?_⟩) (by assumption) ?_
          rotate_left
          · (intro w hSw; (try dsimp only at hSw); go_simp; try (with_reducible rfl))
          simp only [Act.put, List.setIfInBounds_toArray, List.set_cons_zero, List.set_cons_succ]
          refine wpAnyH_ready (rs := [12]) (by kernel_rfl) (by simp) ?_
          refine AllReadyH.cons rfl (fun K hK => ?_) AllReadyH.nil
          go_simp
          go_wp2_with fail
          refine hK.out _ _ (KS.out _ BM.out) (fun hHeld => ?_)
          clear hK K
          try simp only [Act.put, List.setIfInBounds_toArray, List.set_cons_zero, List.set_cons_succ]
          refine wpAnyH_done (by kernel_rfl) ?_ _
          clear hHeld
          go_wp2
          go_roundw
          case rel => exact ⟨k + 1, by omega, by go_num, belowCat BW.out BM.out⟩
          case measure => simp [intOf]; omega
        | false =>
          go_upto_region 16 with fail
          clear d0 d1
          have hBA := (Below.refl wr.heap.size wr).alloc (Nat.le_refl _) (.cells #[.slice a m c, .bool false] 55)
          have GW := hid (GD.out.below hBA)
          have ZW := hid (heap_alloc_at wr (.cells #[.slice a m c, .bool false] 55))
          have BW := hid (belowCat HB.out hBA)
          clear hBA GD HB
          generalize wr.alloc (.cells #[.slice a m c, .bool false] 55) = ww at *
          obtain ⟨Q, hQ⟩ : ∃ Q, wr.heap.size = Q := ⟨_, rfl⟩
          rw [hQ] at ZW ⊢
          clear hQ
          have KS := hid (show ∀ w' : World, Below ww.heap.size ww w' → (fun w' => w'.cell? ⟨Q, 0, none⟩ = some (.slice a m c) ∧ w'.cell? ⟨Q, 1, none⟩ = some (.bool false)) w' from fun w' hb => ⟨cell_of_heap ((hb.block Q (lt_of_heap ZW.out)).trans ZW.out) rfl, cell_of_heap ((hb.block Q (lt_of_heap ZW.out)).trans ZW.out) rfl⟩)
          have BD := hid (show Below ww.heap.size ww ww.drew from blwXD (Below.refl _ _))
          refine wp_region_held_drew (S := (fun w' => w'.cell? ⟨Q, 0, none⟩ = some (.slice a m c) ∧ w'.cell? ⟨Q, 1, none⟩ = some (.bool false))) (by kernel_rfl) (KS.out _ BD.out) (fun hHeld => ?_)
          refine tk_at (i := 0) (d := some 113) (v := ?_) rfl rfl (by kernel_rfl) (by kernel_rfl) (by kernel_rfl) (fun _ _ _ h => h) (Or.inl ⟨by rfl, ?_⟩) (by assumption) ?_
          rotate_left
          · (intro w hSw; (try dsimp only at hSw); go_simp; try (with_reducible rfl))
          simp only [Act.put, List.setIfInBounds_toArray, List.set_cons_zero, List.set_cons_succ]
          refine tk_at (i := 1) (d := some 114) (v := ?_) rfl rfl (by kernel_rfl) (by kernel_rfl) (by kernel_rfl) (fun _ _ _ h => h) (Or.inl ⟨by rfl, ?_⟩) (by assumption) ?_
          rotate_left
          · (intro w hSw; (try dsimp only at hSw); go_simp; try (with_reducible rfl))
          simp only [Act.put, List.setIfInBounds_toArray, List.set_cons_zero, List.set_cons_succ]
          refine tk_at (i := 2) (d := some 115) (v := ?_) rfl rfl (by kernel_rfl) (by kernel_rfl) (by kernel_rfl) (fun _ _ _ h => h) (Or.inl ⟨by rfl, ?_⟩) (by assumption) ?_
          rotate_left
          · (intro w hSw; (try dsimp only at hSw); go_simp; try (with_reducible rfl))
          simp only [Act.put, List.setIfInBounds_toArray, List.set_cons_zero, List.set_cons_succ]
          refine tk_at (i := 4) (d := some 117) (v := ?_) rfl rfl (by kernel_rfl) (by kernel_rfl) (by kernel_rfl) (fun _ _ _ h => h) (Or.inl ⟨by rfl, ?_⟩) (by assumption) ?_
          rotate_left
          · (intro w hSw; (try dsimp only at hSw); go_simp; try (with_reducible rfl))
          simp only [Act.put, List.setIfInBounds_toArray, List.set_cons_zero, List.set_cons_succ]
          refine tk_at (i := 5) (d := some 118) (v := ?_) rfl rfl (by kernel_rfl) (by kernel_rfl) (by kernel_rfl) (fun _ _ _ h => h) (Or.inl ⟨by rfl, ?_⟩) (by assumption) ?_
          rotate_left
          · (intro w hSw; (try dsimp only at hSw); go_simp; try (with_reducible rfl))
          simp only [Act.put, List.setIfInBounds_toArray, List.set_cons_zero, List.set_cons_succ]
          refine wpAnyH_ready (rs := [3]) (by kernel_rfl) (by simp) ?_
          refine AllReadyH.cons rfl (fun K hK => ?_) AllReadyH.nil
          go_simp
          refine ((GW.out.below BD.out).in_).mono ?_
          rintro e we ⟨rfl, hb⟩
          have BI := hid (belowCat BD.out hb)
          clear hb
          go_wp2_with fail
          refine hK.out _ _ (KS.out _ BI.out) (fun hHeld => ?_)
          clear hK K
          try simp only [Act.put, List.setIfInBounds_toArray, List.set_cons_zero, List.set_cons_succ]
          refine tk_at (i := 6) (d := some 119) (v := ?_) rfl rfl (by kernel_rfl) (by kernel_rfl) (by kernel_rfl) (fun _ _ _ h => h) (Or.inl ⟨by rfl, ?_⟩) (by assumption) ?_
          rotate_left
          · (intro w hSw; (try dsimp only at hSw); go_simp; try (with_reducible rfl))
          simp only [Act.put, List.setIfInBounds_toArray, List.set_cons_zero, List.set_cons_succ]
          refine tk_at (i := 7) (d := some 120) (v := ?_) rfl rfl (by kernel_rfl) (by kernel_rfl) (by kernel_rfl) (fun _ _ _ h => h) (Or.inl ⟨by rfl, ?_⟩) (by assumption) ?_
          rotate_left
          · (intro w hSw; (try dsimp only at hSw); go_simp; try (with_reducible rfl))
          simp only [Act.put, List.setIfInBounds_toArray, List.set_cons_zero, List.set_cons_succ]
          refine tk_at (i := 8) (d := some 121) (v := ?_) rfl rfl (by kernel_rfl) (by kernel_rfl) (by kernel_rfl) (fun _ _ _ h => h) (Or.inl ⟨by rfl, ?_⟩) (by assumption) ?_
          rotate_left
          · (intro w hSw; (try dsimp only at hSw); go_simp; try (with_reducible rfl))
          simp only [Act.put, List.setIfInBounds_toArray, List.set_cons_zero, List.set_cons_succ]
          refine tk_at (i := 9) (d := some 122) (v := ?_) rfl rfl (by kernel_rfl) (by kernel_rfl) (by kernel_rfl) (fun _ _ _ h => h) (Or.inl ⟨by rfl, ?_⟩) (by assumption) ?_
          rotate_left
          · (intro w hSw; (try dsimp only at hSw); go_simp; try (with_reducible rfl))
          simp only [Act.put, List.setIfInBounds_toArray, List.set_cons_zero, List.set_cons_succ]
          refine wpAnyH_ready (rs := [10]) (by kernel_rfl) (by simp) ?_
          refine AllReadyH.cons rfl (fun K hK => ?_) AllReadyH.nil
          go_simp
          refine ((GW.out.below BI.out).mg).mono ?_
          rintro e wf ⟨rfl, hb⟩
          have BM := hid (belowCat BI.out hb)
          clear hb
          go_wp2_with fail
          refine hK.out _ _ (KS.out _ BM.out) (fun hHeld => ?_)
          clear hK K
          try simp only [Act.put, List.setIfInBounds_toArray, List.set_cons_zero, List.set_cons_succ]
          refine tk_at (i := 11) (d := some 124) (v := ?_) rfl rfl (by kernel_rfl) (by kernel_rfl) (by kernel_rfl) (fun _ _ _ h => h) (Or.inl ⟨by rfl, ?_⟩) (by assumption) ?_
          rotate_left
          · (intro w hSw; (try dsimp only at hSw); go_simp; try (with_reducible rfl))
          simp only [Act.put, List.setIfInBounds_toArray, List.set_cons_zero, List.set_cons_succ]
          refine wpAnyH_ready (rs := [12]) (by kernel_rfl) (by simp) ?_
          refine AllReadyH.cons rfl (fun K hK => ?_) AllReadyH.nil
          go_simp
          go_wp2_with fail
          refine hK.out _ _ (KS.out _ BM.out) (fun hHeld => ?_)
          clear hK K
          try simp only [Act.put, List.setIfInBounds_toArray, List.set_cons_zero, List.set_cons_succ]
          refine wpAnyH_done (by kernel_rfl) ?_ _
          clear hHeld
          go_wp2
          go_roundw
          case rel => exact ⟨k + 1, by omega, by go_num, belowCat BW.out BM.out⟩
          case measure => simp [intOf]; omega
      · obtain rfl : k = 6 := by omega
        clear hB
        go_wp2
        go_ret
        exact ⟨rfl, belowCat BE.out HB.out⟩
  · have hz2 : 0 < nl.length := by rw [HN.out]; omega
    have hnp : 0 < n := by omega
    obtain ⟨yy, rfl, cy⟩ := F6.out.st 0 hz2
    obtain ⟨on, hon⟩ : ∃ s, nl[0] = s := ⟨_, rfl⟩
    rw [hon] at cy
    have cy2 : w6.cell? yy = some (.string on) := by
      have e : yy.add 0 = yy := by simp [Addr.add]
      rwa [e] at cy
    clear hon hz2
    by_cases h100 : 100 < on.size
    · clear HJ
      go_wp2
      go_ret
      exact ⟨rfl, B6.out⟩
    · have HON := hid (show on.size ≤ 100 by omega)
      obtain ⟨X5, hX5⟩ : ∃ b, (ln.find? fun r => eqB r.s on && hasB (r.a, r.b) p).isSome = b := ⟨_, rfl⟩
      have HX5 := hid hX5
      clear hX5
      have FQ := hid F6.out
      have k0 := cell_of_heap (i := 0) FQ.out.hR rfl
      have k1 := cell_of_heap (i := 1) FQ.out.hR rfl
      have k2 := cell_of_heap (i := 2) FQ.out.hR rfl
      have k3 := cell_of_heap (i := 3) FQ.out.hR rfl
      have k4 := cell_of_heap (i := 4) FQ.out.hR rfl
      have k5 := cell_of_heap (i := 5) FQ.out.hR rfl
      clear FQ
      go_wp2_with fail
      refine (F6.out.line SXH.out p).mono ?_
      rintro e wl ⟨hl, hb⟩
      obtain ⟨DN, dc, i, gd, rfl, hdn, hln⟩ := ln_one hl (F6.out.below hb).d
      rw [HV.out] at hdn
      have HDN := hid hdn
      have HLN := hid hln
      have FL := hid (F6.out.below hb)
      have EL := hid ((hb.block E (lt_of_heap E6.out)).trans E6.out)
      have BL := hid (belowCat B6.out hb)
      clear hl hb hdn hln k0 k1 k2 k3 k4 k5 F6 E6 B6
      go_upto_region 13 with fail
      have KS := hid (show ∀ w' : World, Below wl.heap.size wl w' → (fun w' => w'.cell? ⟨R, 0, none⟩ = some (.slice a0 n0 p0) ∧ w'.cell? ⟨R, 1, none⟩ = some (.slice a1 n1 p1) ∧ w'.cell? ⟨R, 2, none⟩ = some (.slice ad V cap) ∧ w'.cell? ⟨R, 3, none⟩ = some (.slice a3 n3 p3) ∧ w'.cell? ⟨R, 4, none⟩ = some (.slice a4 n4 p4) ∧ w'.cell? ⟨R, 5, none⟩ = some (.slice a5 n5 p5) ∧ w'.cell? ⟨E, 2, none⟩ = some (.string yc) ∧ w'.cell? ⟨E, 3, none⟩ = some (.string yd) ∧ w'.cell? ⟨E, 4, none⟩ = some (.string yj) ∧ w'.cell? ⟨E, 5, none⟩ = some (.bool yn) ∧ (DN = true → w'.cell? ⟨gd, i * 4 + 2, none⟩ = some (.bool dc))) w' from fun w' hb => by
        have h := (FL.out.below hb).hR
        have h2 := (hb.block E (lt_of_heap EL.out)).trans EL.out
        exact ⟨cell_of_heap h rfl, cell_of_heap h rfl, cell_of_heap h rfl, cell_of_heap h rfl, cell_of_heap h rfl, cell_of_heap h rfl, cell_of_heap h2 rfl, cell_of_heap h2 rfl, cell_of_heap h2 rfl, cell_of_heap h2 rfl, fun e => cellX hb (HDN.out e).2.2⟩)
      have B0 := hid (show Below wl.heap.size wl wl.drew from blwXD (Below.refl _ _))
      have hi0 : (0 : Int) ≤ (i : Int) := by omega
      refine wp_region_held_drew (S := (fun w' => w'.cell? ⟨R, 0, none⟩ = some (.slice a0 n0 p0) ∧ w'.cell? ⟨R, 1, none⟩ = some (.slice a1 n1 p1) ∧ w'.cell? ⟨R, 2, none⟩ = some (.slice ad V cap) ∧ w'.cell? ⟨R, 3, none⟩ = some (.slice a3 n3 p3) ∧ w'.cell? ⟨R, 4, none⟩ = some (.slice a4 n4 p4) ∧ w'.cell? ⟨R, 5, none⟩ = some (.slice a5 n5 p5) ∧ w'.cell? ⟨E, 2, none⟩ = some (.string yc) ∧ w'.cell? ⟨E, 3, none⟩ = some (.string yd) ∧ w'.cell? ⟨E, 4, none⟩ = some (.string yj) ∧ w'.cell? ⟨E, 5, none⟩ = some (.bool yn) ∧ (DN = true → w'.cell? ⟨gd, i * 4 + 2, none⟩ = some (.bool dc)))) (by kernel_rfl) (KS.out _ B0.out) (fun hHeld => ?_)
      refine tk_at (i := 0) (d := some 40) (v := ?_) rfl rfl (by kernel_rfl) (by kernel_rfl) (by kernel_rfl) (fun _ _ _ h => h) (Or.inl ⟨by rfl, ?_⟩) (by assumption) ?_
      rotate_left
      · (intro w hSw; (try dsimp only at hSw); go_simp; try (with_reducible rfl))
      simp only [Act.put, List.setIfInBounds_toArray, List.set_cons_zero, List.set_cons_succ]
      refine tk_at (i := 1) (d := some 41) (v := ?_) rfl rfl (by kernel_rfl) (by kernel_rfl) (by kernel_rfl) (fun _ _ _ h => h) (Or.inl ⟨by rfl, ?_⟩) (by assumption) ?_
      rotate_left
      · (intro w hSw; (try dsimp only at hSw); go_simp; try (with_reducible rfl))
      simp only [Act.put, List.setIfInBounds_toArray, List.set_cons_zero, List.set_cons_succ]
      refine tk_at (i := 3) (d := some 43) (v := ?_) rfl rfl (by kernel_rfl) (by kernel_rfl) (by kernel_rfl) (fun _ _ _ h => h) (Or.inl ⟨by rfl, ?_⟩) (by assumption) ?_
      rotate_left
      · (intro w hSw; (try dsimp only at hSw); go_simp; try (with_reducible rfl))
      simp only [Act.put, List.setIfInBounds_toArray, List.set_cons_zero, List.set_cons_succ]
      refine tk_at (i := 13) (d := some 53) (v := ?_) rfl rfl (by kernel_rfl) (by kernel_rfl) (by kernel_rfl) (fun _ _ _ h => h) (Or.inl ⟨by rfl, ?_⟩) (by assumption) ?_
      rotate_left
      · (intro w hSw; (try dsimp only at hSw); go_simp; try (with_reducible rfl))
      simp only [Act.put, List.setIfInBounds_toArray, List.set_cons_zero, List.set_cons_succ]
      refine tk_at (i := 14) (d := some 54) (v := ?_) rfl rfl (by kernel_rfl) (by kernel_rfl) (by kernel_rfl) (fun _ _ _ h => h) (Or.inl ⟨by rfl, ?_⟩) (by assumption) ?_
      rotate_left
      · (intro w hSw; (try dsimp only at hSw); go_simp; try (with_reducible rfl))
      simp only [Act.put, List.setIfInBounds_toArray, List.set_cons_zero, List.set_cons_succ]
      refine tk_at (i := 16) (d := some 56) (v := ?_) rfl rfl (by kernel_rfl) (by kernel_rfl) (by kernel_rfl) (fun _ _ _ h => h) (Or.inl ⟨by rfl, ?_⟩) (by assumption) ?_
      rotate_left
      · (intro w hSw; (try dsimp only at hSw); go_simp; try (with_reducible rfl))
      simp only [Act.put, List.setIfInBounds_toArray, List.set_cons_zero, List.set_cons_succ]
      refine tk_at (i := 24) (d := some 64) (v := ?_) rfl rfl (by kernel_rfl) (by kernel_rfl) (by kernel_rfl) (fun _ _ _ h => h) (Or.inl ⟨by rfl, ?_⟩) (by assumption) ?_
      rotate_left
      · (intro w hSw; (try dsimp only at hSw); go_simp; try (with_reducible rfl))
      simp only [Act.put, List.setIfInBounds_toArray, List.set_cons_zero, List.set_cons_succ]
      refine tk_at (i := 25) (d := some 65) (v := ?_) rfl rfl (by kernel_rfl) (by kernel_rfl) (by kernel_rfl) (fun _ _ _ h => h) (Or.inl ⟨by rfl, ?_⟩) (by assumption) ?_
      rotate_left
      · (intro w hSw; (try dsimp only at hSw); go_simp; try (with_reducible rfl))
      simp only [Act.put, List.setIfInBounds_toArray, List.set_cons_zero, List.set_cons_succ]
      refine tk_at (i := 27) (d := some 67) (v := ?_) rfl rfl (by kernel_rfl) (by kernel_rfl) (by kernel_rfl) (fun _ _ _ h => h) (Or.inl ⟨by rfl, ?_⟩) (by assumption) ?_
      rotate_left
      · (intro w hSw; (try dsimp only at hSw); go_simp; try (with_reducible rfl))
      simp only [Act.put, List.setIfInBounds_toArray, List.set_cons_zero, List.set_cons_succ]
      refine tk_at (i := 35) (d := some 75) (v := ?_) rfl rfl (by kernel_rfl) (by kernel_rfl) (by kernel_rfl) (fun _ _ _ h => h) (Or.inl ⟨by rfl, ?_⟩) (by assumption) ?_
      rotate_left
      · (intro w hSw; (try dsimp only at hSw); go_simp; try (with_reducible rfl))
      simp only [Act.put, List.setIfInBounds_toArray, List.set_cons_zero, List.set_cons_succ]
      refine tk_at (i := 36) (d := some 76) (v := ?_) rfl rfl (by kernel_rfl) (by kernel_rfl) (by kernel_rfl) (fun _ _ _ h => h) (Or.inl ⟨by rfl, ?_⟩) (by assumption) ?_
      rotate_left
      · (intro w hSw; (try dsimp only at hSw); go_simp; try (with_reducible rfl))
      simp only [Act.put, List.setIfInBounds_toArray, List.set_cons_zero, List.set_cons_succ]
      refine tk_at (i := 38) (d := some 78) (v := ?_) rfl rfl (by kernel_rfl) (by kernel_rfl) (by kernel_rfl) (fun _ _ _ h => h) (Or.inl ⟨by rfl, ?_⟩) (by assumption) ?_
      rotate_left
      · (intro w hSw; (try dsimp only at hSw); go_simp; try (with_reducible rfl))
      simp only [Act.put, List.setIfInBounds_toArray, List.set_cons_zero, List.set_cons_succ]
      refine tk_at (i := 46) (d := some 86) (v := ?_) rfl rfl (by kernel_rfl) (by kernel_rfl) (by kernel_rfl) (fun _ _ _ h => h) (Or.inl ⟨by rfl, ?_⟩) (by assumption) ?_
      rotate_left
      · (intro w hSw; (try dsimp only at hSw); go_simp; try (with_reducible rfl))
      simp only [Act.put, List.setIfInBounds_toArray, List.set_cons_zero, List.set_cons_succ]
      refine tk_at (i := 47) (d := some 87) (v := ?_) rfl rfl (by kernel_rfl) (by kernel_rfl) (by kernel_rfl) (fun _ _ _ h => h) (Or.inl ⟨by rfl, ?_⟩) (by assumption) ?_
      rotate_left
      · (intro w hSw; (try dsimp only at hSw); go_simp; try (with_reducible rfl))
      simp only [Act.put, List.setIfInBounds_toArray, List.set_cons_zero, List.set_cons_succ]
      refine tk_at (i := 49) (d := some 89) (v := ?_) rfl rfl (by kernel_rfl) (by kernel_rfl) (by kernel_rfl) (fun _ _ _ h => h) (Or.inl ⟨by rfl, ?_⟩) (by assumption) ?_
      rotate_left
      · (intro w hSw; (try dsimp only at hSw); go_simp; try (with_reducible rfl))
      simp only [Act.put, List.setIfInBounds_toArray, List.set_cons_zero, List.set_cons_succ]
      refine tk_at (i := 50) (d := some 90) (v := ?_) rfl rfl (by kernel_rfl) (by kernel_rfl) (by kernel_rfl) (fun _ _ _ h => h) (Or.inl ⟨by rfl, ?_⟩) (by assumption) ?_
      rotate_left
      · (intro w hSw; (try dsimp only at hSw); go_simp; try (with_reducible rfl))
      simp only [Act.put, List.setIfInBounds_toArray, List.set_cons_zero, List.set_cons_succ]
      refine tk_at (i := 51) (d := some 91) (v := ?_) rfl rfl (by kernel_rfl) (by kernel_rfl) (by kernel_rfl) (fun _ _ _ h => h) (Or.inl ⟨by rfl, ?_⟩) (by assumption) ?_
      rotate_left
      · (intro w hSw; (try dsimp only at hSw); go_simp; try (with_reducible rfl))
      simp only [Act.put, List.setIfInBounds_toArray, List.set_cons_zero, List.set_cons_succ]
      refine tk_at (i := 54) (d := some 94) (v := ?_) rfl rfl (by kernel_rfl) (by kernel_rfl) (by kernel_rfl) (fun _ _ _ h => h) (Or.inl ⟨by rfl, ?_⟩) (by assumption) ?_
      rotate_left
      · (intro w hSw; (try dsimp only at hSw); go_simp; try (with_reducible rfl))
      simp only [Act.put, List.setIfInBounds_toArray, List.set_cons_zero, List.set_cons_succ]
      refine tk_at (i := 56) (d := some 96) (v := ?_) rfl rfl (by kernel_rfl) (by kernel_rfl) (by kernel_rfl) (fun _ _ _ h => h) (Or.inl ⟨by rfl, ?_⟩) (by assumption) ?_
      rotate_left
      · (intro w hSw; (try dsimp only at hSw); go_simp; try (with_reducible rfl))
      simp only [Act.put, List.setIfInBounds_toArray, List.set_cons_zero, List.set_cons_succ]
      refine tk_at (i := 69) (d := some 109) (v := ?_) rfl rfl (by kernel_rfl) (by kernel_rfl) (by kernel_rfl) (fun _ _ _ h => h) (Or.inl ⟨by rfl, ?_⟩) (by assumption) ?_
      rotate_left
      · (intro w hSw; (try dsimp only at hSw); go_simp; try (with_reducible rfl))
      simp only [Act.put, List.setIfInBounds_toArray, List.set_cons_zero, List.set_cons_succ]
      refine tk_at (i := 57) (d := some 97) (v := .bool DN) rfl rfl (by kernel_rfl) (by kernel_rfl) (by kernel_rfl) (fun _ _ _ h => h) ?_ (by assumption) ?_
      · cases DN with
        | false =>
          refine Or.inl ⟨by rfl, ?_⟩
          intro w hSw
          try dsimp only at hSw
          try simp only [dnI_f]
          go_simp
          try (with_reducible rfl)
        | true =>
          refine Or.inl ⟨by rfl, ?_⟩
          intro w hSw
          try dsimp only at hSw
          try simp only [dnI_t]
          go_simp
          try (with_reducible rfl)
      simp only [Act.put, List.setIfInBounds_toArray, List.set_cons_zero, List.set_cons_succ]
      refine wpAnyH_ready (rs := [2]) (by kernel_rfl) (by simp) ?_
      refine AllReadyH.cons rfl (fun K hK => ?_) AllReadyH.nil
      go_simp
      refine ((FL.out.below B0.out).assigned SXH.out p al).mono ?_
      rintro e y1 ⟨x1, l1, u1, rfl, gd_, hb⟩
      have B1 := hid (belowCat B0.out hb)
      have G1 : Hid (Gd y1 p (x1, l1, u1) (TH && (al || !yn))) := hid (gd_is gd_ (by rw [HTH.out, HRG.out]))
      clear gd_ hb B0
      go_wp2_with fail
      refine hK.out _ _ (KS.out _ B1.out) (fun hHeld => ?_)
      clear hK K
      try simp only [Act.put, List.setIfInBounds_toArray, List.set_cons_zero, List.set_cons_succ]
      refine tk_at (i := 4) (d := some 44) (v := ?_) rfl rfl (by kernel_rfl) (by kernel_rfl) (by kernel_rfl) (fun _ _ _ h => h) (Or.inl ⟨by rfl, ?_⟩) (by assumption) ?_
      rotate_left
      · (intro w hSw; (try dsimp only at hSw); go_simp; try (with_reducible rfl))
      simp only [Act.put, List.setIfInBounds_toArray, List.set_cons_zero, List.set_cons_succ]
      refine tk_at (i := 5) (d := some 45) (v := (vOpt (TH) (.bool al))) rfl rfl (by kernel_rfl) (by kernel_rfl) (by kernel_rfl) (fun _ _ _ h => h) ?_ (by assumption) ?_
      · cases TH with
        | false =>
          exact Or.inr ⟨by rfl, rfl⟩
        | true =>
          refine Or.inl ⟨by rfl, ?_⟩
          intro w hSw
          try dsimp only at hSw
          try simp only [vOpt_t]
          go_simp
          try (with_reducible rfl)
      simp only [Act.put, List.setIfInBounds_toArray, List.set_cons_zero, List.set_cons_succ]
      refine tk_at (i := 6) (d := some 46) (v := (vOpt (TH) (.bool al))) rfl rfl (by kernel_rfl) (by kernel_rfl) (by kernel_rfl) (fun _ _ _ h => h) ?_ (by assumption) ?_
      · cases TH with
        | false =>
          exact Or.inr ⟨by rfl, rfl⟩
        | true =>
          refine Or.inl ⟨by rfl, ?_⟩
          intro w hSw
          try dsimp only at hSw
          try simp only [vOpt_t]
          go_simp
          try (with_reducible rfl)
      simp only [Act.put, List.setIfInBounds_toArray, List.set_cons_zero, List.set_cons_succ]
      refine tk_at (i := 7) (d := some 47) (v := (vOpt (TH && !al) (.pointer (some ⟨E, 5, none⟩)))) rfl rfl (by kernel_rfl) (by kernel_rfl) (by kernel_rfl) (fun _ _ _ h => h) ?_ (by assumption) ?_
      · cases TH with
        | false =>
          exact Or.inr ⟨by rfl, rfl⟩
        | true =>
          cases al with
          | false =>
            refine Or.inl ⟨by rfl, ?_⟩
            intro w hSw
            try dsimp only at hSw
            try simp only [Bool.not_false, Bool.true_and, vOpt_t]
            go_simp
            try (with_reducible rfl)
          | true =>
            exact Or.inr ⟨by rfl, rfl⟩
      simp only [Act.put, List.setIfInBounds_toArray, List.set_cons_zero, List.set_cons_succ]
      refine tk_at (i := 8) (d := some 48) (v := (vOpt (TH && !al) (.bool yn))) rfl rfl (by kernel_rfl) (by kernel_rfl) (by kernel_rfl) (fun _ _ _ h => h) ?_ (by assumption) ?_
      · cases TH with
        | false =>
          exact Or.inr ⟨by rfl, rfl⟩
        | true =>
          cases al with
          | false =>
            refine Or.inl ⟨by rfl, ?_⟩
            intro w hSw
            try dsimp only at hSw
            try simp only [Bool.not_false, Bool.true_and, vOpt_t]
            go_simp
            try (with_reducible rfl)
          | true =>
            exact Or.inr ⟨by rfl, rfl⟩
      simp only [Act.put, List.setIfInBounds_toArray, List.set_cons_zero, List.set_cons_succ]
      refine tk_at (i := 9) (d := some 49) (v := (vOpt (TH && !al) (.bool (!yn)))) rfl rfl (by kernel_rfl) (by kernel_rfl) (by kernel_rfl) (fun _ _ _ h => h) ?_ (by assumption) ?_
      · cases TH with
        | false =>
          exact Or.inr ⟨by rfl, rfl⟩
        | true =>
          cases al with
          | false =>
            refine Or.inl ⟨by rfl, ?_⟩
            intro w hSw
            try dsimp only at hSw
            try simp only [Bool.not_false, Bool.true_and, vOpt_t]
            go_simp
            try (with_reducible rfl)
          | true =>
            exact Or.inr ⟨by rfl, rfl⟩
      simp only [Act.put, List.setIfInBounds_toArray, List.set_cons_zero, List.set_cons_succ]
      refine tk_at (i := 10) (d := some 50) (v := (vOpt (TH) (.bool (al || !yn)))) rfl rfl (by kernel_rfl) (by kernel_rfl) (by kernel_rfl) (fun _ _ _ h => h) ?_ (by assumption) ?_
      · cases TH with
        | false =>
          exact Or.inr ⟨by rfl, rfl⟩
        | true =>
          cases al with
          | false =>
            refine Or.inl ⟨by rfl, ?_⟩
            intro w hSw
            try dsimp only at hSw
            try simp only [Bool.not_false, Bool.true_and, vOpt_t]
            try simp only [vOpt_t]
            go_simp
            try (with_reducible rfl)
          | true =>
            refine Or.inl ⟨by rfl, ?_⟩
            intro w hSw
            try dsimp only at hSw
            try simp only [vOpt_t]
            go_simp
            try (with_reducible rfl)
      simp only [Act.put, List.setIfInBounds_toArray, List.set_cons_zero, List.set_cons_succ]
      refine tk_at (i := 11) (d := some 51) (v := .bool (TH && (al || !yn))) rfl rfl (by kernel_rfl) (by kernel_rfl) (by kernel_rfl) (fun _ _ _ h => h) ?_ (by assumption) ?_
      · cases TH with
        | false =>
          refine Or.inl ⟨by rfl, ?_⟩
          intro w hSw
          try dsimp only at hSw
          try simp only [vOpt_f]
          go_simp
          try (with_reducible rfl)
        | true =>
          refine Or.inl ⟨by rfl, ?_⟩
          intro w hSw
          try dsimp only at hSw
          try simp only [vOpt_t]
          go_simp
          try (with_reducible rfl)
      simp only [Act.put, List.setIfInBounds_toArray, List.set_cons_zero, List.set_cons_succ]
      refine tk_at (i := 12) (d := some 52) (v := ?_) rfl rfl (by kernel_rfl) (by kernel_rfl) (by kernel_rfl) (fun _ _ _ h => h) (Or.inl ⟨by rfl, ?_⟩) (by assumption) ?_
      rotate_left
      · (intro w hSw; (try dsimp only at hSw); go_simp; try (with_reducible rfl))
      simp only [Act.put, List.setIfInBounds_toArray, List.set_cons_zero, List.set_cons_succ]
      refine wpAnyH_ready (rs := [15]) (by kernel_rfl) (by simp) ?_
      refine AllReadyH.cons rfl (fun K hK => ?_) AllReadyH.nil
      go_simp
      refine (show Calls Tryz.prog 20 #[.pointer (some ⟨g, 0, none⟩), .slice (some yy) n nc] _ _ by have h := (FL.out.below B1.out).cats SXH.out p nc HNL.out; rw [HN.out] at h; exact h).mono ?_
      rintro e y2 ⟨x2, l2, u2, rfl, gd_, hb⟩
      have B2 := hid (belowCat B1.out hb)
      have G1 := hid (G1.out.below hb)
      have G2 : Hid (Gd y2 p (x2, l2, u2) (TH && memB yc nl)) := hid (gd_is gd_ (by rw [HTH.out, HRG.out]))
      clear gd_ hb B1
      go_wp2_with fail
      refine hK.out _ _ (KS.out _ B2.out) (fun hHeld => ?_)
      clear hK K
      try simp only [Act.put, List.setIfInBounds_toArray, List.set_cons_zero, List.set_cons_succ]
      refine tk_at (i := 17) (d := some 57) (v := ?_) rfl rfl (by kernel_rfl) (by kernel_rfl) (by kernel_rfl) (fun _ _ _ h => h) (Or.inl ⟨by rfl, ?_⟩) (by assumption) ?_
      rotate_left
      · (intro w hSw; (try dsimp only at hSw); go_simp; try (with_reducible rfl))
      simp only [Act.put, List.setIfInBounds_toArray, List.set_cons_zero, List.set_cons_succ]
      refine tk_at (i := 18) (d := some 58) (v := (vOpt (TH) (.slice (some yy) n nc))) rfl rfl (by kernel_rfl) (by kernel_rfl) (by kernel_rfl) (fun _ _ _ h => h) ?_ (by assumption) ?_
      · cases TH with
        | false =>
          exact Or.inr ⟨by rfl, rfl⟩
        | true =>
          refine Or.inl ⟨by rfl, ?_⟩
          intro w hSw
          try dsimp only at hSw
          try simp only [vOpt_t]
          go_simp
          try (with_reducible rfl)
      simp only [Act.put, List.setIfInBounds_toArray, List.set_cons_zero, List.set_cons_succ]
      refine tk_at (i := 19) (d := some 59) (v := (vOpt (TH) (.pointer (some ⟨E, 2, none⟩)))) rfl rfl (by kernel_rfl) (by kernel_rfl) (by kernel_rfl) (fun _ _ _ h => h) ?_ (by assumption) ?_
      · cases TH with
        | false =>
          exact Or.inr ⟨by rfl, rfl⟩
        | true =>
          refine Or.inl ⟨by rfl, ?_⟩
          intro w hSw
          try dsimp only at hSw
          try simp only [vOpt_t]
          go_simp
          try (with_reducible rfl)
      simp only [Act.put, List.setIfInBounds_toArray, List.set_cons_zero, List.set_cons_succ]
      refine tk_at (i := 20) (d := some 60) (v := (vOpt (TH) (.string yc))) rfl rfl (by kernel_rfl) (by kernel_rfl) (by kernel_rfl) (fun _ _ _ h => h) ?_ (by assumption) ?_
      · cases TH with
        | false =>
          exact Or.inr ⟨by rfl, rfl⟩
        | true =>
          refine Or.inl ⟨by rfl, ?_⟩
          intro w hSw
          try dsimp only at hSw
          try simp only [vOpt_t]
          go_simp
          try (with_reducible rfl)
      simp only [Act.put, List.setIfInBounds_toArray, List.set_cons_zero, List.set_cons_succ]
      refine call_maybe (i := 21) (d := some 61) (v := .bool (memB yc nl)) TH rfl rfl (by kernel_rfl) (by cases TH <;> rfl) (by assumption) ?_ ?_
      · intro hth K' hK
        subst hth
        have hone := one_any (some yy) nl nc yc _ (FL.out.below B2.out).st HNL.out
        rw [HN.out] at hone
        simp only [vOpt_t]
        go_simp
        refine hone.mono ?_
        rintro e yz ⟨rfl, rfl⟩
        go_wp2_with fail
        exact hK
      simp only [Act.put, List.setIfInBounds_toArray, List.set_cons_zero, List.set_cons_succ]
      refine tk_at (i := 22) (d := some 62) (v := .bool (TH && memB yc nl)) rfl rfl (by kernel_rfl) (by kernel_rfl) (by kernel_rfl) (fun _ _ _ h => h) ?_ (by assumption) ?_
      · cases TH with
        | false =>
          refine Or.inl ⟨by rfl, ?_⟩
          intro w hSw
          try dsimp only at hSw
          try simp only [vOpt_f]
          go_simp
          try (with_reducible rfl)
        | true =>
          refine Or.inl ⟨by rfl, ?_⟩
          intro w hSw
          try dsimp only at hSw
          try simp only [vOpt_t]
          go_simp
          try (with_reducible rfl)
      simp only [Act.put, List.setIfInBounds_toArray, List.set_cons_zero, List.set_cons_succ]
      refine tk_at (i := 23) (d := some 63) (v := ?_) rfl rfl (by kernel_rfl) (by kernel_rfl) (by kernel_rfl) (fun _ _ _ h => h) (Or.inl ⟨by rfl, ?_⟩) (by assumption) ?_
      rotate_left
      · (intro w hSw; (try dsimp only at hSw); go_simp; try (with_reducible rfl))
      simp only [Act.put, List.setIfInBounds_toArray, List.set_cons_zero, List.set_cons_succ]
      refine wpAnyH_ready (rs := [26]) (by kernel_rfl) (by simp) ?_
      refine AllReadyH.cons rfl (fun K hK => ?_) AllReadyH.nil
      go_simp
      refine (show Calls Tryz.prog 22 #[.pointer (some ⟨g, 0, none⟩), .slice (some yy) n nc] _ _ by have h := (FL.out.below B2.out).sides SXH.out p nc HNL.out; rw [HN.out] at h; exact h).mono ?_
      rintro e y3 ⟨x3, l3, u3, rfl, gd_, hb⟩
      have B3 := hid (belowCat B2.out hb)
      have G1 := hid (G1.out.below hb)
      have G2 := hid (G2.out.below hb)
      have G3 : Hid (Gd y3 p (x3, l3, u3) (TH && memB yd nl)) := hid (gd_is gd_ (by rw [HTH.out, HRG.out]))
      clear gd_ hb B2
      go_wp2_with fail
      refine hK.out _ _ (KS.out _ B3.out) (fun hHeld => ?_)
      clear hK K
      try simp only [Act.put, List.setIfInBounds_toArray, List.set_cons_zero, List.set_cons_succ]
      refine tk_at (i := 28) (d := some 68) (v := ?_) rfl rfl (by kernel_rfl) (by kernel_rfl) (by kernel_rfl) (fun _ _ _ h => h) (Or.inl ⟨by rfl, ?_⟩) (by assumption) ?_
      rotate_left
      · (intro w hSw; (try dsimp only at hSw); go_simp; try (with_reducible rfl))
      simp only [Act.put, List.setIfInBounds_toArray, List.set_cons_zero, List.set_cons_succ]
      refine tk_at (i := 29) (d := some 69) (v := (vOpt (TH) (.slice (some yy) n nc))) rfl rfl (by kernel_rfl) (by kernel_rfl) (by kernel_rfl) (fun _ _ _ h => h) ?_ (by assumption) ?_
      · cases TH with
        | false =>
          exact Or.inr ⟨by rfl, rfl⟩
        | true =>
          refine Or.inl ⟨by rfl, ?_⟩
          intro w hSw
          try dsimp only at hSw
          try simp only [vOpt_t]
          go_simp
          try (with_reducible rfl)
      simp only [Act.put, List.setIfInBounds_toArray, List.set_cons_zero, List.set_cons_succ]
      refine tk_at (i := 30) (d := some 70) (v := (vOpt (TH) (.pointer (some ⟨E, 3, none⟩)))) rfl rfl (by kernel_rfl) (by kernel_rfl) (by kernel_rfl) (fun _ _ _ h => h) ?_ (by assumption) ?_
      · cases TH with
        | false =>
          exact Or.inr ⟨by rfl, rfl⟩
        | true =>
          refine Or.inl ⟨by rfl, ?_⟩
          intro w hSw
          try dsimp only at hSw
          try simp only [vOpt_t]
          go_simp
          try (with_reducible rfl)
      simp only [Act.put, List.setIfInBounds_toArray, List.set_cons_zero, List.set_cons_succ]
      refine tk_at (i := 31) (d := some 71) (v := (vOpt (TH) (.string yd))) rfl rfl (by kernel_rfl) (by kernel_rfl) (by kernel_rfl) (fun _ _ _ h => h) ?_ (by assumption) ?_
      · cases TH with
        | false =>
          exact Or.inr ⟨by rfl, rfl⟩
        | true =>
          refine Or.inl ⟨by rfl, ?_⟩
          intro w hSw
          try dsimp only at hSw
          try simp only [vOpt_t]
          go_simp
          try (with_reducible rfl)
      simp only [Act.put, List.setIfInBounds_toArray, List.set_cons_zero, List.set_cons_succ]
      refine call_maybe (i := 32) (d := some 72) (v := .bool (memB yd nl)) TH rfl rfl (by kernel_rfl) (by cases TH <;> rfl) (by assumption) ?_ ?_
      · intro hth K' hK
        subst hth
        have hone := one_any (some yy) nl nc yd _ (FL.out.below B3.out).st HNL.out
        rw [HN.out] at hone
        simp only [vOpt_t]
        go_simp
        refine hone.mono ?_
        rintro e yz ⟨rfl, rfl⟩
        go_wp2_with fail
        exact hK
      simp only [Act.put, List.setIfInBounds_toArray, List.set_cons_zero, List.set_cons_succ]
      refine tk_at (i := 33) (d := some 73) (v := .bool (TH && memB yd nl)) rfl rfl (by kernel_rfl) (by kernel_rfl) (by kernel_rfl) (fun _ _ _ h => h) ?_ (by assumption) ?_
      · cases TH with
        | false =>
          refine Or.inl ⟨by rfl, ?_⟩
          intro w hSw
          try dsimp only at hSw
          try simp only [vOpt_f]
          go_simp
          try (with_reducible rfl)
        | true =>
          refine Or.inl ⟨by rfl, ?_⟩
          intro w hSw
          try dsimp only at hSw
          try simp only [vOpt_t]
          go_simp
          try (with_reducible rfl)
      simp only [Act.put, List.setIfInBounds_toArray, List.set_cons_zero, List.set_cons_succ]
      refine tk_at (i := 34) (d := some 74) (v := ?_) rfl rfl (by kernel_rfl) (by kernel_rfl) (by kernel_rfl) (fun _ _ _ h => h) (Or.inl ⟨by rfl, ?_⟩) (by assumption) ?_
      rotate_left
      · (intro w hSw; (try dsimp only at hSw); go_simp; try (with_reducible rfl))
      simp only [Act.put, List.setIfInBounds_toArray, List.set_cons_zero, List.set_cons_succ]
      refine wpAnyH_ready (rs := [37]) (by kernel_rfl) (by simp) ?_
      refine AllReadyH.cons rfl (fun K hK => ?_) AllReadyH.nil
      go_simp
      refine ((FL.out.below B3.out).joins SXH.out p on).mono ?_
      rintro e y4 ⟨x4, l4, u4, rfl, gd_, hb⟩
      have B4 := hid (belowCat B3.out hb)
      have G1 := hid (G1.out.below hb)
      have G2 := hid (G2.out.below hb)
      have G3 := hid (G3.out.below hb)
      have G4 : Hid (Gd y4 p (x4, l4, u4) (TH && jnF on ⟨ya, yb, yc, yd, yj, yn⟩)) := hid (gd_is gd_ (by rw [HTH.out, HRG.out]))
      clear gd_ hb B3
      go_wp2_with fail
      refine hK.out _ _ (KS.out _ B4.out) (fun hHeld => ?_)
      clear hK K
      try simp only [Act.put, List.setIfInBounds_toArray, List.set_cons_zero, List.set_cons_succ]
      refine tk_at (i := 39) (d := some 79) (v := ?_) rfl rfl (by kernel_rfl) (by kernel_rfl) (by kernel_rfl) (fun _ _ _ h => h) (Or.inl ⟨by rfl, ?_⟩) (by assumption) ?_
      rotate_left
      · (intro w hSw; (try dsimp only at hSw); go_simp; try (with_reducible rfl))
      simp only [Act.put, List.setIfInBounds_toArray, List.set_cons_zero, List.set_cons_succ]
      refine tk_at (i := 40) (d := some 80) (v := (vOpt (TH) (.string on))) rfl rfl (by kernel_rfl) (by kernel_rfl) (by kernel_rfl) (fun _ _ _ h => h) ?_ (by assumption) ?_
      · cases TH with
        | false =>
          exact Or.inr ⟨by rfl, rfl⟩
        | true =>
          refine Or.inl ⟨by rfl, ?_⟩
          intro w hSw
          try dsimp only at hSw
          try simp only [vOpt_t]
          go_simp
          try (with_reducible rfl)
      simp only [Act.put, List.setIfInBounds_toArray, List.set_cons_zero, List.set_cons_succ]
      refine tk_at (i := 41) (d := some 81) (v := (vOpt (TH) (.pointer (some ⟨E, 4, none⟩)))) rfl rfl (by kernel_rfl) (by kernel_rfl) (by kernel_rfl) (fun _ _ _ h => h) ?_ (by assumption) ?_
      · cases TH with
        | false =>
          exact Or.inr ⟨by rfl, rfl⟩
        | true =>
          refine Or.inl ⟨by rfl, ?_⟩
          intro w hSw
          try dsimp only at hSw
          try simp only [vOpt_t]
          go_simp
          try (with_reducible rfl)
      simp only [Act.put, List.setIfInBounds_toArray, List.set_cons_zero, List.set_cons_succ]
      refine tk_at (i := 42) (d := some 82) (v := (vOpt (TH) (.string yj))) rfl rfl (by kernel_rfl) (by kernel_rfl) (by kernel_rfl) (fun _ _ _ h => h) ?_ (by assumption) ?_
      · cases TH with
        | false =>
          exact Or.inr ⟨by rfl, rfl⟩
        | true =>
          refine Or.inl ⟨by rfl, ?_⟩
          intro w hSw
          try dsimp only at hSw
          try simp only [vOpt_t]
          go_simp
          try (with_reducible rfl)
      simp only [Act.put, List.setIfInBounds_toArray, List.set_cons_zero, List.set_cons_succ]
      refine call_maybe (i := 43) (d := some 83) (v := .bool (jnF on ⟨ya, yb, yc, yd, yj, yn⟩)) TH rfl rfl (by kernel_rfl) (by cases TH <;> rfl) (by assumption) ?_ ?_
      · intro hth K' hK
        subst hth
        obtain ⟨yk, hyk⟩ := one_byte (HJ.out rfl)
        subst hyk
        have hone : ∀ wX : World, Calls Tryz.prog 24 #[.string on, .string ⟨#[yk]⟩] wX fun e w' => e = .returned (.bool (jnF on ⟨ya, yb, yc, yd, ⟨#[yk]⟩, yn⟩)) ∧ w' = wX := fun wX => by rw [jnF_one (ss := on) (c := yk) rfl]; exact letter_any on yk wX (by have := HON.out; omega)
        simp only [vOpt_t]
        go_simp
        refine (hone _).mono ?_
        rintro e yz ⟨rfl, rfl⟩
        go_wp2_with fail
        exact hK
      simp only [Act.put, List.setIfInBounds_toArray, List.set_cons_zero, List.set_cons_succ]
      refine tk_at (i := 44) (d := some 84) (v := .bool (TH && jnF on ⟨ya, yb, yc, yd, yj, yn⟩)) rfl rfl (by kernel_rfl) (by kernel_rfl) (by kernel_rfl) (fun _ _ _ h => h) ?_ (by assumption) ?_
      · cases TH with
        | false =>
          refine Or.inl ⟨by rfl, ?_⟩
          intro w hSw
          try dsimp only at hSw
          try simp only [vOpt_f]
          go_simp
          try (with_reducible rfl)
        | true =>
          refine Or.inl ⟨by rfl, ?_⟩
          intro w hSw
          try dsimp only at hSw
          try simp only [vOpt_t]
          go_simp
          try (with_reducible rfl)
      simp only [Act.put, List.setIfInBounds_toArray, List.set_cons_zero, List.set_cons_succ]
      refine tk_at (i := 45) (d := some 85) (v := ?_) rfl rfl (by kernel_rfl) (by kernel_rfl) (by kernel_rfl) (fun _ _ _ h => h) (Or.inl ⟨by rfl, ?_⟩) (by assumption) ?_
      rotate_left
      · (intro w hSw; (try dsimp only at hSw); go_simp; try (with_reducible rfl))
      simp only [Act.put, List.setIfInBounds_toArray, List.set_cons_zero, List.set_cons_succ]
      refine wpAnyH_ready (rs := [48]) (by kernel_rfl) (by simp) ?_
      refine AllReadyH.cons rfl (fun K hK => ?_) AllReadyH.nil
      go_simp
      refine ((FL.out.below B4.out).set_ SXH.out p on).mono ?_
      rintro e y5 ⟨x5, l5, u5, rfl, gd_, hb⟩
      have B5 := hid (belowCat B4.out hb)
      have G1 := hid (G1.out.below hb)
      have G2 := hid (G2.out.below hb)
      have G3 := hid (G3.out.below hb)
      have G4 := hid (G4.out.below hb)
      have G5 : Hid (Gd y5 p (x5, l5, u5) (X5)) := hid (gd_is gd_ (HX5.out))
      clear gd_ hb B4
      go_wp2_with fail
      refine hK.out _ _ (KS.out _ B5.out) (fun hHeld => ?_)
      clear hK K
      try simp only [Act.put, List.setIfInBounds_toArray, List.set_cons_zero, List.set_cons_succ]
      refine wpAnyH_ready (rs := [52]) (by kernel_rfl) (by simp) ?_
      refine AllReadyH.cons rfl (fun K hK => ?_) AllReadyH.nil
      go_simp
      refine ((FL.out.below B5.out).rset SXH.out p on).mono ?_
      rintro e y6 ⟨rfl, hb⟩
      rw [HX5.out]
      have B6 := hid (belowCat B5.out hb)
      have G1 := hid (G1.out.below hb)
      have G2 := hid (G2.out.below hb)
      have G3 := hid (G3.out.below hb)
      have G4 := hid (G4.out.below hb)
      have G5 := hid (G5.out.below hb)
      clear hb B5
      go_wp2_with fail
      refine hK.out _ _ (KS.out _ B6.out) (fun hHeld => ?_)
      clear hK K
      try simp only [Act.put, List.setIfInBounds_toArray, List.set_cons_zero, List.set_cons_succ]
      refine tk_at (i := 53) (d := some 93) (v := ?_) rfl rfl (by kernel_rfl) (by kernel_rfl) (by kernel_rfl) (fun _ _ _ h => h) (Or.inl ⟨by rfl, ?_⟩) (by assumption) ?_
      rotate_left
      · (intro w hSw; (try dsimp only at hSw); go_simp; try (with_reducible rfl))
      simp only [Act.put, List.setIfInBounds_toArray, List.set_cons_zero, List.set_cons_succ]
      refine wpAnyH_ready (rs := [55]) (by kernel_rfl) (by simp) ?_
      refine AllReadyH.cons rfl (fun K hK => ?_) AllReadyH.nil
      go_simp
      refine ((FL.out.below B6.out).alike SXH.out p _ HLN.out).mono ?_
      rintro e y7 ⟨x7, l7, u7, rfl, gd_, hb⟩
      have B7 := hid (belowCat B6.out hb)
      have G1 := hid (G1.out.below hb)
      have G2 := hid (G2.out.below hb)
      have G3 := hid (G3.out.below hb)
      have G4 := hid (G4.out.below hb)
      have G5 := hid (G5.out.below hb)
      have G7 : Hid (Gd y7 p (x7, l7, u7) (DN && dc)) := hid (gd_is gd_ (rfl))
      clear gd_ hb B6
      go_wp2_with fail
      refine hK.out _ _ (KS.out _ B7.out) (fun hHeld => ?_)
      clear hK K
      try simp only [Act.put, List.setIfInBounds_toArray, List.set_cons_zero, List.set_cons_succ]
      refine tk_at (i := 58) (d := some 98) (v := ?_) rfl rfl (by kernel_rfl) (by kernel_rfl) (by kernel_rfl) (fun _ _ _ h => h) (Or.inl ⟨by rfl, ?_⟩) (by assumption) ?_
      rotate_left
      · (intro w hSw; (try dsimp only at hSw); go_simp; try (with_reducible rfl))
      simp only [Act.put, List.setIfInBounds_toArray, List.set_cons_zero, List.set_cons_succ]
      refine tk_at (i := 59) (d := some 99) (v := (vOpt (DN) (.pointer (some ⟨R, 2, none⟩)))) rfl rfl (by kernel_rfl) (by kernel_rfl) (by kernel_rfl) (fun _ _ _ h => h) ?_ (by assumption) ?_
      · cases DN with
        | false =>
          exact Or.inr ⟨by rfl, rfl⟩
        | true =>
          refine Or.inl ⟨by rfl, ?_⟩
          intro w hSw
          try dsimp only at hSw
          try simp only [vOpt_t]
          go_simp
          try (with_reducible rfl)
      simp only [Act.put, List.setIfInBounds_toArray, List.set_cons_zero, List.set_cons_succ]
      refine tk_at (i := 60) (d := some 100) (v := (vOpt (DN) (.slice ad V cap))) rfl rfl (by kernel_rfl) (by kernel_rfl) (by kernel_rfl) (fun _ _ _ h => h) ?_ (by assumption) ?_
      · cases DN with
        | false =>
          exact Or.inr ⟨by rfl, rfl⟩
        | true =>
          refine Or.inl ⟨by rfl, ?_⟩
          intro w hSw
          try dsimp only at hSw
          try simp only [vOpt_t]
          go_simp
          try (with_reducible rfl)
      simp only [Act.put, List.setIfInBounds_toArray, List.set_cons_zero, List.set_cons_succ]
      refine tk_at (i := 61) (d := some 101) (v := (vOpt (DN) (.int .i64 (i : Int)))) rfl rfl (by kernel_rfl) (by kernel_rfl) (by kernel_rfl) (fun _ _ _ h => h) ?_ (by assumption) ?_
      · cases DN with
        | false =>
          exact Or.inr ⟨by rfl, rfl⟩
        | true =>
          refine Or.inl ⟨by rfl, ?_⟩
          intro w hSw
          try dsimp only at hSw
          try simp only [dnI_t]
          try simp only [vOpt_t]
          go_simp
          try (with_reducible rfl)
      simp only [Act.put, List.setIfInBounds_toArray, List.set_cons_zero, List.set_cons_succ]
      refine tk_at (i := 62) (d := some 102) (v := (vOpt (DN) (.pointer (some ⟨gd, i * 4, none⟩)))) rfl rfl (by kernel_rfl) (by kernel_rfl) (by kernel_rfl) (fun _ _ _ h => h) ?_ (by assumption) ?_
      · cases DN with
        | false =>
          exact Or.inr ⟨by rfl, rfl⟩
        | true =>
          obtain ⟨hiV, hadx, _⟩ := HDN.out rfl
          subst hadx
          refine Or.inl ⟨by rfl, ?_⟩
          intro w hSw
          try dsimp only at hSw
          try simp only [vOpt_t]
          go_simp
          try (with_reducible rfl)
      simp only [Act.put, List.setIfInBounds_toArray, List.set_cons_zero, List.set_cons_succ]
      refine tk_at (i := 63) (d := some 103) (v := (vOpt (DN) (.pointer (some ⟨gd, i * 4 + 2, none⟩)))) rfl rfl (by kernel_rfl) (by kernel_rfl) (by kernel_rfl) (fun _ _ _ h => h) ?_ (by assumption) ?_
      · cases DN with
        | false =>
          exact Or.inr ⟨by rfl, rfl⟩
        | true =>
          refine Or.inl ⟨by rfl, ?_⟩
          intro w hSw
          try dsimp only at hSw
          try simp only [vOpt_t]
          go_simp
          try (with_reducible rfl)
      simp only [Act.put, List.setIfInBounds_toArray, List.set_cons_zero, List.set_cons_succ]
      refine tk_at (i := 64) (d := some 104) (v := (vOpt (DN) (.bool dc))) rfl rfl (by kernel_rfl) (by kernel_rfl) (by kernel_rfl) (fun _ _ _ h => h) ?_ (by assumption) ?_
      · cases DN with
        | false =>
          exact Or.inr ⟨by rfl, rfl⟩
        | true =>
          refine Or.inl ⟨by rfl, ?_⟩
          intro w hSw
          have hc := hSw.2.2.2.2.2.2.2.2.2.2 rfl
          try dsimp only at hSw
          try simp only [vOpt_t]
          go_simp
          try (with_reducible rfl)
      simp only [Act.put, List.setIfInBounds_toArray, List.set_cons_zero, List.set_cons_succ]
      refine tk_at (i := 65) (d := some 105) (v := .bool (DN && dc)) rfl rfl (by kernel_rfl) (by kernel_rfl) (by kernel_rfl) (fun _ _ _ h => h) ?_ (by assumption) ?_
      · cases DN with
        | false =>
          refine Or.inl ⟨by rfl, ?_⟩
          intro w hSw
          try dsimp only at hSw
          try simp only [vOpt_f]
          go_simp
          try (with_reducible rfl)
        | true =>
          refine Or.inl ⟨by rfl, ?_⟩
          intro w hSw
          try dsimp only at hSw
          try simp only [vOpt_t]
          go_simp
          try (with_reducible rfl)
      simp only [Act.put, List.setIfInBounds_toArray, List.set_cons_zero, List.set_cons_succ]
      refine tk_at (i := 66) (d := some 106) (v := ?_) rfl rfl (by kernel_rfl) (by kernel_rfl) (by kernel_rfl) (fun _ _ _ h => h) (Or.inl ⟨by rfl, ?_⟩) (by assumption) ?_
      rotate_left
      · (intro w hSw; (try dsimp only at hSw); go_simp; try (with_reducible rfl))
      simp only [Act.put, List.setIfInBounds_toArray, List.set_cons_zero, List.set_cons_succ]
      refine wpAnyH_ready (rs := [67]) (by kernel_rfl) (by simp) ?_
      refine AllReadyH.cons rfl (fun K hK => ?_) AllReadyH.nil
      go_simp
      go_wp2_with fail
      refine hK.out _ _ (KS.out _ (blwXA B7.out)) (fun hHeld => ?_)
      clear hK K
      try simp only [Act.put, List.setIfInBounds_toArray, List.set_cons_zero, List.set_cons_succ]
      refine wpAnyH_ready (rs := [68]) (by kernel_rfl) (by simp) ?_
      refine AllReadyH.cons rfl (fun K hK => ?_) AllReadyH.nil
      go_simp
      go_wp2_with fail
      refine hK.out _ _ (KS.out _ (blwXA B7.out)) (fun hHeld => ?_)
      clear hK K
      try simp only [Act.put, List.setIfInBounds_toArray, List.set_cons_zero, List.set_cons_succ]
      refine wpAnyH_done (by kernel_rfl) ?_ _
      clear hHeld
      go_wp2_with fail
      have BZ := (Below.refl y7.heap.size y7).alloc (Nat.le_refl _) (.cells #[.slice x1 l1 u1, .bool (TH && (al || !yn)), .slice x2 l2 u2, .bool (TH && memB yc nl), .slice x3 l3 u3, .bool (TH && memB yd nl), .slice x4 l4 u4, .bool (TH && jnF on ⟨ya, yb, yc, yd, yj, yn⟩), .slice x5 l5 u5, .bool (X5), .slice x7 l7 u7, .bool (DN && dc)] 55)
      have HEL := hid (Els.mk6 (heap_alloc_at y7 (.cells #[.slice x1 l1 u1, .bool (TH && (al || !yn)), .slice x2 l2 u2, .bool (TH && memB yc nl), .slice x3 l3 u3, .bool (TH && memB yd nl), .slice x4 l4 u4, .bool (TH && jnF on ⟨ya, yb, yc, yd, yj, yn⟩), .slice x5 l5 u5, .bool (X5), .slice x7 l7 u7, .bool (DN && dc)] 55)) (G1.out.below BZ) (G2.out.below BZ) (G3.out.below BZ) (G4.out.below BZ) (G5.out.below BZ) (G7.out.below BZ))
      have BE := hid (belowCat (belowCat BL.out B7.out) BZ)
      clear BZ G1 G2 G3 G4 G5 G7 B7 FL EL BL KS
      generalize y7.alloc (.cells #[.slice x1 l1 u1, .bool (TH && (al || !yn)), .slice x2 l2 u2, .bool (TH && memB yc nl), .slice x3 l3 u3, .bool (TH && memB yd nl), .slice x4 l4 u4, .bool (TH && jnF on ⟨ya, yb, yc, yd, yj, yn⟩), .slice x5 l5 u5, .bool (X5), .slice x7 l7 u7, .bool (DN && dc)] 55) = wz at *
      obtain ⟨q, hq⟩ : ∃ q, y7.heap.size = q := ⟨_, rfl⟩
      rw [hq] at HEL ⊢
      clear hq
      go_loopw [109] (fun c wr => ∃ k : Nat, k ≤ 6 ∧ c = .int .i64 (k : Int) ∧ Below wz.heap.size wz wr) (fun c _ => 6 - (intOf c).toNat)
      case atStart => exact ⟨0, Nat.zero_le _, rfl, Below.refl _ _⟩
      case round =>
        obtain ⟨k, hk, rfl, hB⟩ := hrel
        have HB := hid hB
        by_cases hlt : k < 6
        · obtain ⟨a, m, c, b, hel⟩ := (HEL.out.below hB) k hlt
          have d0 := hel.l
          have d1 := hel.y
          have GD := hid hel.g
          clear hel hB
          cases b with
          | true =>
            go_upto_region 16 with fail
            clear d0 d1
            have hBA := (Below.refl wr.heap.size wr).alloc (Nat.le_refl _) (.cells #[.slice a m c, .bool true] 55)
            have GW := hid (GD.out.below hBA)
            have ZW := hid (heap_alloc_at wr (.cells #[.slice a m c, .bool true] 55))
            have BW := hid (belowCat HB.out hBA)
            clear hBA GD HB
            generalize wr.alloc (.cells #[.slice a m c, .bool true] 55) = ww at *
            obtain ⟨Q, hQ⟩ : ∃ Q, wr.heap.size = Q := ⟨_, rfl⟩
            rw [hQ] at ZW ⊢
            clear hQ
            have KS := hid (show ∀ w' : World, Below ww.heap.size ww w' → (fun w' => w'.cell? ⟨Q, 0, none⟩ = some (.slice a m c) ∧ w'.cell? ⟨Q, 1, none⟩ = some (.bool true)) w' from fun w' hb => ⟨cell_of_heap ((hb.block Q (lt_of_heap ZW.out)).trans ZW.out) rfl, cell_of_heap ((hb.block Q (lt_of_heap ZW.out)).trans ZW.out) rfl⟩)
            have BD := hid (show Below ww.heap.size ww ww.drew from blwXD (Below.refl _ _))
            refine wp_region_held_drew (S := (fun w' => w'.cell? ⟨Q, 0, none⟩ = some (.slice a m c) ∧ w'.cell? ⟨Q, 1, none⟩ = some (.bool true))) (by kernel_rfl) (KS.out _ BD.out) (fun hHeld => ?_)
            refine tk_at (i := 0) (d := some 113) (v := ?_) rfl rfl (by kernel_rfl) (by kernel_rfl) (by kernel_rfl) (fun _ _ _ h => h) (Or.inl ⟨by rfl, ?_⟩) (by assumption) ?_
            rotate_left
            · (intro w hSw; (try dsimp only at hSw); go_simp; try (with_reducible rfl))
            simp only [Act.put, List.setIfInBounds_toArray, List.set_cons_zero, List.set_cons_succ]
            refine tk_at (i := 1) (d := some 114) (v := ?_) rfl rfl (by kernel_rfl) (by kernel_rfl) (by kernel_rfl) (fun _ _ _ h => h) (Or.inl ⟨by rfl, ?_⟩) (by assumption) ?_
            rotate_left
            · (intro w hSw; (try dsimp only at hSw); go_simp; try (with_reducible rfl))
            simp only [Act.put, List.setIfInBounds_toArray, List.set_cons_zero, List.set_cons_succ]
            refine tk_at (i := 2) (d := some 115) (v := ?_) rfl rfl (by kernel_rfl) (by kernel_rfl) (by kernel_rfl) (fun _ _ _ h => h) (Or.inl ⟨by rfl, ?_⟩) (by assumption) ?_
            rotate_left
            · (intro w hSw; (try dsimp only at hSw); go_simp; try (with_reducible rfl))
            simp only [Act.put, List.setIfInBounds_toArray, List.set_cons_zero, List.set_cons_succ]
            refine tk_at (i := 4) (d := some 117) (v := ?_) rfl rfl (by kernel_rfl) (by kernel_rfl) (by kernel_rfl) (fun _ _ _ h => h) (Or.inl ⟨by rfl, ?_⟩) (by assumption) ?_
            rotate_left
            · (intro w hSw; (try dsimp only at hSw); go_simp; try (with_reducible rfl))
            simp only [Act.put, List.setIfInBounds_toArray, List.set_cons_zero, List.set_cons_succ]
            refine tk_at (i := 5) (d := some 118) (v := ?_) rfl rfl (by kernel_rfl) (by kernel_rfl) (by kernel_rfl) (fun _ _ _ h => h) (Or.inl ⟨by rfl, ?_⟩) (by assumption) ?_
            rotate_left
            · (intro w hSw; (try dsimp only at hSw); go_simp; try (with_reducible rfl))
            simp only [Act.put, List.setIfInBounds_toArray, List.set_cons_zero, List.set_cons_succ]
            refine wpAnyH_ready (rs := [3]) (by kernel_rfl) (by simp) ?_
            refine AllReadyH.cons rfl (fun K hK => ?_) AllReadyH.nil
            go_simp
            refine ((GW.out.below BD.out).in_).mono ?_
            rintro e we ⟨rfl, hb⟩
            have BI := hid (belowCat BD.out hb)
            clear hb
            go_wp2_with fail
            refine hK.out _ _ (KS.out _ BI.out) (fun hHeld => ?_)
            clear hK K
            try simp only [Act.put, List.setIfInBounds_toArray, List.set_cons_zero, List.set_cons_succ]
            refine tk_at (i := 6) (d := some 119) (v := ?_) rfl rfl (by kernel_rfl) (by kernel_rfl) (by kernel_rfl) (fun _ _ _ h => h) (Or.inl ⟨by rfl, ?_⟩) (by assumption) ?_
            rotate_left
            · (intro w hSw; (try dsimp only at hSw); go_simp; try (with_reducible rfl))
            simp only [Act.put, List.setIfInBounds_toArray, List.set_cons_zero, List.set_cons_succ]
            refine tk_at (i := 7) (d := some 120) (v := ?_) rfl rfl (by kernel_rfl) (by kernel_rfl) (by kernel_rfl) (fun _ _ _ h => h) (Or.inl ⟨by rfl, ?_⟩) (by assumption) ?_
            rotate_left
            · (intro w hSw; (try dsimp only at hSw); go_simp; try (with_reducible rfl))
            simp only [Act.put, List.setIfInBounds_toArray, List.set_cons_zero, List.set_cons_succ]
            refine tk_at (i := 8) (d := some 121) (v := ?_) rfl rfl (by kernel_rfl) (by kernel_rfl) (by kernel_rfl) (fun _ _ _ h => h) (Or.inl ⟨by rfl, ?_⟩) (by assumption) ?_
            rotate_left
            · (intro w hSw; (try dsimp only at hSw); go_simp; try (with_reducible rfl))
            simp only [Act.put, List.setIfInBounds_toArray, List.set_cons_zero, List.set_cons_succ]
            refine tk_at (i := 9) (d := some 122) (v := ?_) rfl rfl (by kernel_rfl) (by kernel_rfl) (by kernel_rfl) (fun _ _ _ h => h) (Or.inl ⟨by rfl, ?_⟩) (by assumption) ?_
            rotate_left
            · (intro w hSw; (try dsimp only at hSw); go_simp; try (with_reducible rfl))
            simp only [Act.put, List.setIfInBounds_toArray, List.set_cons_zero, List.set_cons_succ]
            refine wpAnyH_ready (rs := [10]) (by kernel_rfl) (by simp) ?_
            refine AllReadyH.cons rfl (fun K hK => ?_) AllReadyH.nil
            go_simp
            refine ((GW.out.below BI.out).mg).mono ?_
            rintro e wf ⟨rfl, hb⟩
            have BM := hid (belowCat BI.out hb)
            clear hb
            go_wp2_with fail
            refine hK.out _ _ (KS.out _ BM.out) (fun hHeld => ?_)
            clear hK K
            try simp only [Act.put, List.setIfInBounds_toArray, List.set_cons_zero, List.set_cons_succ]
            refine tk_at (i := 11) (d := some 124) (v := ?_) rfl rfl (by kernel_rfl) (by kernel_rfl) (by kernel_rfl) (fun _ _ _ h => h) (Or.inl ⟨by rfl, ?_⟩) (by assumption) ?_
            rotate_left
            · (intro w hSw; (try dsimp only at hSw); go_simp; try (with_reducible rfl))
            simp only [Act.put, List.setIfInBounds_toArray, List.set_cons_zero, List.set_cons_succ]
            refine wpAnyH_ready (rs := [12]) (by kernel_rfl) (by simp) ?_
            refine AllReadyH.cons rfl (fun K hK => ?_) AllReadyH.nil
            go_simp
            go_wp2_with fail
            refine hK.out _ _ (KS.out _ BM.out) (fun hHeld => ?_)
            clear hK K
            try simp only [Act.put, List.setIfInBounds_toArray, List.set_cons_zero, List.set_cons_succ]
            refine wpAnyH_done (by kernel_rfl) ?_ _
            clear hHeld
            go_wp2
            go_roundw
            case rel => exact ⟨k + 1, by omega, by go_num, belowCat BW.out BM.out⟩
            case measure => simp [intOf]; omega
          | false =>
            go_upto_region 16 with fail
            clear d0 d1
            have hBA := (Below.refl wr.heap.size wr).alloc (Nat.le_refl _) (.cells #[.slice a m c, .bool false] 55)
            have GW := hid (GD.out.below hBA)
            have ZW := hid (heap_alloc_at wr (.cells #[.slice a m c, .bool false] 55))
            have BW := hid (belowCat HB.out hBA)
            clear hBA GD HB
            generalize wr.alloc (.cells #[.slice a m c, .bool false] 55) = ww at *
            obtain ⟨Q, hQ⟩ : ∃ Q, wr.heap.size = Q := ⟨_, rfl⟩
            rw [hQ] at ZW ⊢
            clear hQ
            have KS := hid (show ∀ w' : World, Below ww.heap.size ww w' → (fun w' => w'.cell? ⟨Q, 0, none⟩ = some (.slice a m c) ∧ w'.cell? ⟨Q, 1, none⟩ = some (.bool false)) w' from fun w' hb => ⟨cell_of_heap ((hb.block Q (lt_of_heap ZW.out)).trans ZW.out) rfl, cell_of_heap ((hb.block Q (lt_of_heap ZW.out)).trans ZW.out) rfl⟩)
            have BD := hid (show Below ww.heap.size ww ww.drew from blwXD (Below.refl _ _))
            refine wp_region_held_drew (S := (fun w' => w'.cell? ⟨Q, 0, none⟩ = some (.slice a m c) ∧ w'.cell? ⟨Q, 1, none⟩ = some (.bool false))) (by kernel_rfl) (KS.out _ BD.out) (fun hHeld => ?_)
            refine tk_at (i := 0) (d := some 113) (v := ?_) rfl rfl (by kernel_rfl) (by kernel_rfl) (by kernel_rfl) (fun _ _ _ h => h) (Or.inl ⟨by rfl, ?_⟩) (by assumption) ?_
            rotate_left
            · (intro w hSw; (try dsimp only at hSw); go_simp; try (with_reducible rfl))
            simp only [Act.put, List.setIfInBounds_toArray, List.set_cons_zero, List.set_cons_succ]
            refine tk_at (i := 1) (d := some 114) (v := ?_) rfl rfl (by kernel_rfl) (by kernel_rfl) (by kernel_rfl) (fun _ _ _ h => h) (Or.inl ⟨by rfl, ?_⟩) (by assumption) ?_
            rotate_left
            · (intro w hSw; (try dsimp only at hSw); go_simp; try (with_reducible rfl))
            simp only [Act.put, List.setIfInBounds_toArray, List.set_cons_zero, List.set_cons_succ]
            refine tk_at (i := 2) (d := some 115) (v := ?_) rfl rfl (by kernel_rfl) (by kernel_rfl) (by kernel_rfl) (fun _ _ _ h => h) (Or.inl ⟨by rfl, ?_⟩) (by assumption) ?_
            rotate_left
            · (intro w hSw; (try dsimp only at hSw); go_simp; try (with_reducible rfl))
            simp only [Act.put, List.setIfInBounds_toArray, List.set_cons_zero, List.set_cons_succ]
            refine tk_at (i := 4) (d := some 117) (v := ?_) rfl rfl (by kernel_rfl) (by kernel_rfl) (by kernel_rfl) (fun _ _ _ h => h) (Or.inl ⟨by rfl, ?_⟩) (by assumption) ?_
            rotate_left
            · (intro w hSw; (try dsimp only at hSw); go_simp; try (with_reducible rfl))
            simp only [Act.put, List.setIfInBounds_toArray, List.set_cons_zero, List.set_cons_succ]
            refine tk_at (i := 5) (d := some 118) (v := ?_) rfl rfl (by kernel_rfl) (by kernel_rfl) (by kernel_rfl) (fun _ _ _ h => h) (Or.inl ⟨by rfl, ?_⟩) (by assumption) ?_
            rotate_left
            · (intro w hSw; (try dsimp only at hSw); go_simp; try (with_reducible rfl))
            simp only [Act.put, List.setIfInBounds_toArray, List.set_cons_zero, List.set_cons_succ]
            refine wpAnyH_ready (rs := [3]) (by kernel_rfl) (by simp) ?_
            refine AllReadyH.cons rfl (fun K hK => ?_) AllReadyH.nil
            go_simp
            refine ((GW.out.below BD.out).in_).mono ?_
            rintro e we ⟨rfl, hb⟩
            have BI := hid (belowCat BD.out hb)
            clear hb
            go_wp2_with fail
            refine hK.out _ _ (KS.out _ BI.out) (fun hHeld => ?_)
            clear hK K
            try simp only [Act.put, List.setIfInBounds_toArray, List.set_cons_zero, List.set_cons_succ]
            refine tk_at (i := 6) (d := some 119) (v := ?_) rfl rfl (by kernel_rfl) (by kernel_rfl) (by kernel_rfl) (fun _ _ _ h => h) (Or.inl ⟨by rfl, ?_⟩) (by assumption) ?_
            rotate_left
            · (intro w hSw; (try dsimp only at hSw); go_simp; try (with_reducible rfl))
            simp only [Act.put, List.setIfInBounds_toArray, List.set_cons_zero, List.set_cons_succ]
            refine tk_at (i := 7) (d := some 120) (v := ?_) rfl rfl (by kernel_rfl) (by kernel_rfl) (by kernel_rfl) (fun _ _ _ h => h) (Or.inl ⟨by rfl, ?_⟩) (by assumption) ?_
            rotate_left
            · (intro w hSw; (try dsimp only at hSw); go_simp; try (with_reducible rfl))
            simp only [Act.put, List.setIfInBounds_toArray, List.set_cons_zero, List.set_cons_succ]
            refine tk_at (i := 8) (d := some 121) (v := ?_) rfl rfl (by kernel_rfl) (by kernel_rfl) (by kernel_rfl) (fun _ _ _ h => h) (Or.inl ⟨by rfl, ?_⟩) (by assumption) ?_
            rotate_left
            · (intro w hSw; (try dsimp only at hSw); go_simp; try (with_reducible rfl))
            simp only [Act.put, List.setIfInBounds_toArray, List.set_cons_zero, List.set_cons_succ]
            refine tk_at (i := 9) (d := some 122) (v := ?_) rfl rfl (by kernel_rfl) (by kernel_rfl) (by kernel_rfl) (fun _ _ _ h => h) (Or.inl ⟨by rfl, ?_⟩) (by assumption) ?_
            rotate_left
            · (intro w hSw; (try dsimp only at hSw); go_simp; try (with_reducible rfl))
            simp only [Act.put, List.setIfInBounds_toArray, List.set_cons_zero, List.set_cons_succ]
            refine wpAnyH_ready (rs := [10]) (by kernel_rfl) (by simp) ?_
            refine AllReadyH.cons rfl (fun K hK => ?_) AllReadyH.nil
            go_simp
            refine ((GW.out.below BI.out).mg).mono ?_
            rintro e wf ⟨rfl, hb⟩
            have BM := hid (belowCat BI.out hb)
            clear hb
            go_wp2_with fail
            refine hK.out _ _ (KS.out _ BM.out) (fun hHeld => ?_)
            clear hK K
            try simp only [Act.put, List.setIfInBounds_toArray, List.set_cons_zero, List.set_cons_succ]
            refine tk_at (i := 11) (d := some 124) (v := ?_) rfl rfl (by kernel_rfl) (by kernel_rfl) (by kernel_rfl) (fun _ _ _ h => h) (Or.inl ⟨by rfl, ?_⟩) (by assumption) ?_
            rotate_left
            · (intro w hSw; (try dsimp only at hSw); go_simp; try (with_reducible rfl))
            simp only [Act.put, List.setIfInBounds_toArray, List.set_cons_zero, List.set_cons_succ]
            refine wpAnyH_ready (rs := [12]) (by kernel_rfl) (by simp) ?_
            refine AllReadyH.cons rfl (fun K hK => ?_) AllReadyH.nil
            go_simp
            go_wp2_with fail
            refine hK.out _ _ (KS.out _ BM.out) (fun hHeld => ?_)
            clear hK K
            try simp only [Act.put, List.setIfInBounds_toArray, List.set_cons_zero, List.set_cons_succ]
            refine wpAnyH_done (by kernel_rfl) ?_ _
            clear hHeld
            go_wp2
            go_roundw
            case rel => exact ⟨k + 1, by omega, by go_num, belowCat BW.out BM.out⟩
            case measure => simp [intOf]; omega
        · obtain rfl : k = 6 := by omega
          clear hB
          go_wp2
          go_ret
          exact ⟨rfl, belowCat BE.out HB.out⟩
set_option maxHeartbeats 6400000 in
theorem spans_law (p : Nat) (na : Option Addr) (len nc : Nat) (al : Bool) (w : World) (hp : p < 4294967296) (hs : ∃ l : List ByteArray, l.length = len ∧ StAt w na l) (v : Vr w) :
    Calls Tryz.prog 4 #[.int .u32 (p : Int), .slice na len nc, .bool al] w fun e w' => e = .returned (.bool true) ∧ Below w.heap.size w w' := by
  obtain ⟨nl, hn, hst⟩ := hs
  by_cases h20 : 20 < len
  · have V0 := hid v
    clear v hst hn
    go_enter Tryz.func4, Tryz.ntmps4
    go_wp2_with fail
    refine (awake8_any _ V0.out).mono ?_
    rintro e w1 ⟨rfl, hb⟩
    have B1 := hid hb
    clear hb
    go_wp2
    go_ret
    exact ⟨rfl, B1.out⟩
  · subst hn
    exact spans_main p na nc al nl w (by omega) hst v
end Go.Proofs.YtgalmlelnolodaaGreatDoor
