/- The walk of TablesMerges, where awake answers true. Conditions: the spans are nil or in memory and fit 32 bits. -/
import Derived.Test.YtkhdcpejpffnkaaGreatDoorTbQ
import Derived.Test.YtkhdcpejpffnkaaGreatDoorTbN
namespace Go.Proofs.YtkhdcpejpffnkaaGreatDoor
open Go.RowKit
set_option linter.unusedVariables false

theorem SpIn.zpU {w : World} {ad : Option Addr} {l : List Zp} {c : Nat} (h : SpIn w ad l c) : ZpU w ad l := fun k hk => by
  rcases h with ⟨_, rfl, _⟩ | ⟨x, rfl, h2⟩
  · exact absurd hk (Nat.not_lt_zero _)
  · obtain ⟨g1, g2⟩ := zpC_at hk
    refine ⟨x, rfl, h2 _ _ g1, ?_⟩
    have hx : x.add (k * 2 + 1) = ⟨(x.add (k * 2)).block, (x.add (k * 2)).off + 1, none⟩ := by
      unfold Addr.add
      rw [if_neg (by omega)]
      by_cases hk0 : k * 2 = 0
      · rw [if_pos hk0, hk0]
      · rw [if_neg hk0]; rfl
    rw [← hx]; exact h2 _ _ g2
theorem alloc_size (w : World) (o : Obj) : (w.alloc o).heap.size = w.heap.size + 1 := by simp
theorem own_none_yet (w : World) (o : Obj) : ((w.alloc o).alloc (.cells #[] 56)).ownsRow (w.heap.size + 1) 56 2 (.slice (some ⟨w.heap.size + 1, 0, none⟩) 0 0) 0 [] := by
  have h := heap_alloc_at (w.alloc o) (.cells #[] 56)
  rw [alloc_size w o] at h
  exact Blk.own (c := []) (tl := []) (i := 0) h (Nat.le_refl _) (Nat.le_refl _) (Nat.le_refl _) (by unfold maxLen; omega) rfl
theorem none_yet_size (w : World) (o p : Obj) : w.heap.size + 1 ≤ ((w.alloc o).alloc p).heap.size := by rw [alloc_size, alloc_size]; omega
theorem mid_below {w w8 w9 : World} {o : Obj} (hb : Below w.heap.size w w8) (g9 : ((w8.alloc o).alloc (.cells #[] 56)).grownBy w9 (some (w8.heap.size + 1))) : Below w.heap.size w w9 :=
  (blwNA (blwNA hb)).grown g9 (blwNA (blwNA hb)).size (fun k hk => by injection hk with hk; have := hb.size; omega)
def uV (l : List Nat) : List Value := l.map fun (p : Nat) => .int .u32 (p : Int)
theorem infoWord : (Tryz.prog.info? 22).map (fun i => (i.zero, i.size, i.bytes)) = some (some (.int .u32 0), 1, 4) := by kernel_rfl
theorem uV_len (l : List Nat) : (uV l).length = l.length := by unfold uV; rw [List.length_map]
theorem uV_app (l r : List Nat) : uV (l ++ r) = uV l ++ uV r := by unfold uV; rw [List.map_append]
/-- five words that were built -/
theorem own_five (w : World) (x : Nat) (B : Nat) (hB : B ≤ w.heap.size) : (w.alloc (.cells #[.int .u32 (x : Int), .int .u32 0, .int .u32 1114111, .int .u32 1114112, .int .u32 4294967295] 22)).ownsRow B 22 1 (.slice (some ⟨w.heap.size, 0, none⟩) 5 5) 5 (uV [x, 0, 1114111, 1114112, 4294967295]) :=
  ⟨rfl, Or.inr ⟨w.heap.size, 5, _, rfl, hB, heap_alloc_at _ _, Nat.le_refl _, by unfold maxLen; omega, rfl, rfl⟩⟩
/-- the row of probes and the row of spans, apart in memory -/
structure Stp (w wr : World) (pg cap n : Nat) (P : List Nat) (V : Value) (N : Nat) (X : List Value) : Prop where
  row : wr.ownsRow w.heap.size 22 1 (.slice (some ⟨pg, 0, none⟩) n cap) n (uV P)
  len : P.length = n
  spn : wr.ownsRow w.heap.size 56 2 V N X
  off : ∀ q, V.ownBlock = some q → q ≠ pg
  blw : Below w.heap.size w wr
theorem Stp.alloc {w wr : World} {pg cap n N : Nat} {P : List Nat} {V : Value} {X : List Value} (h : Stp w wr pg cap n P V N X) (o : Obj) : Stp w (wr.alloc o) pg cap n P V N X :=
  ⟨owns_below h.row ((Below.refl _ _).alloc (Nat.le_refl _) _), h.len, owns_below h.spn ((Below.refl _ _).alloc (Nat.le_refl _) _), h.off, blwNA h.blw⟩
theorem Stp.grow {w wr w7 : World} {pg cap n N g7 cap7 m : Nat} {P Q : List Nat} {V : Value} {X : List Value} (h : Stp w wr pg cap n P V N X) (hown : w7.ownsRow w.heap.size 22 1 (.slice (some ⟨g7, 0, none⟩) (n + m) cap7) (n + m) (uV P ++ uV Q)) (hm : Q.length = m)
    (hg : wr.grownBy w7 (Value.slice (some ⟨pg, 0, none⟩) n cap).ownBlock) (hat : (Value.slice (some ⟨pg, 0, none⟩) n cap).ownBlock = some g7 ∨ g7 = wr.heap.size) : Stp w w7 g7 cap7 (n + m) (P ++ Q) V N X := by
  have hq : ∀ q, V.ownBlock = some q → w7.heap[q]? = wr.heap[q]? := fun q hq => hg.block q (h.spn.lt q hq).2 (fun e => h.off q hq (Option.some.inj e))
  refine ⟨by rw [uV_app]; exact hown, by rw [List.length_append, hm, h.len], owns_of_blocks h.spn hq, fun q hq e => ?_, h.blw.grown hg h.blw.size (fun k hk => (h.row.lt k hk).1)⟩
  rcases hat with e1 | e1
  · exact h.off q hq (by rw [e]; exact (Option.some.inj e1).symm)
  · have := (h.spn.lt q hq).2; omega
/-- and a span's variable besides -/
structure Stv (w wr : World) (pg cap n : Nat) (P : List Nat) (V : Value) (N : Nat) (X : List Value) (z a b : Nat) : Prop where
  st : Stp w wr pg cap n P V N X
  var : wr.heap[z]? = some (.cells #[.int .u32 (a : Int), .int .u32 (b : Int)] 56 (0, 0))
  ne : z ≠ pg
theorem Stp.var {w wr : World} {pg cap n N : Nat} {P : List Nat} {V : Value} {X : List Value} (h : Stp w wr pg cap n P V N X) (a b : Nat) : Stv w (wr.alloc (.cells #[.int .u32 (a : Int), .int .u32 (b : Int)] 56)) pg cap n P V N X wr.heap.size a b :=
  ⟨h.alloc _, heap_alloc_at _ _, fun e => by have := (h.row.lt pg rfl).2; omega⟩
theorem Stv.alloc {w wr : World} {pg cap n N z a b : Nat} {P : List Nat} {V : Value} {X : List Value} (h : Stv w wr pg cap n P V N X z a b) (o : Obj) : Stv w (wr.alloc o) pg cap n P V N X z a b :=
  ⟨h.st.alloc o, by rw [heap_alloc_old _ _ _ (lt_of_heap h.var)]; exact h.var, h.ne⟩
theorem Stv.grow {w wr w7 : World} {pg cap n N g7 cap7 m z a b : Nat} {P Q : List Nat} {V : Value} {X : List Value} (h : Stv w wr pg cap n P V N X z a b) (hown : w7.ownsRow w.heap.size 22 1 (.slice (some ⟨g7, 0, none⟩) (n + m) cap7) (n + m) (uV P ++ uV Q)) (hm : Q.length = m)
    (hg : wr.grownBy w7 (Value.slice (some ⟨pg, 0, none⟩) n cap).ownBlock) (hat : (Value.slice (some ⟨pg, 0, none⟩) n cap).ownBlock = some g7 ∨ g7 = wr.heap.size) : Stv w w7 g7 cap7 (n + m) (P ++ Q) V N X z a b := by
  refine ⟨h.st.grow hown hm hg hat, by rw [hg.block z (lt_of_heap h.var) (fun e => h.ne (Option.some.inj e))]; exact h.var, fun e => ?_⟩
  rcases hat with e1 | e1
  · exact h.ne (by rw [e]; exact (Option.some.inj e1).symm)
  · have := lt_of_heap h.var; omega
theorem Stv.cells {w wr : World} {pg cap n N z a b : Nat} {P : List Nat} {V : Value} {X : List Value} (h : Stv w wr pg cap n P V N X z a b) : wr.cell? ⟨z, 0, none⟩ = some (.int .u32 (a : Int)) ∧ wr.cell? ⟨z, 1, none⟩ = some (.int .u32 (b : Int)) :=
  ⟨cell_of_heap h.var rfl, cell_of_heap h.var rfl⟩
theorem uV_one (l : List Nat) : ∀ u ∈ uV l, u.oneCell' = true := fun u hu => by
  obtain ⟨p, _, rfl⟩ := List.mem_map.1 hu; rfl
theorem news_at (w : World) (Q : List Nat) : ∀ j u, (uV Q)[j]? = some u → (w.alloc (.cells (uV Q).toArray 22)).cell? ((⟨w.heap.size, 0, none⟩ : Addr).add j) = some u := World.news_of_block (heap_alloc_at _ _)
theorem news_two (w : World) (o : Obj) (Q : List Nat) : ∀ j u, (uV Q)[j]? = some u → ((w.alloc o).alloc (.cells (uV Q).toArray 22)).cell? ((⟨w.heap.size + 1, 0, none⟩ : Addr).add j) = some u := by
  have h := news_at (w.alloc o) Q
  rw [alloc_size w o] at h
  exact h
theorem Stp.start {w w8 w9 w10 : World} {x n m : Nat} {v6 v7 : Value} {X Y : List Value} (hb : Below w.heap.size w w8) (h9 : w9.ownsRow (w8.heap.size + 1) 56 2 v6 n X)
    (g9 : ((w8.alloc (.cells #[.int .u32 (x : Int), .int .u32 0, .int .u32 1114111, .int .u32 1114112, .int .u32 4294967295] 22)).alloc (.cells #[] 56)).grownBy w9 (some (w8.heap.size + 1))) (h10 : w10.ownsRow (w8.heap.size + 1) 56 2 v7 m Y) (g10 : w9.grownBy w10 v6.ownBlock) : Stp w w10 w8.heap.size 5 5 [x, 0, 1114111, 1114112, 4294967295] v7 m Y := by
  have s1 := alloc_size w8 (.cells #[.int .u32 (x : Int), .int .u32 0, .int .u32 1114111, .int .u32 1114112, .int .u32 4294967295] 22)
  have b0 : Below (w8.alloc (.cells #[.int .u32 (x : Int), .int .u32 0, .int .u32 1114111, .int .u32 1114112, .int .u32 4294967295] 22)).heap.size (w8.alloc (.cells #[.int .u32 (x : Int), .int .u32 0, .int .u32 1114111, .int .u32 1114112, .int .u32 4294967295] 22)) ((w8.alloc (.cells #[.int .u32 (x : Int), .int .u32 0, .int .u32 1114111, .int .u32 1114112, .int .u32 4294967295] 22)).alloc (.cells #[] 56)) := (Below.refl _ _).alloc (Nat.le_refl _) _
  have b1 := b0.grown g9 b0.size (fun k hk => by injection hk with hk; rw [s1]; omega)
  have b2 := b1.grown g10 b1.size (fun k hk => by rw [s1]; exact (h9.lt k hk).1)
  have bm := mid_below hb g9
  have hs := hb.size
  refine ⟨owns_below (own_five w8 x w.heap.size hs) b2, rfl, own_base h10 (by omega), fun q hq e => ?_, bm.grown g10 bm.size (fun k hk => ?_)⟩
  · have := (h10.lt q hq).1; omega
  · have := (h9.lt k hk).1; omega
theorem catZ_two (a1 a2 : Option Addr) (L K : List Zp) (c1 c2 : Nat) : catZ [⟨a1, L, c1⟩, ⟨a2, K, c2⟩] 2 = L ++ K := by
  unfold catZ; simp
theorem union_two (a1 a2 : Option Addr) (L K : List Zp) (c1 c2 : Nat) (hn : (L ++ K).length ≤ 1000000000) (h32 : ∀ s ∈ L ++ K, s.1 < 4294967296 ∧ s.2 < 4294967296) (g c : Nat) (w : World)
    (hz1 : w.cell? ⟨g, 0, none⟩ = some (.slice a1 L.length c1)) (hz2 : w.cell? ⟨g, 1, none⟩ = some (.slice a2 K.length c2)) (h1 : SpIn w a1 L c1) (h2 : SpIn w a2 K c2) :
    Calls Tryz.prog 36 #[.slice (some ⟨g, 0, none⟩) 2 c] w fun e w' => ∃ ad2 cap2 m, e = .returned (.slice ad2 m.length cap2) ∧ MrgOk (L ++ K) m ∧ ZpR w' w.heap.size (.slice ad2 m.length cap2) m ∧ Below w.heap.size w w' := by
  have h := unionOk_any g c [⟨a1, L, c1⟩, ⟨a2, K, c2⟩] w (fun k hk => by
    match k, hk with
    | 0, _ => exact ⟨hz1, h1⟩
    | 1, _ => exact ⟨hz2, h2⟩) (by rw [show ([⟨a1, L, c1⟩, ⟨a2, K, c2⟩] : List Zsl).length = 2 from rfl, catZ_two]; exact hn) (show 2 ≤ 1000 by decide) (by rw [show ([⟨a1, L, c1⟩, ⟨a2, K, c2⟩] : List Zsl).length = 2 from rfl, catZ_two]; exact h32)
  rw [show ([⟨a1, L, c1⟩, ⟨a2, K, c2⟩] : List Zsl).length = 2 from rfl, catZ_two] at h
  exact h
/-- what the law asks of the words outside, in and together -/
theorem outV_words {l m : List Zp} (h : MrgOk l m) (x : Nat) : inB (outV 1114111 m 0) x = (!inB l x && decide (x ≤ 1114111)) := by
  rw [(out_said 1114111 m 0 h.ok (by omega) (fun t _ => Nat.zero_le _)).2.2 x, h.words x, decide_eq_true (Nat.zero_le x), Bool.true_and, Bool.and_comm]
theorem outV_ok {l m : List Zp} (h : MrgOk l m) : okS (outV 1114111 m 0) = true := (out_said 1114111 m 0 h.ok (by omega) (fun t _ => Nat.zero_le _)).1
theorem outV_32 (b : Nat) (hb : b < 4294967296) : ∀ (l : List Zp) (n : Nat), (∀ s ∈ l, s.1 < 4294967296 ∧ s.2 < 4294967296) → n ≤ 4294967296 → n ≤ b → ∀ s ∈ outV b l n, s.1 < 4294967296 ∧ s.2 < 4294967296
  | [], n, _, hn, hnb => fun s hs => by
    simp only [outV, List.mem_cons, List.not_mem_nil, or_false] at hs
    subst hs; exact ⟨by show n < _; omega, hb⟩
  | t :: r, n, h, hn, hnb => fun s hs => by
    have ht := h t (List.mem_cons_self ..)
    unfold outV at hs
    split at hs
    · simp only [List.mem_cons, List.not_mem_nil, or_false] at hs
      subst hs; exact ⟨by show n < _; omega, hb⟩
    · rw [List.mem_append] at hs
      rcases hs with hs | hs
      · split at hs
        · simp only [List.mem_cons, List.not_mem_nil, or_false] at hs
          subst hs; exact ⟨by show n < _; omega, by show t.1 - 1 < _; omega⟩
        · cases hs
      · split at hs
        · cases hs
        · exact outV_32 b hb r (t.2 + 1) (fun s hs => h s (List.mem_cons_of_mem _ hs)) (by omega) (by omega) s hs
set_option maxHeartbeats 6400000 in
set_option maxRecDepth 20000 in
theorem merges_core (a1 a2 : Option Addr) (L K : List Zp) (c1 c2 x : Nat) (w : World) (haw : Calls Tryz.prog 7 #[] w fun e w' => e = .returned (.bool true) ∧ Below w.heap.size w w')
    (h1 : SpIn w a1 L c1) (h2 : SpIn w a2 K c2) (hL : ∀ s ∈ L, s.1 < 4294967296 ∧ s.2 < 4294967296) (hK : ∀ s ∈ K, s.1 < 4294967296 ∧ s.2 < 4294967296) (hx : x < 4294967296) :
    Calls Tryz.prog 6 #[.slice a1 L.length c1, .slice a2 K.length c2, .int .u32 (x : Int)] w fun e w' => e = .returned (.bool true) ∧ Below w.heap.size w w' := by
  obtain ⟨i0, hi, hz0, hz1, hz2⟩ := info_parts infoSpan
  obtain ⟨j0, hj, hy0, hy1, hy2⟩ := info_parts infoWord
  have HAW := hid haw
  have H1 := hid h1
  have H2 := hid h2
  have HL := hid hL
  have HK := hid hK
  have HX := hid hx
  have HME := hid (fun (w : World) (h : SpIn w a1 L c1) (hn : L.length ≤ 1000000000) => mergeOk_any a1 c1 L w h hn hL)
  have HOU := hid (fun (w : World) (h : SpIn w a1 L c1) (hn : L.length ≤ 1000000000) => outsideOk_any a1 c1 L w h hn hL)
  have HUN := hid (fun (hn : (L ++ K).length ≤ 1000000000) => union_two a1 a2 L K c1 c2 hn (fun s hs => (List.mem_append.1 hs).elim (hL s) (hK s)))
  have HIL := hid (fun (v : Nat) (w : World) (h : ZpU w a1 L) (hn : L.length ≤ 1000000000) => in_any a1 L c1 v w h hn)
  have HIK := hid (fun (v : Nat) (w : World) (h : ZpU w a2 K) (hn : K.length ≤ 1000000000) => in_any a2 K c2 v w h hn)
  have HS1 := hid (fun (w' : World) (hb : Below w.heap.size w w') => (h1.below hb).src)
  have HS2 := hid (fun (w' : World) (hb : Below w.heap.size w w') => (h2.below hb).src)
  obtain ⟨N1, hN1⟩ : ∃ N, L.length = N := ⟨_, rfl⟩
  obtain ⟨N2, hN2⟩ : ∃ N, K.length = N := ⟨_, rfl⟩
  have HN1 := hid hN1
  have HN2 := hid hN2
  have HAP := hid (show (L ++ K).length = N1 + N2 by rw [List.length_append, hN1, hN2])
  rw [hN1] at HME HOU HUN HIL HS1
  rw [hN2] at HUN HIK HS2
  rw [hN1, hN2]
  clear haw h1 h2 hL hK hN1 hN2 hx
  go_enter Tryz.func6, Tryz.ntmps6
  go_wp2_with fail
  refine HAW.out.mono ?_
  rintro e w1 ⟨rfl, hB⟩
  have B1 := hid hB
  clear hB HAW
  by_cases h40 : 40 < N1
  · have e1 : ((40 : Int) < (N1 : Int)) = True := eq_true (by omega)
    go_wp2
    go_ret
    exact ⟨rfl, B1.out⟩
  · have e1 : ((40 : Int) < (N1 : Int)) = False := eq_false (by omega)
    by_cases h41 : 40 < N2
    · have e2 : ((40 : Int) < (N2 : Int)) = True := eq_true (by omega)
      go_wp2
      go_ret
      exact ⟨rfl, B1.out⟩
    · have e2 : ((40 : Int) < (N2 : Int)) = False := eq_false (by omega)
      go_wp2_with fail
      refine (HME.out _ (H1.out.below B1.out) (by omega)).mono ?_
      rintro e w2 ⟨md, mc, M, rfl, hm, hmr, hB2⟩
      have B2 := hid (belowNC B1.out hB2)
      have HM := hid hm
      have HMR := hid (own_base hmr (Nat.le_of_lt_succ (Nat.lt_succ_of_le B1.out.size)))
      clear hB2 hm hmr e1 e2
      go_wp2_with fail
      refine (HOU.out _ (H1.out.below B2.out) (by omega)).mono ?_
      rintro e w3 ⟨od, oc, R, rfl, hr, hrr, hB3⟩
      have B3 := hid (belowNC B2.out hB3)
      have HMR3 := hid (owns_below HMR.out hB3)
      have HR := hid hr
      have HRR := hid (own_base hrr B2.out.size)
      have HOW := hid (fun v => outV_words hr v)
      have HOO := hid (outV_ok hr)
      have HO32 := hid (outV_32 1114111 (by omega) R 0 hr.w32 (by omega) (by omega))
      have HOL := hid (outV_len 1114111 R 0)
      obtain ⟨O, hO⟩ : ∃ O, outV 1114111 R 0 = O := ⟨_, rfl⟩
      rw [hO] at HRR HOW HOO HO32 HOL ⊢
      clear hB3 hr hrr hO
      go_wp2_with fail
      have B4 := hid (show Below w.heap.size w (w3.alloc (.cells #[.slice a1 N1 c1, .slice a2 N2 c2] 61)) from blwNA B3.out)
      refine (HUN.out (by rw [HAP.out]; omega) _ _ _ (cell_of_heap (heap_alloc_at _ _) rfl) (cell_of_heap (heap_alloc_at _ _) rfl) (H1.out.below B4.out) (H2.out.below B4.out)).mono ?_
      rintro e w5 ⟨ud, uc, U, rfl, hu, hur, hB5⟩
      have B5 := hid (belowNC B4.out hB5)
      have HU := hid hu
      have HMR5 := hid (owns_below (owns_below HMR3.out ((Below.refl _ _).alloc (Nat.le_refl _) _)) hB5)
      have HRR5 := hid (owns_below (owns_below HRR.out ((Below.refl _ _).alloc (Nat.le_refl _) _)) hB5)
      have HUR := hid (own_base hur B4.out.size)
      have ML := hid (show M.length ≤ 1000000000 from Nat.le_trans HM.out.len (by rw [HN1.out]; omega))
      have OL := hid (show O.length ≤ 1000000000 from Nat.le_trans HOL.out (by have := HR.out.len; rw [HN1.out] at this; omega))
      have UL := hid (show U.length ≤ 1000000000 from Nat.le_trans HU.out.len (by rw [HAP.out]; omega))
      clear hu hur hB5 HMR3 HRR HME HOU HUN HOL B4 B3 B2 B1 HMR
      go_wp2_with fail
      refine (merged_yes md M M.length mc w.heap.size _ HMR5.out rfl ML.out HM.out.w32 HM.out.ok).mono ?_
      rintro e w6 ⟨rfl, hB⟩
      have B6 := hid (belowNC B5.out hB)
      have HMR6 := hid (owns_below HMR5.out hB)
      have HRR6 := hid (owns_below HRR5.out hB)
      have HUR6 := hid (owns_below HUR.out hB)
      clear hB HMR5 HRR5 HUR B5
      go_wp2_with fail
      refine (merged_yes od O O.length oc w.heap.size _ HRR6.out rfl OL.out HO32.out HOO.out).mono ?_
      rintro e w7 ⟨rfl, hB⟩
      have B7 := hid (belowNC B6.out hB)
      have HMR7 := hid (owns_below HMR6.out hB)
      have HRR7 := hid (owns_below HRR6.out hB)
      have HUR7 := hid (owns_below HUR6.out hB)
      clear hB HMR6 HRR6 HUR6 B6
      go_wp2_with fail
      refine (merged_yes ud U U.length uc w.heap.size _ HUR7.out rfl UL.out HU.out.w32 HU.out.ok).mono ?_
      rintro e w8 ⟨rfl, hB⟩
      have B8 := hid (belowNC B7.out hB)
      have HM8 := hid (ZpR.cells (owns_below HMR7.out hB) rfl)
      have HR8 := hid (ZpR.cells (owns_below HRR7.out hB) rfl)
      have HU8 := hid (ZpR.cells (owns_below HUR7.out hB) rfl)
      have HL8 := hid (H1.out.below B8.out).zpU
      have HK8 := hid (H2.out.below B8.out).zpU
      have HT32 := hid (show ∀ s ∈ L ++ K, s.1 < 4294967296 ∧ s.2 < 4294967296 from fun s hs => (List.mem_append.1 hs).elim (HL.out s) (HK.out s))
      clear hB HMR7 HRR7 HUR7 B7
      have HC1 := hid (zpC_one L)
      have HC2 := hid (zpC_one K)
      have HZ := hid (zpC_app L K)
      go_wp2_with (at_builtin; first
        | (refine wpList_append_optS rfl (.tmp 49) (.tmp 50) 61 rfl (w8.heap.size + 1) 56 i0 _ 2 8 Tryz.underlying61 hi hz0 hz1 hz2 rfl (by decide) _ 0 [] rfl (own_none_yet _ _) a1 N1 c1 (zpC L) rfl (HS1.out _ (blwNA (blwNA B8.out))) HC1.out (by unfold maxLen; omega) (by omega) (none_yet_size _ _ _) ?_
           intro v6 w9 hown' hgrow
           have H9 := hid hown'
           have G9 := hid hgrow
           have B9 := hid (mid_below B8.out hgrow)
           clear hown' hgrow)
        | (refine wpList_append_optS rfl (.tmp 51) (.tmp 52) 61 rfl (w8.heap.size + 1) 56 i0 _ 2 8 Tryz.underlying61 hi hz0 hz1 hz2 rfl (by decide) _ (0 + N1) _ rfl H9.out a2 N2 c2 (zpC K) rfl (HS2.out _ B9.out) HC2.out (by unfold maxLen; omega) (by omega) (Nat.le_trans (none_yet_size _ _ _) G9.out.size) ?_
           intro v7 w10 hown' hgrow
           have ST := hid (Stp.start (w := w8) (x := x) (Below.refl _ _) H9.out G9.out hown' hgrow)
           obtain ⟨sd, sc, rfl⟩ := owns_shape hown'
           clear hown' hgrow H9 G9 B9))
      have ST2 := hid (show Stp w8 w10 w8.heap.size 5 5 [x, 0, 1114111, 1114112, 4294967295] (.slice sd (0 + N1 + N2) sc) (0 + N1 + N2) (zpC (L ++ K)) from by rw [HZ.out]; exact ST.out)
      rw [show 0 + N1 + N2 = N1 + N2 by omega] at ST2
      have HTL := hid HAP.out
      obtain ⟨N, hN⟩ : ∃ N, N1 + N2 = N := ⟨_, rfl⟩
      have hN80 : N ≤ 80 := by omega
      have HUW := hid (fun v => show inB U v = (inB L v || inB K v) by rw [HU.out.words, inB_app])
      have HMW := hid HM.out.words
      obtain ⟨T, hT⟩ : ∃ T, L ++ K = T := ⟨_, rfl⟩
      rw [hN] at ST2 HTL ⊢
      rw [hT] at ST2 HTL HT32
      rw [show (N1 : Int) + (N2 : Int) = (N : Int) by omega]
      clear hN hT ST HZ HC1 HC2 HS1 HS2 HM HU HR HOO HO32
      go_wp2_with fail
      go_loopw [10, 55] (fun p i wr => ∃ (k cap pg n : Nat) (P : List Nat), k ≤ N ∧ i = .int .i64 (k : Int) ∧ p = .slice (some ⟨pg, 0, none⟩) n cap ∧ n ≤ 5 + 4 * k ∧ Stp w8 wr pg cap n P (.slice sd N sc) N (zpC T)) (fun _ i _ => N - (intOf i).toNat)
      case atStart => exact ⟨0, 5, _, 5, [x, 0, 1114111, 1114112, 4294967295], Nat.zero_le _, rfl, rfl, Nat.le_refl _, ST2.out⟩
      case round =>
        obtain ⟨k, cap, pg, q, P, hk, rfl, rfl, hP, hst⟩ := hrel
        have HST := hid hst
        have HPL := hid hP
        clear hst hP ST2
        by_cases hlt : k < N
        · have hlk : k < T.length := by rw [HTL.out]; exact hlt
          have HLT := hid hlt
          obtain ⟨g, hg, _, _, hc⟩ := owns_cell HST.out.spn (by omega)
          subst hg
          obtain ⟨h1, h2⟩ := zpC_at hlk
          have x0 := hc _ _ h1
          have x1 := hc _ _ h2
          have hs32 := HT32.out T[k] (List.getElem_mem hlk)
          obtain ⟨s, hs⟩ : ∃ s, T[k] = s := ⟨_, rfl⟩
          rw [hs] at x0 x1 hs32
          obtain ⟨a, b⟩ := s
          simp only at x0 x1 hs32
          obtain ⟨ha, hb⟩ := hs32
          have hwk : IntKind.i64.wrap (k : Int) = (k : Int) := by rw [IntKind.wrap_i64]; omega
          have hgk : g < wr.heap.size := cell_block_lt x0
          clear hc h1 h2 hs hlk
          have hq1 : q ≤ 400 := by have := HPL.out; omega
          by_cases hA : 0 < a
          · have e1 : ((0 : Int) < (a : Int)) = True := eq_true (by omega)
            obtain ⟨ya, hya⟩ : ∃ y, a - 1 = y := ⟨_, rfl⟩
            have ew1 : IntKind.u32.wrap ((a : Int) - 1) = (ya : Int) := by rw [IntKind.wrap_u32]; omega
            by_cases hBm : b < 4294967295
            · have e2 : ((b : Int) < 4294967295) = True := eq_true (by omega)
              obtain ⟨yb, hyb⟩ : ∃ y, b + 1 = y := ⟨_, rfl⟩
              have ew2 : IntKind.u32.wrap ((b : Int) + 1) = (yb : Int) := by rw [IntKind.wrap_u32]; omega
              go_wp2_with (first
                | (at_builtin; refine wpList_append_lies _ rfl (.tmp 59) (.tmp 64) 33 rfl w8.heap.size 22 j0 _ 1 4 Tryz.underlying33 hj hy0 hy1 hy2 rfl (by decide) _ _ _ rfl ((HST.out.var a b).alloc (.cells (uV [a, b]).toArray 22)).st.row ⟨wr.heap.size + 1, 0, none⟩ 2 2 (uV [a, b]) rfl rfl (news_two wr _ [a, b]) (uV_one _) (by decide) (by unfold maxLen; omega) (by omega) ((HST.out.var a b).alloc (.cells (uV [a, b]).toArray 22)).st.blw.size _ rfl ?_; intro g7 cap7 w7 hown' hgrow hat hlt2; have HA := hid (((HST.out.var a b).alloc (.cells (uV [a, b]).toArray 22)).grow (Q := [a, b]) hown' rfl hgrow hat); obtain ⟨y0, y1⟩ := HA.out.cells; clear hown' hgrow hat hlt2)
                | (at_builtin; refine wpList_append_lies _ rfl (.tmp 69) (.tmp 73) 33 rfl w8.heap.size 22 j0 _ 1 4 Tryz.underlying33 hj hy0 hy1 hy2 rfl (by decide) _ _ _ rfl (HA.out.alloc (.cells (uV [ya]).toArray 22)).st.row ⟨w7.heap.size, 0, none⟩ 1 1 (uV [ya]) rfl rfl (news_at w7 [ya]) (uV_one _) (by decide) (by unfold maxLen; omega) (by omega) (HA.out.alloc (.cells (uV [ya]).toArray 22)).st.blw.size _ rfl ?_; intro g7 cap7 w7 hown' hgrow hat hlt2; have HA := hid ((HA.out.alloc (.cells (uV [ya]).toArray 22)).grow (Q := [ya]) hown' rfl hgrow hat); obtain ⟨y0, y1⟩ := HA.out.cells; clear hown' hgrow hat hlt2)
                | (at_builtin; refine wpList_append_lies _ rfl (.tmp 78) (.tmp 82) 33 rfl w8.heap.size 22 j0 _ 1 4 Tryz.underlying33 hj hy0 hy1 hy2 rfl (by decide) _ _ _ rfl (HA.out.alloc (.cells (uV [yb]).toArray 22)).st.row ⟨w7.heap.size, 0, none⟩ 1 1 (uV [yb]) rfl rfl (news_at w7 [yb]) (uV_one _) (by decide) (by unfold maxLen; omega) (by omega) (HA.out.alloc (.cells (uV [yb]).toArray 22)).st.blw.size _ rfl ?_; intro g7 cap7 w7 hown' hgrow hat hlt2; have HA := hid ((HA.out.alloc (.cells (uV [yb]).toArray 22)).grow (Q := [yb]) hown' rfl hgrow hat); obtain ⟨y0, y1⟩ := HA.out.cells; clear hown' hgrow hat hlt2))
              go_roundw
              case rel => exact ⟨k + 1, _, _, _, _, HLT.out, by go_num, rfl, by have := HPL.out; omega, HA.out.st⟩
              case measure => have := HLT.out; simp [intOf]; omega
            · have e2 : ((b : Int) < 4294967295) = False := eq_false (by omega)
              go_wp2_with (first
                | (at_builtin; refine wpList_append_lies _ rfl (.tmp 59) (.tmp 64) 33 rfl w8.heap.size 22 j0 _ 1 4 Tryz.underlying33 hj hy0 hy1 hy2 rfl (by decide) _ _ _ rfl ((HST.out.var a b).alloc (.cells (uV [a, b]).toArray 22)).st.row ⟨wr.heap.size + 1, 0, none⟩ 2 2 (uV [a, b]) rfl rfl (news_two wr _ [a, b]) (uV_one _) (by decide) (by unfold maxLen; omega) (by omega) ((HST.out.var a b).alloc (.cells (uV [a, b]).toArray 22)).st.blw.size _ rfl ?_; intro g7 cap7 w7 hown' hgrow hat hlt2; have HA := hid (((HST.out.var a b).alloc (.cells (uV [a, b]).toArray 22)).grow (Q := [a, b]) hown' rfl hgrow hat); obtain ⟨y0, y1⟩ := HA.out.cells; clear hown' hgrow hat hlt2)
                | (at_builtin; refine wpList_append_lies _ rfl (.tmp 69) (.tmp 73) 33 rfl w8.heap.size 22 j0 _ 1 4 Tryz.underlying33 hj hy0 hy1 hy2 rfl (by decide) _ _ _ rfl (HA.out.alloc (.cells (uV [ya]).toArray 22)).st.row ⟨w7.heap.size, 0, none⟩ 1 1 (uV [ya]) rfl rfl (news_at w7 [ya]) (uV_one _) (by decide) (by unfold maxLen; omega) (by omega) (HA.out.alloc (.cells (uV [ya]).toArray 22)).st.blw.size _ rfl ?_; intro g7 cap7 w7 hown' hgrow hat hlt2; have HA := hid ((HA.out.alloc (.cells (uV [ya]).toArray 22)).grow (Q := [ya]) hown' rfl hgrow hat); obtain ⟨y0, y1⟩ := HA.out.cells; clear hown' hgrow hat hlt2))
              go_roundw
              case rel => exact ⟨k + 1, _, _, _, _, HLT.out, by go_num, rfl, by have := HPL.out; omega, HA.out.st⟩
              case measure => have := HLT.out; simp [intOf]; omega
          · have e1 : ((0 : Int) < (a : Int)) = False := eq_false (by omega)
            by_cases hBm : b < 4294967295
            · have e2 : ((b : Int) < 4294967295) = True := eq_true (by omega)
              obtain ⟨yb, hyb⟩ : ∃ y, b + 1 = y := ⟨_, rfl⟩
              have ew2 : IntKind.u32.wrap ((b : Int) + 1) = (yb : Int) := by rw [IntKind.wrap_u32]; omega
              go_wp2_with (first
                | (at_builtin; refine wpList_append_lies _ rfl (.tmp 59) (.tmp 64) 33 rfl w8.heap.size 22 j0 _ 1 4 Tryz.underlying33 hj hy0 hy1 hy2 rfl (by decide) _ _ _ rfl ((HST.out.var a b).alloc (.cells (uV [a, b]).toArray 22)).st.row ⟨wr.heap.size + 1, 0, none⟩ 2 2 (uV [a, b]) rfl rfl (news_two wr _ [a, b]) (uV_one _) (by decide) (by unfold maxLen; omega) (by omega) ((HST.out.var a b).alloc (.cells (uV [a, b]).toArray 22)).st.blw.size _ rfl ?_; intro g7 cap7 w7 hown' hgrow hat hlt2; have HA := hid (((HST.out.var a b).alloc (.cells (uV [a, b]).toArray 22)).grow (Q := [a, b]) hown' rfl hgrow hat); obtain ⟨y0, y1⟩ := HA.out.cells; clear hown' hgrow hat hlt2)
                | (at_builtin; refine wpList_append_lies _ rfl (.tmp 78) (.tmp 82) 33 rfl w8.heap.size 22 j0 _ 1 4 Tryz.underlying33 hj hy0 hy1 hy2 rfl (by decide) _ _ _ rfl (HA.out.alloc (.cells (uV [yb]).toArray 22)).st.row ⟨w7.heap.size, 0, none⟩ 1 1 (uV [yb]) rfl rfl (news_at w7 [yb]) (uV_one _) (by decide) (by unfold maxLen; omega) (by omega) (HA.out.alloc (.cells (uV [yb]).toArray 22)).st.blw.size _ rfl ?_; intro g7 cap7 w7 hown' hgrow hat hlt2; have HA := hid ((HA.out.alloc (.cells (uV [yb]).toArray 22)).grow (Q := [yb]) hown' rfl hgrow hat); obtain ⟨y0, y1⟩ := HA.out.cells; clear hown' hgrow hat hlt2))
              go_roundw
              case rel => exact ⟨k + 1, _, _, _, _, HLT.out, by go_num, rfl, by have := HPL.out; omega, HA.out.st⟩
              case measure => have := HLT.out; simp [intOf]; omega
            · have e2 : ((b : Int) < 4294967295) = False := eq_false (by omega)
              go_wp2_with (first
                | (at_builtin; refine wpList_append_lies _ rfl (.tmp 59) (.tmp 64) 33 rfl w8.heap.size 22 j0 _ 1 4 Tryz.underlying33 hj hy0 hy1 hy2 rfl (by decide) _ _ _ rfl ((HST.out.var a b).alloc (.cells (uV [a, b]).toArray 22)).st.row ⟨wr.heap.size + 1, 0, none⟩ 2 2 (uV [a, b]) rfl rfl (news_two wr _ [a, b]) (uV_one _) (by decide) (by unfold maxLen; omega) (by omega) ((HST.out.var a b).alloc (.cells (uV [a, b]).toArray 22)).st.blw.size _ rfl ?_; intro g7 cap7 w7 hown' hgrow hat hlt2; have HA := hid (((HST.out.var a b).alloc (.cells (uV [a, b]).toArray 22)).grow (Q := [a, b]) hown' rfl hgrow hat); obtain ⟨y0, y1⟩ := HA.out.cells; clear hown' hgrow hat hlt2))
              go_roundw
              case rel => exact ⟨k + 1, _, _, _, _, HLT.out, by go_num, rfl, by have := HPL.out; omega, HA.out.st⟩
              case measure => have := HLT.out; simp [intOf]; omega
        · have hq1 : q ≤ 400 := by have := HPL.out; omega
          have HQ := hid HST.out.len
          have HROW := hid HST.out.row
          have HBW := hid HST.out.blw
          have hke : k = N := by omega
          subst hke
          clear hlt hk HPL HST HT32 HTL
          go_wp2_with fail
          go_loopw [87] (fun i wx => ∃ k2 : Nat, k2 ≤ q ∧ i = .int .i64 (k2 : Int) ∧ Below wr.heap.size wr wx) (fun i _ => q - (intOf i).toNat)
          case atStart => exact ⟨0, Nat.zero_le _, rfl, Below.refl _ _⟩
          case round =>
            obtain ⟨k2, hk2, rfl, hB⟩ := hrel
            have HB := hid hB
            by_cases hl2 : k2 < q
            · have HLT := hid hl2
              have hlk : k2 < P.length := by rw [HQ.out]; exact hl2
              obtain ⟨g, hg, _, _, hc⟩ := owns_cell (owns_below HROW.out hB) (by omega)
              injection hg with hg
              obtain ⟨v, hv⟩ : ∃ v, P[k2] = v := ⟨_, rfl⟩
              have x0 := hc k2 (.int .u32 (v : Int)) (by unfold uV; rw [List.getElem?_map, List.getElem?_eq_getElem hlk, hv]; rfl)
              injection hg with hg
              subst hg
              have hwk : IntKind.i64.wrap (k2 : Int) = (k2 : Int) := by rw [IntKind.wrap_i64]; omega
              have HOv := hid (HOW.out v)
              have HMv := hid (HMW.out v)
              have HUv := hid (HUW.out v)
              clear hB hlk hc hv hl2
              cases hz : inB L v with
              | true =>
                have HZ := hid hz
                rw [hz] at HOv HMv HUv
                clear hz
                go_wp2_with fail
                refine (HIL.out v _ (HL8.out.below (belowNC HBW.out HB.out)) (by omega)).mono ?_
                rintro e y1 ⟨rfl, hB⟩
                have HB1 := hid (belowNC HB.out hB)
                rw [HZ.out]
                clear hB
                go_wp2_with fail
                refine (in_any md M mc v _ (HM8.out.below (belowNC HBW.out HB1.out)) ML.out).mono ?_
                rintro e y2 ⟨rfl, hB⟩
                have HB2 := hid (belowNC HB1.out hB)
                rw [HMv.out]
                clear hB
                go_wp2_with fail
                refine (in_any od O oc v _ (HR8.out.below (belowNC HBW.out HB2.out)) OL.out).mono ?_
                rintro e y3 ⟨rfl, hB⟩
                have HB3 := hid (belowNC HB2.out hB)
                rw [HOv.out]
                clear hB
                go_wp2_with fail
                refine (in_any ud U uc v _ (HU8.out.below (belowNC HBW.out HB3.out)) UL.out).mono ?_
                rintro e y4 ⟨rfl, hB⟩
                have HB4 := hid (belowNC HB3.out hB)
                rw [HUv.out]
                clear hB
                go_wp2
                go_roundw
                case rel => exact ⟨k2 + 1, HLT.out, by go_num, HB4.out⟩
                case measure => have := HLT.out; simp [intOf]; omega
              | false =>
                have HZ := hid hz
                rw [hz] at HOv HMv HUv
                clear hz
                by_cases hle : v ≤ 1114111
                · have hli : ((v : Int) ≤ 1114111) = True := eq_true (by omega)
                  cases hd : inB K v with
                  | true =>
                    have HOV := hid (show inB O v = true from by rw [HOv.out, decide_eq_true hle]; rfl)
                    have HD := hid hd
                    have HUV := hid (show inB U v = true from by rw [HUv.out, hd]; rfl)
                    clear hd hle
                    go_wp2_with fail
                    refine (HIL.out v _ (HL8.out.below (belowNC HBW.out HB.out)) (by omega)).mono ?_
                    rintro e y1 ⟨rfl, hB⟩
                    have HB1 := hid (belowNC HB.out hB)
                    rw [HZ.out]
                    clear hB
                    go_wp2_with fail
                    refine (in_any md M mc v _ (HM8.out.below (belowNC HBW.out HB1.out)) ML.out).mono ?_
                    rintro e y2 ⟨rfl, hB⟩
                    have HB2 := hid (belowNC HB1.out hB)
                    rw [HMv.out]
                    clear hB
                    go_wp2_with fail
                    refine (in_any od O oc v _ (HR8.out.below (belowNC HBW.out HB2.out)) OL.out).mono ?_
                    rintro e y3 ⟨rfl, hB⟩
                    have HB3 := hid (belowNC HB2.out hB)
                    rw [HOV.out]
                    clear hB
                    go_wp2_with fail
                    refine (in_any ud U uc v _ (HU8.out.below (belowNC HBW.out HB3.out)) UL.out).mono ?_
                    rintro e y4 ⟨rfl, hB⟩
                    have HB4 := hid (belowNC HB3.out hB)
                    rw [HUV.out]
                    clear hB
                    go_wp2_with fail
                    refine (HIK.out v _ (HK8.out.below (belowNC HBW.out HB4.out)) (by omega)).mono ?_
                    rintro e y5 ⟨rfl, hB⟩
                    have HB5 := hid (belowNC HB4.out hB)
                    rw [HD.out]
                    clear hB
                    go_wp2
                    go_roundw
                    case rel => exact ⟨k2 + 1, HLT.out, by go_num, HB5.out⟩
                    case measure => have := HLT.out; simp [intOf]; omega
                  | false =>
                    have HOV := hid (show inB O v = true from by rw [HOv.out, decide_eq_true hle]; rfl)
                    have HD := hid hd
                    have HUV := hid (show inB U v = false from by rw [HUv.out, hd]; rfl)
                    clear hd hle
                    go_wp2_with fail
                    refine (HIL.out v _ (HL8.out.below (belowNC HBW.out HB.out)) (by omega)).mono ?_
                    rintro e y1 ⟨rfl, hB⟩
                    have HB1 := hid (belowNC HB.out hB)
                    rw [HZ.out]
                    clear hB
                    go_wp2_with fail
                    refine (in_any md M mc v _ (HM8.out.below (belowNC HBW.out HB1.out)) ML.out).mono ?_
                    rintro e y2 ⟨rfl, hB⟩
                    have HB2 := hid (belowNC HB1.out hB)
                    rw [HMv.out]
                    clear hB
                    go_wp2_with fail
                    refine (in_any od O oc v _ (HR8.out.below (belowNC HBW.out HB2.out)) OL.out).mono ?_
                    rintro e y3 ⟨rfl, hB⟩
                    have HB3 := hid (belowNC HB2.out hB)
                    rw [HOV.out]
                    clear hB
                    go_wp2_with fail
                    refine (in_any ud U uc v _ (HU8.out.below (belowNC HBW.out HB3.out)) UL.out).mono ?_
                    rintro e y4 ⟨rfl, hB⟩
                    have HB4 := hid (belowNC HB3.out hB)
                    rw [HUV.out]
                    clear hB
                    go_wp2_with fail
                    refine (HIK.out v _ (HK8.out.below (belowNC HBW.out HB4.out)) (by omega)).mono ?_
                    rintro e y5 ⟨rfl, hB⟩
                    have HB5 := hid (belowNC HB4.out hB)
                    rw [HD.out]
                    clear hB
                    go_wp2
                    go_roundw
                    case rel => exact ⟨k2 + 1, HLT.out, by go_num, HB5.out⟩
                    case measure => have := HLT.out; simp [intOf]; omega
                · have hli : ((v : Int) ≤ 1114111) = False := eq_false (by omega)
                  cases hd : inB K v with
                  | true =>
                    have HOV := hid (show inB O v = false from by rw [HOv.out, decide_eq_false hle]; rfl)
                    have HD := hid hd
                    have HUV := hid (show inB U v = true from by rw [HUv.out, hd]; rfl)
                    clear hd hle
                    go_wp2_with fail
                    refine (HIL.out v _ (HL8.out.below (belowNC HBW.out HB.out)) (by omega)).mono ?_
                    rintro e y1 ⟨rfl, hB⟩
                    have HB1 := hid (belowNC HB.out hB)
                    rw [HZ.out]
                    clear hB
                    go_wp2_with fail
                    refine (in_any md M mc v _ (HM8.out.below (belowNC HBW.out HB1.out)) ML.out).mono ?_
                    rintro e y2 ⟨rfl, hB⟩
                    have HB2 := hid (belowNC HB1.out hB)
                    rw [HMv.out]
                    clear hB
                    go_wp2_with fail
                    refine (in_any od O oc v _ (HR8.out.below (belowNC HBW.out HB2.out)) OL.out).mono ?_
                    rintro e y3 ⟨rfl, hB⟩
                    have HB3 := hid (belowNC HB2.out hB)
                    rw [HOV.out]
                    clear hB
                    go_wp2_with fail
                    refine (in_any ud U uc v _ (HU8.out.below (belowNC HBW.out HB3.out)) UL.out).mono ?_
                    rintro e y4 ⟨rfl, hB⟩
                    have HB4 := hid (belowNC HB3.out hB)
                    rw [HUV.out]
                    clear hB
                    go_wp2_with fail
                    refine (HIK.out v _ (HK8.out.below (belowNC HBW.out HB4.out)) (by omega)).mono ?_
                    rintro e y5 ⟨rfl, hB⟩
                    have HB5 := hid (belowNC HB4.out hB)
                    rw [HD.out]
                    clear hB
                    go_wp2
                    go_roundw
                    case rel => exact ⟨k2 + 1, HLT.out, by go_num, HB5.out⟩
                    case measure => have := HLT.out; simp [intOf]; omega
                  | false =>
                    have HOV := hid (show inB O v = false from by rw [HOv.out, decide_eq_false hle]; rfl)
                    have HD := hid hd
                    have HUV := hid (show inB U v = false from by rw [HUv.out, hd]; rfl)
                    clear hd hle
                    go_wp2_with fail
                    refine (HIL.out v _ (HL8.out.below (belowNC HBW.out HB.out)) (by omega)).mono ?_
                    rintro e y1 ⟨rfl, hB⟩
                    have HB1 := hid (belowNC HB.out hB)
                    rw [HZ.out]
                    clear hB
                    go_wp2_with fail
                    refine (in_any md M mc v _ (HM8.out.below (belowNC HBW.out HB1.out)) ML.out).mono ?_
                    rintro e y2 ⟨rfl, hB⟩
                    have HB2 := hid (belowNC HB1.out hB)
                    rw [HMv.out]
                    clear hB
                    go_wp2_with fail
                    refine (in_any od O oc v _ (HR8.out.below (belowNC HBW.out HB2.out)) OL.out).mono ?_
                    rintro e y3 ⟨rfl, hB⟩
                    have HB3 := hid (belowNC HB2.out hB)
                    rw [HOV.out]
                    clear hB
                    go_wp2_with fail
                    refine (in_any ud U uc v _ (HU8.out.below (belowNC HBW.out HB3.out)) UL.out).mono ?_
                    rintro e y4 ⟨rfl, hB⟩
                    have HB4 := hid (belowNC HB3.out hB)
                    rw [HUV.out]
                    clear hB
                    go_wp2_with fail
                    refine (HIK.out v _ (HK8.out.below (belowNC HBW.out HB4.out)) (by omega)).mono ?_
                    rintro e y5 ⟨rfl, hB⟩
                    have HB5 := hid (belowNC HB4.out hB)
                    rw [HD.out]
                    clear hB
                    go_wp2
                    go_roundw
                    case rel => exact ⟨k2 + 1, HLT.out, by go_num, HB5.out⟩
                    case measure => have := HLT.out; simp [intOf]; omega
            · have hke : k2 = q := by omega
              subst hke
              clear hl2 hk2 hB
              go_wp2
              go_ret
              exact ⟨rfl, belowNC (belowNC B8.out HBW.out) HB.out⟩
end Go.Proofs.YtkhdcpejpffnkaaGreatDoor
