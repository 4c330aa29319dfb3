/- slices.Grow of a nil slice of spans, slices.Concat of lists of spans, and package tables' Union, over this seat's translation. Conditions: at most 10^9 spans in all; each list is nil or in memory; at most 1000 lists. -/
import Derived.Test.YtkhdcpejpffnkaaGreatDoorTbN
import Derived.Lib.AppendZeros
import Derived.Laws.AppendOwnNone
namespace Go.Proofs.YtkhdcpejpffnkaaGreatDoor
open Go.RowKit
set_option linter.unusedVariables false

set_option maxHeartbeats 1600000 in
theorem growS_any (n : Nat) (w : World) (hn : n ≤ 1000000000) : Calls Tryz.prog 98 #[.slice none 0 0, .int .i64 (n : Int)] w fun e w' => ∃ ad cap, e = .returned (.slice ad 0 cap) ∧ w'.ownsRow w.heap.size 56 2 (.slice ad 0 cap) 0 [] ∧ Below w.heap.size w w' := by
  by_cases h0 : n = 0
  · subst h0
    go_enter Tryz.func98, Tryz.ntmps98
    go_wp2
    go_ret
    exact ⟨none, 0, rfl, World.ownsRow_nil _ _ _ _, Below.refl _ _⟩
  · obtain ⟨i0, hi, hz0, hz1, hz2⟩ := info_parts infoSpan
    have hrz := fun ty => Lib.run_append_nil_zeros (P := Tryz.prog) w 61 3 ty 56 i0 _ .i64 .i64 Tryz.underlying61 Tryz.underlying3 hi hz0 n (by omega) (by rw [hz1]; decide) (by omega) (by rw [hz2]; omega)
    have hG1 := grownCap_ge w n 0 56
    have hG2 := grownCap_le_maxLen w n 0 56 (by unfold maxLen; omega)
    obtain ⟨G, hG⟩ : ∃ G, grownCap w n 0 56 = G := ⟨_, rfl⟩
    rw [hG] at hrz hG1 hG2
    obtain ⟨cs, hcs⟩ : ∃ cs, Builtin.zeroCells (Value.cells (.agg #[.int .u32 0, .int .u32 0])) n ++ Builtin.zeroCells (Value.cells (.agg #[.int .u32 0, .int .u32 0])) (G - n) = cs := ⟨_, rfl⟩
    have hsz : cs.size = G * 2 := by
      rw [← hcs, Array.size_append, size_zeroCells, size_zeroCells]
      show n * 2 + (G - n) * 2 = G * 2
      omega
    rw [hcs] at hrz
    have HSZ := hid hsz
    have HG := hid hG2
    have hn1 : ¬ (n : Int) < 0 := by omega
    have hn2 : (0 : Int) < (n : Int) := by omega
    have hGi : (0 : Int) ≤ (G : Int) := by omega
    clear hG hcs hsz h0 hi hz0 hz1 hz2
    go_enter Tryz.func98, Tryz.ntmps98
    go_wp2_with (at_builtin; refine Lib.wpList_append_run _ rfl _ _ _ _ rfl _ _ rfl rfl _ _ (hrz _) ?_)
    all_goals
      go_ret
      refine ⟨some ⟨w.heap.size, 0, none⟩, G, rfl, ⟨rfl, Or.inr ⟨w.heap.size, G, cs, rfl, Nat.le_refl _, heap_alloc_at w.drew _, Nat.zero_le _, HG.out, HSZ.out, by simp⟩⟩, ?_⟩
      exact (show Below w.heap.size w w.drew from ⟨rfl, rfl, rfl, Nat.le_refl _, fun _ _ => rfl⟩).trans ((Below.refl _ w.drew).alloc (Nat.le_refl _) _)
/-- a list of spans, as a slice: where, the spans, its capacity -/
structure Zsl where
  ad : Option Addr
  l : List Zp
  c : Nat
/-- what the first k lists hold, one behind the other -/
def catZ (Z : List Zsl) (k : Nat) : List Zp := (Z.take k).flatMap (·.l)
theorem catZ_succ (Z : List Zsl) (k : Nat) (h : k < Z.length) : catZ Z (k + 1) = catZ Z k ++ Z[k].l := by
  unfold catZ; rw [List.take_succ_eq_append_getElem h, List.flatMap_append]; simp
theorem catZ_le (Z : List Zsl) (k : Nat) : (catZ Z k).length ≤ (catZ Z Z.length).length := by
  unfold catZ
  rw [List.take_length]
  conv => rhs; rw [← List.take_append_drop k Z, List.flatMap_append, List.length_append]
  omega
/-- lists of spans that came in -/
def ZsIn (w : World) (g : Nat) (Z : List Zsl) : Prop := ∀ k (h : k < Z.length), w.cell? ⟨g, k, none⟩ = some (.slice Z[k].ad Z[k].l.length Z[k].c) ∧ SpIn w Z[k].ad Z[k].l Z[k].c
theorem SpIn.below {w w' : World} {ad : Option Addr} {l : List Zp} {c : Nat} (h : SpIn w ad l c) (hB : Below w.heap.size w w') : SpIn w' ad l c := by
  rcases h with h | ⟨x, h1, h2⟩
  · exact Or.inl h
  · exact Or.inr ⟨x, h1, fun j u hj => cell_below hB (h2 j u hj) (cell_block_lt (h2 j u hj))⟩
theorem ZsIn.below {w w' : World} {g : Nat} {Z : List Zsl} (h : ZsIn w g Z) (hB : Below w.heap.size w w') : ZsIn w' g Z := fun k hk => by
  obtain ⟨h1, h2⟩ := h k hk
  exact ⟨cell_below hB h1 (cell_block_lt h1), h2.below hB⟩
theorem wpList_append_optS {P : Program} {w : World} {ops : Array Oper} {rest : List Oper} {o : Oper} {a : Go.Act} {Q : Exit → Go.Act → World → Prop} (hgd : o.guard = none) (s x : Operand) (t : TypeId)
    (ho : o.op = .call { callee := .builtin .append, args := #[s, x], argTypes := #[t, t] })
    (base : Nat) (e : TypeId) (i : TypeInfo) (z : Value) (size bytes : Nat) (ht : P.underlying t = some (.slice e)) (hi : P.info? e = some i) (hz : i.zero = some z)
    (hsize : i.size = size) (hby : i.bytes = bytes) (hzs : z.cells.size = size) (hsz : 0 < size)
    (v : Value) (n : Nat) (xs : List Value) (hs : a.eval s = v) (hown : w.ownsRow base e size v n xs)
    (ad : Option Addr) (m c : Nat) (news : List Value) (hx : a.eval x = .slice ad m c)
    (hd : (ad = none ∧ m = 0 ∧ c = 0 ∧ news = []) ∨ ∃ q, ad = some q ∧ news.length = m * size ∧ ∀ j u, news[j]? = some u → w.cell? (q.add j) = some u) (h1 : ∀ u ∈ news, u.oneCell' = true)
    (h63 : n + m ≤ maxLen) (hbytes : (n + m) * bytes ≤ 140737488355328) (hbase : base ≤ w.heap.size)
    (h : ∀ v' w', w'.ownsRow base e size v' (n + m) (xs ++ news) → w.grownBy w' v.ownBlock → wpList P ops Q rest (a.put o.dst v') w') : wpList P ops Q (o :: rest) a w := by
  rcases hd with ⟨rfl, rfl, rfl, rfl⟩ | ⟨q, rfl, hl, hn⟩
  · exact wpList_append_own_none hgd s x t ho base e i size ht hi v n xs hs hown hx (h v w (by simpa using hown) ⟨rfl, rfl, rfl, Nat.le_refl _, fun _ _ _ => rfl⟩)
  · exact wpList_append_own w hgd s x t ho base e i z size bytes ht hi hz hsize hby hzs hsz v n xs hs hown q m c news hx hl hn h1 h63 hbytes hbase fun v' w' h2 h3 _ => h v' w' h2 h3
theorem SpIn.src {w : World} {ad : Option Addr} {l : List Zp} {c : Nat} (h : SpIn w ad l c) : (ad = none ∧ l.length = 0 ∧ c = 0 ∧ zpC l = []) ∨ ∃ q, ad = some q ∧ (zpC l).length = l.length * 2 ∧ ∀ j u, (zpC l)[j]? = some u → w.cell? (q.add j) = some u := by
  rcases h with ⟨rfl, rfl, rfl⟩ | ⟨x, rfl, h2⟩
  · exact Or.inl ⟨rfl, rfl, rfl, rfl⟩
  · exact Or.inr ⟨x, rfl, zpC_len l, h2⟩
theorem own_base {w : World} {b c : Nat} {e : TypeId} {size : Nat} {v : Value} {n : Nat} {xs : List Value} (h : w.ownsRow b e size v n xs) (hb : c ≤ b) : w.ownsRow c e size v n xs :=
  ⟨h.1, h.2.elim Or.inl fun ⟨g, cap, cur, hv, hg, r⟩ => Or.inr ⟨g, cap, cur, hv, Nat.le_trans hb hg, r⟩⟩
/-- a row of spans is as one that came in -/
theorem SpIn.own {w : World} {base cap : Nat} {ad : Option Addr} {l : List Zp} (h : w.ownsRow base 56 2 (.slice ad l.length cap) l.length (zpC l)) : SpIn w ad l cap := by
  rcases h.2 with ⟨h0, h1⟩ | ⟨g, cap2, cur, hv, hb, hg, h1, h2, h3, h4⟩
  · injection h0 with e1 e2 e3
    exact Or.inl ⟨e1, List.length_eq_zero_iff.1 h1, e3⟩
  · cases hv
    refine Or.inr ⟨⟨g, 0, none⟩, rfl, fun j u hj => ?_⟩
    rw [add_plain]
    refine cell_of_heap hg ?_
    rw [← h4, List.getElem?_take] at hj
    split at hj
    · simpa using hj
    · cases hj

set_option maxHeartbeats 3200000 in
set_option maxRecDepth 20000 in
theorem concatS_any (g c : Nat) (Z : List Zsl) (w : World) (hz : ZsIn w g Z) (hn : (catZ Z Z.length).length ≤ 1000000000) (hl : Z.length ≤ 1000) :
    Calls Tryz.prog 65 #[.slice (some ⟨g, 0, none⟩) Z.length c] w fun e w' => ∃ ad' cap', e = .returned (.slice ad' (catZ Z Z.length).length cap') ∧ w'.ownsRow w.heap.size 56 2 (.slice ad' (catZ Z Z.length).length cap') (catZ Z Z.length).length (zpC (catZ Z Z.length)) ∧ Below w.heap.size w w' := by
  obtain ⟨i0, hi, hz0, hz1, hz2⟩ := info_parts infoSpan
  have HZ := hid hz
  have HCL := hid (catZ_le Z)
  have HCS := hid (catZ_succ Z)
  have HN := hid hn
  clear hz hn
  go_enter Tryz.func65, Tryz.ntmps65
  go_wp2_with fail
  go_loopw [3, 11] (fun c3 c11 wr => ∃ k : Nat, k ≤ Z.length ∧ c3 = .int .i64 ((catZ Z k).length : Int) ∧ c11 = .int .i64 (k : Int) ∧ wr = w) (fun _ c11 _ => Z.length - (intOf c11).toNat)
  case atStart => exact ⟨0, Nat.zero_le _, rfl, rfl, rfl⟩
  case round =>
    obtain ⟨k, hk, rfl, rfl, hw⟩ := hrel
    subst wr
    by_cases hlt : k < Z.length
    · obtain ⟨hc, _⟩ := HZ.out k hlt
      have HS := hid (show (catZ Z (k + 1)).length = (catZ Z k).length + (Z[k].l).length by rw [HCS.out k hlt, List.length_append])
      have hb1 : (catZ Z k).length + (Z[k].l).length ≤ 1000000000 := by rw [← HS.out]; exact Nat.le_trans (HCL.out _) HN.out
      obtain ⟨m, hm⟩ : ∃ m, (Z[k].l).length = m := ⟨_, rfl⟩
      obtain ⟨q, hq⟩ : ∃ q, (catZ Z k).length = q := ⟨_, rfl⟩
      rw [hm] at hc HS hb1
      rw [hq] at HS hb1 ⊢
      clear hm hq
      go_wp2
      go_roundw
      case rel => exact ⟨k + 1, by omega, by rw [HS.out]; go_num, by go_num, by first | rfl | trivial⟩
      case measure => simp [intOf]; omega
    · have hke : k = Z.length := by omega
      subst hke
      clear hlt
      obtain ⟨N, hNe⟩ : ∃ N, (catZ Z Z.length).length = N := ⟨_, rfl⟩
      have HNE := hid hNe
      rw [hNe] at HN ⊢
      have hNb : N ≤ 1000000000 := HN.out
      clear hNe
      go_wp2_with fail
      refine (growS_any N _ hNb).mono ?_
      rintro e w1 ⟨ad1, cap1, rfl, ho1, hB1⟩
      have O1 := hid ho1
      have B1 := hid hB1
      clear ho1 hB1
      go_wp2_with fail
      go_loopw [6, 27] (fun c6 c27 wx => ∃ (j q : Nat) (sd : Option Addr) (sc : Nat), j ≤ Z.length ∧ q = (catZ Z j).length ∧ c6 = .slice sd q sc ∧ c27 = .int .i64 (j : Int) ∧ wx.ownsRow w.heap.size 56 2 (.slice sd q sc) q (zpC (catZ Z j)) ∧ Below w.heap.size w wx) (fun _ c27 _ => Z.length - (intOf c27).toNat)
      case atStart => exact ⟨0, 0, ad1, cap1, Nat.zero_le _, rfl, rfl, rfl, O1.out, B1.out⟩
      case round =>
        clear O1 B1
        obtain ⟨j, q, sd, sc, hj, hq, rfl, rfl, hown, hB⟩ := hrel
        have HO := hid hown
        have HB := hid hB
        have HQ := hid hq
        clear hown hB hq
        by_cases hjl : j < Z.length
        · obtain ⟨hc0, hs0⟩ := HZ.out j hjl
          have hc := cell_below HB.out hc0 (cell_block_lt hc0)
          have HSP := hid (hs0.below HB.out)
          have HCJ := hid (HCS.out j hjl)
          have hb1 : q + (Z[j].l).length ≤ 1000000000 := by
            have h1 := HCL.out (j + 1)
            rw [HCJ.out, List.length_append, ← HQ.out, HNE.out] at h1
            omega
          obtain ⟨s, hs⟩ : ∃ s, Z[j] = s := ⟨_, rfl⟩
          rw [hs] at hc HSP HCJ hb1
          obtain ⟨xa, xl, xc⟩ := s
          simp only at hc HSP HCJ hb1
          have HSR := hid HSP.out.src
          have H1C := hid (zpC_one xl)
          obtain ⟨m, hm⟩ : ∃ m, xl.length = m := ⟨_, rfl⟩
          have HM := hid hm
          rw [hm] at hc hb1 HSR
          obtain ⟨X, hX⟩ : ∃ X, zpC (catZ Z j) = X := ⟨_, rfl⟩
          have HX := hid hX
          rw [hX] at HO
          clear hs hm hX hs0 hc0
          go_wp2_with (at_builtin; refine wpList_append_optS rfl (.tmp 31) (.tmp 32) 61 rfl w.heap.size 56 i0 _ 2 8 Tryz.underlying61 hi hz0 hz1 hz2 rfl (by decide) _ q X rfl HO.out xa m xc (zpC xl) rfl HSR.out H1C.out (by unfold maxLen; omega) (by omega) HB.out.size ?_; intro v6 w6 hown' hgrow; obtain ⟨sd', sc', rfl⟩ := owns_shape hown'; have HO6 := hid hown'; have B6 := hid (HB.out.grown hgrow HB.out.size (fun k hk => (HO.out.lt k hk).1)); clear hown' hgrow)
          go_roundw
          case rel =>
            have h6 := HO6.out
            rw [← HX.out, ← zpC_app, ← HCJ.out] at h6
            exact ⟨j + 1, q + m, sd', sc', by omega, by rw [HCJ.out, List.length_append, ← HQ.out, HM.out], by first | rfl | go_num, by go_num, h6, B6.out⟩
          case measure => simp [intOf]; omega
        · have hje : j = Z.length := by omega
          subst hje
          have hqN : q = N := by rw [HQ.out, HNE.out]
          subst hqN
          clear hjl
          go_wp2
          go_ret
          rw [HNE.out]
          exact ⟨sd, sc, rfl, HO.out, HB.out⟩
set_option maxHeartbeats 800000 in
/-- what Union answers: merged spans of the words of all lists -/
theorem unionOk_any (g c : Nat) (Z : List Zsl) (w : World) (hz : ZsIn w g Z) (hn : (catZ Z Z.length).length ≤ 1000000000) (hl : Z.length ≤ 1000) (h32 : ∀ s ∈ catZ Z Z.length, s.1 < 4294967296 ∧ s.2 < 4294967296) :
    Calls Tryz.prog 36 #[.slice (some ⟨g, 0, none⟩) Z.length c] w fun e w' => ∃ ad2 cap2 m, e = .returned (.slice ad2 m.length cap2) ∧ MrgOk (catZ Z Z.length) m ∧ ZpR w' w.heap.size (.slice ad2 m.length cap2) m ∧ Below w.heap.size w w' := by
  have HC := hid (concatS_any g c Z w hz hn hl)
  have HM := hid (fun (ad : Option Addr) (cap : Nat) (w' : World) (h : SpIn w' ad (catZ Z Z.length) cap) => mergeOk_any ad cap (catZ Z Z.length) w' h hn h32)
  clear hz hn h32
  obtain ⟨L, hL⟩ : ∃ L, catZ Z Z.length = L := ⟨_, rfl⟩
  rw [hL] at HC HM ⊢
  clear hL
  go_enter Tryz.func36, Tryz.ntmps36
  go_wp2_with fail
  refine HC.out.mono ?_
  rintro e w1 ⟨ad1, cap1, rfl, ho, hB⟩
  have HS := hid (SpIn.own ho)
  have B1 := hid hB
  clear ho hB
  go_wp2_with fail
  refine (HM.out _ _ _ HS.out).mono ?_
  rintro e w2 ⟨ad2, cap2, m, rfl, hm, hr, hB2⟩
  have HR := hid hr
  have HMM := hid hm
  have B2 := hid hB2
  clear hr hm hB2
  go_wp2
  go_ret
  exact ⟨ad2, cap2, m, rfl, HMM.out, own_base HR.out B1.out.size, B1.out.trans (B2.out.mono B1.out.size)⟩
end Go.Proofs.YtkhdcpejpffnkaaGreatDoor
