/- Contracts of slices.Clone, package sortnet's Apply and the document's Through, over this seat's translation. Conditions: words are those of uint32, places those of int, rows of at most some millions. -/
import Derived.Test.YtjdbofgjieljlaaSnB
import Derived.BigRegion
import Derived.Lib.SliceRun
import Derived.WalkSpells
import Derived.WalkLawsBesides
import Derived.ProofKit
import Derived.Deep.Slices
import Derived.OpenShut
namespace Go.Proofs.Ytjdbofgjieljlaa
open Go.RowKit

theorem Try.infoWord : (Try.prog.info? 31).map (fun i => (i.zero, i.size, i.bytes)) = some (some (.int .u32 0), 1, 4) := by kernel_rfl
abbrev us (l : List Nat) : List Value := l.map fun (x : Nat) => .int .u32 (x : Int)
theorem us_len (l : List Nat) : (us l).length = l.length := by simp
theorem us_one (l : List Nat) : ∀ u ∈ us l, u.oneCell' = true := by
  intro u hu
  simp only [us, List.mem_map] at hu
  obtain ⟨x, _, rfl⟩ := hu; rfl
theorem us_at (l : List Nat) (k : Nat) (h : k < l.length) : (us l)[k]? = some (.int .u32 (l[k] : Int)) := by simp [us, h]
/-- a slice's words -/
def Us (w : World) (ad : Option Addr) (l : List Nat) : Prop := ∀ k (hk : k < l.length), ∃ x, ad = some x ∧ w.cell? (x.add k) = some (.int .u32 (l[k] : Int))
theorem cell_block_lt {w : World} {a : Addr} {v : Value} (h : w.cell? a = some v) : a.block < w.heap.size := by
  rcases Nat.lt_or_ge a.block w.heap.size with hlt | hge
  · exact hlt
  · simp [World.cell?, Array.getElem?_eq_none hge] at h
theorem Us.below {w w' : World} {ad : Option Addr} {l : List Nat} (h : Us w ad l) (hb : Below w.heap.size w w') : Us w' ad l := by
  intro k hk
  obtain ⟨x, rfl, hc⟩ := h k hk
  exact ⟨x, rfl, cell_below hb hc (cell_block_lt hc)⟩
theorem isRow_us {w : World} {ad : Option Addr} {len cap : Nat} {zs : List Int} (h : IsRow .u32 w ad len cap zs) : ∃ l : List Nat, l.length = len ∧ (∀ x ∈ l, x < 4294967296) ∧ Us w ad l ∧ (ad = none → cap = 0 ∧ len = 0) ∧ len ≤ cap := by
  have hlz : len ≤ zs.length := by
    rcases h with ⟨_, h0, _, _⟩ | ⟨x, _, h1, _, h2, _⟩ <;> omega
  have hlen : ((zs.take len).map Int.toNat).length = len := by simp; omega
  have hget : ∀ k (hk : k < ((zs.take len).map Int.toNat).length), zs[k]? = some (zs.getD k 0) ∧ ((zs.take len).map Int.toNat)[k] = (zs.getD k 0).toNat := by
    intro k hk
    have hk2 : k < zs.length := by rw [hlen] at hk; omega
    have e1 : zs[k]? = some zs[k] := List.getElem?_eq_getElem hk2
    have e2 : zs.getD k 0 = zs[k] := by simp [List.getD, e1]
    refine ⟨by rw [e2]; exact e1, ?_⟩
    rw [e2]; simp [List.getElem_map, List.getElem_take]
  refine ⟨(zs.take len).map Int.toNat, hlen, ?_, ?_, ?_, ?_⟩
  · intro x hx
    simp only [List.mem_map] at hx
    obtain ⟨y, hy, rfl⟩ := hx
    have hy2 := List.mem_of_mem_take hy
    rcases h with ⟨_, _, _, hz⟩ | ⟨x, _, h1, _, h2, h3, h4⟩
    · rw [hz] at hy2; cases hy2
    · have := wf_u32 (h4 y hy2); omega
  · intro k hk
    obtain ⟨e1, e2⟩ := hget k hk
    rcases h with ⟨_, h0, _, _⟩ | ⟨x, hx, h1, _, h2, h3, h4⟩
    · rw [hlen] at hk; omega
    · refine ⟨x, hx, ?_⟩
      rw [h3 k (by rw [hlen] at hk; omega), e2]
      have hm : zs.getD k 0 ∈ zs := List.mem_of_getElem? e1
      have := wf_u32 (h4 _ hm)
      rw [show ((zs.getD k 0).toNat : Int) = zs.getD k 0 by omega]
  · intro hn
    rcases h with ⟨_, h0, hc, _⟩ | ⟨x, hx, _⟩
    · exact ⟨hc, h0⟩
    · rw [hn] at hx; cases hx
  · rcases h with ⟨_, h0, hc, _⟩ | ⟨x, hx, h1, _⟩ <;> omega

set_option maxHeartbeats 800000 in
theorem cloneU_any (ad : Option Addr) (cap : Nat) (l : List Nat) (w : World) (h : Us w ad l) (h0 : ad = none → cap = 0 ∧ l.length = 0) (hn : l.length ≤ 10000000) :
    Calls Try.prog 80 #[.slice ad l.length cap] w fun e w' => ∃ ad' cap', e = .returned (.slice ad' l.length cap') ∧ w'.ownsRow w.heap.size 31 1 (.slice ad' l.length cap') l.length (us l) ∧ Below w.heap.size w w' := by
  have qT : ∀ (w : World) (a : Option Addr) (n c n' c' : Nat), (binOp .eql 29 (.slice a n c) (.slice none n' c')).run Try.prog w = .ok (.bool a.isNone) w := fun w a n c n' c' => Lib.run_eql_slice_nil w _ _ a n c n' c' Try.underlying29
  cases ad with
  | none =>
    obtain ⟨rfl, hl⟩ := h0 rfl
    have : l = [] := by simpa using hl
    subst this
    clear h h0
    go_enter Try.func80, Try.ntmps80
    go_wp2
    go_ret
    exact ⟨none, 0, rfl, World.ownsRow_nil _ _ _ _, Below.refl _ _⟩
  | some x =>
    obtain ⟨i0, hi, hz0, hz1, hz2⟩ := info_parts Try.infoWord
    have HC0 : Hid ((w.alloc (.cells #[] 31)).ownsRow w.heap.size 31 1 (.slice (some ⟨w.heap.size, 0, none⟩) 0 0) 0 []) := World.ownsRow_made w #[] 0 (Nat.le_refl _) (by decide) rfl
    have HC1 : Hid (∀ j u, (us l)[j]? = some u → (w.alloc (.cells #[] 31)).cell? (x.add j) = some u) := fun j u hj => by
      have hjl : j < l.length := by
        rcases Nat.lt_or_ge j l.length with h1 | h1
        · exact h1
        · rw [List.getElem?_eq_none (by rw [us_len]; exact h1)] at hj; cases hj
      rw [us_at l j hjl] at hj; cases hj
      obtain ⟨y, hy, hc⟩ := h j hjl
      cases hy
      exact cell_below ((Below.refl _ w).alloc (Nat.le_refl _) _) hc (cell_block_lt hc)
    have hlen : (us l).length = l.length * 1 := by simp
    have h1 := us_one l
    clear h h0
    generalize us l = xs at *
    generalize l.length = n at *
    go_enter Try.func80, Try.ntmps80
    go_wp2_with (at_builtin; refine wpList_append_own _ rfl (.tmp 5) (.tmp 6) 29 rfl w.heap.size 31 i0 _ 1 4 Try.underlying29 hi hz0 hz1 hz2 rfl (by decide) _ 0 [] rfl HC0.out x n cap xs rfl hlen HC1.out h1 (by unfold maxLen; omega) (by omega) (by simp) ?_)
    intro v' w1 hown hgrow _
    obtain ⟨ad', cap', rfl⟩ := owns_shape hown
    have HO := hid hown
    clear h1 hi hz0 hz1 hz2 qT hown
    go_wp2
    go_ret
    exact ⟨_, _, rfl, HO.out, ((Below.refl _ _).alloc (Nat.le_refl _) _).grown hgrow (by simp) (by intro k hk; simp [Value.ownBlock] at hk; omega)⟩

/-- 'append([]uint32{}, l...)', whatever l is -/
theorem wpList_append_u32 (w : World) {ops : Array Oper} {rest : List Oper} {o : Oper} {a : Act} {Q : Exit → Act → World → Prop} (hg : o.guard = none) (s x : Operand)
    (hop : o.op = Op.call { callee := Callee.builtin Builtin.append, args := #[s, x], argTypes := #[29, 29] })
    (base g : Nat) (hs : a.eval s = .slice (some ⟨g, 0, none⟩) 0 0) (hown : w.ownsRow base 31 1 (.slice (some ⟨g, 0, none⟩) 0 0) 0 []) (ad : Option Addr) (c : Nat) (l : List Nat) (hx : a.eval x = .slice ad l.length c)
    (hnone : ad = none → c = 0 ∧ l.length = 0) (hu : Us w ad l) (hm : l.length ≤ 10000000) (hbase : base ≤ w.heap.size)
    (hK : ∀ ad' cap' w', w'.ownsRow base 31 1 (.slice ad' l.length cap') l.length (us l) → w.grownBy w' (some g) → wpList Try.prog ops Q rest (a.put o.dst (.slice ad' l.length cap')) w') :
    wpList Try.prog ops Q (o :: rest) a w := by
  obtain ⟨i0, hi, hz0, hz1, hz2⟩ := info_parts Try.infoWord
  have hcell : ∀ y, ad = some y → ∀ j u, (us l)[j]? = some u → w.cell? (y.add j) = some u := fun y hy j u hj => by
    have hjl : j < l.length := by
      rcases Nat.lt_or_ge j l.length with h1 | h1
      · exact h1
      · rw [List.getElem?_eq_none (by rw [us_len]; exact h1)] at hj; cases hj
    rw [us_at l j hjl] at hj; cases hj
    obtain ⟨z, hz, hc⟩ := hu j hjl
    rw [hy] at hz; cases hz
    exact hc
  cases ad with
  | none =>
    obtain ⟨hc0, hl0⟩ := hnone rfl
    have hl : l = [] := by simpa using hl0
    subst hl
    refine wpList_append_fits_any w hg s x 29 hop base 31 i0 1 Try.underlying29 hi hz1 g 0 0 [] hs hown none 0 c [] hx rfl (fun _ => ⟨rfl, hc0⟩) (fun _ h => by cases h) (fun u hu => by cases hu) (Nat.le_refl _) (fun w' h1 h2 => hK _ _ w' h1 h2)
  | some y =>
    refine wpList_append_own w hg s x 29 hop base 31 i0 _ 1 4 Try.underlying29 hi hz0 hz1 hz2 rfl (by decide) _ 0 [] hs hown y l.length c (us l) hx (by simp) (hcell y rfl) (us_one l) (by unfold maxLen; omega) (by omega) hbase (fun v' w' h1 h2 _ => ?_)
    rw [Nat.zero_add, List.nil_append] at h1
    obtain ⟨ad', cap', rfl⟩ := owns_shape h1
    exact hK ad' cap' w' h1 h2
/-- pairs of places, as a slice has them -/
def Prs (w : World) (ad : Option Addr) (ps : List (Int × Int)) : Prop := ∀ k (hk : k < ps.length), ∃ x, ad = some x ∧ w.cell? (x.add (k * 2)) = some (.int .i64 ps[k].1) ∧ w.cell? ⟨(x.add (k * 2)).block, (x.add (k * 2)).off + 1, none⟩ = some (.int .i64 ps[k].2)
theorem Prs.below {w w' : World} {ad : Option Addr} {ps : List (Int × Int)} (h : Prs w ad ps) (hb : Below w.heap.size w w') : Prs w' ad ps := by
  intro k hk
  obtain ⟨x, rfl, hc, hd⟩ := h k hk
  exact ⟨x, rfl, cell_below hb hc (cell_block_lt hc), cell_below hb hd (cell_block_lt hd)⟩
def exI (l : List Nat) (p : Int × Int) : List Nat := if 0 ≤ p.1 ∧ p.1 < p.2 ∧ p.2 < l.length then exch id l (p.1.toNat, p.2.toNat) else l
def thruI (l : List Nat) (ps : List (Int × Int)) : List Nat := ps.foldl exI l
def thruK (l : List Nat) (ps : List (Int × Int)) (k : Nat) : List Nat := thruI l (ps.take k)
theorem exI_len (l : List Nat) (p : Int × Int) : (exI l p).length = l.length := by
  unfold exI; split
  · exact exch_len _ _ _
  · rfl
theorem thruI_len : ∀ (ps : List (Int × Int)) (l : List Nat), (thruI l ps).length = l.length
  | [], _ => rfl
  | p :: ps, l => by unfold thruI; rw [List.foldl_cons]; exact (thruI_len ps _).trans (exI_len l p)
theorem exI_perm (l : List Nat) (p : Int × Int) : (exI l p).Perm l := by
  unfold exI; split
  · exact exch_perm _ _ _
  · exact List.Perm.refl _
theorem thruI_perm : ∀ (ps : List (Int × Int)) (l : List Nat), (thruI l ps).Perm l
  | [], _ => List.Perm.refl _
  | p :: ps, l => by unfold thruI; rw [List.foldl_cons]; exact (thruI_perm ps _).trans (exI_perm l p)
theorem thruK_len (l : List Nat) (ps : List (Int × Int)) (k : Nat) : (thruK l ps k).length = l.length := thruI_len _ _
theorem thruK_succ (l : List Nat) (ps : List (Int × Int)) (k : Nat) (h : k < ps.length) : thruK l ps (k + 1) = exI (thruK l ps k) ps[k] := by
  unfold thruK thruI; rw [List.take_succ_eq_append_getElem h, List.foldl_append]; rfl
theorem exI_no (l : List Nat) (p : Int × Int) (h : ¬ (0 ≤ p.1 ∧ p.1 < p.2 ∧ p.2 < l.length)) : exI l p = l := by unfold exI; rw [if_neg h]
theorem exI_yes (l : List Nat) (i j : Nat) (h1 : i < j) (h2 : j < l.length) : exI l ((i : Int), (j : Int)) = (l.set i (min (l[i]'(by omega)) l[j])).set j (max (l[i]'(by omega)) l[j]) := by
  unfold exI
  rw [if_pos (by simp; omega)]
  unfold exch
  simp only [Int.toNat_natCast, id]
  rw [dif_pos ⟨h1, h2⟩]
  split
  · rw [show min l[i] l[j] = l[j] by omega, show max l[i] l[j] = l[i] by omega]
  · rw [show min l[i] l[j] = l[i] by omega, show max l[i] l[j] = l[j] by omega, List.set_getElem_self, List.set_getElem_self]
theorem us_set (l : List Nat) (k x : Nat) : us (l.set k x) = (us l).set k (.int .u32 (x : Int)) := by simp [us, List.map_set]

set_option maxHeartbeats 1600000 in
theorem apply_any (pd : Option Addr) (pc : Nat) (ps : List (Int × Int)) (ad : Option Addr) (cap : Nat) (l : List Nat) (w : World) (hp : Prs w pd ps) (hpb : ∀ p ∈ ps, -9223372036854775808 ≤ p.1 ∧ p.1 < 9223372036854775808 ∧ -9223372036854775808 ≤ p.2 ∧ p.2 < 9223372036854775808)
    (h : Us w ad l) (h0 : ad = none → cap = 0 ∧ l.length = 0) (hl : ∀ x ∈ l, x < 4294967296) (hn : l.length ≤ 10000000) (hpl : ps.length ≤ 10000000) :
    Calls Try.prog 49 #[.slice pd ps.length pc, .slice ad l.length cap] w fun e w' => ∃ ad' cap', e = .returned (.slice ad' l.length cap') ∧ w'.ownsRow w.heap.size 31 1 (.slice ad' l.length cap') l.length (us (thruI l ps)) ∧ Below w.heap.size w w' := by
  have HP := hid hp
  have HU := hid h
  have HH0 := hid h0
  have HPB := hid hpb
  clear hp h h0 hpb
  have HLB := hid (show ∀ k, ∀ x ∈ thruK l ps k, x < 4294967296 from fun k x hx => hl x ((thruI_perm _ _).mem_iff.1 hx))
  go_enter Try.func49, Try.ntmps49
  go_wp2_with fail
  refine (cloneU_any ad cap l _ HU.out HH0.out hn).mono ?_
  rintro e w1 ⟨ad', cap', rfl, hown, hB⟩
  have HO := hid hown
  have HB := hid hB
  have HP1 := hid (HP.out.below hB)
  clear hown hB hl
  go_wp2_with fail
  go_loopw [14] (fun i wr => ∃ k : Nat, k ≤ ps.length ∧ i = .int .i64 (k : Int) ∧ wr.ownsRow w.heap.size 31 1 (.slice ad' l.length cap') l.length (us (thruK l ps k)) ∧ Below w.heap.size w wr) (fun i _ => ps.length - (intOf i).toNat)
  case atStart => exact ⟨0, Nat.zero_le _, rfl, HO.out, HB.out⟩
  case round =>
    obtain ⟨k, hk, rfl, hown, hBr⟩ := hrel
    clear HO
    by_cases hlt : k < ps.length
    · obtain ⟨x, rfl, c0, c1⟩ := HP.out.below hBr k hlt
      have hlx := cell_block_lt c0
      have HS := hid (thruK_succ l ps k hlt)
      have hb := HPB.out ps[k] (List.getElem_mem hlt)
      obtain ⟨p, hpe⟩ : ∃ p, ps[k] = p := ⟨_, rfl⟩
      rw [hpe] at c0 c1 HS hb
      clear hpe
      obtain ⟨i, j⟩ := p
      simp only at c0 c1 HS hb
      obtain ⟨b1, b2, b3, b4⟩ := hb
      have HLE := hid (thruK_len l ps k)
      have HLBk := hid (HLB.out k)
      generalize thruK l ps k = q at *
      have HO := hid hown
      have HBr := hid hBr
      clear hown hBr
      by_cases hc : 0 ≤ i ∧ i < j ∧ j < l.length
      · obtain ⟨e1, e2, e3⟩ := hc
        obtain ⟨i, rfl⟩ := Int.eq_ofNat_of_zero_le e1
        obtain ⟨j, rfl⟩ := Int.eq_ofNat_of_zero_le (show 0 ≤ j by omega)
        have f1 : i < j := by omega
        have f2 : j < l.length := by omega
        have f3 : i < l.length := by omega
        have f2q : j < q.length := by rw [HLE.out]; exact f2
        have f3q : i < q.length := by rw [HLE.out]; exact f3
        have HY := hid (exI_yes q i j f1 f2q)
        obtain ⟨g, rfl, hgb, hgl, hcell⟩ := owns_cell HO.out (by omega)
        have ci := hcell i _ (us_at q i f3q)
        have cj := hcell j _ (us_at q j f2q)
        have fi := owns_froz (j := i) HO.out
        have fj := owns_froz (j := j) HO.out
        have bi := HLBk.out _ (List.getElem_mem f3q)
        have bj := HLBk.out _ (List.getElem_mem f2q)
        obtain ⟨A, hA⟩ : ∃ A, q[i] = A := ⟨_, rfl⟩
        obtain ⟨B, hBB⟩ : ∃ B, q[j] = B := ⟨_, rfl⟩
        rw [hA] at ci HY bi
        rw [hBB] at cj HY bj
        clear hA hBB hcell e1 e2 e3 b1 b2 b3 b4
        go_wp2_with fail
        go_quiet (fail)
        go_wp2_with fail
        have HBq := hid (show Below wr.heap.size wr ((wr.alloc (.cells #[.int .i64 (i : Int), .int .i64 (j : Int)] 78)).drewN nq) from belowDN ((Below.refl _ wr).alloc (Nat.le_refl _) _) _)
        generalize (wr.alloc (.cells #[.int .i64 (i : Int), .int .i64 (j : Int)] 78)).drewN nq = wq at *
        have HO2 := hid (owns_below HO.out HBq.out)
        have gi := owns_froz (j := i) HO2.out
        have gj := owns_froz (j := j) HO2.out
        have di := cell_below HBq.out ci hgl
        have dj := cell_below HBq.out cj hgl
        clear ci cj fi fj c0 c1
        go_region
        have HO3 := hid (show (((wq.setCell ⟨g, i, none⟩ (.int .u32 (min (A : Int) B))).setCell ⟨g, j, none⟩ (.int .u32 (max (A : Int) B))).drew).ownsRow w.heap.size 31 1 (.slice (some ⟨g, 0, none⟩) l.length cap') l.length (us (exI q ((i : Int), (j : Int)))) by
          rw [HY.out, us_set, us_set, show ((min A B : Nat) : Int) = min (A : Int) B by omega, show ((max A B : Nat) : Int) = max (A : Int) B by omega]
          exact owns_put (owns_put HO2.out))
        have HB3 := hid (show Below w.heap.size w ((wq.setCell ⟨g, i, none⟩ (.int .u32 (min (A : Int) B))).setCell ⟨g, j, none⟩ (.int .u32 (max (A : Int) B))).drew from
          (((HBr.out.trans (HBq.out.mono HBr.out.size)).setCell (p := ⟨g, i, none⟩) hgb _).setCell (p := ⟨g, j, none⟩) hgb _).drew)
        clear di dj gi gj
        go_wp2
        go_roundw
        case rel => exact ⟨k + 1, by omega, by go_num, by rw [HS.out]; exact HO3.out, HB3.out⟩
        case measure => simp [intOf]; omega
      · have HN := hid (exI_no q (i, j) (by rw [HLE.out]; exact hc))
        by_cases d0 : i < 0
        · go_wp2_with fail
          go_quiet (fail)
          go_wp2
          go_roundw
          case rel => exact ⟨k + 1, by omega, by go_num, by rw [HS.out, HN.out]; exact owns_below HO.out (belowDN ((Below.refl _ wr).alloc (Nat.le_refl _) _) _), HBr.out.trans (belowDN ((Below.refl _ wr).alloc HBr.out.size _) _)⟩
          case measure => simp [intOf]; omega
        · by_cases d1 : i < j
          · have d2 : (l.length : Int) ≤ j := by omega
            have d1' : ¬ (j ≤ i) := by omega
            go_wp2_with fail
            go_quiet (fail)
            go_wp2
            go_roundw
            case rel => exact ⟨k + 1, by omega, by go_num, by rw [HS.out, HN.out]; exact owns_below HO.out (belowDN ((Below.refl _ wr).alloc (Nat.le_refl _) _) _), HBr.out.trans (belowDN ((Below.refl _ wr).alloc HBr.out.size _) _)⟩
            case measure => simp [intOf]; omega
          · have d1' : j ≤ i := by omega
            go_wp2_with fail
            go_quiet (fail)
            go_wp2
            go_roundw
            case rel => exact ⟨k + 1, by omega, by go_num, by rw [HS.out, HN.out]; exact owns_below HO.out (belowDN ((Below.refl _ wr).alloc (Nat.le_refl _) _) _), HBr.out.trans (belowDN ((Below.refl _ wr).alloc HBr.out.size _) _)⟩
            case measure => simp [intOf]; omega
    · have e : k = ps.length := by omega
      subst e
      have HE := hid (show thruK l ps ps.length = thruI l ps by unfold thruK; rw [List.take_length])
      have HO := hid hown
      have HBr := hid hBr
      clear hown hBr
      go_wp2
      go_ret
      rw [← HE.out]
      exact ⟨ad', cap', rfl, HO.out, HBr.out⟩

end Go.Proofs.Ytjdbofgjieljlaa
