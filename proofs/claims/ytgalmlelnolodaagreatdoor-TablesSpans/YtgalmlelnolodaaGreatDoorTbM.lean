/- slices.SortFunc of a slice of api.Span: the library's laying at this seat's translation. slices.SortFunc of a row of spans by their first words, over this seat's translation. Conditions: fewer than 2 to the power 62 spans. slices.Clone of spans, and what a row is after slices.SortFunc, over this seat's translation. Conditions: at most 10^9 spans. Package tables' rising, over this seat's translation. Conditions: at most 10^9 spans, which are nil or in memory. -/
import Derived.Shelf.SlSortCmp.WholeK
import Derived.Test.YtgalmlelnolodaaGreatDoorChecked
import Derived.Test.YtgalmlelnolodaaGreatDoorTbI
import Derived.Shelf.SlSortCmp.NoneTotal
namespace Go.Proofs.YtgalmlelnolodaaGreatDoor
open Go.Shelf
def laySpan_ren : Go.Shelf.Ren := ⟨fun | 6 => 114 | 15 => 127 | 14 => 126 | 28 => 147 | 29 => 148 | 20 => 139 | 21 => 140 | 22 => 141 | 23 => 142 | 24 => 143 | 25 => 144 | 26 => 145 | 27 => 146 | 46 => 152 | 47 => 153 | 48 => 154 | 49 => 155 | 50 => 156 | 57 => 158 | n => n, fun | 22 => 53 | 24 => 47 | 25 => 175 | 3 => 3 | 39 => 171 | 0 => 0 | 53 => 22 | 55 => 165 | 4 => 4 | 46 => 197 | 45 => 196 | 50 => 159 | 5 => 5 | 9 => 9 | 66 => 208 | 70 => 212 | 76 => 221 | 77 => 222 | n => n, fun | n => n⟩
theorem laySpan : Go.Proofs.SlLaysF0.n6 Tryz.prog laySpan_ren := {
  mixed := by kernel_rfl
  f6 := ⟨Tryz.f114.name, by decide, Tryz.func114.trans (congrArg some (by kernel_rfl))⟩
  f14 := ⟨Tryz.f126.name, by decide, Tryz.func126.trans (congrArg some (by kernel_rfl))⟩
  f15 := Tryz.func127.trans (congrArg some (by kernel_rfl))
  f20 := ⟨Tryz.f139.name, by decide, Tryz.func139.trans (congrArg some (by kernel_rfl))⟩
  f21 := ⟨Tryz.f140.name, by decide, Tryz.func140.trans (congrArg some (by kernel_rfl))⟩
  f22 := ⟨Tryz.f141.name, by decide, Tryz.func141.trans (congrArg some (by kernel_rfl))⟩
  f23 := ⟨Tryz.f142.name, by decide, Tryz.func142.trans (congrArg some (by kernel_rfl))⟩
  f24 := ⟨Tryz.f143.name, by decide, Tryz.func143.trans (congrArg some (by kernel_rfl))⟩
  f25 := ⟨Tryz.f144.name, by decide, Tryz.func144.trans (congrArg some (by kernel_rfl))⟩
  f26 := ⟨Tryz.f145.name, by decide, Tryz.func145.trans (congrArg some (by kernel_rfl))⟩
  f27 := ⟨Tryz.f146.name, by decide, Tryz.func146.trans (congrArg some (by kernel_rfl))⟩
  f28 := Tryz.func147.trans (congrArg some (by kernel_rfl))
  f29 := Tryz.func148.trans (congrArg some (by kernel_rfl))
  f46 := ⟨Tryz.f152.name, by decide, Tryz.func152.trans (congrArg some (by kernel_rfl))⟩
  f47 := Tryz.func153.trans (congrArg some (by kernel_rfl))
  f48 := Tryz.func154.trans (congrArg some (by kernel_rfl))
  f49 := ⟨Tryz.f155.name, by decide, Tryz.func155.trans (congrArg some (by kernel_rfl))⟩
  f50 := ⟨Tryz.f156.name, by decide, Tryz.func156.trans (congrArg some (by kernel_rfl))⟩
  f57 := ⟨Tryz.f158.name, by decide, Tryz.func158.trans (congrArg some (by kernel_rfl))⟩
  t0 := Tryz.underlying0
  a0 := Tryz.isAgg0
  z0 := Tryz.sizeOf0
  v0 := Tryz.zeroValue0
  t3 := Tryz.underlying3
  a3 := Tryz.isAgg3
  z3 := Tryz.sizeOf3
  v3 := Tryz.zeroValue3
  t4 := Tryz.underlying4
  a4 := Tryz.isAgg4
  z4 := Tryz.sizeOf4
  v4 := Tryz.zeroValue4
  t5 := Tryz.underlying5
  a5 := Tryz.isAgg5
  z5 := Tryz.sizeOf5
  v5 := Tryz.zeroValue5
  t9 := Tryz.underlying9
  a9 := Tryz.isAgg9
  z9 := Tryz.sizeOf9
  v9 := Tryz.zeroValue9
  t22 := Tryz.underlying53
  a22 := Tryz.isAgg53
  z22 := Tryz.sizeOf53
  v22 := Tryz.zeroValue53
  t25 := Tryz.underlying175
  a25 := Tryz.isAgg175
  z25 := Tryz.sizeOf175
  v25 := Tryz.zeroValue175
  t39 := Tryz.underlying171
  a39 := Tryz.isAgg171
  z39 := Tryz.sizeOf171
  v39 := Tryz.zeroValue171
  t45 := Tryz.underlying196
  a45 := Tryz.isAgg196
  z45 := Tryz.sizeOf196
  v45 := Tryz.zeroValue196
  t46 := Tryz.underlying197
  a46 := Tryz.isAgg197
  z46 := Tryz.sizeOf197
  v46 := Tryz.zeroValue197
  t50 := Tryz.underlying159
  a50 := Tryz.isAgg159
  z50 := Tryz.sizeOf159
  v50 := Tryz.zeroValue159
  t53 := Tryz.underlying22
  a53 := Tryz.isAgg22
  z53 := Tryz.sizeOf22
  v53 := Tryz.zeroValue22
  t55 := Tryz.underlying165
  a55 := Tryz.isAgg165
  z55 := Tryz.sizeOf165
  v55 := Tryz.zeroValue165
  t66 := Tryz.underlying208
  a66 := Tryz.isAgg208
  z66 := Tryz.sizeOf208
  v66 := Tryz.zeroValue208
  t70 := Tryz.underlying212
  a70 := Tryz.isAgg212
  z70 := Tryz.sizeOf212
  v70 := Tryz.zeroValue212
  t76 := Tryz.underlying221
  a76 := Tryz.isAgg221
  z76 := Tryz.sizeOf221
  v76 := Tryz.zeroValue221
  t77 := Tryz.underlying222
  a77 := Tryz.isAgg222
  z77 := Tryz.sizeOf222
  v77 := Tryz.zeroValue222 }
end Go.Proofs.YtgalmlelnolodaaGreatDoor
namespace Go.Proofs.YtgalmlelnolodaaGreatDoor
open Go.RowKit
set_option linter.unusedVariables false

abbrev encS (x : Zp) : List Value := [.int .u32 (x.1 : Int), .int .u32 (x.2 : Int)]
abbrev cmpS (x y : Zp) : Int := Go.Lib.compareInt (x.1 : Int) (y.1 : Int)
open Go.Shelf Go.Lib Go.Sort in
theorem ltSp (x y : Zp) : ltOf cmpS x y = decide (x.1 < y.1) := by
  unfold ltOf cmpS Lib.compareInt
  by_cases h1 : (x.1 : Int) < (y.1 : Int)
  · have : x.1 < y.1 := by omega
    simp [h1, this]
  · have : ¬ x.1 < y.1 := by omega
    by_cases h2 : (y.1 : Int) < (x.1 : Int)
    · simp [h1, h2, this]
    · simp [h1, h2, this]
open Go.Shelf Go.Lib Go.Sort in
theorem swoSp : SWO (ltOf cmpS) where
  irrefl x := by rw [ltSp]; simp
  trans x y z h1 h2 := by rw [ltSp] at *; simp at *; omega
  ntrans x y z h1 h2 := by rw [ltSp] at *; simp at *; omega
set_option maxHeartbeats 1000000 in
theorem cmp32_any (a b : Nat) (W : World) : Calls Tryz.prog 104 #[.int .u32 (a : Int), .int .u32 (b : Int)] W fun e w' => e = .returned (.int .i64 (Go.Lib.compareInt (a : Int) (b : Int))) ∧ w' = W := by
  rcases Nat.lt_trichotomy a b with h | h | h
  · have h1 : (a : Int) < (b : Int) := by omega
    have e : Go.Lib.compareInt (a : Int) (b : Int) = -1 := by unfold Go.Lib.compareInt; simp [h1]
    rw [e]
    go_enter Tryz.func104, Tryz.ntmps104
    go_wp2
    go_ret
    exact ⟨rfl, rfl⟩
  · subst h
    have e : Go.Lib.compareInt (a : Int) (a : Int) = 0 := by unfold Go.Lib.compareInt; simp
    rw [e]
    go_enter Tryz.func104, Tryz.ntmps104
    go_wp2
    go_ret
    exact ⟨rfl, rfl⟩
  · have h1 : (b : Int) < (a : Int) := by omega
    have h2 : ¬ (a : Int) < (b : Int) := by omega
    have e : Go.Lib.compareInt (a : Int) (b : Int) = 1 := by unfold Go.Lib.compareInt; simp [h1, h2]
    rw [e]
    go_enter Tryz.func104, Tryz.ntmps104
    go_wp2
    go_ret
    exact ⟨rfl, rfl⟩
open Go.Shelf Go.Lib Go.Sort in
set_option maxHeartbeats 1000000 in
theorem first_any (x y : Zp) (W : World) : Calls Tryz.prog 115 #[.agg #[.int .u32 (x.1 : Int), .int .u32 (x.2 : Int)], .agg #[.int .u32 (y.1 : Int), .int .u32 (y.2 : Int)]] W fun e w' => e = .returned (.int .i64 (cmpS x y)) ∧ ∃ q os', w' = grow (W.drewN q) os' := by
  have hcon := fun W' => cmp32_any x.1 y.1 W'
  change ∀ W', Calls Tryz.prog 104 _ _ _ at hcon
  unfold cmpS
  generalize Lib.compareInt (x.1 : Int) (y.1 : Int) = r at hcon ⊢
  go_enter Tryz.func115, Tryz.ntmps115
  go_wp2_with (go_at_call 104; refine (hcon _).mono ?_; rintro e w' ⟨rfl, rfl⟩)
  go_ret
  exact ⟨rfl, 0, _, by rw [alloc_eq_grow, alloc_eq_grow, grow_grow]; rfl⟩
open Go.Shelf Go.Lib Go.Sort in
theorem grownBy_sortS {w : World} {g n : Nat} {os : Array Obj} (d : Array Zp) : w.grownBy (sortWorldK encS 2 w g 0 n d os) (some g) := by
  unfold sortWorldK putRowK
  refine ⟨rfl, rfl, rfl, by simp, fun k hk hne => ?_⟩
  rw [heap_grow_old _ _ (by simpa using hk)]
  have : g ≠ k := fun e => hne (by rw [e])
  simp [putRow, mapBlock, Sort.ahead, Array.getElem?_modify, this]
open Go.Shelf Go.Lib Go.Sort in
theorem heap_sortS {w : World} {g n : Nat} {os : Array Obj} {cur : Array Value} {t : TypeId} {fr : Nat × Nat} (d : Array Zp) (h : w.heap[g]? = some (.cells cur t fr)) : ∃ cur', (sortWorldK encS 2 w g 0 n d os).heap[g]? = some (.cells cur' t fr) ∧ cur'.size = cur.size := by
  have hlt : g < w.heap.size := lt_of_heap h
  unfold sortWorldK putRowK
  rw [heap_grow_old _ _ (by simpa using hlt)]
  refine ⟨putCells id 0 (flatK encS 2 d) cur, ?_, by simp [putCells]⟩
  simp [putRow, mapBlock, Sort.ahead, Array.getElem?_modify, h, onCells]
open Go.Shelf Go.Lib Go.Sort in
theorem holdsS {w : World} {g : Nat} (rs : List Zp) (hc : ∀ j (h : j < rs.length), w.cell? ⟨g, j * 2, none⟩ = some (.int .u32 (rs[j].1 : Int)) ∧ w.cell? ⟨g, j * 2 + 1, none⟩ = some (.int .u32 (rs[j].2 : Int))) (hf : ∀ t, w.frozen? ⟨g, t, none⟩ = false) : HoldsK encS 2 w g 0 rs.toArray := by
  intro t ht
  rw [size_flatK] at ht
  rw [get_flatK _ _ _ _ ht, Nat.zero_add]
  have ht2 : t / 2 < rs.length := by simp at ht; omega
  obtain ⟨c0, c1⟩ := hc (t / 2) ht2
  have e : (rs.toArray)[t / 2]! = rs[t / 2] := by simp [ht2]
  rw [e]
  refine ⟨?_, hf t⟩
  rcases Nat.mod_two_eq_zero_or_one t with h | h
  · have : t / 2 * 2 = t := by omega
    rw [this] at c0; rw [h, c0]; rfl
  · have : t / 2 * 2 + 1 = t := by omega
    rw [this] at c1; rw [h, c1]; rfl
open Go.Shelf Go.Lib Go.Sort in
theorem sortSpans_any (g cap : Nat) (rs : List Zp) (w : World) (hg : g < w.heap.size) (hlen : rs.length < 4611686018427387904)
    (hc : ∀ j (h : j < rs.length), w.cell? ⟨g, j * 2, none⟩ = some (.int .u32 (rs[j].1 : Int)) ∧ w.cell? ⟨g, j * 2 + 1, none⟩ = some (.int .u32 (rs[j].2 : Int))) (hf : ∀ t, w.frozen? ⟨g, t, none⟩ = false) :
    Calls Tryz.prog 114 #[.slice (some ⟨g, 0, none⟩) rs.length cap, .func (.func 115) #[] #[]] w fun e w' => e = .returned (.tuple #[]) ∧
      ∃ ts : List Zp, ts.Perm rs ∧ ts.Pairwise (fun x y => x.1 ≤ y.1) ∧ (∀ j (h : j < ts.length), w'.cell? ⟨g, j * 2, none⟩ = some (.int .u32 (ts[j].1 : Int)) ∧ w'.cell? ⟨g, j * 2 + 1, none⟩ = some (.int .u32 (ts[j].2 : Int))) ∧ w.grownBy w' (some g) ∧ ∀ cur t fr, w.heap[g]? = some (.cells cur t fr) → ∃ cur', w'.heap[g]? = some (.cells cur' t fr) ∧ cur'.size = cur.size := by
  have eg : ∀ args w, (callFunc 115 args).run Tryz.prog w = .ok (.enter 115 args) w := enters_of Tryz.func115 (by kernel_rfl) rfl
  have hH := holdsS rs hc hf
  have hcon := AnyQ.slices_SortFunc laySpan 2 Tryz.isAgg47 Tryz.sizeOf47 encS (fun _ => rfl) (fun x v hv => by simp [encS] at hv; rcases hv with rfl | rfl <;> rfl) cmpS swoSp 115 #[] g 0 cap rs.toArray w eg (fun _ _ _ _ x y => first_any x y _) hH hg (by simpa using hlen)
  refine hcon.mono ?_
  rintro e w' ⟨rfl, d', n, os, hp, hs, rfl⟩
  have hsz : d'.size = rs.length := by simpa using hp.1
  have hH' := holdsK_sortWorldK_c encS 2 w g 0 rs.toArray d' n os hH hg hp.1
  have hperm : d'.toList.Perm rs := by
    have := hp.2.2
    rw [Array.extract_eq_self_of_le (by simp [hsz]), Array.extract_eq_self_of_le (by simp)] at this
    simpa using this
  have hget : ∀ j (h : j < d'.toList.length), d'[j]! = d'.toList[j] := fun j h => by
    have hj : j < d'.size := by simpa using h
    rw [getElem!_pos d' j hj]; simp
  refine ⟨rfl, d'.toList, hperm, ?_, fun j h => ?_, grownBy_sortS d', fun cur t fr hq => heap_sortS d' hq⟩
  · refine List.pairwise_iff_getElem.2 fun i j hi hj hij => ?_
    have := hs i j (Nat.zero_le _) hij (by simp at hj ⊢; omega)
    rw [ltSp, hget i hi, hget j hj] at this
    exact Nat.not_lt.1 (of_decide_eq_false this)
  · have hj : j < d'.size := by simpa using h
    have c0 := (hH'.cell hj (c := 0) (by omega)).1
    have c1 := (hH'.cell hj (c := 1) (by omega)).1
    rw [hget j h] at c0 c1
    simp only [Nat.zero_add, Nat.add_zero] at c0 c1
    exact ⟨c0, c1⟩
end Go.Proofs.YtgalmlelnolodaaGreatDoor
namespace Go.Proofs.YtgalmlelnolodaaGreatDoor
open Go.RowKit
set_option linter.unusedVariables false

theorem cell_block_lt {w : World} {a : Addr} {v : Value} (h : w.cell? a = some v) : a.block < w.heap.size := by
  rcases Nat.lt_or_ge a.block w.heap.size with hlt | hge
  · exact hlt
  · simp [World.cell?, Array.getElem?_eq_none hge] at h
/-- spans that came in: nil, or in memory -/
def SpIn (w : World) (ad : Option Addr) (l : List Zp) (c : Nat) : Prop := (ad = none ∧ l = [] ∧ c = 0) ∨ ∃ x, ad = some x ∧ ∀ j u, (zpC l)[j]? = some u → w.cell? (x.add j) = some u
theorem zpC_one (l : List Zp) : ∀ u ∈ zpC l, u.oneCell' = true := by
  induction l with
  | nil => intro u hu; cases hu
  | cons s r ih =>
    intro u hu
    simp only [zpC, List.mem_cons] at hu
    rcases hu with rfl | rfl | hu
    · rfl
    · rfl
    · exact ih u hu
set_option maxHeartbeats 800000 in
theorem cloneS_any (ad : Option Addr) (cap : Nat) (l : List Zp) (w : World) (h : SpIn w ad l cap) (hn : l.length ≤ 1000000000) :
    Calls Tryz.prog 112 #[.slice ad l.length cap] w fun e w' => ∃ ad' cap', e = .returned (.slice ad' l.length cap') ∧ w'.ownsRow w.heap.size 47 2 (.slice ad' l.length cap') l.length (zpC l) ∧ Below w.heap.size w w' := by
  have qT : ∀ (w : World) (a : Option Addr) (n c n' c' : Nat), (binOp .eql 53 (.slice a n c) (.slice none n' c')).run Tryz.prog w = .ok (.bool a.isNone) w := fun w a n c n' c' => Lib.run_eql_slice_nil w _ _ a n c n' c' Tryz.underlying53
  rcases h with ⟨rfl, rfl, rfl⟩ | ⟨x, rfl, hx⟩
  · go_enter Tryz.func112, Tryz.ntmps112
    go_wp2
    go_ret
    exact ⟨none, 0, rfl, World.ownsRow_nil _ _ _ _, Below.refl _ _⟩
  · obtain ⟨i0, hi, hz0, hz1, hz2⟩ := info_parts infoSpan
    have HC0 : Hid ((w.alloc (.cells #[] 47)).ownsRow w.heap.size 47 2 (.slice (some ⟨w.heap.size, 0, none⟩) 0 0) 0 []) := World.ownsRow_made w #[] 0 (Nat.le_refl _) (by decide) rfl
    have HC1 : Hid (∀ j u, (zpC l)[j]? = some u → (w.alloc (.cells #[] 47)).cell? (x.add j) = some u) := fun j u hj => by
      have hc := hx j u hj
      exact cell_below ((Below.refl _ w).alloc (Nat.le_refl _) _) hc (cell_block_lt hc)
    have hlen := zpC_len l
    have h1 := zpC_one l
    clear hx
    generalize zpC l = xs at *
    generalize l.length = n at *
    go_enter Tryz.func112, Tryz.ntmps112
    go_wp2_with (at_builtin; refine wpList_append_own _ rfl (.tmp 5) (.tmp 6) 53 rfl w.heap.size 47 i0 _ 2 8 Tryz.underlying53 hi hz0 hz1 hz2 rfl (by decide) _ 0 [] rfl HC0.out x n cap xs rfl hlen HC1.out h1 (by unfold maxLen; omega) (by omega) (by simp) ?_)
    intro v' w1 hown hgrow _
    obtain ⟨ad', cap', rfl⟩ := owns_shape hown
    have HO := hid hown
    clear h1 hi hz0 hz1 hz2 qT hown
    go_wp2
    go_ret
    exact ⟨_, _, rfl, HO.out, ((Below.refl _ _).alloc (Nat.le_refl _) _).grown hgrow (by simp) (by intro k hk; simp [Value.ownBlock] at hk; omega)⟩
theorem sortSNone_any (ad : Option Addr) (cap : Nat) (fv : Value) (w : World) : Calls Tryz.prog 114 #[.slice ad 0 cap, fv] w fun e w' => e = .returned (.tuple #[]) ∧ w' = w := by
  have := AnyF.slices_SortFunc_none laySpan ad cap fv w
  exact this
end Go.Proofs.YtgalmlelnolodaaGreatDoor
namespace Go.Proofs.YtgalmlelnolodaaGreatDoor
open Go.RowKit
set_option linter.unusedVariables false

theorem own_again {w w' : World} {g base n cap : Nat} {e : TypeId} {xs ys : List Value} (h : w.ownsRow base e 2 (.slice (some ⟨g, 0, none⟩) n cap) n xs) (hh : ∀ cur t fr, w.heap[g]? = some (.cells cur t fr) → ∃ cur', w'.heap[g]? = some (.cells cur' t fr) ∧ cur'.size = cur.size) (hl : ys.length = n * 2) (hc : ∀ j u, ys[j]? = some u → w'.cell? ⟨g, j, none⟩ = some u) : w'.ownsRow base e 2 (.slice (some ⟨g, 0, none⟩) n cap) n ys := by
  refine ⟨hl, ?_⟩
  rcases h.2 with ⟨h0, _⟩ | ⟨g2, cap2, cur, hv, hb, hg, h1, h2, h3, h4⟩
  · cases h0
  · cases hv
    obtain ⟨cur', hg', hs⟩ := hh cur e (0, 0) hg
    refine Or.inr ⟨g, cap, cur', rfl, hb, hg', h1, h2, by rw [hs]; exact h3, ?_⟩
    apply List.ext_getElem?
    intro j
    by_cases hj : j < n * 2
    · rw [List.getElem?_take, if_pos hj]
      obtain ⟨u, hu⟩ : ∃ u, ys[j]? = some u := ⟨_, List.getElem?_eq_getElem (by omega)⟩
      have := hc j u hu
      rw [hu, ← this]
      simp [World.cell?, hg']
    · rw [List.getElem?_eq_none (by simp; omega), List.getElem?_eq_none (by omega)]
theorem zpC_cells {w : World} {g : Nat} {ts : List Zp} (h : ∀ j (h : j < ts.length), w.cell? ⟨g, j * 2, none⟩ = some (.int .u32 (ts[j].1 : Int)) ∧ w.cell? ⟨g, j * 2 + 1, none⟩ = some (.int .u32 (ts[j].2 : Int))) : ∀ j u, (zpC ts)[j]? = some u → w.cell? ⟨g, j, none⟩ = some u := by
  intro j u hu
  have hl : j < ts.length * 2 := by
    rcases Nat.lt_or_ge j (ts.length * 2) with h1 | h1
    · exact h1
    · rw [List.getElem?_eq_none (by rw [zpC_len]; exact h1)] at hu; cases hu
  have hk : j / 2 < ts.length := by omega
  obtain ⟨c0, c1⟩ := h (j / 2) hk
  obtain ⟨z0, z1⟩ := zpC_at hk
  rcases Nat.mod_two_eq_zero_or_one j with hm | hm
  · have e : j / 2 * 2 = j := by omega
    rw [e] at c0 z0
    rw [z0] at hu; cases hu; exact c0
  · have e : j / 2 * 2 + 1 = j := by omega
    rw [e] at c1 z1
    rw [z1] at hu; cases hu; exact c1
set_option maxHeartbeats 800000 in
theorem indexNone_any (ad : Option Addr) (cap : Nat) (w : World) :
    Calls Tryz.prog 125 #[.slice ad 0 cap, .func (.func 113) #[] #[]] w fun e w' => e = .returned (.int .i64 (-1)) ∧ w' = w := by
  go_enter Tryz.func125, Tryz.ntmps125
  go_wp2_with fail
  go_loopw [8] (fun i wr => i = .int .i64 0 ∧ wr = w) (fun _ _ => 0)
  case atStart => exact ⟨rfl, rfl⟩
  case round =>
    obtain ⟨rfl, hw⟩ := hrel
    subst hw
    go_wp2
    go_ret
    exact ⟨rfl, rfl⟩
set_option maxHeartbeats 800000 in
theorem deleteNone_any (ad : Option Addr) (cap : Nat) (w : World) :
    Calls Tryz.prog 111 #[.slice ad 0 cap, .func (.func 113) #[] #[]] w fun e w' => e = .returned (.slice ad 0 cap) ∧ w' = w := by
  go_enter Tryz.func111, Tryz.ntmps111
  go_wp2_with fail
  refine (indexNone_any ad cap _).mono ?_
  rintro e w1 ⟨rfl, hw⟩
  subst hw
  go_wp2
  go_ret
  exact ⟨rfl, rfl⟩
set_option maxHeartbeats 1600000 in
theorem rising_any (ad : Option Addr) (cap : Nat) (l : List Zp) (w : World) (h : SpIn w ad l cap) (hn : l.length ≤ 1000000000) :
    Calls Tryz.prog 98 #[.slice ad l.length cap] w fun e w' => ∃ ad2 cap2 r, e = .returned (.slice ad2 r.length cap2) ∧ Rise l r ∧ w'.ownsRow w.heap.size 47 2 (.slice ad2 r.length cap2) r.length (zpC r) ∧ Below w.heap.size w w' := by
  have HC := hid (cloneS_any ad cap l w h hn)
  clear h
  go_enter Tryz.func98, Tryz.ntmps98
  go_wp2_with fail
  refine HC.out.mono ?_
  rintro e w1 ⟨ad1, cap1, rfl, ho1, hb1⟩
  have B1 := hid hb1
  have O1 := hid ho1
  clear hb1 ho1 HC
  by_cases h0 : l.length = 0
  · have e0 : l = [] := List.length_eq_zero_iff.1 h0
    subst e0
    go_wp2_with fail
    refine (deleteNone_any ad1 cap1 _).mono ?_
    rintro e w2 ⟨rfl, hw⟩
    subst hw
    go_wp2_with fail
    refine (sortSNone_any ad1 cap1 _ _).mono ?_
    rintro e w3 ⟨rfl, hw⟩
    subst hw
    go_wp2
    go_ret
    exact ⟨ad1, cap1, [], rfl, ⟨List.Perm.refl _, List.Pairwise.nil⟩, O1.out, B1.out⟩
  · obtain ⟨g, tl, rfl, hbg, hk, hc, hx, ht⟩ := blk_of O1.out (by omega) rfl
    have HK := hid hk
    clear hk
    go_wp2_with fail
    refine (delete_any g w.heap.size cap1 l tl _ HK.out hbg hn hc hx ht).mono ?_
    rintro e w2 ⟨rfl, ho2, hb2⟩
    have O2 := hid ho2
    have B2 := hid (B1.out.trans (hb2.mono hbg))
    obtain ⟨f, hf⟩ : ∃ f, l.filter neS = f := ⟨_, rfl⟩
    have HF := hid hf
    have hfl : f.length ≤ 1000000000 := by rw [← hf]; exact Nat.le_trans (List.length_filter_le _ _) hn
    rw [hf] at O2 ⊢
    clear ho2 hb2 hf O1 B1 HK
    by_cases hf0 : f.length = 0
    · have e0 : f = [] := List.length_eq_zero_iff.1 hf0
      subst e0
      go_wp2_with fail
      refine (sortSNone_any (some ⟨g, 0, none⟩) cap1 _ _).mono ?_
      rintro e w3 ⟨rfl, hw⟩
      subst hw
      go_wp2
      go_ret
      exact ⟨some ⟨g, 0, none⟩, cap1, [], rfl, ⟨by rw [HF.out], List.Pairwise.nil⟩, O2.out, B2.out⟩
    · obtain ⟨g2, tl2, hg2, _, hk2, _, _, _⟩ := blk_of O2.out (by omega) rfl
      cases hg2
      have HS := hid (sortSpans_any g cap1 f w2 hk2.lt (by omega) (fun j hj => hk2.cell hj) (fun t => owns_froz O2.out))
      clear hk2
      obtain ⟨n, hne⟩ : ∃ n, f.length = n := ⟨_, rfl⟩
      have HN := hid hne
      rw [hne] at HS O2 ⊢
      clear hne
      go_wp2_with fail
      refine HS.out.mono ?_
      rintro e w3 ⟨rfl, ts, hperm, hsrt, hcs, hgr, hhp⟩
      have hln : ts.length = n := by rw [hperm.length_eq]; exact HN.out
      have O3 := hid (own_again (ys := zpC ts) O2.out hhp (by rw [zpC_len, hln]) (zpC_cells hcs))
      have B3 := hid (B2.out.grown hgr B2.out.size (fun k hk => by cases hk; exact hbg))
      have RI := hid (show Rise l ts from ⟨by rw [HF.out]; exact hperm, hsrt⟩)
      clear hperm hsrt hcs hgr hhp
      go_wp2
      go_ret
      exact ⟨some ⟨g, 0, none⟩, cap1, ts, by rw [hln]; rfl, RI.out, by rw [hln]; exact O3.out, B3.out⟩
end Go.Proofs.YtgalmlelnolodaaGreatDoor
