/- Package tables' empty spans: rising's first function, and slices.IndexFunc with it, over this seat's translation. Conditions: at most 10^9 spans. slices.DeleteFunc of a call's own spans, with the function that finds the empty ones, over this seat's translation. Conditions: at most 10^9 spans, which fit 32 bits. slices.DeleteFunc of a call's own spans, with the function that finds the empty ones, over this seat's translation. Conditions: at most 10^9 spans, which fit 32 bits. -/
import Derived.Test.YtgalmlelnolodaaGreatDoorTbF
import Derived.Test.YtgalmlelnolodaaGreatDoorIv
import Derived.Lib.SliceRun
import Derived.Deep.WholeRow
namespace Go.Proofs.YtgalmlelnolodaaGreatDoor
open Go.RowKit
set_option linter.unusedVariables false

theorem retNe {a b : Bool} (h : a = b) : Value.bool a = Value.bool b := by rw [h]
set_option maxHeartbeats 800000 in
theorem empty_any (a b : Nat) (w : World) :
    Calls Tryz.prog 113 #[.agg #[.int .u32 (a : Int), .int .u32 (b : Int)]] w fun e w' => e = .returned (.bool (!neS (a, b))) ∧ Below w.heap.size w w' := by
  by_cases h : a ≤ b
  · have hi : ¬ (b : Int) < (a : Int) := by omega
    rw [show neS (a, b) = true from decide_eq_true h]
    go_enter Tryz.func113, Tryz.ntmps113
    go_wp2
    go_ret
    exact ⟨rfl, (Below.refl _ _).alloc (Nat.le_refl _) _⟩
  · have hi : (b : Int) < (a : Int) := by omega
    rw [show neS (a, b) = false from decide_eq_false h]
    go_enter Tryz.func113, Tryz.ntmps113
    go_wp2
    go_ret
    exact ⟨rfl, (Below.refl _ _).alloc (Nat.le_refl _) _⟩

theorem Blk.below {w w' : World} {g : Nat} {c : List Zp} {tl : List Value} (h : Blk w g c tl) (hb : Below w.heap.size w w') : Blk w' g c tl := by
  unfold Blk at h ⊢
  rw [hb.block g (lt_of_heap h)]; exact h
/-- the first of these spans that is empty, or none -/
def FirstE (c : List Zp) (e : Ending) : Prop := (∃ k, ∃ h : k < c.length, (∀ j (hj : j < k), neS (c[j]'(by omega)) = true) ∧ neS c[k] = false ∧ e = .returned (.int .i64 (k : Int))) ∨ ((∀ j (hj : j < c.length), neS c[j] = true) ∧ e = .returned (.int .i64 (-1)))
set_option maxHeartbeats 1600000 in
theorem index_any (g cap : Nat) (c : List Zp) (tl : List Value) (w : World) (hk : Blk w g c tl) (hn : c.length ≤ 1000000000) :
    Calls Tryz.prog 125 #[.slice (some ⟨g, 0, none⟩) c.length cap, .func (.func 113) #[] #[]] w fun e w' => FirstE c e ∧ Below w.heap.size w w' := by
  have HK := hid hk
  clear hk
  go_enter Tryz.func125, Tryz.ntmps125
  go_wp2_with fail
  go_loopw [8] (fun i wr => ∃ k : Nat, k ≤ c.length ∧ i = .int .i64 (k : Int) ∧ (∀ j (hj : j < c.length), j < k → neS c[j] = true) ∧ Below w.heap.size w wr) (fun i _ => c.length - (intOf i).toNat)
  case atStart => exact ⟨0, Nat.zero_le _, rfl, fun j _ h => absurd h (Nat.not_lt_zero j), Below.refl _ _⟩
  case round =>
    obtain ⟨k, hk, rfl, hall, hB⟩ := hrel
    have HB := hid hB
    have HA := hid hall
    by_cases hlt : k < c.length
    · obtain ⟨cx, cy⟩ := (HK.out.below hB).cell hlt
      have HS := hid (fun (e : neS c[k] = true) => show ∀ j (hj : j < c.length), j < k + 1 → neS c[j] = true from fun j hj h => by
        by_cases ej : j = k
        · subst ej; exact e
        · exact HA.out j hj (by omega))
      have HF := hid (fun (e : neS c[k] = false) => show FirstE c (.returned (.int .i64 (k : Int))) from Or.inl ⟨k, hlt, fun j hj => HA.out j (by omega) hj, e, rfl⟩)
      obtain ⟨p, hp⟩ : ∃ p, c[k] = p := ⟨_, rfl⟩
      rw [hp] at cx cy HS HF
      obtain ⟨a, b⟩ := p
      simp only at cx cy
      clear hB hall hp
      go_wp2_with fail
      refine (empty_any a b _).mono ?_
      rintro e w2 ⟨rfl, hB2⟩
      have B2 := hid (HB.out.trans (hB2.mono HB.out.size))
      clear hB2 cx cy
      cases hne : neS (a, b) with
      | true =>
        have HS2 := hid (HS.out hne)
        go_wp2
        go_roundw
        case rel => exact ⟨k + 1, by omega, by go_num, HS2.out, B2.out⟩
        case measure => simp [intOf]; omega
      | false =>
        have HF2 := hid (HF.out hne)
        go_wp2
        go_ret
        exact ⟨HF2.out, B2.out⟩
    · have HF := hid (show FirstE c (.returned (.int .i64 (-1))) from Or.inr ⟨fun j hj => HA.out j hj (by omega), rfl⟩)
      clear hall
      go_wp2
      go_ret
      exact ⟨HF.out, HB.out⟩
end Go.Proofs.YtgalmlelnolodaaGreatDoor
namespace Go.Proofs.YtgalmlelnolodaaGreatDoor
open Go.RowKit
set_option linter.unusedVariables false

theorem setRow_below {w : World} {g : Nat} {cs : Array Value} : Below g w (w.setRow g cs) := by
  refine ⟨rfl, rfl, rfl, by simp [World.setRow], fun k hk => ?_⟩
  unfold World.setRow
  rw [Array.getElem?_modify, if_neg (by omega)]
theorem clear_own {w : World} {g base cap : Nat} {c : List Zp} {tl : List Value} {i m cc : Nat} (h : Blk w g c tl) (hb : base ≤ g) (hi : i + m = c.length) (hm : 0 < m) (hc : c.length ≤ cap) (hx : cap ≤ maxLen) (ht : c.length * 2 + tl.length = cap * 2) :
    ∃ w', (∀ ty, (Builtin.clear_ #[53] ty #[.slice (some ⟨g, i * 2, none⟩) m cc]).run Tryz.prog w = .ok (.tuple #[]) w') ∧ w'.ownsRow base 47 2 (.slice (some ⟨g, 0, none⟩) i cap) i (zpC (c.take i)) ∧ Below g w w' := by
  obtain ⟨vs, hvs⟩ : ∃ vs, (Builtin.zeroCells #[Value.int .u32 0, .int .u32 0] m).toList = vs := ⟨_, rfl⟩
  have hl : vs.length = m * 2 := by rw [← hvs]; have := size_zeroCells #[Value.int .u32 0, .int .u32 0] m; simpa using this
  have h1 : ∀ v ∈ vs, v.oneCell' = true := by
    intro v hv
    rw [← hvs] at hv
    simp [Builtin.zeroCells] at hv
    obtain ⟨k, _, rfl⟩ := hv
    have hk : k % 2 = 0 ∨ k % 2 = 1 := by omega
    rcases hk with hk | hk <;> rw [hk] <;> rfl
  have hz := zpC_len c
  have e : zpC c = zpC (c.take i) ++ zpC (c.drop i) := by rw [← zpC_app, List.take_append_drop]
  have e2 : (zpC (c.take i)).length = i * 2 := by rw [zpC_len, List.length_take]; omega
  have hcs : (zpC c ++ tl).take (i * 2) = zpC (c.take i) := by rw [e, List.append_assoc, ← e2, List.take_left]
  have hst := run_storeCells_at Tryz.prog g (i * 2) 47 vs 0 _ w h (by simp; omega) h1
  refine ⟨_, fun ty => ?_, ?_, setRow_below (cs := ((zpC c ++ tl).take (i * 2) ++ vs ++ (zpC c ++ tl).drop (i * 2 + vs.length)).toArray)⟩
  · have hm0 : m ≠ 0 := by omega
    simp only [Builtin.clear_]
    simp [run_underlying Tryz.underlying53, Result.andThen, hm0, Value.cells, hvs]
    simp at hst
    rw [hst]
  · refine ⟨by rw [e2], Or.inr ⟨g, cap, _, rfl, hb, setRow_heap w g _ _ _ _ h, by omega, hx, ?_, ?_⟩⟩
    · simp; omega
    · rw [List.toList_toArray, hcs, List.append_assoc, ← e2, List.take_left]
end Go.Proofs.YtgalmlelnolodaaGreatDoor
namespace Go.Proofs.YtgalmlelnolodaaGreatDoor
open Go.RowKit
set_option linter.unusedVariables false

/-- a row of spans sliced from its element i on, and up to it -/
theorem span_from (g i n cap : Nat) (h : i ≤ n) (hc : i < cap) (W : World) : (Instr.sliceAt 53 (.slice (some ⟨g, 0, none⟩) n cap) (some (.int .i64 (i : Int))) none none).run Tryz.prog W = .ok (.slice (some ⟨g, i * 2, none⟩) (n - i) (cap - i)) W := by
  have he : Tryz.prog.elem 53 = 47 := by kernel_rfl
  have hu : Tryz.prog.underlying 53 = some (.slice (Tryz.prog.elem 53)) := by rw [he]; exact Tryz.underlying53
  rw [run_sliceAt_slice (h := hu), run_slice_l (ht := hu) (len := n) (kl := .i64) (l := (i : Int)) (h0 := by omega) (h1 := by omega), he, Tryz.sizeOf47 W]
  simp only [Result.andThen, sliced, Int.toNat_natCast]
  rw [if_neg (by omega)]
  simp [Addr.add]
  intro e; simp [e]
theorem span_upto (g i n cap : Nat) (h : i ≤ cap) (W : World) : (Instr.sliceAt 53 (.slice (some ⟨g, 0, none⟩) n cap) none (some (.int .i64 (i : Int))) none).run Tryz.prog W = .ok (.slice (some ⟨g, 0, none⟩) i cap) W := by
  have he : Tryz.prog.elem 53 = 47 := by kernel_rfl
  have hu : Tryz.prog.underlying 53 = some (.slice (Tryz.prog.elem 53)) := by rw [he]; exact Tryz.underlying53
  rw [run_sliceAt_slice (h := hu), run_slice_h (ht := hu) (cap := cap) (kh := .i64) (h := (i : Int)) (h0 := by omega) (h2 := by omega), he, Tryz.sizeOf47 W]
  simp [Result.andThen, sliced, Addr.add]
set_option maxHeartbeats 3200000 in
set_option maxRecDepth 8000 in
theorem delete_any (g base cap : Nat) (c : List Zp) (tl : List Value) (w : World) (hk : Blk w g c tl) (hb : base ≤ g) (hn : c.length ≤ 1000000000) (hc : c.length ≤ cap) (hx : cap ≤ maxLen) (ht : c.length * 2 + tl.length = cap * 2) :
    Calls Tryz.prog 111 #[.slice (some ⟨g, 0, none⟩) c.length cap, .func (.func 113) #[] #[]] w fun e w' => e = .returned (.slice (some ⟨g, 0, none⟩) (c.filter neS).length cap) ∧ w'.ownsRow base 47 2 (.slice (some ⟨g, 0, none⟩) (c.filter neS).length cap) (c.filter neS).length (zpC (c.filter neS)) ∧ Below g w w' := by
  have HK := hid hk
  clear hk
  go_enter Tryz.func111, Tryz.ntmps111
  go_wp2_with fail
  refine (index_any g cap c tl _ HK.out hn).mono ?_
  rintro e w1 ⟨hf, hB⟩
  have B1 := hid hB
  rcases hf with ⟨k, hkl, h1, h2, rfl⟩ | ⟨h1, rfl⟩
  · have D0 := hid (Dst.start hkl h1 h2)
    have K1 := hid (HK.out.below hB)
    have G1 := hid (hB.mono (Nat.le_of_lt HK.out.lt))
    have hk1 : ¬ ((k : Int) = -1) := by omega
    have hwk : IntKind.i64.wrap ((k : Int) + 1) = (k : Int) + 1 := by rw [IntKind.wrap_i64]; omega
    clear hB h1 h2
    go_wp2_with fail
    go_loopw [5, 6] (fun ci cj wr => ∃ (i j : Nat) (cc : List Zp), ci = .int .i64 (i : Int) ∧ cj = .int .i64 (j : Int) ∧ Dst neS c cc i j ∧ Blk wr g cc tl ∧ Below g w wr) (fun _ cj _ => c.length - (intOf cj).toNat)
    case atStart => exact ⟨k, k + 1, c, rfl, by go_num, D0.out, K1.out, G1.out⟩
    case round =>
      obtain ⟨i, j, cc, rfl, rfl, hd, hk, hB⟩ := hrel
      have HD := hid hd
      have HKr := hid hk
      have HB := hid hB
      by_cases hlt : j < c.length
      · have hjc : j < cc.length := by rw [hd.len]; exact hlt
        have hic : i < cc.length := Nat.lt_trans hd.hij hjc
        have hicl : i < c.length := Nat.lt_trans hd.hij hlt
        obtain ⟨cx, cy⟩ := hk.cell hjc
        have hg := hd.get hlt
        rw [List.getElem?_eq_getElem hjc] at hg
        have hgc : cc[j] = c[j] := Option.some.inj hg
        have HS := hid (fun e => hd.skip hlt e)
        have HP := hid (fun e => hd.put hlt e)
        rw [hgc] at cx cy
        obtain ⟨p, hp⟩ : ∃ p, c[j] = p := ⟨_, rfl⟩
        rw [hp] at cx cy HS HP
        obtain ⟨a, b⟩ := p
        simp only at cx cy
        clear hd hk hB hg hgc hp
        go_wp2_with fail
        refine (empty_any a b _).mono ?_
        rintro e w2 ⟨rfl, hB2⟩
        have B2 := hid (show Below wr.heap.size wr w2 from ((Below.refl wr.heap.size wr).alloc (Nat.le_refl _) _).trans (hB2.mono (by simp)))
        have hz := (hB2.block wr.heap.size (by simp)).trans (heap_alloc_at wr (.cells #[.int .u32 (a : Int), .int .u32 (b : Int)] 47))
        have z0 : w2.cell? ⟨wr.heap.size, 0, none⟩ = some (.int .u32 (a : Int)) := cell_of_heap hz rfl
        have z1 : w2.cell? ⟨wr.heap.size, 1, none⟩ = some (.int .u32 (b : Int)) := cell_of_heap hz rfl
        have K2 := hid (HKr.out.below B2.out)
        have G2 := hid (HB.out.trans (B2.out.mono (Nat.le_of_lt HKr.out.lt)))
        have hst := run_storeAt_mid (P := Tryz.prog) w2 g (i * 2) 47 #[.int .u32 (a : Int), .int .u32 (b : Int)] (K2.out.there hic) (by kernel_rfl) (by simp [Value.oneCell'])
        clear hz hB2 cx cy
        have hwi : IntKind.i64.wrap ((i : Int) + 1) = (i : Int) + 1 := by rw [IntKind.wrap_i64]; have := HD.out.hij; omega
        cases hne : neS (a, b) with
        | false =>
          have HS2 := hid (HS.out hne)
          go_wp2
          go_roundw
          case rel => exact ⟨_, _, _, _, _, _, _, _, _, _, _, _, _, _, _, _, _, _, _, _, _, _, _, ⟨i, j + 1, cc, rfl, by go_num, HS2.out, K2.out, G2.out⟩, rfl⟩
          case measure => simp [intOf]; omega
        | true =>
          have HP2 := hid (HP.out hne)
          have K3 := hid (K2.out.put hic (a, b))
          have G3 := hid (setCells_below (o := i * 2) (vs := [.int .u32 (a : Int), .int .u32 (b : Int)]) G2.out (Nat.le_refl g))
          go_wp2_with (refine wpList_store_mid rfl 47 (.tmp 33) (.tmp 32) rfl g (i * 2) #[.int .u32 (a : Int), .int .u32 (b : Int)] rfl rfl (K2.out.there hic) (by kernel_rfl) (by simp [Value.oneCell']) ?_)
          go_roundw
          case rel => exact ⟨_, _, _, _, _, _, _, _, _, _, _, _, _, _, _, _, _, _, _, _, _, _, _, ⟨i + 1, j + 1, cc.set i (a, b), by go_num, by go_num, HP2.out, K3.out, G3.out⟩, rfl⟩
          case measure => simp [intOf]; omega
      · have ej : j = c.length := by have := hd.hj; omega
        have hd2 : Dst neS c cc i c.length := by rw [← ej]; exact hd
        obtain ⟨e1, e2, e3⟩ := hd2.done
        have hil : i < c.length := hd2.hij
        have hcl := hd2.len
        obtain ⟨w9, hcr, ho9, hb9⟩ := clear_own (i := i) (m := c.length - i) (cc := cap - i) hk hb (by omega) (by omega) (by rw [hcl]; exact hc) hx (by rw [hcl]; exact ht)
        have hs1 := span_from g i c.length cap (by omega) (by omega)
        have hs2 := span_upto g i c.length cap (by omega)
        rw [e1] at ho9
        have O9 := hid ho9
        have E3 := hid e3
        have G9 := hid (hB.trans hb9)
        clear hd hd2 hk hB e1 e2 e3 ho9 hb9
        go_wp2
        go_ret
        rw [E3.out]
        exact ⟨rfl, O9.out, G9.out⟩
  · have e : c.filter neS = c := keep_all h1
    have G1 := hid (hB.mono (Nat.le_of_lt HK.out.lt))
    have K1 := hid (HK.out.below hB)
    have O1 := hid (K1.out.own hb (Nat.le_refl _) hc hx ht)
    clear hB h1
    go_wp2
    go_ret
    rw [e]
    refine ⟨rfl, ?_, G1.out⟩
    have := O1.out
    rwa [List.take_length] at this
end Go.Proofs.YtgalmlelnolodaaGreatDoor
