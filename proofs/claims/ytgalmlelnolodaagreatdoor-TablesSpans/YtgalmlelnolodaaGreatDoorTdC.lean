/- slices.DeleteFunc and slices.Clone at a call's own decompositions, over this seat's translation. Conditions: at most 10^9 lines. -/
import Derived.Test.YtgalmlelnolodaaGreatDoorTdB
namespace Go.Proofs.YtgalmlelnolodaaGreatDoor
open Go.RowKit
set_option linter.unusedVariables false

theorem setRow_belowD {w : World} {g : Nat} {cs : Array Value} : Below g w (w.setRow g cs) := by
  refine ⟨rfl, rfl, rfl, by simp [World.setRow], fun k hk => ?_⟩
  unfold World.setRow
  rw [Array.getElem?_modify, if_neg (by omega)]
theorem clear_ownD {w : World} {g base cap : Nat} {c : List Dq} {tl : List Value} {i m cc : Nat} (h : BlkD w g c tl) (hb : base ≤ g) (hi : i + m = c.length) (hm : 0 < m) (hc : c.length ≤ cap) (hx : cap ≤ maxLen) (ht : c.length * 4 + tl.length = cap * 4) :
    ∃ w', (∀ ty, (Builtin.clear_ #[26] ty #[.slice (some ⟨g, i * 4, none⟩) m cc]).run Tryz.prog w = .ok (.tuple #[]) w') ∧ w'.ownsRow base 64 4 (.slice (some ⟨g, 0, none⟩) i cap) i (dqC (c.take i)) ∧ Below g w w' := by
  obtain ⟨vs, hvs⟩ : ∃ vs, (Builtin.zeroCells #[Value.int .u32 0, .slice none 0 0, .bool false, .bool false] m).toList = vs := ⟨_, rfl⟩
  have hl : vs.length = m * 4 := by rw [← hvs]; have := size_zeroCells #[Value.int .u32 0, .slice none 0 0, .bool false, .bool false] m; simpa using this
  have h1 : ∀ v ∈ vs, v.oneCell' = true := by
    intro v hv
    rw [← hvs] at hv
    simp [Builtin.zeroCells] at hv
    obtain ⟨k, _, rfl⟩ := hv
    have hk : k % 4 = 0 ∨ k % 4 = 1 ∨ k % 4 = 2 ∨ k % 4 = 3 := by omega
    rcases hk with hk | hk | hk | hk <;> rw [hk] <;> rfl
  have hz := dqC_len c
  have e : dqC c = dqC (c.take i) ++ dqC (c.drop i) := by rw [← dqC_app, List.take_append_drop]
  have e2 : (dqC (c.take i)).length = i * 4 := by rw [dqC_len, List.length_take]; omega
  have hcs : (dqC c ++ tl).take (i * 4) = dqC (c.take i) := by rw [e, List.append_assoc, ← e2, List.take_left]
  have hst := run_storeCells_at Tryz.prog g (i * 4) 64 vs 0 _ w h (by simp; omega) h1
  refine ⟨_, fun ty => ?_, ?_, setRow_belowD (cs := ((dqC c ++ tl).take (i * 4) ++ vs ++ (dqC c ++ tl).drop (i * 4 + vs.length)).toArray)⟩
  · have hm0 : m ≠ 0 := by omega
    simp only [Builtin.clear_]
    simp [run_underlying Tryz.underlying26, Result.andThen, hm0, Value.cells, hvs]
    simp at hst
    rw [hst]
  · refine ⟨by rw [e2], Or.inr ⟨g, cap, _, rfl, hb, setRow_heap w g _ _ _ _ h, by omega, hx, ?_, ?_⟩⟩
    · simp; omega
    · rw [List.toList_toArray, hcs, List.append_assoc, ← e2, List.take_left]
theorem decomp_from (g i n cap : Nat) (h : i ≤ n) (hc : i < cap) (W : World) : (Instr.sliceAt 26 (.slice (some ⟨g, 0, none⟩) n cap) (some (.int .i64 (i : Int))) none none).run Tryz.prog W = .ok (.slice (some ⟨g, i * 4, none⟩) (n - i) (cap - i)) W := by
  have he : Tryz.prog.elem 26 = 64 := by kernel_rfl
  have hu : Tryz.prog.underlying 26 = some (.slice (Tryz.prog.elem 26)) := by rw [he]; exact Tryz.underlying26
  rw [run_sliceAt_slice (h := hu), run_slice_l (ht := hu) (len := n) (kl := .i64) (l := (i : Int)) (h0 := by omega) (h1 := by omega), he, Tryz.sizeOf64 W]
  simp only [Result.andThen, sliced, Int.toNat_natCast]
  rw [if_neg (by omega)]
  simp [Addr.add]
  intro e; simp [e]
theorem decomp_upto (g i n cap : Nat) (h : i ≤ cap) (W : World) : (Instr.sliceAt 26 (.slice (some ⟨g, 0, none⟩) n cap) none (some (.int .i64 (i : Int))) none).run Tryz.prog W = .ok (.slice (some ⟨g, 0, none⟩) i cap) W := by
  have he : Tryz.prog.elem 26 = 64 := by kernel_rfl
  have hu : Tryz.prog.underlying 26 = some (.slice (Tryz.prog.elem 26)) := by rw [he]; exact Tryz.underlying26
  rw [run_sliceAt_slice (h := hu), run_slice_h (ht := hu) (cap := cap) (kh := .i64) (h := (i : Int)) (h0 := by omega) (h2 := by omega), he, Tryz.sizeOf64 W]
  simp [Result.andThen, sliced, Addr.add]
set_option maxHeartbeats 6400000 in
set_option maxRecDepth 8000 in
theorem deleteD_any (g base cap pb : Nat) (cp : Bool) (c : List Dq) (tl : List Value) (w : World) (hk : BlkD w g c tl) (hb : base ≤ g) (hn : c.length ≤ 1000000000) (hc : c.length ≤ cap) (hx : cap ≤ maxLen) (ht : c.length * 4 + tl.length = cap * 4) (hp : w.heap[pb]? = some (.cells #[.bool cp] 4 (0, 0))) (hpg : pb < g) :
    Calls Tryz.prog 80 #[.slice (some ⟨g, 0, none⟩) c.length cap, .func (.func 82) #[] #[.pointer (some ⟨pb, 0, none⟩)]] w fun e w' => e = .returned (.slice (some ⟨g, 0, none⟩) (c.filter (okD cp)).length cap) ∧ w'.ownsRow base 64 4 (.slice (some ⟨g, 0, none⟩) (c.filter (okD cp)).length cap) (c.filter (okD cp)).length (dqC (c.filter (okD cp))) ∧ Below g w w' := by
  have HK := hid hk
  have HP := hid hp
  have HPG := hid hpg
  clear hk hp hpg
  go_enter Tryz.func80, Tryz.ntmps80
  go_wp2_with fail
  refine (indexD_any g cap pb cp c tl _ HK.out hn HP.out).mono ?_
  rintro e w1 ⟨hf, hB⟩
  have B1 := hid hB
  rcases hf with ⟨k, hkl, h1, h2, rfl⟩ | ⟨h1, rfl⟩
  · have D0 := hid (DstG.start hkl h1 h2)
    have K1 := hid (HK.out.below hB)
    have G1 := hid (hB.mono (Nat.le_of_lt HK.out.lt))
    have hk1 : ¬ ((k : Int) = -1) := by omega
    have hwk : IntKind.i64.wrap ((k : Int) + 1) = (k : Int) + 1 := by rw [IntKind.wrap_i64]; omega
    clear hB h1 h2
    go_wp2_with fail
    go_loopw [5, 6] (fun ci cj wr => ∃ (i j : Nat) (cc : List Dq), ci = .int .i64 (i : Int) ∧ cj = .int .i64 (j : Int) ∧ DstG (okD cp) c cc i j ∧ BlkD wr g cc tl ∧ Below g w wr) (fun _ cj _ => c.length - (intOf cj).toNat)
    case atStart => exact ⟨k, k + 1, c, rfl, by go_num, D0.out, K1.out, G1.out⟩
    case round =>
      obtain ⟨i, j, cc, rfl, rfl, hd, hk, hB⟩ := hrel
      have HD := hid hd
      have HKr := hid hk
      have HB := hid hB
      by_cases hlt : j < c.length
      · have hjc : j < cc.length := by rw [hd.len]; exact hlt
        have hic : i < cc.length := Nat.lt_trans hd.hij hjc
        have hicl : i < c.length := Nat.lt_trans hd.hij hlt
        obtain ⟨c0, c1, c2, c3⟩ := hk.cell hjc
        have hg := hd.get hlt
        rw [List.getElem?_eq_getElem hjc] at hg
        have hgc : cc[j] = c[j] := Option.some.inj hg
        have HS := hid (fun e => hd.skip hlt e)
        have HPt := hid (fun e => hd.put hlt e)
        rw [hgc] at c0 c1 c2 c3
        obtain ⟨x, hxe⟩ : ∃ x, c[j] = x := ⟨_, rfl⟩
        rw [hxe] at c0 c1 c2 c3 HS HPt
        have HCD := hid (fun w1 hp => countD_any x cp pb w1 hp)
        have HPr := hid ((HB.out.block pb HPG.out).trans HP.out)
        obtain ⟨P, hP⟩ : ∃ P : Int, (x.d.p : Int) = P := ⟨_, rfl⟩
        obtain ⟨vg, hvg⟩ : ∃ v, x.g = v := ⟨_, rfl⟩
        obtain ⟨vn, hvn⟩ : ∃ v, x.d.to.length = v := ⟨_, rfl⟩
        obtain ⟨vc, hvc⟩ : ∃ v, x.cap = v := ⟨_, rfl⟩
        obtain ⟨bc, hbc⟩ : ∃ bc, x.d.c = bc := ⟨_, rfl⟩
        obtain ⟨ba, hba⟩ : ∃ ba, x.d.a = ba := ⟨_, rfl⟩
        have HEQ := hid (show dqA x = [.int .u32 P, .slice (some ⟨vg, 0, none⟩) vn vc, .bool bc, .bool ba] by rw [← hP, ← hvg, ← hvn, ← hvc, ← hbc, ← hba])
        simp only [Dq.sl, hP, hvg, hvn, hvc, hbc, hba] at c0 c1 c2 c3 HCD
        clear hd hk hB hg hgc hxe hP hvg hvn hvc hbc hba
        go_wp2_with fail
        have hpa := hid ((((Below.refl wr.heap.size wr).alloc (Nat.le_refl _) (.cells #[.int .u32 P, .slice (some ⟨vg, 0, none⟩) vn vc, .bool bc, .bool ba] 64)).block pb (lt_of_heap HPr.out)).trans HPr.out)
        refine (HCD.out _ hpa.out).mono ?_
        rintro e w2 ⟨rfl, hB2⟩
        have B2 := hid (show Below wr.heap.size wr w2 from ((Below.refl wr.heap.size wr).alloc (Nat.le_refl _) _).trans (hB2.mono (by simp)))
        have hz := (hB2.block wr.heap.size (by simp)).trans (heap_alloc_at wr (.cells #[.int .u32 P, .slice (some ⟨vg, 0, none⟩) vn vc, .bool bc, .bool ba] 64))
        have z0 : w2.cell? ⟨wr.heap.size, 0, none⟩ = some (.int .u32 P) := cell_of_heap hz rfl
        have z1 : w2.cell? ⟨wr.heap.size, 1, none⟩ = some (.slice (some ⟨vg, 0, none⟩) vn vc) := cell_of_heap hz rfl
        have z2 : w2.cell? ⟨wr.heap.size, 2, none⟩ = some (.bool bc) := cell_of_heap hz rfl
        have z3 : w2.cell? ⟨wr.heap.size, 3, none⟩ = some (.bool ba) := cell_of_heap hz rfl
        have K2 := hid (HKr.out.below B2.out)
        have G2 := hid (HB.out.trans (B2.out.mono (Nat.le_of_lt HKr.out.lt)))
        have hst := run_storeAt_mid (P := Tryz.prog) w2 g (i * 4) 64 #[.int .u32 P, .slice (some ⟨vg, 0, none⟩) vn vc, .bool bc, .bool ba] (K2.out.there hic) (by kernel_rfl) (by simp [Value.oneCell'])
        clear hz hB2 c0 c1 c2 c3 hpa HCD HPr
        have hwi : IntKind.i64.wrap ((i : Int) + 1) = (i : Int) + 1 := by rw [IntKind.wrap_i64]; have := HD.out.hij; omega
        cases hne : okD cp x with
        | false =>
          have HS2 := hid (HS.out hne)
          go_wp2
          go_roundw
          case rel => exact ⟨_, _, _, _, _, _, _, _, _, _, _, _, _, _, _, _, _, _, _, _, _, _, _, ⟨i, j + 1, cc, rfl, by go_num, HS2.out, K2.out, G2.out⟩, rfl⟩
          case measure => simp [intOf]; omega
        | true =>
          have HP2 := hid (HPt.out hne)
          have K3 := hid (K2.out.put hic x)
          have G3 := hid (setCells_belowD (o := i * 4) (vs := [.int .u32 P, .slice (some ⟨vg, 0, none⟩) vn vc, .bool bc, .bool ba]) G2.out (Nat.le_refl g))
          rw [HEQ.out] at K3
          go_wp2_with (refine wpList_store_mid rfl 64 (.tmp 33) (.tmp 32) rfl g (i * 4) #[.int .u32 P, .slice (some ⟨vg, 0, none⟩) vn vc, .bool bc, .bool ba] rfl rfl (K2.out.there hic) (by kernel_rfl) (by simp [Value.oneCell']) ?_)
          go_roundw
          case rel => exact ⟨_, _, _, _, _, _, _, _, _, _, _, _, _, _, _, _, _, _, _, _, _, _, _, ⟨i + 1, j + 1, cc.set i x, by go_num, by go_num, HP2.out, K3.out, G3.out⟩, rfl⟩
          case measure => simp [intOf]; omega
      · have ej : j = c.length := by have := hd.hj; omega
        have hd2 : DstG (okD cp) c cc i c.length := by rw [← ej]; exact hd
        obtain ⟨e1, e2, e3⟩ := hd2.done
        have hil : i < c.length := hd2.hij
        have hcl := hd2.len
        obtain ⟨w9, hcr, ho9, hb9⟩ := clear_ownD (i := i) (m := c.length - i) (cc := cap - i) hk hb (by omega) (by omega) (by rw [hcl]; exact hc) hx (by rw [hcl]; exact ht)
        have hs1 := decomp_from g i c.length cap (by omega) (by omega)
        have hs2 := decomp_upto g i c.length cap (by omega)
        rw [e1] at ho9
        have O9 := hid ho9
        have E3 := hid e3
        have G9 := hid (hB.trans hb9)
        clear hd hd2 hk hB e1 e2 e3 ho9 hb9
        go_wp2
        go_ret
        rw [E3.out]
        exact ⟨rfl, O9.out, G9.out⟩
  · have e : c.filter (okD cp) = c := keep_allG h1
    have G1 := hid (hB.mono (Nat.le_of_lt HK.out.lt))
    have K1 := hid (HK.out.below hB)
    have O1 := hid (K1.out.own hb (Nat.le_refl _) hc hx ht)
    clear hB h1
    go_wp2
    go_ret
    rw [e]
    refine ⟨rfl, ?_, G1.out⟩
    have := O1.out
    rwa [List.take_length] at this
end Go.Proofs.YtgalmlelnolodaaGreatDoor
