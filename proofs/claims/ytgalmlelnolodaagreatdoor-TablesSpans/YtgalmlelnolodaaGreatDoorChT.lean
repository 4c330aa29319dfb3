/- The contract of the document's Split, over this seat's translation. Conditions: a text's size. -/
import Derived.Test.YtgalmlelnolodaaGreatDoorChS
namespace Go.Proofs.YtgalmlelnolodaaGreatDoor
open Go.RowKit
set_option linter.unusedVariables false

set_option maxHeartbeats 1600000 in
theorem rsplit_any (s : ByteArray) (c : UInt8) (n : Nat) (w : World) (hn : c.toNat = n) (hs : s.size ≤ 1000000) :
    Calls Tryz.prog 84 #[.string s, .int .u8 (n : Int)] w fun e w' => ∃ (g cap : Nat), e = .returned (.slice (some ⟨g, 0, none⟩) (splS c s).length cap) ∧ w'.ownsRow w.heap.size 9 1 (.slice (some ⟨g, 0, none⟩) (splS c s).length cap) (splS c s).length (strV (splS c s)) ∧ Below w.heap.size w w' := by
  obtain ⟨i0, hi, hz0, hz1, hz2⟩ := info_parts infoStr
  have HPA := hid (pk_all c s)
  obtain ⟨R, hR⟩ : ∃ R, splS c s = R := ⟨_, rfl⟩
  rw [hR] at HPA
  rw [hR]
  clear hR
  go_enter Tryz.func84, Tryz.ntmps84
  go_wp2_with fail
  go_loopw [6, 5] (fun i o wr => ∃ (k g m cap : Nat), k ≤ s.size ∧ i = .int .i64 (k : Int) ∧ o = .slice (some ⟨g, 0, none⟩) m cap ∧ m = (pk c s k).length ∧ wr.ownsRow w.heap.size 9 1 (.slice (some ⟨g, 0, none⟩) m cap) m (strV (pk c s k)) ∧ Below w.heap.size w wr) (fun i _ _ => s.size - (intOf i).toNat)
  case atStart =>
    refine ⟨0, w.heap.size, 1, 1, Nat.zero_le _, rfl, rfl, by rw [pk_zero]; rfl, ?_, (Below.refl _ _).alloc (Nat.le_refl _) _⟩
    rw [pk_zero]
    exact ⟨rfl, Or.inr ⟨w.heap.size, 1, _, rfl, Nat.le_refl _, heap_alloc_at _ _, Nat.le_refl _, by decide, by simp, rfl⟩⟩
  case round =>
    obtain ⟨k, g, m, cap, hk, rfl, rfl, hm, hown, hB⟩ := hrel
    have HO := hid hown
    have HB := hid hB
    have HM := hid hm
    by_cases hlt : k < s.size
    · have hpl := pk_len c s k
      have hpn := pk_ne c s k
      rw [← hm] at hpl hpn
      by_cases hx : s[k] = c
      · have hxn : s[k].toNat = n := by rw [hx, hn]
        have HH := hid (pk_hit hlt hx)
        have hxe : ((s[k].toNat : Int) == (n : Int)) = true := by rw [hxn]; simp
        have HOC := hid (show (wr.alloc (.cells #[.string ⟨#[]⟩] 9)).ownsRow w.heap.size 9 1 (.slice (some ⟨g, 0, none⟩) m cap) m (strV (pk c s k)) from owns_below hown ((Below.refl _ _).alloc (Nat.le_refl _) _))
        have BC := hid (show Below w.heap.size w (wr.alloc (.cells #[.string ⟨#[]⟩] 9)) from blw_alloc hB)
        have HOB := hid (show ∀ j, (Value.slice (some ⟨g, 0, none⟩) m cap).ownBlock = some j → w.heap.size ≤ j from fun j hj => (hown.lt j hj).1)
        clear hm hown hB hx hpn
        go_wp2_with (at_builtin; refine wpList_append_lies _ rfl (.tmp 20) (.tmp 21) 45 rfl w.heap.size 9 i0 _ 1 16 Tryz.underlying45 hi hz0 hz1 hz2 rfl (by decide) (.slice (some ⟨g, 0, none⟩) m cap) m (strV (pk c s k)) rfl HOC.out ⟨wr.heap.size, 0, none⟩ 1 1 [.string ⟨#[]⟩] rfl rfl ?c1 ?c2 (by decide) ?c3 ?c4 ?c5 _ rfl ?_)
        case c1 => exact World.news_of_block (heap_alloc_at _ _)
        case c2 => intro u hu; simp only [List.mem_cons, List.not_mem_nil, or_false] at hu; rcases hu with rfl; rfl
        case c3 => unfold maxLen; omega
        case c4 => omega
        case c5 => exact BC.out.size
        intro g2 cap2 w7 hown' hgrow hat hlt2
        have HO7 := hid (show w7.ownsRow w.heap.size 9 1 (.slice (some ⟨g2, 0, none⟩) (m + 1) cap2) (m + 1) (strV (pk c s (k + 1))) from by rw [HH.out]; unfold strV; rw [List.map_append]; exact hown')
        have B7 := hid (BC.out.grown hgrow BC.out.size HOB.out)
        clear hown' hgrow hat hlt2
        go_wp2
        go_roundw
        case rel => exact ⟨k + 1, g2, m + 1, cap2, by omega, by go_num, rfl, by rw [HH.out, List.length_append, HM.out]; rfl, HO7.out, B7.out⟩
        case measure => simp [intOf]; omega
      · have hxn : s[k].toNat ≠ n := fun e => hx (UInt8.toNat_inj.1 (by rw [e, hn]))
        have HH := hid (pk_miss hlt hx)
        have hxe : ((s[k].toNat : Int) == (n : Int)) = false := by simp; omega
        obtain ⟨q, hq⟩ : ∃ q, m = q + 1 := ⟨m - 1, by omega⟩
        obtain ⟨g', hg', hgb, hgl, hgc⟩ := owns_cell hown hpn
        cases hg'
        have hqp : (pk c s k).length - 1 = q := by omega
        rw [hqp] at HH
        obtain ⟨l, hl⟩ : ∃ l, wd (pk c s k) q = l := ⟨_, rfl⟩
        have hls : l.size ≤ s.size := by rw [← hl]; exact wd_size (fun x hx => pk_size hx) q
        have hc := hgc q _ (strV_at (show q < (pk c s k).length by omega))
        rw [hl] at hc HH
        obtain ⟨e, he⟩ : ∃ e, s.extract k (k + 1) = e := ⟨_, rfl⟩
        have hes : e.size ≤ 1 := by rw [← he, Lib.size_eq, Lib.extract_data, List.length_take]; omega
        rw [he] at HH
        have HEX := hid he
        have kc : wr.drew.cell? ⟨g, q, none⟩ = some (.string l) := hc
        have kf : wr.drew.frozen? ⟨g, q, none⟩ = false := owns_froz hown
        have hwq : IntKind.i64.wrap (q : Int) = (q : Int) := by rw [IntKind.wrap_i64]; omega
        have hwk : IntKind.i64.wrap ((k : Int) + 1) = (k : Int) + 1 := by rw [IntKind.wrap_i64]; omega
        have hq0 : (q : Int) < (q : Int) + 1 := by omega
        have hk1 : (k : Int) + 1 ≤ (s.size : Int) := by omega
        have hk2 : (0 : Int) ≤ (k : Int) + 1 := by omega
        have hk3 : (k : Int) ≤ (k : Int) + 1 := by omega
        have hsum : ¬ (9223372036854775807 : Int) < (l.size : Int) + (e.size : Int) := by omega
        have HOD := hid (show wr.drew.ownsRow w.heap.size 9 1 (.slice (some ⟨g, 0, none⟩) m cap) m (strV (pk c s k)) from hown)
        have HGB := hid hgb
        subst hq
        clear hx hxn hm hown hB hpn hqp hl hls hes hgb hgl hgc hc hpl
        go_upto_region 8 with fail
        refine wp_region_held_drew (S := (fun _ => True)) (by kernel_rfl) (trivial) (fun hHeld => ?_)
        refine tk_at (i := 0) (d := some 26) (v := ?_) rfl rfl (by kernel_rfl) (by kernel_rfl) (by kernel_rfl) (fun _ _ _ h => h) (Or.inl ⟨by rfl, ?_⟩) (by assumption) ?_
        rotate_left
        · (intro w hSw; (try dsimp only at hSw); go_simp; try (with_reducible rfl))
        simp only [Act.put, List.setIfInBounds_toArray, List.set_cons_zero, List.set_cons_succ]
        refine tk_at (i := 1) (d := some 27) (v := ?_) rfl rfl (by kernel_rfl) (by kernel_rfl) (by kernel_rfl) (fun _ _ _ h => h) (Or.inl ⟨by rfl, ?_⟩) (by assumption) ?_
        rotate_left
        · (intro w hSw; (try dsimp only at hSw); go_simp; try (with_reducible rfl))
        simp only [Act.put, List.setIfInBounds_toArray, List.set_cons_zero, List.set_cons_succ]
        refine tk_at (i := 2) (d := some 28) (v := ?_) rfl rfl (by kernel_rfl) (by kernel_rfl) (by kernel_rfl) (fun _ _ _ h => h) (Or.inl ⟨by rfl, ?_⟩) (by assumption) ?_
        rotate_left
        · (intro w hSw; (try dsimp only at hSw); go_simp; try (with_reducible rfl))
        simp only [Act.put, List.setIfInBounds_toArray, List.set_cons_zero, List.set_cons_succ]
        refine tk_at (i := 3) (d := some 29) (v := ?_) rfl rfl (by kernel_rfl) (by kernel_rfl) (by kernel_rfl) (fun _ _ _ h => h) (Or.inl ⟨by rfl, ?_⟩) (by assumption) ?_
        rotate_left
        · (intro w hSw; (try dsimp only at hSw); go_simp; try (with_reducible rfl))
        simp only [Act.put, List.setIfInBounds_toArray, List.set_cons_zero, List.set_cons_succ]
        refine tk_at (i := 4) (d := some 30) (v := ?_) rfl rfl (by kernel_rfl) (by kernel_rfl) (by kernel_rfl) (fun _ _ _ h => h) (Or.inl ⟨by rfl, ?_⟩) (by assumption) ?_
        rotate_left
        · (intro w hSw; (try dsimp only at hSw); go_simp; try (with_reducible rfl))
        simp only [Act.put, List.setIfInBounds_toArray, List.set_cons_zero, List.set_cons_succ]
        refine tk_at (i := 6) (d := some 32) (v := ?_) rfl rfl (by kernel_rfl) (by kernel_rfl) (by kernel_rfl) (fun _ _ _ h => h) (Or.inl ⟨by rfl, ?_⟩) (by assumption) ?_
        rotate_left
        · (intro w hSw; (try dsimp only at hSw); go_simp; try (with_reducible rfl))
        simp only [Act.put, List.setIfInBounds_toArray, List.set_cons_zero, List.set_cons_succ]
        refine tk_at (i := 7) (d := some 33) (v := ?_) rfl rfl (by kernel_rfl) (by kernel_rfl) (by kernel_rfl) (fun _ _ _ h => h) (Or.inl ⟨by rfl, ?_⟩) (by assumption) ?_
        rotate_left
        · (intro w hSw; (try dsimp only at hSw); go_simp; try (with_reducible rfl))
        simp only [Act.put, List.setIfInBounds_toArray, List.set_cons_zero, List.set_cons_succ]
        refine tk_at (i := 8) (d := some 34) (v := ?_) rfl rfl (by kernel_rfl) (by kernel_rfl) (by kernel_rfl) (fun _ _ _ h => h) (Or.inl ⟨by rfl, ?_⟩) (by assumption) ?_
        rotate_left
        · (intro w hSw; (try dsimp only at hSw); go_simp; try (with_reducible rfl))
        simp only [Act.put, List.setIfInBounds_toArray, List.set_cons_zero, List.set_cons_succ]
        refine tk_at (i := 9) (d := some 35) (v := ?_) rfl rfl (by kernel_rfl) (by kernel_rfl) (by kernel_rfl) (fun _ _ _ h => h) (Or.inl ⟨by rfl, ?_⟩) (by assumption) ?_
        rotate_left
        · (intro w hSw; (try dsimp only at hSw); go_simp; try (with_reducible rfl))
        simp only [Act.put, List.setIfInBounds_toArray, List.set_cons_zero, List.set_cons_succ]
        refine tk_at (i := 10) (d := some 36) (v := ?_) rfl rfl (by kernel_rfl) (by kernel_rfl) (by kernel_rfl) (fun _ _ _ h => h) (Or.inl ⟨by rfl, ?_⟩) (by assumption) ?_
        rotate_left
        · (intro w hSw; (try dsimp only at hSw); go_simp; try (with_reducible rfl))
        simp only [Act.put, List.setIfInBounds_toArray, List.set_cons_zero, List.set_cons_succ]
        refine wpAnyH_ready (rs := [5]) (by kernel_rfl) (by simp) ?_
        refine AllReadyH.cons rfl (fun K hK => ?_) AllReadyH.nil
        go_simp
        go_wp2_with fail
        refine hK.out _ _ (trivial) (fun hHeld => ?_)
        clear hK K
        try simp only [Act.put, List.setIfInBounds_toArray, List.set_cons_zero, List.set_cons_succ]
        refine wpAnyH_ready (rs := [11]) (by kernel_rfl) (by simp) ?_
        refine AllReadyH.cons rfl (fun K hK => ?_) AllReadyH.nil
        go_simp
        rw [if_neg (show ¬ (9223372036854775807 < l.size + e.size) by omega)]
        clear hsum hk1 hk2 hk3 hwk
        go_wp2_with fail
        refine hK.out _ _ (trivial) (fun hHeld => ?_)
        clear hK K
        try simp only [Act.put, List.setIfInBounds_toArray, List.set_cons_zero, List.set_cons_succ]
        refine tk_at (i := 12) (d := some 38) (v := ?_) rfl rfl (by kernel_rfl) (by kernel_rfl) (by kernel_rfl) (fun _ _ _ h => h) (Or.inl ⟨by rfl, ?_⟩) (by assumption) ?_
        rotate_left
        · (intro w hSw; (try dsimp only at hSw); go_simp; try (with_reducible rfl))
        simp only [Act.put, List.setIfInBounds_toArray, List.set_cons_zero, List.set_cons_succ]
        refine wpAnyH_ready (rs := [13]) (by kernel_rfl) (by simp) ?_
        refine AllReadyH.cons rfl (fun K hK => ?_) AllReadyH.nil
        go_simp
        go_wp2_with fail
        refine hK.out _ _ (trivial) (fun hHeld => ?_)
        clear hK K
        try simp only [Act.put, List.setIfInBounds_toArray, List.set_cons_zero, List.set_cons_succ]
        refine wpAnyH_done (by kernel_rfl) ?_ _
        clear hHeld
        go_wp2
        go_roundw
        have HO9 := hid (show (wr.setCell ⟨g, q, none⟩ (.string (l ++ e))).ownsRow w.heap.size 9 1 (.slice (some ⟨g, 0, none⟩) (q + 1) cap) (q + 1) (strV (pk c s (k + 1))) from by rw [HH.out]; unfold strV; rw [List.map_set]; exact owns_put HO.out)
        have B9 := hid (show Below w.heap.size w (wr.setCell ⟨g, q, none⟩ (.string (l ++ e))) from HB.out.setCell (p := ⟨g, q, none⟩) HGB.out _)
        case rel => exact ⟨k + 1, g, q + 1, cap, by omega, by go_num, rfl, by rw [HH.out, List.length_set]; exact HM.out, HO9.out, blw_drew B9.out⟩
        case measure => simp [intOf]; omega
    · have hke : k = s.size := by omega
      subst hke
      rw [HPA.out] at HM HO
      have hmR := HM.out
      subst hmR
      clear hm hown hB hk
      go_wp2
      exact bodyPost_ret (v := .slice (some ⟨g, 0, none⟩) R.length cap) (by simp [results, Tryz.results84, go_sem]) rfl
        ⟨g, cap, rfl, HO.out, HB.out⟩
end Go.Proofs.YtgalmlelnolodaaGreatDoor
