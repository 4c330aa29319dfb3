/- Chart's Points, over this seat's translation. Conditions: points, up to a thousand. -/
import Derived.Test.YtiekffkeagcaiaaDoorChAc
namespace Go.Proofs.YtiekffkeagcaiaaDoor
open Go.RowKit
set_option linter.unusedVariables false

theorem strV_snoc (l : List ByteArray) (x : ByteArray) : strV (l ++ [x]) = strV l ++ [.string x] := by unfold strV; rw [List.map_append]; rfl
set_option maxHeartbeats 1600000 in
theorem points_any (x : Addr) (l : List Nat) (c : Nat) (w : World) (t : Tz w) (hx : ∀ j (h : j < l.length), w.cell? (x.add j) = some (.int .u32 (l[j] : Int))) (hxb : x.block < w.heap.size) (hn : l.length ≤ 1000) (hl : ∀ p ∈ l, p ≤ 1114111)
    (hj : (Lib.join ((l.map wrd).map (·.data.toList)) [32]).length ≤ 140737488355328) :
    Calls Tryd.prog 5 #[.slice (some x) l.length c] w fun e w' => e = .returned (.string ⟨(Lib.join ((l.map wrd).map (·.data.toList)) [32]).toArray⟩) ∧ Below w.heap.size w w' := by
  obtain ⟨i0, hi, hz0, hz1, hz2⟩ := info_parts infoStr
  have T0 := hid t
  have HX := hid hx
  have HXB := hid hxb
  have HL := hid (show ∀ k (h : k < l.length), l[k] ≤ 1114111 from fun k h => hl _ (List.getElem_mem h))
  obtain ⟨w1, hmk, hown, hgr⟩ := run_makeSlice_owned (P := Tryd.prog) w w.heap.size 41 9 i0 (.string ⟨#[]⟩) 1 Tryd.underlying41 hi hz0 hz1 .i64 .i64 l.length (by omega) (by rw [hz2]; omega) (by unfold maxLen; omega) (Nat.le_refl _)
  have O1 := hid hown
  have B1 := hid (show Below w.heap.size w w1 from (Below.refl _ _).grown hgr (Nat.le_refl _) (fun j hj => by cases hj))
  have HJ := hid hj
  clear hx hl t hown hgr hj hxb
  obtain ⟨N, hN⟩ : ∃ N, l.length = N := ⟨_, rfl⟩
  have HN := hid hN
  rw [hN] at hmk hn ⊢
  rw [hN] at O1
  clear hN
  go_enter Tryd.func5, Tryd.ntmps5
  go_wp2_with fail
  go_loopw [3, 11] (fun o i wr => ∃ (k cap g : Nat), k ≤ N ∧ i = .int .i64 (k : Int) ∧ o = .slice (some ⟨g, 0, none⟩) k cap ∧ wr.ownsRow w.heap.size 9 1 (.slice (some ⟨g, 0, none⟩) k cap) k (strV ((l.take k).map wrd)) ∧ Below w.heap.size w wr) (fun _ i _ => N - (intOf i).toNat)
  case atStart => exact ⟨0, N, w.heap.size, Nat.zero_le _, rfl, rfl, O1.out, B1.out⟩
  case round =>
    obtain ⟨k, cap, g, hk, rfl, rfl, hown, hB⟩ := hrel
    have HO := hid hown
    have HB := hid hB
    by_cases hlt : k < N
    · have hlk : k < l.length := by rw [HN.out]; exact hlt
      have HTK := hid (show (l.take (k + 1)).map wrd = (l.take k).map wrd ++ [wrd l[k]] by rw [List.take_add_one, List.map_append, List.getElem?_eq_getElem hlk]; rfl)
      have hp6 := HL.out k hlk
      have kc : wr.cell? (x.add k) = some (.int .u32 (l[k] : Int)) := cell_below HB.out (HX.out k hlk) (by rw [show (x.add k).block = x.block by unfold Addr.add; split <;> rfl]; exact HXB.out)
      obtain ⟨p, hp⟩ : ∃ p, l[k] = p := ⟨_, rfl⟩
      rw [hp] at HTK hp6 kc
      have HWO := hid (wordOf_any p wr (T0.out.below HB.out) hp6)
      clear hown hB hlk hp hp6 hmk
      go_wp2_with fail
      refine HWO.out.mono ?_
      rintro e w2 ⟨rfl, hB⟩
      have B2 := hid (belowCat HB.out hB)
      have HOC := hid (show (w2.alloc (.cells #[.string (wrd p)] 9)).ownsRow w.heap.size 9 1 (.slice (some ⟨g, 0, none⟩) k cap) k (strV ((l.take k).map wrd)) from owns_below (owns_below HO.out hB) ((Below.refl _ _).alloc (Nat.le_refl _) _))
      have BC := hid (show Below w.heap.size w (w2.alloc (.cells #[.string (wrd p)] 9)) from blw_alloc B2.out)
      have HOB := hid (show ∀ j, (Value.slice (some ⟨g, 0, none⟩) k cap).ownBlock = some j → w.heap.size ≤ j from fun j hj => (HOC.out.lt j hj).1)
      obtain ⟨W, hW⟩ : ∃ W, wrd p = W := ⟨_, rfl⟩
      rw [hW] at HOC BC HTK ⊢
      clear hB kc hW
      go_wp2_with (at_builtin; refine wpList_append_lies _ rfl (.tmp 15) (.tmp 18) 41 rfl w.heap.size 9 i0 _ 1 16 Tryd.underlying41 hi hz0 hz1 hz2 rfl (by decide) (.slice (some ⟨g, 0, none⟩) k cap) k (strV ((l.take k).map wrd)) rfl HOC.out ⟨w2.heap.size, 0, none⟩ 1 1 [.string W] rfl rfl ?c1 ?c2 (by decide) ?c3 ?c4 ?c5 _ rfl ?_)
      case c1 => exact World.news_of_block (heap_alloc_at _ _)
      case c2 => intro u hu; simp only [List.mem_cons, List.not_mem_nil, or_false] at hu; rcases hu with rfl; rfl
      case c3 => unfold maxLen; omega
      case c4 => omega
      case c5 => exact BC.out.size
      intro g7 cap7 w7 hown' hgrow hat hlt2
      have HO7 := hid (show w7.ownsRow w.heap.size 9 1 (.slice (some ⟨g7, 0, none⟩) (k + 1) cap7) (k + 1) (strV ((l.take (k + 1)).map wrd)) from by rw [HTK.out, strV_snoc, List.map_take]; exact hown')
      have B7 := hid (BC.out.grown hgrow BC.out.size HOB.out)
      clear hown' hgrow hat hlt2
      go_wp2
      go_roundw
      case rel => exact ⟨k + 1, cap7, g7, by omega, by go_num, rfl, HO7.out, B7.out⟩
      case measure => simp [intOf]; omega
    · have hke : k = N := by omega
      subst hke
      have hte : l.take k = l := List.take_of_length_le (by rw [HN.out]; exact Nat.le_refl _)
      rw [hte] at HO
      have HJN := hid (show ∀ (w0 : World), True from fun _ => trivial)
      have hml : (l.map wrd).length = k := by rw [List.length_map, HN.out]
      have HJC := hid (show Calls Tryd.prog 11 #[.slice (some ⟨g, 0, none⟩) k cap, .string ⟨#[32]⟩] wr fun e w' => e = .returned (.string ⟨(Lib.join ((l.map wrd).map (·.data.toList)) [32]).toArray⟩) ∧ Below wr.heap.size wr w' from by
        by_cases h0 : k = 0
        · subst h0
          have hl0 : l = [] := List.length_eq_zero_iff.1 HN.out
          subst hl0
          exact (Tryd.strings_Join_none _ cap ⟨#[32]⟩ wr).mono fun e w' h => ⟨by rw [h.1]; rfl, by rw [h.2]; exact Below.refl _ _⟩
        · obtain ⟨g', hg', _, hgl, hgc⟩ := owns_cell HO.out (by omega)
          cases hg'
          have hcap : k ≤ cap := by
            rcases HO.out.2 with ⟨hx, _⟩ | ⟨g', cap', cur, hx, hb, hg, h1, h2, h3, h4⟩
            · cases hx
            · cases hx; omega
          have := Tryd.strings_Join g 0 cap (l.map wrd) ⟨#[32]⟩ wr (fun j y hy => by rw [Nat.zero_add]; exact hgc j _ (by unfold strV; rw [List.getElem?_map, hy]; rfl)) hgl (by omega) (by omega) HJ.out
          rw [hml] at this
          exact this)
      clear hown hB hte hmk hk hml HJN
      go_wp2_with fail
      refine HJC.out.mono ?_
      rintro e w9 ⟨rfl, hB⟩
      have B9 := hid (belowCat HB.out hB)
      clear hB
      go_wp2
      exact bodyPost_ret (by simp [results, Tryd.results5, go_sem]) rfl ⟨rfl, B9.out⟩
end Go.Proofs.YtiekffkeagcaiaaDoor
