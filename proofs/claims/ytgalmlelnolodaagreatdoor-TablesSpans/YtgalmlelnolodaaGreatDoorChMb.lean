/- Package chart's pointsOf, over this seat's translation: words read as points into a row of its own. Conditions: words' sizes. -/
import Derived.Test.YtgalmlelnolodaaGreatDoorChMa
import Derived.Test.YtgalmlelnolodaaGreatDoorChL
namespace Go.Proofs.YtgalmlelnolodaaGreatDoor
open Go.RowKit
set_option linter.unusedVariables false

def iV (l : List Nat) : List Value := l.map fun (n : Nat) => .int .u32 (n : Int)
theorem iV_snoc (l : List Nat) (x : Nat) : iV (l ++ [x]) = iV l ++ [.int .u32 (x : Int)] := by unfold iV; rw [List.map_append]; rfl
theorem iV_at {l : List Nat} {k : Nat} (h : k < l.length) : (iV l)[k]? = some (.int .u32 ((l.getD k 0 : Nat) : Int)) := by
  unfold iV
  rw [List.getElem?_map, List.getD_eq_getElem?_getD, List.getElem?_eq_getElem h]
  rfl
/-- a row of words in a block of its own -/
def U32B (w : World) (g : Nat) (l : List Nat) : Prop := ∃ cs, w.heap[g]? = some (.cells cs 22 (0, 0)) ∧ ∀ k, k < l.length → cs[k]? = some (.int .u32 ((l.getD k 0 : Nat) : Int))
theorem U32B.keep {w w' : World} {g : Nat} {l : List Nat} (u : U32B w g l) (hk : ∀ cs : Array Value, w.heap[g]? = some (.cells cs 22 (0, 0)) → w'.heap[g]? = some (.cells cs 22 (0, 0))) : U32B w' g l := by
  obtain ⟨cs, h1, h2⟩ := u
  exact ⟨cs, hk cs h1, h2⟩
theorem U32B.below {w w' : World} {g : Nat} {l : List Nat} (u : U32B w g l) (hB : Below w.heap.size w w') : U32B w' g l :=
  u.keep fun _ h => (hB.block g (lt_of_heap h)).trans h
theorem U32B.cell {w : World} {g : Nat} {l : List Nat} (u : U32B w g l) {k : Nat} (h : k < l.length) : w.cell? ⟨g, k, none⟩ = some (.int .u32 ((l.getD k 0 : Nat) : Int)) := by
  obtain ⟨cs, h1, h2⟩ := u
  exact cell_of_heap h1 (h2 k h)
theorem u32B_of_own {w : World} {base g n cap : Nat} {l : List Nat} (h : w.ownsRow base 22 1 (.slice (some ⟨g, 0, none⟩) n cap) n (iV l)) (hn : l.length = n) : base ≤ g ∧ U32B w g l := by
  subst hn
  rcases h.2 with ⟨hx, _⟩ | ⟨g', cap', cur, hx, hb, hg, h1, h2, h3, h4⟩
  · cases hx
  · cases hx
    refine ⟨hb, cur, hg, fun k hk => ?_⟩
    have : (cur.toList.take (l.length * 1))[k]? = some (.int .u32 ((l.getD k 0 : Nat) : Int)) := by rw [h4]; exact iV_at hk
    rw [List.getElem?_take, if_pos (by omega)] at this
    rw [← Array.getElem?_toList]
    exact this
/-- what pointsOf answers -/
def psR (o : Option (List Nat)) (lo : Nat) (w' : World) (e : Ending) : Prop := match o with
  | none => e = .returned (.tuple #[.slice none 0 0, .bool false])
  | some l => ∃ g cap, e = .returned (.tuple #[.slice (some ⟨g, 0, none⟩) l.length cap, .bool true]) ∧ lo ≤ g ∧ U32B w' g l
theorem infoU32 : (Tryz.prog.info? 22).map (fun i => (i.zero, i.size, i.bytes)) = some (some (.int .u32 0), 1, 4) := by kernel_rfl

set_option maxHeartbeats 3200000 in
theorem pointsOf_any (x : Addr) (ws : List ByteArray) (c : Nat) (w : World) (hx : ∀ j, j < ws.length → w.cell? (x.add j) = some (.string (wd ws j))) (hxb : x.block < w.heap.size) (hz : ∀ j, (wd ws j).size ≤ 4000000000) :
    Calls Tryz.prog 96 #[.slice (some x) ws.length c] w fun e w' => psR (pvV ws) w.heap.size w' e ∧ Below w.heap.size w w' := by
  by_cases h3 : 3 < ws.length
  · rw [pvV_many h3]
    have h3i : (3 : Int) < (ws.length : Int) := by omega
    clear hx h3
    go_enter Tryz.func96, Tryz.ntmps96
    go_wp2
    exact bodyPost_ret (v := .tuple #[.slice none 0 0, .bool false]) (by simp [results, Tryz.results96, go_sem]) rfl ⟨rfl, Below.refl _ _⟩
  · rw [pvV_few h3]
    obtain ⟨i0, hi, hz0, hz1, hz2⟩ := info_parts infoU32
    have HX := hid hx
    have HXB := hid hxb
    have HZ := hid hz
    obtain ⟨w1, hmk, hown, hgr⟩ := run_makeSlice_owned (P := Tryz.prog) w w.heap.size 62 22 i0 (.int .u32 0) 1 Tryz.underlying62 hi hz0 hz1 .i64 .i64 ws.length (by omega) (by rw [hz2]; omega) (by unfold maxLen; omega) (Nat.le_refl _)
    have O1 := hid hown
    have B1 := hid (show Below w.heap.size w w1 from (Below.refl _ _).grown hgr (Nat.le_refl _) (fun j hj => by cases hj))
    clear hx hown hgr hxb hz
    obtain ⟨T, hT⟩ : ∃ T, psV ws = T := ⟨_, rfl⟩
    have HT := hid hT
    rw [hT]
    obtain ⟨N, hN⟩ : ∃ N, ws.length = N := ⟨_, rfl⟩
    have HN := hid hN
    rw [hN] at hmk h3 ⊢
    rw [hN] at O1
    have h3i : ((3 : Int) < (N : Int)) = False := eq_false (by omega)
    have hN3 : N ≤ 3 := by omega
    clear hN hT h3
    go_enter Tryz.func96, Tryz.ntmps96
    go_wp2_with fail
    go_loopw [4, 17] (fun o i wr => ∃ (k cap g : Nat) (a : List Nat), k ≤ N ∧ i = .int .i64 (k : Int) ∧ o = .slice (some ⟨g, 0, none⟩) k cap ∧ psV (ws.take k) = some a ∧ wr.ownsRow w.heap.size 22 1 (.slice (some ⟨g, 0, none⟩) k cap) k (iV a) ∧ Below w.heap.size w wr) (fun _ i _ => N - (intOf i).toNat)
    case atStart => exact ⟨0, N, w.heap.size, [], Nat.zero_le _, rfl, rfl, rfl, O1.out, B1.out⟩
    case round =>
      obtain ⟨k, cap, g, a, hk, rfl, rfl, ha, hown, hB⟩ := hrel
      have HA := hid ha
      have HO := hid hown
      have HB := hid hB
      by_cases hlt : k < N
      · have hlk : k < ws.length := by rw [HN.out]; exact hlt
        have HLK := hid hlk
        have kc : wr.cell? (x.add k) = some (.string (wd ws k)) := cell_below HB.out (HX.out k hlk) (by rw [show (x.add k).block = x.block by unfold Addr.add; split <;> rfl]; exact HXB.out)
        obtain ⟨r, hr⟩ : ∃ r, wd ws k = r := ⟨_, rfl⟩
        have HRR := hid hr
        rw [hr] at kc
        have hrs : r.size ≤ 4000000000 := by rw [← hr]; exact HZ.out k
        have HPO := hid (fun w => pointOf_any r w hrs)
        obtain ⟨P, hP⟩ : ∃ P, ptV (bs r) = P := ⟨_, rfl⟩
        rw [hP] at HPO
        have HP := hid hP
        clear hown hB hlk hr ha hrs hP hmk
        cases P with
        | none =>
          have HE := hid (psV_stop HLK.out HA.out (by rw [HRR.out]; exact HP.out))
          go_wp2_with fail
          refine (HPO.out _).mono ?_
          rintro e w2 ⟨rfl, hB⟩
          have B2 := hid (belowCat HB.out hB)
          clear hB
          go_wp2
          exact bodyPost_ret (v := .tuple #[.slice none 0 0, .bool false]) (by simp [results, Tryz.results96, go_sem]) rfl ⟨by rw [← HT.out, HE.out]; rfl, B2.out⟩
        | some p =>
          have HE := hid (psV_next HLK.out HA.out (by rw [HRR.out]; exact HP.out))
          have hp6 := ptV_le HP.out
          go_wp2_with fail
          refine (HPO.out _).mono ?_
          rintro e w2 ⟨rfl, hB⟩
          have B2 := hid (belowCat HB.out hB)
          have HOC := hid (show (w2.alloc (.cells #[.int .u32 (p : Int)] 22)).ownsRow w.heap.size 22 1 (.slice (some ⟨g, 0, none⟩) k cap) k (iV a) from owns_below (owns_below HO.out hB) ((Below.refl _ _).alloc (Nat.le_refl _) _))
          have BC := hid (show Below w.heap.size w (w2.alloc (.cells #[.int .u32 (p : Int)] 22)) from blw_alloc B2.out)
          have HOB := hid (show ∀ j, (Value.slice (some ⟨g, 0, none⟩) k cap).ownBlock = some j → w.heap.size ≤ j from fun j hj => (HOC.out.lt j hj).1)
          clear hB kc
          rw [show ptR (some p) = .returned (.tuple #[.int .u32 (p : Int), .bool true]) from rfl]
          go_wp2_with (at_builtin; refine wpList_append_lies _ rfl (.tmp 28) (.tmp 30) 62 rfl w.heap.size 22 i0 _ 1 4 Tryz.underlying62 hi hz0 hz1 hz2 rfl (by decide) (.slice (some ⟨g, 0, none⟩) k cap) k (iV a) rfl HOC.out ⟨w2.heap.size, 0, none⟩ 1 1 [.int .u32 (p : Int)] rfl rfl ?c1 ?c2 (by decide) ?c3 ?c4 ?c5 _ rfl ?_)
          case c1 => exact World.news_of_block (heap_alloc_at _ _)
          case c2 => intro u hu; simp only [List.mem_cons, List.not_mem_nil, or_false] at hu; rcases hu with rfl; rfl
          case c3 => unfold maxLen; omega
          case c4 => omega
          case c5 => exact BC.out.size
          intro g7 cap7 w7 hown' hgrow hat hlt2
          have HO7 := hid (show w7.ownsRow w.heap.size 22 1 (.slice (some ⟨g7, 0, none⟩) (k + 1) cap7) (k + 1) (iV (a ++ [p])) from by rw [iV_snoc]; exact hown')
          have B7 := hid (BC.out.grown hgrow BC.out.size HOB.out)
          clear hown' hgrow hat hlt2
          go_wp2
          go_roundw
          case rel => exact ⟨k + 1, cap7, g7, a ++ [p], by omega, by go_num, rfl, HE.out, HO7.out, B7.out⟩
          case measure => simp [intOf]; omega
      · have hke : k = N := by omega
        subst hke
        have hte : ws.take k = ws := List.take_of_length_le (by rw [HN.out]; exact Nat.le_refl _)
        rw [hte, HT.out] at HA
        have hla := psV_len (HT.out.trans HA.out)
        rw [HN.out] at hla
        have HUB := hid (u32B_of_own HO.out hla)
        have HTE := hid (show T = some a from HA.out)
        have HLA := hid hla
        clear hown hB hte hmk hk hla ha
        go_wp2
        exact bodyPost_ret (v := .tuple #[.slice (some ⟨g, 0, none⟩) k cap, .bool true]) (by simp [results, Tryz.results96, go_sem]) rfl ⟨by rw [HTE.out]; exact ⟨g, cap, by rw [HLA.out], HUB.out.1, HUB.out.2⟩, HB.out⟩
end Go.Proofs.YtgalmlelnolodaaGreatDoor
