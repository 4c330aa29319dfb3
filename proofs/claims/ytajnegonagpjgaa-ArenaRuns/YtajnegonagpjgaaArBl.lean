/- The law ArenaBlind returns true at all numbers, lists of acts and words. -/
import Derived.Test.YtajnegonagpjgaaArT
namespace Go.Proofs.Ytajnegonagpjgaa
open Go.RowKit

theorem hid {p : Prop} (h : p) : Hid p := h
theorem lt_of_cell {w : World} {b i : Nat} {v : Value} (h : w.cell? ⟨b, i, none⟩ = some v) : b < w.heap.size := by
  rcases Nat.lt_or_ge b w.heap.size with hlt | hge
  · exact hlt
  · simp [World.cell?, Array.getElem?_eq_none hge] at h
theorem keepA {w : World} {o : Obj} {b i : Nat} {v : Value} (h : w.cell? ⟨b, i, none⟩ = some v) : (w.alloc o).cell? ⟨b, i, none⟩ = some v := by
  rw [World.cell?_alloc_past _ _ _ (lt_of_cell h)]; exact h
theorem rowAt {w w' : World} {base : Nat} {e : TypeId} {size n cap : Nat} {ad : Option Addr} {xs : List Value} (h : w.ownsRow base e size (.slice ad n cap) n xs) (hb : Below w.heap.size w w') : ∀ i (_ : i < n), ∃ g, ad = some ⟨g, 0, none⟩ ∧ ∀ j u, xs[j]? = some u → w'.cell? ⟨g, j, none⟩ = some u := by
  intro i hi
  obtain ⟨g, cap2, hv, _, hc⟩ := owns_block h (by omega)
  cases hv
  exact ⟨g, rfl, fun j u hj => cell_later hb (hc j u hj)⟩

set_option maxHeartbeats 800000 in
theorem noted_any (ad : Option Addr) (cap base : Nat) (es : List Ev) (w : World) (h : w.ownsRow base 43 3 (.slice ad es.length cap) es.length (ecells es)) (hk : ∀ e ∈ es, 1 ≤ e.k ∧ e.k ≤ 5) (hn : es.length ≤ 1000000000) :
    Calls Try.prog 26 #[.slice ad es.length cap] w fun e w' => e = .returned (.bool true) ∧ Below w.heap.size w w' := by
  have HR : Hid (∀ i (_ : i < es.length), ∃ g, ad = some ⟨g, 0, none⟩ ∧ ∀ j u, (ecells es)[j]? = some u → w.cell? ⟨g, j, none⟩ = some u) := rowAt h (Below.refl _ _)
  have HK : Hid (∀ e ∈ es, 1 ≤ e.k ∧ e.k ≤ 5) := hk
  clear h hk
  go_enter Try.func26, Try.ntmps26
  go_wp2
  go_loopw [7] (fun i wq => ∃ k : Nat, k ≤ es.length ∧ i = .int .i64 k ∧ Below w.heap.size w wq) (fun i _ => es.length - (intOf i).toNat)
  case atStart => exact ⟨0, Nat.zero_le _, rfl, Below.refl _ _⟩
  case round =>
    obtain ⟨k, hk2, rfl, hBq⟩ := hrel
    by_cases hlt : k < es.length
    · obtain ⟨g1, rfl, f1⟩ := HR.out k hlt
      have e1 := ecells_at es k hlt
      have hkk := HK.out es[k] (List.getElem_mem hlt)
      obtain ⟨ee, hee⟩ : ∃ ee, ee = es[k] := ⟨_, rfl⟩
      rw [← hee] at e1 hkk
      obtain ⟨k1, k2⟩ := hkk
      have a0 := cell_later hBq (f1 _ _ e1.1)
      have a1 := cell_later hBq (f1 _ _ e1.2.1)
      have a2 := cell_later hBq (f1 _ _ e1.2.2)
      clear f1 e1 hee HR HK
      go_wp2
      go_roundw
      case rel => exact ⟨k + 1, by omega, by go_num, chainB (by repeat (first | exact Below.refl _ _ | refine blw_alloc ?_ | refine blw_drew ?_ | assumption)) hBq⟩
      case measure => simp [intOf]; omega
    · go_wp2
      go_ret
      exact ⟨rfl, hBq⟩

/-- words, each with m more -/
def addM (v m : Nat) : Nat := (v + m) % 4294967296
theorem addM_lt (v m : Nat) : addM v m < 4294967296 := Nat.mod_lt _ (by decide)
theorem addM_eq (v m : Nat) : ((v : Int) + (m : Int)) % 4294967296 = ((addM v m : Nat) : Int) := by unfold addM; omega
def moreK (l : List Nat) (m k : Nat) : List Nat := (l.take k).map fun v => addM v m
theorem moreK_len (l : List Nat) (m k : Nat) (h : k ≤ l.length) : (moreK l m k).length = k := by simp [moreK]; omega
theorem moreK_succ (l : List Nat) (m k : Nat) (h : k < l.length) : moreK l m (k + 1) = moreK l m k ++ [addM l[k] m] := by
  unfold moreK; rw [List.take_succ_eq_append_getElem h, List.map_append]; rfl
theorem moreK_lt (l : List Nat) (m k : Nat) : ∀ x ∈ moreK l m k, x < 4294967296 := by
  intro x hx
  obtain ⟨v, _, rfl⟩ := List.mem_map.1 hx
  exact addM_lt v m
theorem secs_snoc (l : List Nat) (x : Nat) : secs (l ++ [x]) = secs l ++ [.int .u32 (x : Int)] := by simp [secs]

theorem owns_u32s {w : World} {base n cap : Nat} {ad : Option Addr} {l : List Nat} (h : w.ownsRow base 29 1 (.slice ad n cap) n (secs l)) (hn : n = l.length) : U32s w ad l ∧ ∀ x, ad = some x → 0 < l.length → base ≤ x.block ∧ x.block < w.heap.size := by
  subst hn
  refine ⟨fun k hk => ?_, fun x hx hp => ?_⟩
  · obtain ⟨g, cap2, hv, _, hc⟩ := owns_block h (by omega)
    cases hv
    refine ⟨_, rfl, ?_⟩
    have := hc k (.int .u32 (l[k] : Int)) (by simp [secs, hk])
    by_cases h0 : k = 0
    · subst h0; exact this
    · simpa [Addr.add, h0] using this
  · obtain ⟨g, cap2, hv, hb, hc⟩ := owns_block h hp
    cases hv
    cases hx
    exact ⟨hb, (h.lt g rfl).2⟩
theorem Act.Ok.step {w w' : World} {F F' : Nat → Prop} {t : Act} (o : Act.Ok w t) (s : Step w F w' F') (ho : Off F t.ad t.l.length) : Act.Ok w' t := ⟨o.kd, o.at1, o.at0, o.n1, o.n0, o.v, o.l, o.u.step s ho⟩
/-- a box of an act, read -/
theorem box_cells {w : World} {g : Nat} {a b c d e : Value} (h : w.heap[g]? = some (.cells #[a, b, c, d, e] 32 (0, 0))) :
    w.cell? ⟨g, 0, none⟩ = some a ∧ w.cell? ⟨g, 1, none⟩ = some b ∧ w.cell? ⟨g, 2, none⟩ = some c ∧ w.cell? ⟨g, 3, none⟩ = some d ∧ w.cell? ⟨g, 4, none⟩ = some e :=
  ⟨cell_of_heap h rfl, cell_of_heap h rfl, cell_of_heap h rfl, cell_of_heap h rfl, cell_of_heap h rfl⟩
set_option maxHeartbeats 800000 in
theorem blind_far (z : Int) (ad : Option Addr) (len cap : Nat) (m : Nat) (w : World) (hz : 100 < z) :
    Calls Try.prog 5 #[.int .i64 z, .slice ad len cap, .int .u32 (m : Int)] w fun e w' => e = .returned (.bool true) ∧ Below w.heap.size w w' := by
  go_enter Try.func5, Try.ntmps5
  go_wp2_with fail
  refine (awake_any _).mono ?_
  rintro e w1 ⟨rfl, hb1⟩
  go_wp2
  go_ret
  exact ⟨rfl, hb1⟩
set_option maxHeartbeats 800000 in
theorem blind_many (z : Int) (ad : Option Addr) (cap : Nat) (l : List Act) (m : Nat) (w : World) (hz : z ≤ 100) (h : ActsAt w ad l) (hf : fewB l = false) :
    Calls Try.prog 5 #[.int .i64 z, .slice ad l.length cap, .int .u32 (m : Int)] w fun e w' => e = .returned (.bool true) ∧ Below w.heap.size w w' := by
  have HC : Hid (ActsAt w ad l) := h
  clear h
  go_enter Try.func5, Try.ntmps5
  go_wp2_with fail
  refine (awake_any _).mono ?_
  rintro e w1 ⟨rfl, hb1⟩
  go_wp2_with (go_at_call 7; refine (few_any _ _ l _ (HC.out.below hb1)).mono ?_; rintro e w2 ⟨rfl, hb2⟩)
  go_ret
  exact ⟨rfl, hb1.trans (hb2.mono hb1.size)⟩

set_option maxRecDepth 100000 in
set_option maxHeartbeats 6400000 in
theorem blind_at (z : Int) (nw : Nat) (ad : Option Addr) (cap : Nat) (l : List Act) (m : Nat) (w : World) (hz : z ≤ 100) (hzn : z < 0 ∧ nw = 0 ∨ z = (nw : Int)) (h : ActsAt w ad l) (hf : fewB l = true) (h60 : l.length ≤ 60) (h40 : ∀ t ∈ l, t.l.length ≤ 40) :
    Calls Try.prog 5 #[.int .i64 z, .slice ad l.length cap, .int .u32 (m : Int)] w fun e w' => e = .returned (.bool true) ∧ Below w.heap.size w w' := by
  obtain ⟨i0, hi, hz0, hz1, hz2⟩ := info_parts Try.infoU32
  have HC : Hid (ActsAt w ad l) := h
  have HZ : Hid (z < 0 ∧ nw = 0 ∨ z = (nw : Int)) := hzn
  have H40 : Hid (∀ t ∈ l, t.l.length ≤ 40) := h40
  have hnw : nw ≤ 100 := by omega
  clear h hzn h40
  go_enter Try.func5, Try.ntmps5
  go_wp2_with fail
  refine (awake_any _).mono ?_
  rintro e w1 ⟨rfl, hb1⟩
  go_wp2_with (first
    | (go_at_call 7; refine (few_any _ _ l _ (HC.out.below hb1)).mono ?_; rintro e w2 ⟨rfl, hb2⟩)
    | fail)
  refine (ar_new_at z nw _ HZ.out (by omega)).mono ?_
  rintro e w3 ⟨ha, Fa, rfl, aa, hia, hb3⟩
  have HAA : Hid (_) := aa
  clear aa
  go_wp2_with fail
  refine (ar_new_at z nw _ HZ.out (by omega)).mono ?_
  rintro e w4 ⟨hb, Fb, rfl, ab, hib, hb4⟩
  have hbw2 : Below w.heap.size w w2 := hb1.trans (hb2.mono hb1.size)
  have hP : Pair (fun w F => Ar w ha F (Ars.new nw)) (fun w F => Ar w hb F (Ars.new nw)) w w4 Fa Fb := by
    refine ⟨HAA.out.below hb4, ab, fun i x y => ?_, fun i x => ?_, fun i x => ?_, ?_⟩
    · have := HAA.out.lt i x; have := hib i y; omega
    · exact Nat.le_trans hbw2.size (hia i x)
    · exact Nat.le_trans hbw2.size (Nat.le_trans hb3.size (hib i x))
    · exact hbw2.trans ((hb3.mono hbw2.size).trans (hb4.mono (Nat.le_trans hbw2.size hb3.size)))
  have HP : Hid (_) := hP
  clear hP ab HAA hia hib hb3 hb4 hb1 hb2 hbw2
  go_wp2_with fail
  go_loopw [32] (fun c wr => ∃ (k : Nat) (F G : Nat → Prop) (A B : Ars), k ≤ l.length ∧ c = .int .i64 k ∧ Pair (fun w F => Ar w ha F A) (fun w F => Ar w hb F B) w wr F G ∧ Like A B ∧ A.es.length ≤ k * 202 ∧ B.es.length ≤ k * 202 ∧ A.ws.length ≤ 100) (fun c _ => l.length - (intOf c).toNat)
  case atStart => exact ⟨0, Fa, Fb, _, _, Nat.zero_le _, rfl, HP.out, ⟨rfl, rfl, rfl, fun e he => by cases he⟩, Nat.le_refl _, Nat.le_refl _, by simp [Ars.new]; omega⟩
  case round =>
    obtain ⟨k, F, G, A, B, hk, rfl, hp, hlike, hae, hbe, haw⟩ := hrel
    obtain ⟨wz, rfl⟩ : ∃ y, y = wr := ⟨_, rfl⟩
    have HP2 : Hid (_) := hp
    have HL : Hid (Like A B) := hlike
    clear hp hlike HP
    by_cases hlt : k < l.length
    · obtain ⟨x, rfl, hc⟩ := HC.out.2 k hlt
      obtain ⟨c0, c1, c2, c3, c4⟩ := hc.below HP2.out.bel
      obtain ⟨t, ht⟩ : ∃ t, t = l[k] := ⟨_, rfl⟩
      rw [← ht] at c0 c1 c2 c3 c4
      have HT : Hid (t = l[k]) := ht
      have HO : Hid (Act.Ok wz t) := by have := HC.out.1 l[k] (List.getElem_mem hlt); rw [← ht] at this; exact this.below HP2.out.bel
      have ht40 : t.l.length ≤ 40 := by rw [ht]; exact H40.out _ (List.getElem_mem hlt)
      have hv := addM_eq t.v m
      clear hc ht
      go_wp2_with fail
      go_loopw [46] (fun c wr => ∃ (j : Nat) (sd : Option Addr) (sc : Nat), j ≤ t.l.length ∧ c = .int .i64 j ∧ wr.heap[wz.heap.size + 1]? = some (.cells #[.int .u8 (t.kd : Int), .int .i64 t.at_, .int .i64 t.n, .int .u32 (addM t.v m : Nat), .slice sd (moreK t.l m j).length sc] 32 (0, 0)) ∧
          wr.ownsRow (wz.heap.size + 1 + 1) 29 1 (.slice sd (moreK t.l m j).length sc) (moreK t.l m j).length (secs (moreK t.l m j)) ∧ Below (wz.heap.size + 1) (wz.alloc (actObj t)) wr) (fun c _ => t.l.length - (intOf c).toNat)
      case atStart =>
        refine ⟨0, none, 0, Nat.zero_le _, rfl, ?_, World.ownsRow_nil _ _ _ _, ?_⟩
        · have e1 : (wz.alloc (actObj t)).heap.size = wz.heap.size + 1 := by simp
          rw [← e1]; exact heap_alloc_at _ _
        · exact (Below.refl _ _).alloc (by simp) _
      case round =>
        obtain ⟨j, sd, sc, hj, rfl, hbox, hown, hBq⟩ := hrel
        have hsz := hBq.size
        rw [World.size_alloc] at hsz
        by_cases hjl : j < t.l.length
        · obtain ⟨y, hy, cy⟩ := HO.out.u j hjl
          have hylt : y.block < wz.heap.size := HO.out.u.lt y hy (by omega)
          have cyq : wz.cell? (y.add j) = some (.int .u32 (t.l[j] : Int)) := cy
          replace cy : wr.cell? (y.add j) = some (.int .u32 (t.l[j] : Int)) := by
            rw [World.cell?_of_block (w := wz) (w' := wr) (a := y.add j) (by rw [add_block, hBq.block _ (by omega), heap_alloc_old _ _ _ hylt])]; exact cyq
          obtain ⟨b0, b1, b2, b3, b4⟩ := box_cells hbox
          have hfz := frozen_of_heap (i := 4) hbox
          have HB : Hid (_) := hbox
          have hlb := lt_of_heap hbox
          have hml : (moreK t.l m j).length ≤ 40 := by rw [moreK_len t.l m j (by omega)]; omega
          have hz := addM_eq t.l[j] m
          have HS : Hid (_) := moreK_succ t.l m j hjl
          have HR : Hid (∀ g, (Value.slice sd (moreK t.l m j).length sc).ownBlock = some g → wz.heap.size + 1 + 1 ≤ g) := fun g hg => (hown.lt g hg).1
          have HOW : Hid ((wr.alloc (.cells #[.int .u32 (addM t.l[j] m : Nat)] 29)).ownsRow (wz.heap.size + 1 + 1) 29 1 (.slice sd (moreK t.l m j).length sc) (moreK t.l m j).length (secs (moreK t.l m j))) := hown.alloc _
          have HN : Hid (∀ i u, [Value.int .u32 (addM t.l[j] m : Nat)][i]? = some u → (wr.alloc (.cells #[.int .u32 (addM t.l[j] m : Nat)] 29)).cell? ((⟨wr.heap.size, 0, none⟩ : Addr).add i) = some u) := World.news_of_block (heap_alloc_at _ _)
          clear hown cyq hbox c0 c1 c2 c3 c4 hv
          rw [hy]
          go_wp2_with (at_builtin; refine wpList_append_own _ rfl (.tmp 51) (.tmp 55) 30 rfl (wz.heap.size + 1 + 1) 29 i0 _ 1 4 Try.underlying30 hi hz0 hz1 hz2 rfl (by decide) (.slice sd (moreK t.l m j).length sc) (moreK t.l m j).length (secs (moreK t.l m j)) rfl HOW.out ⟨wr.heap.size, 0, none⟩ 1 1 [.int .u32 (addM t.l[j] m : Nat)] rfl rfl HN.out (by intro u hu; simp at hu; subst hu; rfl) (by unfold maxLen; omega) (by omega) (by simp; omega) ?_; intro s' w5 hown' hgrow _; obtain ⟨sd', sc', rfl⟩ := owns_shape hown'; have hb5 := (hgrow.block (wz.heap.size + 1) (by simp; omega) (fun e => by have := HR.out _ e.symm; omega)).trans ((heap_alloc_old _ _ _ hlb).trans HB.out); have d4 := cell_of_heap (i := 4) hb5 rfl; have f4 := frozen_of_heap (i := 4) hb5; have HB5 := hid hb5; have HO5 := hid hown'; have HG5 := hid hgrow; clear hb5 hown' hgrow)
          go_roundw
          case rel =>
            have e1 : (moreK t.l m j).length + 1 = (moreK t.l m (j + 1)).length := by rw [HS.out]; simp
            have ho := HO5.out
            have hrw : ∀ q, (Value.slice sd' ((moreK t.l m j).length + 1) sc').ownBlock = some q → wz.heap.size + 1 + 1 ≤ q := fun q hq => (ho.lt q hq).1
            have hse : secs (moreK t.l m j) ++ [.int .u32 (addM t.l[j] m : Nat)] = secs (moreK t.l m (j + 1)) := by rw [HS.out, secs_snoc]
            have ho2 : (w5.setCell ⟨wz.heap.size + 1, 4, none⟩ (.slice sd' ((moreK t.l m j).length + 1) sc')).ownsRow (wz.heap.size + 1 + 1) 29 1 (.slice sd' ((moreK t.l m j).length + 1) sc') ((moreK t.l m j).length + 1) (secs (moreK t.l m j) ++ [.int .u32 (addM t.l[j] m : Nat)]) :=
              owns_of_blocks ho fun q hq => Below.heap_setCell _ _ _ _ (by have := hrw q hq; show q ≠ wz.heap.size + 1; omega)
            refine ⟨j + 1, sd', sc', by omega, by go_num, ?_, ?_, ?_⟩
            · rw [← e1, heap_setCell_at _ _ _ _ _ _ _ HB5.out]; rfl
            · rw [← e1, ← hse]; exact ho2
            · have g5 : Below (wz.heap.size + 1) (wz.alloc (actObj t)) w5 := (hBq.alloc (by omega) _).grown HG5.out (by simp; omega) (fun q hq => by have := HR.out q hq; omega)
              exact g5.setCell (Nat.le_refl _) _
          case measure => simp [intOf]; omega
        · have hje : j = t.l.length := by omega
          subst hje
          have hbx : wr.heap[wz.heap.size]? = some (actObj t) := (hBq.block _ (by omega)).trans (heap_alloc_at _ _)
          obtain ⟨b0, b1, b2, b3, b4⟩ := box_cells hbx
          obtain ⟨y0, y1, y2, y3, y4⟩ := box_cells hbox
          have hB' : Below wz.heap.size wz wr := (show Below wz.heap.size wz (wz.alloc (actObj t)) from (Below.refl _ _).alloc (Nat.le_refl _) _).trans (hBq.mono (by omega))
          have P3 := hid (HP2.out.below (ar_owns ha A) (ar_owns hb B) hB')
          have hmem : t ∈ l := by rw [HT.out]; exact List.getElem_mem hlt
          have O1 := hid (HO.out.below hB')
          have O2 := hid (show Off F t.ad t.l.length from off_high (HC.out.1 t hmem).u HP2.out.hf)
          have FL := hid (show ∀ i, F i → i < wz.heap.size from HP2.out.p.lt)
          have GL := hid (show ∀ i, G i → i < wz.heap.size from HP2.out.q.lt)
          obtain ⟨ru, rb⟩ := owns_u32s hown rfl
          have RU := hid ru
          have RB := hid rb
          have BX := hid hbox
          have hat : A.top ≤ 100 := Nat.le_trans HP2.out.p.ok.1 haw
          have hbt : B.top ≤ 100 := by rw [← HL.out.top]; exact hat
          have hml : (moreK t.l m t.l.length).length ≤ 40 := by rw [moreK_len t.l m _ (Nat.le_refl _)]; exact ht40
          have hsl : wz.heap.size + 1 < wr.heap.size := lt_of_heap hbox
          clear hbox hbx hown ru rb c0 c1 c2 c3 c4 hv hBq HP2
          go_wp2_with fail
          refine (do_any ha F A t _ P3.out.p O1.out O2.out (by omega) (by omega) (by omega)).mono ?_
          rintro e w6 ⟨rfl, F6, a6, s6⟩
          have P6 := hid (Pair.left (P' := fun w F => Ar w ha F (A.act t)) P3.out (ar_owns hb B) a6 s6)
          have hny : ¬ F (wz.heap.size + 1) := fun z => by have := FL.out _ z; omega
          have bx6 := s6.heap BX.out hny
          clear y0 y1 y2 y3 y4
          obtain ⟨y0, y1, y2, y3, y4⟩ := box_cells bx6
          have OF : Off F sd (moreK t.l m t.l.length).length := fun q hq hp z => by have := (RB.out q hq hp).1; have := FL.out _ z; omega
          have OG := hid (show Off G sd (moreK t.l m t.l.length).length from fun q hq hp z => by have := (RB.out q hq hp).1; have := GL.out _ z; omega)
          have O6 := hid (show Act.Ok w6 ⟨t.kd, t.at_, t.n, addM t.v m, sd, sc, moreK t.l m t.l.length⟩ from ⟨O1.out.kd, O1.out.at1, O1.out.at0, O1.out.n1, O1.out.n0, addM_lt _ _, moreK_lt _ _ _, RU.out.step s6 OF⟩)
          clear a6 s6 bx6 OF
          go_wp2_with fail
          refine (do_any hb G B ⟨t.kd, t.at_, t.n, addM t.v m, sd, sc, moreK t.l m t.l.length⟩ _ P6.out.q O6.out OG.out (by omega) (by omega) (by show (moreK t.l m t.l.length).length ≤ _; omega)).mono ?_
          rintro e w7 ⟨rfl, G7, a7, s7⟩
          have P7 := hid (Pair.right (Q' := fun w F => Ar w hb F (B.act ⟨t.kd, t.at_, t.n, addM t.v m, sd, sc, moreK t.l m t.l.length⟩)) P6.out (ar_owns ha (A.act t)) a7 s7)
          clear a7 s7
          go_wp2_with fail
          go_roundw
          case rel =>
            have h1 := act_es A t ht40 hat
            have h2 := act_es B ⟨t.kd, t.at_, t.n, addM t.v m, sd, sc, moreK t.l m t.l.length⟩ hml hbt
            refine ⟨k + 1, F6, G7, _, _, by omega, by go_num, P7.out, HL.out.act _ _ rfl rfl rfl (moreK_len t.l m _ (Nat.le_refl _)), by omega, by omega, by rw [act_ws]; exact haw⟩
          case measure => simp [intOf]; omega
    · have hke : k = l.length := by omega
      clear HC H40
      obtain ⟨es, hes⟩ : ∃ es, es = A.es.map blindE := ⟨_, rfl⟩
      have hesl : es.length = A.es.length := by rw [hes]; simp
      have hesb : es.length = B.es.length := by rw [hes, HL.out.es]; simp
      have hesk : ∀ e ∈ es, 1 ≤ e.k ∧ e.k ≤ 5 := by
        intro e he
        rw [hes] at he
        obtain ⟨f, hf, rfl⟩ := List.mem_map.1 he
        have := HL.out.kd f hf
        unfold blindE; split <;> exact this
      have hesB : es = B.es.map blindE := by rw [hes, HL.out.es]
      have hen : es.length ≤ 100000 := by omega
      have HE1 := hid hes
      have HE2 := hid hesB
      have HE3 := hid hesl
      have HE4 := hid hesb
      have HE5 := hid hesk
      clear hes hesB hesl hesb hesk hae hbe hke HL
      go_wp2_with fail
      refine (ar_log ha F A _ HP2.out.p).mono ?_
      rintro e w' ⟨rfl, hw⟩
      subst w'
      go_wp2_with fail
      obtain ⟨oa, hLa, _⟩ := HP2.out.p.log
      refine (blind_any _ _ A.es _ hLa (by rw [← HE3.out]; omega)).mono ?_
      rintro e w5 ⟨ad1, cap1, rfl, ho1, hb5⟩
      rw [← HE1.out] at ho1
      rw [← HE3.out] at ho1 ⊢
      have O1 := hid ho1
      have P5 := hid (HP2.out.below (ar_owns ha A) (ar_owns hb B) hb5)
      clear ho1 hLa hb5
      go_wp2_with fail
      refine (ar_log hb G B _ P5.out.q).mono ?_
      rintro e w' ⟨rfl, hw⟩
      subst w'
      go_wp2_with fail
      obtain ⟨ob, hLb, _⟩ := P5.out.q.log
      refine (blind_any _ _ B.es _ hLb (by rw [← HE4.out]; omega)).mono ?_
      rintro e w6 ⟨ad2, cap2, rfl, ho2, hb6⟩
      rw [← HE2.out] at ho2
      rw [← HE4.out] at ho2 ⊢
      have P6 := hid (P5.out.below (ar_owns ha A) (ar_owns hb B) hb6)
      have RP : Hid (∀ i (_ : i < es.length), ∃ g, ad1 = some ⟨g, 0, none⟩ ∧ ∀ j u, (ecells es)[j]? = some u → w6.cell? ⟨g, j, none⟩ = some u) := rowAt O1.out hb6
      have RQ : Hid (∀ i (_ : i < es.length), ∃ g, ad2 = some ⟨g, 0, none⟩ ∧ ∀ j u, (ecells es)[j]? = some u → w6.cell? ⟨g, j, none⟩ = some u) := rowAt ho2 (Below.refl _ _)
      have O6 : Hid (w6.ownsRow 0 43 3 (.slice ad1 es.length cap1) es.length (ecells es)) := by
        have := owns_of_blocks (w' := w6) O1.out fun q hq => hb6.block q (O1.out.lt q hq).2
        refine ⟨this.1, ?_⟩
        rcases this.2 with z | ⟨g, cap, cur, z1, z2, z3⟩
        · exact Or.inl z
        · exact Or.inr ⟨g, cap, cur, z1, Nat.zero_le _, z3⟩
      clear ho2 hLb hb6 O1 P5 HP2 HE1 HE2 HE4
      go_wp2_with fail
      go_loopw [79] (fun c wq => ∃ q : Nat, q ≤ es.length ∧ c = .int .i64 q ∧ Below w6.heap.size w6 wq) (fun c _ => es.length - (intOf c).toNat)
      case atStart => exact ⟨0, Nat.zero_le _, rfl, Below.refl _ _⟩
      case round =>
        obtain ⟨q, hq, rfl, hBq⟩ := hrel
        by_cases hql : q < es.length
        · obtain ⟨g1, rfl, f1⟩ := RP.out q hql
          obtain ⟨g2, rfl, f2⟩ := RQ.out q hql
          have e1 := ecells_at es q hql
          obtain ⟨ee, hee⟩ : ∃ ee, ee = es[q] := ⟨_, rfl⟩
          rw [← hee] at e1
          have a0 := cell_later hBq (f1 _ _ e1.1)
          have a1 := cell_later hBq (f1 _ _ e1.2.1)
          have a2 := cell_later hBq (f1 _ _ e1.2.2)
          have b0 := cell_later hBq (f2 _ _ e1.1)
          have b1 := cell_later hBq (f2 _ _ e1.2.1)
          have b2 := cell_later hBq (f2 _ _ e1.2.2)
          clear f1 f2 e1 hee RP RQ
          go_wp2_with fail
          go_quiet (fail)
          go_wp2_with fail
          go_roundw
          case rel => exact ⟨q + 1, by omega, by go_num, hBq.trans (below_drewN (Below.refl _ _) _)⟩
          case measure => simp [intOf]; omega
        · have hqe : q = es.length := by omega
          clear RP RQ
          have P7 := hid (P6.out.below (ar_owns ha A) (ar_owns hb B) hBq)
          go_wp2_with fail
          refine (ar_log ha F A _ P7.out.p).mono ?_
          rintro e w' ⟨rfl, hw⟩
          subst w'
          go_wp2_with fail
          obtain ⟨oc, hLc, _⟩ := P7.out.p.log
          refine (len_any _ _ _ _ _ hLc).mono ?_
          rintro e w' ⟨rfl, hw⟩
          subst w'
          rw [← HE3.out]
          go_wp2_with fail
          refine (noted_any _ _ 0 es _ (owns_of_blocks O6.out fun i hi => hBq.block i (O6.out.lt i hi).2) HE5.out (by omega)).mono ?_
          rintro e w8 ⟨rfl, hb8⟩
          go_wp2_with fail
          go_ret
          exact ⟨rfl, P7.out.bel.trans (hb8.mono P7.out.bel.size)⟩

theorem few_is (l : List Act) (h : fewB l = true) : l.length ≤ 60 ∧ ∀ t ∈ l, t.l.length ≤ 40 := by
  simp only [fewB, Bool.and_eq_true, decide_eq_true_eq, List.all_eq_true] at h
  exact ⟨h.1, fun t ht => h.2 t ht⟩
theorem arenaBlind_walk (z : Int) (ad : Option Addr) (len cap : Nat) (m : Nat) (w : World) (_h1 : -9223372036854775808 ≤ z) (_h2 : z < 9223372036854775808) (h : ∃ l : List Act, l.length = len ∧ ActsAt w ad l) (_hm : m < 4294967296) :
    Calls Try.prog 5 #[.int .i64 z, .slice ad len cap, .int .u32 (m : Int)] w fun e w' => e = .returned (.bool true) ∧ Below w.heap.size w w' := by
  obtain ⟨l, rfl, h⟩ := h
  by_cases hz : 100 < z
  · exact blind_far z ad _ cap m w hz
  · cases hf : fewB l
    · exact blind_many z ad cap l m w (by omega) h hf
    · obtain ⟨f1, f2⟩ := few_is l hf
      by_cases hneg : z < 0
      · exact blind_at z 0 ad cap l m w (by omega) (Or.inl ⟨hneg, rfl⟩) h hf f1 f2
      · exact blind_at z z.toNat ad cap l m w (by omega) (Or.inr (by omega)) h hf f1 f2
theorem read_arenaBlind {H : Type} {enc : TypeId × Value → H} {W : World} {ad : Option Addr} {len cap : Nat} {d : DataW H} {p : List MemPlace} (h : DataW.Trod enc Try.prog W 0 (fun _ => true) true 22 (.slice ad len cap) d p) :
    ∃ l : List Act, l.length = len ∧ ActsAt W ad l := read_acts h
end Go.Proofs.Ytajnegonagpjgaa
