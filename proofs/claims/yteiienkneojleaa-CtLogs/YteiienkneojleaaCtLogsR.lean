/- The first loop's round of the law CtLogs, kind by kind. -/
import Derived.Test.YteiienkneojleaaCtQ
import Derived.Deep.RegionHeld3
namespace Go.Proofs.Yteiienkneojleaa
open Go.RowKit

/-- a note, as the law takes it -/
structure Nt where
  kd : Nat
  at_ : Int
  n : Int
  v : Nat
def evOf (t : Nt) : Ev :=
  if t.kd % 5 = 0 then ⟨1, t.at_, 0⟩ else if t.kd % 5 = 1 then ⟨2, t.at_, 0⟩ else if t.kd % 5 = 2 then ⟨4, t.at_, cnt t.n⟩ else if t.kd % 5 = 3 then ⟨5, t.at_, cnt t.n⟩ else ⟨3, 0, t.v⟩
def evK (l : List Nt) (k : Nat) : List Ev := (l.take k).map evOf
theorem evK_len (l : List Nt) (k : Nat) (h : k ≤ l.length) : (evK l k).length = k := by simp [evK]; omega
theorem evK_succ (l : List Nt) (k : Nat) (h : k < l.length) : evK l (k + 1) = evK l k ++ [evOf l[k]] := by
  unfold evK; rw [List.take_succ_eq_append_getElem h, List.map_append]; rfl

theorem heapN (w : World) (o : Obj) (n : Nat) (h : n = w.heap.size) : (w.alloc o).heap[n]? = some o := by subst h; exact heap_alloc_at w o
theorem heapO (w : World) (o o2 : Obj) (n : Nat) (h : n = w.heap.size) (h2 : n < (w.alloc o).heap.size) : ((w.alloc o).alloc o2).heap[n]? = some o := by rw [heap_alloc_old _ _ _ h2]; exact heapN w o n h
theorem grown_cell {w w' : World} {row : Option Nat} {b i : Nat} {v : Value} (h : w.grownBy w' row) (hc : w.cell? ⟨b, i, none⟩ = some v) (hne : some b ≠ row) : w'.cell? ⟨b, i, none⟩ = some v := h.cell hc hne
theorem lt_of_cell {w : World} {b i : Nat} {v : Value} (h : w.cell? ⟨b, i, none⟩ = some v) : b < w.heap.size := by
  rcases Nat.lt_or_ge b w.heap.size with hlt | hge
  · exact hlt
  · simp [World.cell?, Array.getElem?_eq_none hge] at h
theorem keepA {w : World} {o : Obj} {b i : Nat} {v : Value} (h : w.cell? ⟨b, i, none⟩ = some v) : (w.alloc o).cell? ⟨b, i, none⟩ = some v := by
  rw [World.cell?_alloc_past _ _ _ (lt_of_cell h)]; exact h
theorem keepAD {w : World} {o : Obj} {b i : Nat} {v : Value} (h : w.drew.cell? ⟨b, i, none⟩ = some v) : (w.alloc o).drew.cell? ⟨b, i, none⟩ = some v := keepA (w := w) h
theorem u32_one {v : Int} : ∀ u ∈ [Value.int .u32 v], u.oneCell' = true := by intro u hu; simp at hu; subst hu; rfl
theorem rowAt {w w' : World} {base : Nat} {e : TypeId} {size n cap : Nat} {ad : Option Addr} {xs : List Value} (h : w.ownsRow base e size (.slice ad n cap) n xs) (hb : Below w.heap.size w w') : ∀ i (_ : i < n), ∃ g, ad = some ⟨g, 0, none⟩ ∧ ∀ j u, xs[j]? = some u → w'.cell? ⟨g, j, none⟩ = some u := by
  intro i hi
  obtain ⟨g, cap2, hv, _, hc⟩ := owns_block h (by omega)
  cases hv
  exact ⟨g, rfl, fun j u hj => cell_later hb (hc j u hj)⟩
theorem noted_cell {g : Nat} {ob : Option Nat} {n : Nat} {xs e : List Value} {w w' : World} {b i : Nat} {v : Value} (h : Noted g ob n xs e w w') (hc : w.cell? ⟨b, i, none⟩ = some v) (hg : b ≠ g) (hob : ∀ x, ob = some x → x ≠ b) : w'.cell? ⟨b, i, none⟩ = some v := by
  obtain ⟨k, _, _, hF⟩ := h
  rw [World.cell?_of_block (hF.block b (lt_of_cell hc) (fun x => x.elim (fun x => hg x) (fun x => hob b x rfl)))]; exact hc

set_option maxRecDepth 100000 in
set_option maxHeartbeats 1600000 in
theorem ctLogs_at (ad : Option Addr) (cap : Nat) (l : List Nt) (w : World) (hl : ∀ t ∈ l, t.kd < 256 ∧ t.v < 4294967296) (hn : l.length ≤ 100)
    (hc : ∀ k (hk : k < l.length), ∃ x, ad = some x ∧ w.cell? (x.add (k * 4)) = some (.int .u8 (l[k].kd : Int)) ∧ w.cell? ⟨(x.add (k * 4)).block, (x.add (k * 4)).off + 1, none⟩ = some (.int .i64 l[k].at_) ∧ w.cell? ⟨(x.add (k * 4)).block, (x.add (k * 4)).off + 2, none⟩ = some (.int .i64 l[k].n) ∧ w.cell? ⟨(x.add (k * 4)).block, (x.add (k * 4)).off + 3, none⟩ = some (.int .u32 (l[k].v : Int))) :
    Calls Try.prog 7 #[.slice ad l.length cap] w fun e w' => e = .returned (.bool true) ∧ Below w.heap.size w w' := by
  obtain ⟨i0, hi, hz0, hz1, hz2⟩ := info_parts Try.infoEvent
  obtain ⟨j0, hj, hy0, hy1, hy2⟩ := info_parts Try.infoU32
  go_enter Try.func7, Try.ntmps7
  go_wp2_with fail
  refine (awake_any _).mono ?_
  rintro e w1 ⟨rfl, hb1⟩
  go_wp2_with fail
  refine (newlog_any _).mono ?_
  rintro e w2 ⟨rfl, rfl⟩
  go_wp2_with fail
  go_loopw [4, 5, 24] (fun a b i wr => ∃ (k : Nat) (ob : Option Nat) (wd td : Option Addr) (wc tc : Nat), k ≤ l.length ∧ i = .int .i64 k ∧ a = .slice wd (evK l k).length wc ∧ b = .slice td (toldE (evK l k)).length tc ∧
      St w w.heap.size w1.heap.size wr ob (evK l k) (evK l k) (evK l k) (.slice wd (evK l k).length wc) (.slice td (toldE (evK l k)).length tc)) (fun _ _ i _ => l.length - (intOf i).toNat)
  case atStart =>
    refine ⟨0, none, none, none, 0, 0, Nat.zero_le _, rfl, rfl, rfl, ?_⟩
    exact ⟨newlog_at w1, fun x hx => by (cases hx), World.ownsRow_nil _ _ _ _, World.ownsRow_nil _ _ _ _, fun x hx => by (cases hx), hb1.trans (by refine Below.mono ?_ hb1.size; exact (by repeat (first | exact Below.refl _ _ | refine blw_alloc ?_ | refine blw_drew ?_ | assumption))), Nat.le_refl _, hb1.size⟩
  case round =>
    obtain ⟨k, ob, wd, td, wc, tc, hk, rfl, rfl, rfl, hS⟩ := hrel
    by_cases hlt : k < l.length
    · obtain ⟨x, rfl, c0, c1, c2, c3⟩ := hc k hlt
      replace c0 := cell_later hS.bel c0
      replace c1 := cell_later hS.bel c1
      replace c2 := cell_later hS.bel c2
      replace c3 := cell_later hS.bel c3
      have HS : Hid (St w w.heap.size w1.heap.size wr ob (evK l k) (evK l k) (evK l k) (.slice wd (evK l k).length wc) (.slice td (toldE (evK l k)).length tc)) := hS
      clear hc hS hb1
      obtain ⟨t, ht⟩ : ∃ t, t = l[k] := ⟨_, rfl⟩
      rw [← ht] at c0 c1 c2 c3
      have HT : Hid (t = l[k]) := ht
      have hb := hl t (by rw [ht]; exact List.getElem_mem hlt)
      clear ht hl
      obtain ⟨m, hm⟩ : ∃ m, (if t.n < 0 then 0 else t.n) = m := ⟨_, rfl⟩
      obtain ⟨c, hcn⟩ : ∃ c, (if 4294967295 < m then 4294967295 else m) = c := ⟨_, rfl⟩
      have HC : Hid (c = cnt t.n) := by unfold Hid cnt; rw [hm, hcn]
      have hcb : 0 ≤ c ∧ c ≤ 4294967295 := by rw [HC.out]; exact cnt_bd t.n
      have hlen := evK_len l k hk
      have hlk : (evK l k).length ≤ 100 := by omega
      have HEK : Hid (evK l (k + 1) = evK l k ++ [evOf l[k]]) := evK_succ l k hlt
      have hrow := HS.out.log.row_lt
      have hGlt := HS.out.log.lt
      clear hlen
      have hr : t.kd % 5 = 0 ∨ t.kd % 5 = 1 ∨ t.kd % 5 = 2 ∨ t.kd % 5 = 3 ∨ t.kd % 5 = 4 := by omega
      rcases hr with hr | hr | hr | hr | hr
      · have HE : Hid (evOf l[k] = ⟨1, t.at_, 0⟩) := by unfold Hid; rw [← HT.out]; simp [evOf, hr]
        have hr5 : (t.kd : Int) % 5 = 0 := by omega
        clear hr
        go_wp2_with fail
        refine (load_any w1.heap.size ob (evK l k).length (ecells (evK l k)) t.at_ _ (HS.out.log.alloc _) (by omega)).mono ?_
        rintro e w3 ⟨rfl, hN⟩
        obtain ⟨kk, hS3, hF⟩ := St.note (e := ⟨1, t.at_, 0⟩) (HS.out.alloc _) hN
        have hnb : w3.heap[wr.heap.size]? = some (.cells #[.int .u8 (t.kd : Int), .int .i64 t.at_, .int .i64 t.n, .int .u32 (t.v : Int)] 48) := by
          rw [hF.block wr.heap.size (by simp) (fun x => x.elim (fun x => by omega) (fun x => by have := hrow _ x; omega))]; exact heap_alloc_at _ _
        have n1 := cell_of_heap (i := 1) hnb rfl
        have HS3 : Hid (St w w.heap.size w1.heap.size w3 (some kk) (evK l k ++ [⟨1, t.at_, 0⟩]) (evK l k) (evK l k) (.slice wd (evK l k).length wc) (.slice td (toldE (evK l k)).length tc)) := hS3
        clear hN hF hnb hS3 HS c0 c1 c2 c3 hrow
        go_wp2_with (at_builtin; refine wpList_append_lies _ rfl (.tmp 42) (.tmp 46) 45 rfl w.heap.size 51 i0 _ 3 24 Try.underlying45 hi hz0 hz1 hz2 rfl (by decide) (.slice wd (evK l k).length wc) (evK l k).length (ecells (evK l k)) rfl (HS3.out.alloc _).want ⟨w3.heap.size, 0, none⟩ 1 1 (ev 1 (t.at_) (0)) rfl rfl (World.news_of_block (heap_alloc_at _ _)) (ecells_one [⟨1, t.at_, 0⟩]) (by decide) (by unfold maxLen; omega) (by omega) (Nat.le_trans HS3.out.base (HS3.out.alloc _).bel.size) _ rfl ?_; intro g2 cap2 w4 hown hgrow hat hlt2)
        have hS4 := St.toldSkip (e := ⟨1, t.at_, 0⟩) (St.wantStep (e := ⟨1, t.at_, 0⟩) (HS3.out.alloc _) hown hgrow hat (by simp)) rfl
        have HS4 : Hid (_) := hS4
        clear hown hgrow hat hlt2 hS4 HS3 n1
        go_wp2
        go_roundw
        case rel =>
          have hE1 : evK l (k + 1) = evK l k ++ [⟨1, t.at_, 0⟩] := by rw [HEK.out, HE.out]
          refine ⟨k + 1, some kk, some ⟨g2, 0, none⟩, td, cap2, tc, by omega, by go_num, by rw [hE1, List.length_append]; rfl, ?_, ?_⟩
          · rw [hE1, toldE_append]; simp [toldE]
          · rw [hE1]
            have h4 := HS4.out
            have ht1 : toldE (evK l k ++ [⟨1, t.at_, 0⟩]) = toldE (evK l k) := by rw [toldE_append]; simp [toldE]
            rw [ht1, List.length_append]
            exact h4
        case measure => simp [intOf]; omega
      · have HE : Hid (evOf l[k] = ⟨2, t.at_, 0⟩) := by unfold Hid; rw [← HT.out]; simp [evOf, hr]
        have hr5 : (t.kd : Int) % 5 = 1 := by omega
        clear hr
        go_wp2_with fail
        refine (store_any w1.heap.size ob (evK l k).length (ecells (evK l k)) t.at_ _ (HS.out.log.alloc _) (by omega)).mono ?_
        rintro e w3 ⟨rfl, hN⟩
        obtain ⟨kk, hS3, hF⟩ := St.note (e := ⟨2, t.at_, 0⟩) (HS.out.alloc _) hN
        have hnb : w3.heap[wr.heap.size]? = some (.cells #[.int .u8 (t.kd : Int), .int .i64 t.at_, .int .i64 t.n, .int .u32 (t.v : Int)] 48) := by
          rw [hF.block wr.heap.size (by simp) (fun x => x.elim (fun x => by omega) (fun x => by have := hrow _ x; omega))]; exact heap_alloc_at _ _
        have n1 := cell_of_heap (i := 1) hnb rfl
        have HS3 : Hid (St w w.heap.size w1.heap.size w3 (some kk) (evK l k ++ [⟨2, t.at_, 0⟩]) (evK l k) (evK l k) (.slice wd (evK l k).length wc) (.slice td (toldE (evK l k)).length tc)) := hS3
        clear hN hF hnb hS3 HS c0 c1 c2 c3 hrow
        go_wp2_with (at_builtin; refine wpList_append_lies _ rfl (.tmp 54) (.tmp 58) 45 rfl w.heap.size 51 i0 _ 3 24 Try.underlying45 hi hz0 hz1 hz2 rfl (by decide) (.slice wd (evK l k).length wc) (evK l k).length (ecells (evK l k)) rfl (HS3.out.alloc _).want ⟨w3.heap.size, 0, none⟩ 1 1 (ev 2 (t.at_) (0)) rfl rfl (World.news_of_block (heap_alloc_at _ _)) (ecells_one [⟨2, t.at_, 0⟩]) (by decide) (by unfold maxLen; omega) (by omega) (Nat.le_trans HS3.out.base (HS3.out.alloc _).bel.size) _ rfl ?_; intro g2 cap2 w4 hown hgrow hat hlt2)
        have hS4 := St.toldSkip (e := ⟨2, t.at_, 0⟩) (St.wantStep (e := ⟨2, t.at_, 0⟩) (HS3.out.alloc _) hown hgrow hat (by simp)) rfl
        have HS4 : Hid (_) := hS4
        clear hown hgrow hat hlt2 hS4 HS3 n1
        go_wp2
        go_roundw
        case rel =>
          have hE1 : evK l (k + 1) = evK l k ++ [⟨2, t.at_, 0⟩] := by rw [HEK.out, HE.out]
          refine ⟨k + 1, some kk, some ⟨g2, 0, none⟩, td, cap2, tc, by omega, by go_num, by rw [hE1, List.length_append]; rfl, ?_, ?_⟩
          · rw [hE1, toldE_append]; simp [toldE]
          · rw [hE1]
            have h4 := HS4.out
            have ht1 : toldE (evK l k ++ [⟨2, t.at_, 0⟩]) = toldE (evK l k) := by rw [toldE_append]; simp [toldE]
            rw [ht1, List.length_append]
            exact h4
        case measure => simp [intOf]; omega
      · have HE : Hid (evOf l[k] = ⟨4, t.at_, c⟩) := by unfold Hid; rw [← HT.out, HC.out]; simp [evOf, hr]
        have hr5 : (t.kd : Int) % 5 = 2 := by omega
        clear hr
        go_wp2_with fail
        refine (take_any w1.heap.size ob (evK l k).length (ecells (evK l k)) t.at_ t.n _ (HS.out.log.alloc _) (by omega)).mono ?_
        rintro e w3 ⟨rfl, hN⟩
        rw [← HC.out] at hN
        obtain ⟨kk, hS3, hF⟩ := St.note (e := ⟨4, t.at_, c⟩) (HS.out.alloc _) hN
        have hnb : w3.heap[wr.heap.size]? = some (.cells #[.int .u8 (t.kd : Int), .int .i64 t.at_, .int .i64 t.n, .int .u32 (t.v : Int)] 48) := by
          rw [hF.block wr.heap.size (by simp) (fun x => x.elim (fun x => by omega) (fun x => by have := hrow _ x; omega))]; exact heap_alloc_at _ _
        have n1 := cell_of_heap (i := 1) hnb rfl
        have HS3 : Hid (St w w.heap.size w1.heap.size w3 (some kk) (evK l k ++ [⟨4, t.at_, c⟩]) (evK l k) (evK l k) (.slice wd (evK l k).length wc) (.slice td (toldE (evK l k)).length tc)) := hS3
        clear hN hF hnb hS3 HS c0 c1 c2 c3 hrow
        go_wp2_with (at_builtin; refine wpList_append_lies _ rfl (.tmp 68) (.tmp 73) 45 rfl w.heap.size 51 i0 _ 3 24 Try.underlying45 hi hz0 hz1 hz2 rfl (by decide) (.slice wd (evK l k).length wc) (evK l k).length (ecells (evK l k)) rfl (HS3.out.alloc _).want ⟨w3.heap.size, 0, none⟩ 1 1 (ev 4 (t.at_) (c)) rfl rfl (World.news_of_block (heap_alloc_at _ _)) (ecells_one [⟨4, t.at_, c⟩]) (by decide) (by unfold maxLen; omega) (by omega) (Nat.le_trans HS3.out.base (HS3.out.alloc _).bel.size) _ rfl ?_; intro g2 cap2 w4 hown hgrow hat hlt2)
        have hS4 := St.toldSkip (e := ⟨4, t.at_, c⟩) (St.wantStep (e := ⟨4, t.at_, c⟩) (HS3.out.alloc _) hown hgrow hat (by simp)) rfl
        have HS4 : Hid (_) := hS4
        clear hown hgrow hat hlt2 hS4 HS3 n1
        go_wp2
        go_roundw
        case rel =>
          have hE1 : evK l (k + 1) = evK l k ++ [⟨4, t.at_, c⟩] := by rw [HEK.out, HE.out]
          refine ⟨k + 1, some kk, some ⟨g2, 0, none⟩, td, cap2, tc, by omega, by go_num, by rw [hE1, List.length_append]; rfl, ?_, ?_⟩
          · rw [hE1, toldE_append]; simp [toldE]
          · rw [hE1]
            have h4 := HS4.out
            have ht1 : toldE (evK l k ++ [⟨4, t.at_, c⟩]) = toldE (evK l k) := by rw [toldE_append]; simp [toldE]
            rw [ht1, List.length_append]
            exact h4
        case measure => simp [intOf]; omega
      · have HE : Hid (evOf l[k] = ⟨5, t.at_, c⟩) := by unfold Hid; rw [← HT.out, HC.out]; simp [evOf, hr]
        have hr5 : (t.kd : Int) % 5 = 3 := by omega
        clear hr
        go_wp2_with fail
        refine (give_any w1.heap.size ob (evK l k).length (ecells (evK l k)) t.at_ t.n _ (HS.out.log.alloc _) (by omega)).mono ?_
        rintro e w3 ⟨rfl, hN⟩
        rw [← HC.out] at hN
        obtain ⟨kk, hS3, hF⟩ := St.note (e := ⟨5, t.at_, c⟩) (HS.out.alloc _) hN
        have hnb : w3.heap[wr.heap.size]? = some (.cells #[.int .u8 (t.kd : Int), .int .i64 t.at_, .int .i64 t.n, .int .u32 (t.v : Int)] 48) := by
          rw [hF.block wr.heap.size (by simp) (fun x => x.elim (fun x => by omega) (fun x => by have := hrow _ x; omega))]; exact heap_alloc_at _ _
        have n1 := cell_of_heap (i := 1) hnb rfl
        have HS3 : Hid (St w w.heap.size w1.heap.size w3 (some kk) (evK l k ++ [⟨5, t.at_, c⟩]) (evK l k) (evK l k) (.slice wd (evK l k).length wc) (.slice td (toldE (evK l k)).length tc)) := hS3
        clear hN hF hnb hS3 HS c0 c1 c2 c3 hrow
        go_wp2_with (at_builtin; refine wpList_append_lies _ rfl (.tmp 83) (.tmp 88) 45 rfl w.heap.size 51 i0 _ 3 24 Try.underlying45 hi hz0 hz1 hz2 rfl (by decide) (.slice wd (evK l k).length wc) (evK l k).length (ecells (evK l k)) rfl (HS3.out.alloc _).want ⟨w3.heap.size, 0, none⟩ 1 1 (ev 5 (t.at_) (c)) rfl rfl (World.news_of_block (heap_alloc_at _ _)) (ecells_one [⟨5, t.at_, c⟩]) (by decide) (by unfold maxLen; omega) (by omega) (Nat.le_trans HS3.out.base (HS3.out.alloc _).bel.size) _ rfl ?_; intro g2 cap2 w4 hown hgrow hat hlt2)
        have hS4 := St.toldSkip (e := ⟨5, t.at_, c⟩) (St.wantStep (e := ⟨5, t.at_, c⟩) (HS3.out.alloc _) hown hgrow hat (by simp)) rfl
        have HS4 : Hid (_) := hS4
        clear hown hgrow hat hlt2 hS4 HS3 n1
        go_wp2
        go_roundw
        case rel =>
          have hE1 : evK l (k + 1) = evK l k ++ [⟨5, t.at_, c⟩] := by rw [HEK.out, HE.out]
          refine ⟨k + 1, some kk, some ⟨g2, 0, none⟩, td, cap2, tc, by omega, by go_num, by rw [hE1, List.length_append]; rfl, ?_, ?_⟩
          · rw [hE1, toldE_append]; simp [toldE]
          · rw [hE1]
            have h4 := HS4.out
            have ht1 : toldE (evK l k ++ [⟨5, t.at_, c⟩]) = toldE (evK l k) := by rw [toldE_append]; simp [toldE]
            rw [ht1, List.length_append]
            exact h4
        case measure => simp [intOf]; omega
      · have HE : Hid (evOf l[k] = ⟨3, 0, (t.v : Int)⟩) := by unfold Hid; rw [← HT.out]; simp [evOf, hr]
        have hr5 : (t.kd : Int) % 5 = 4 := by omega
        clear hr
        go_wp2_with fail
        go_region_held3 (fun w' => w'.cell? ⟨wr.heap.size, 3, none⟩ = some (.int .u32 (t.v : Int)))
          (first | assumption | (simp [*]; done) | exact noted_cell (by assumption) (by assumption) (by omega) (by intro x hx; have := hrow x hx; omega))
          (first
            | (go_at_call 10; refine (of_any _ _).mono ?_; rintro e w3 ⟨rfl, rfl⟩)
            | (go_at_call 36; refine (release_any w1.heap.size ob (evK l k).length (ecells (evK l k)) (t.v : Int) _ (by first | exact ((HS.out.log.alloc _).drew.alloc _) | exact ((HS.out.log.alloc _).alloc _).drew) (by omega)).mono ?_; rintro e w3 ⟨rfl, hN⟩))
        obtain ⟨kk, hS3, hF⟩ := St.note (e := ⟨3, 0, (t.v : Int)⟩) (by first | exact ((HS.out.alloc _).drew.alloc _) | exact ((HS.out.alloc _).alloc _).drew) hN
        have HS3 : Hid (St w w.heap.size w1.heap.size w3 (some kk) (evK l k ++ [⟨3, 0, (t.v : Int)⟩]) (evK l k) (evK l k) (.slice wd (evK l k).length wc) (.slice td (toldE (evK l k)).length tc)) := hS3
        have HWL : Hid (∀ y, some y = (Value.slice wd (evK l k).length wc).ownBlock → y < wr.heap.size) := fun y hy => (HS.out.want.lt y hy.symm).2
        have HTL : Hid (∀ y, some y = (Value.slice td (toldE (evK l k)).length tc).ownBlock → y < wr.heap.size) := fun y hy => (HS.out.told.lt y hy.symm).2
        have hcell3 : w3.cell? ⟨wr.heap.size, 3, none⟩ = some (.int .u32 (t.v : Int)) := by assumption
        have hn3 := lt_of_cell hcell3
        have hbs := Nat.le_trans hS3.base hS3.bel.size
        have htk : (toldE (evK l k)).length ≤ 100 := Nat.le_trans (toldE_len _) hlk
        clear hN hF hS3 HS c0 c1 c2 c3 hrow
        have HX1 : Hid (St w w.heap.size w1.heap.size (w3.alloc (.cells #[.int .i64 3, .int .i64 0, .int .u32 (t.v : Int)] 51)).drew (some kk) (evK l k ++ [⟨3, 0, (t.v : Int)⟩]) (evK l k) (evK l k) (.slice wd (evK l k).length wc) (.slice td (toldE (evK l k)).length tc)) := (HS3.out.alloc _).drew
        have HX2 : Hid (St w w.heap.size w1.heap.size ((w3.alloc (.cells #[.int .i64 3, .int .i64 0, .int .u32 (t.v : Int)] 51)).alloc (.cells #[.int .u32 (t.v : Int)] 22)).drew (some kk) (evK l k ++ [⟨3, 0, (t.v : Int)⟩]) (evK l k) (evK l k) (.slice wd (evK l k).length wc) (.slice td (toldE (evK l k)).length tc)) := ((HS3.out.alloc _).alloc _).drew
        have HX3 : Hid (St w w.heap.size w1.heap.size ((w3.alloc (.cells #[.int .u32 (t.v : Int)] 22)).alloc (.cells #[.int .i64 3, .int .i64 0, .int .u32 (t.v : Int)] 51)).drew (some kk) (evK l k ++ [⟨3, 0, (t.v : Int)⟩]) (evK l k) (evK l k) (.slice wd (evK l k).length wc) (.slice td (toldE (evK l k)).length tc)) := ((HS3.out.alloc _).alloc _).drew
        have NA1 : Hid (((w3.alloc (.cells #[.int .i64 3, .int .i64 0, .int .u32 (t.v : Int)] 51)).drew).heap[w3.heap.size]? = some (.cells #[.int .i64 3, .int .i64 0, .int .u32 (t.v : Int)] 51)) := heapN _ _ _ (by rfl)
        have NA2 : Hid ((((w3.alloc (.cells #[.int .i64 3, .int .i64 0, .int .u32 (t.v : Int)] 51)).alloc (.cells #[.int .u32 (t.v : Int)] 22)).drew).heap[w3.heap.size]? = some (.cells #[.int .i64 3, .int .i64 0, .int .u32 (t.v : Int)] 51)) := heapO _ _ _ _ rfl (by simp)
        have NC2 : Hid ((((w3.alloc (.cells #[.int .i64 3, .int .i64 0, .int .u32 (t.v : Int)] 51)).alloc (.cells #[.int .u32 (t.v : Int)] 22)).drew).heap[w3.heap.size + 1]? = some (.cells #[.int .u32 (t.v : Int)] 22)) := heapN _ _ _ (by simp)
        have NA3 : Hid ((((w3.alloc (.cells #[.int .u32 (t.v : Int)] 22)).alloc (.cells #[.int .i64 3, .int .i64 0, .int .u32 (t.v : Int)] 51)).drew).heap[w3.heap.size + 1]? = some (.cells #[.int .i64 3, .int .i64 0, .int .u32 (t.v : Int)] 51)) := heapN _ _ _ (by simp)
        have NC3 : Hid ((((w3.alloc (.cells #[.int .u32 (t.v : Int)] 22)).alloc (.cells #[.int .i64 3, .int .i64 0, .int .u32 (t.v : Int)] 51)).drew).heap[w3.heap.size]? = some (.cells #[.int .u32 (t.v : Int)] 22)) := heapO _ _ _ _ rfl (by simp)
        go_wp2_with fail
        go_region_held3 (fun w' => w'.cell? ⟨wr.heap.size, 3, none⟩ = some (.int .u32 (t.v : Int)))
          (first | assumption | (refine keepAD ?_; assumption) | (refine keepA ?_; assumption) | (refine grown_cell hgrow2 ?_ ?_; assumption; intro y; have := HTL.out _ y; omega) | (refine grown_cell hgrow ?_ ?_; assumption; intro y; have := HWL.out _ y; omega))
          (first
            | (refine step_append_lies _ rfl (.tmp 100) (.tmp 104) 45 rfl w.heap.size 51 i0 _ 3 24 Try.underlying45 hi hz0 hz1 hz2 rfl (by decide) (.slice wd (evK l k).length wc) (evK l k).length (ecells (evK l k)) rfl (by with_reducible exact HX1.out.want) _ 1 1 (ev 3 0 (t.v : Int)) rfl rfl (World.news_of_block (by with_reducible exact NA1.out)) (ecells_one [⟨3, 0, (t.v : Int)⟩]) (by decide) (by unfold maxLen; omega) (by omega) (Nat.le_trans HX1.out.base HX1.out.bel.size) _ rfl ?_; intro g2 cap2 w4 hown hgrow hat hlt2; have HW : Hid (St w w.heap.size w1.heap.size w4 (some kk) (evK l k ++ [⟨3, 0, (t.v : Int)⟩]) (evK l k ++ [⟨3, 0, (t.v : Int)⟩]) (evK l k) (.slice (some ⟨g2, 0, none⟩) ((evK l k).length + 1) cap2) (.slice td (toldE (evK l k)).length tc)) := St.wantStep (e := ⟨3, 0, (t.v : Int)⟩) HX1.out hown hgrow hat rfl)
            | (refine step_append_lies _ rfl (.tmp 100) (.tmp 104) 45 rfl w.heap.size 51 i0 _ 3 24 Try.underlying45 hi hz0 hz1 hz2 rfl (by decide) (.slice wd (evK l k).length wc) (evK l k).length (ecells (evK l k)) rfl (by with_reducible exact HX2.out.want) _ 1 1 (ev 3 0 (t.v : Int)) rfl rfl (World.news_of_block (by with_reducible exact NA2.out)) (ecells_one [⟨3, 0, (t.v : Int)⟩]) (by decide) (by unfold maxLen; omega) (by omega) (Nat.le_trans HX2.out.base HX2.out.bel.size) _ rfl ?_; intro g2 cap2 w4 hown hgrow hat hlt2; have HW : Hid (St w w.heap.size w1.heap.size w4 (some kk) (evK l k ++ [⟨3, 0, (t.v : Int)⟩]) (evK l k ++ [⟨3, 0, (t.v : Int)⟩]) (evK l k) (.slice (some ⟨g2, 0, none⟩) ((evK l k).length + 1) cap2) (.slice td (toldE (evK l k)).length tc)) := St.wantStep (e := ⟨3, 0, (t.v : Int)⟩) HX2.out hown hgrow hat rfl; have HKC : Hid (w4.heap[w3.heap.size + 1]? = some (.cells #[.int .u32 (t.v : Int)] 22)) := (hgrow.block _ (lt_of_heap NC2.out) (fun y => by have := HWL.out _ y; omega)).trans NC2.out)
            | (refine step_append_lies _ rfl (.tmp 100) (.tmp 104) 45 rfl w.heap.size 51 i0 _ 3 24 Try.underlying45 hi hz0 hz1 hz2 rfl (by decide) (.slice wd (evK l k).length wc) (evK l k).length (ecells (evK l k)) rfl (by with_reducible exact HX3.out.want) _ 1 1 (ev 3 0 (t.v : Int)) rfl rfl (World.news_of_block (by with_reducible exact NA3.out)) (ecells_one [⟨3, 0, (t.v : Int)⟩]) (by decide) (by unfold maxLen; omega) (by omega) (Nat.le_trans HX3.out.base HX3.out.bel.size) _ rfl ?_; intro g2 cap2 w4 hown hgrow hat hlt2; have HW : Hid (St w w.heap.size w1.heap.size w4 (some kk) (evK l k ++ [⟨3, 0, (t.v : Int)⟩]) (evK l k ++ [⟨3, 0, (t.v : Int)⟩]) (evK l k) (.slice (some ⟨g2, 0, none⟩) ((evK l k).length + 1) cap2) (.slice td (toldE (evK l k)).length tc)) := St.wantStep (e := ⟨3, 0, (t.v : Int)⟩) HX3.out hown hgrow hat rfl; have HKC : Hid (w4.heap[w3.heap.size]? = some (.cells #[.int .u32 (t.v : Int)] 22)) := (hgrow.block _ (lt_of_heap NC3.out) (fun y => by have := HWL.out _ y; omega)).trans NC3.out)
            | (refine step_append_lies _ rfl (.tmp 106) (.tmp 109) 46 rfl w.heap.size 22 j0 _ 1 4 Try.underlying46 hj hy0 hy1 hy2 rfl (by decide) (.slice td (toldE (evK l k)).length tc) (toldE (evK l k)).length (u32s (toldE (evK l k))) rfl (by with_reducible exact (HW.out.alloc _).told) _ 1 1 [.int .u32 (t.v : Int)] rfl rfl (World.news_of_block (by with_reducible exact (heap_alloc_at _ _))) u32_one (by decide) (by unfold maxLen; omega) (by omega) (Nat.le_trans HW.out.base (HW.out.alloc _).bel.size) _ rfl ?_; intro g3 cap3 w5 hown2 hgrow2 hat2 hlt3; have HU : Hid (St w w.heap.size w1.heap.size w5 (some kk) (evK l k ++ [⟨3, 0, (t.v : Int)⟩]) (evK l k ++ [⟨3, 0, (t.v : Int)⟩]) (evK l k ++ [⟨3, 0, (t.v : Int)⟩]) (.slice (some ⟨g2, 0, none⟩) ((evK l k).length + 1) cap2) (.slice (some ⟨g3, 0, none⟩) ((toldE (evK l k)).length + 1) cap3)) := St.toldStep (e := ⟨3, 0, (t.v : Int)⟩) (HW.out.alloc _) rfl hown2 hgrow2)
            | (refine step_append_lies _ rfl (.tmp 106) (.tmp 109) 46 rfl w.heap.size 22 j0 _ 1 4 Try.underlying46 hj hy0 hy1 hy2 rfl (by decide) (.slice td (toldE (evK l k)).length tc) (toldE (evK l k)).length (u32s (toldE (evK l k))) rfl (by with_reducible exact HW.out.told) _ 1 1 [.int .u32 (t.v : Int)] rfl rfl (World.news_of_block (by with_reducible exact HKC.out)) u32_one (by decide) (by unfold maxLen; omega) (by omega) (Nat.le_trans HW.out.base HW.out.bel.size) _ rfl ?_; intro g3 cap3 w5 hown2 hgrow2 hat2 hlt3; have HU : Hid (St w w.heap.size w1.heap.size w5 (some kk) (evK l k ++ [⟨3, 0, (t.v : Int)⟩]) (evK l k ++ [⟨3, 0, (t.v : Int)⟩]) (evK l k ++ [⟨3, 0, (t.v : Int)⟩]) (.slice (some ⟨g2, 0, none⟩) ((evK l k).length + 1) cap2) (.slice (some ⟨g3, 0, none⟩) ((toldE (evK l k)).length + 1) cap3)) := St.toldStep (e := ⟨3, 0, (t.v : Int)⟩) HW.out rfl hown2 hgrow2))
        all_goals
          have HU2 : Hid (St w w.heap.size w1.heap.size w5 (some kk) (evK l k ++ [⟨3, 0, (t.v : Int)⟩]) (evK l k ++ [⟨3, 0, (t.v : Int)⟩]) (evK l k ++ [⟨3, 0, (t.v : Int)⟩]) (.slice (some ⟨g2, 0, none⟩) ((evK l k).length + 1) cap2) (.slice (some ⟨g3, 0, none⟩) ((toldE (evK l k)).length + 1) cap3)) := HU.out
          clear hown hgrow hat hlt2 hown2 hgrow2 hat2 hlt3 HU HW HX1 HX2 HX3 NA1 NA2 NC2 NA3 NC3 HS3 HWL HTL
          go_wp2
          go_roundw
          case rel =>
            have hE1 : evK l (k + 1) = evK l k ++ [⟨3, 0, (t.v : Int)⟩] := by rw [HEK.out, HE.out]
            have ht1 : toldE (evK l k ++ [⟨3, 0, (t.v : Int)⟩]) = toldE (evK l k) ++ [(t.v : Int)] := by rw [toldE_append]; rfl
            refine ⟨k + 1, some kk, some ⟨g2, 0, none⟩, some ⟨g3, 0, none⟩, cap2, cap3, by omega, by go_num, by rw [hE1, List.length_append]; rfl, by rw [hE1, ht1, List.length_append]; rfl, ?_⟩
            rw [hE1]
            have h4 := HU2.out
            have hl1 : (toldE (evK l k ++ [⟨3, 0, (t.v : Int)⟩])).length = (toldE (evK l k)).length + 1 := by rw [ht1]; simp
            have hl2 : (evK l k ++ [(⟨3, 0, (t.v : Int)⟩ : Ev)]).length = (evK l k).length + 1 := by simp
            rw [hl1, hl2]
            exact h4
          case measure => simp [intOf]; omega
    · have e : k = l.length := by omega
      subst e
      clear hc hl hi hz0 hz1 hz2 hj hy0 hy1 hy2 hb1
      obtain ⟨es, hes⟩ : ∃ es, es = evK l l.length := ⟨_, rfl⟩
      have hlen : es.length ≤ 100 := by rw [hes, evK_len l _ (Nat.le_refl _)]; exact hn
      rw [← hes] at hS
      rw [← hes]
      clear hes
      have HS : Hid (St w w.heap.size w1.heap.size wr ob es es es (.slice wd es.length wc) (.slice td (toldE es).length tc)) := hS
      have hbase := hS.bel.size
      clear hS
      go_wp2_with fail
      refine (events_any _ _ _ _ _ HS.out.log (ecells_one es) (by omega)).mono ?_
      rintro e w2 ⟨v1, rfl, ho1, hb1⟩
      obtain ⟨ad1, cap1, rfl⟩ := owns_shape ho1
      have HO1 : Hid (w2.ownsRow wr.heap.size 51 3 (.slice ad1 es.length cap1) es.length (ecells es)) := ho1
      have HL2 : Hid (LogAt w2 w1.heap.size ob es.length (ecells es)) := HS.out.log.kept (S := fun _ => False) (Fr.ofBelow hb1) (fun x => x) (fun _ _ x => x)
      clear ho1
      go_wp2_with fail
      refine (blind_any _ _ es _ HL2.out (by omega)).mono ?_
      rintro e w3 ⟨ad2, cap2, rfl, ho2, hb2⟩
      have HO2 : Hid (w3.ownsRow w2.heap.size 51 3 (.slice ad2 es.length cap2) es.length (ecells (es.map blindE))) := ho2
      have HL3 : Hid (LogAt w3 w1.heap.size ob es.length (ecells es)) := HL2.out.kept (S := fun _ => False) (Fr.ofBelow hb2) (fun x => x) (fun _ _ x => x)
      clear ho2 HL2
      go_wp2_with fail
      refine (released_any _ _ es _ HL3.out (by omega)).mono ?_
      rintro e w4 ⟨ad3, cap3, rfl, ho3, hb3⟩
      have HO3 : Hid (w4.ownsRow w3.heap.size 22 1 (.slice ad3 (toldE es).length cap3) (toldE es).length (u32s (toldE es))) := ho3
      have HL4 : Hid (LogAt w4 w1.heap.size ob es.length (ecells es)) := HL3.out.kept (S := fun _ => False) (Fr.ofBelow hb3) (fun x => x) (fun _ _ x => x)
      clear ho3 HL3
      go_wp2_with fail
      refine (len_any _ _ _ _ _ HL4.out).mono ?_
      rintro e w5 ⟨rfl, hw5⟩
      subst hw5
      have hB4 : Below wr.heap.size wr w5 := (hb1.trans (hb2.mono hb1.size)).trans (hb3.mono (Nat.le_trans hb1.size hb2.size))
      have hBw : Below w.heap.size w w5 := HS.out.bel.trans (hB4.mono hbase)
      have rW : ∀ i (hi : i < es.length), ∃ g, wd = some ⟨g, 0, none⟩ ∧ ∀ j u, (ecells es)[j]? = some u → w5.cell? ⟨g, j, none⟩ = some u := rowAt HS.out.want hB4
      have rG : ∀ i (hi : i < es.length), ∃ g, ad1 = some ⟨g, 0, none⟩ ∧ ∀ j u, (ecells es)[j]? = some u → w5.cell? ⟨g, j, none⟩ = some u := rowAt HO1.out ((hb2.trans (hb3.mono hb2.size)))
      have rB : ∀ i (hi : i < es.length), ∃ g, ad2 = some ⟨g, 0, none⟩ ∧ ∀ j u, (ecells (es.map blindE))[j]? = some u → w5.cell? ⟨g, j, none⟩ = some u := rowAt HO2.out hb3
      have rT : ∀ i (hi : i < (toldE es).length), ∃ g, td = some ⟨g, 0, none⟩ ∧ ∀ j u, (u32s (toldE es))[j]? = some u → w5.cell? ⟨g, j, none⟩ = some u := rowAt HS.out.told hB4
      have rV : ∀ i (hi : i < (toldE es).length), ∃ g, ad3 = some ⟨g, 0, none⟩ ∧ ∀ j u, (u32s (toldE es))[j]? = some u → w5.cell? ⟨g, j, none⟩ = some u := rowAt HO3.out (Below.refl _ _)
      have RW : Hid (_) := rW
      have RG : Hid (_) := rG
      have RB : Hid (_) := rB
      have RT : Hid (_) := rT
      have RV : Hid (_) := rV
      have htl : (toldE es).length ≤ 100 := Nat.le_trans (toldE_len _) hlen
      clear rW rG rB rT rV HS HO1 HO2 HO3 HL4 hb1 hb2 hb3 hB4
      go_wp2_with fail
      go_loopw [146] (fun i wq => ∃ k : Nat, k ≤ es.length ∧ i = .int .i64 k ∧ Below w5.heap.size w5 wq) (fun i _ => es.length - (intOf i).toNat)
      case atStart => exact ⟨0, Nat.zero_le _, rfl, Below.refl _ _⟩
      case round =>
        obtain ⟨k, hk2, rfl, hBq⟩ := hrel
        by_cases hlt2 : k < es.length
        · obtain ⟨g1, rfl, f1⟩ := RW.out k hlt2
          obtain ⟨g2, rfl, f2⟩ := RG.out k hlt2
          obtain ⟨g3, rfl, f3⟩ := RB.out k hlt2
          have e1 := ecells_at es k hlt2
          have e3 := ecells_at (es.map blindE) k (by simpa using hlt2)
          rw [List.getElem_map] at e3
          obtain ⟨ee, hee⟩ : ∃ ee, ee = es[k] := ⟨_, rfl⟩
          rw [← hee] at e1 e3
          have a0 := cell_later hBq (f1 _ _ e1.1)
          have a1 := cell_later hBq (f1 _ _ e1.2.1)
          have a2 := cell_later hBq (f1 _ _ e1.2.2)
          have b0 := cell_later hBq (f2 _ _ e1.1)
          have b1 := cell_later hBq (f2 _ _ e1.2.1)
          have b2 := cell_later hBq (f2 _ _ e1.2.2)
          have d0 := cell_later hBq (f3 _ _ e3.1)
          have d1 := cell_later hBq (f3 _ _ e3.2.1)
          have d2 := cell_later hBq (f3 _ _ e3.2.2)
          have l1 := lt_of_cell a0
          have l2 := lt_of_cell b0
          have l3 := lt_of_cell d0
          clear f1 f2 f3 e1 e3 hee RW RG RB RT RV
          have G1 : Hid ((wr.alloc (.cells #[.int .i64 ee.k, .int .i64 ee.i, .int .u32 ee.v] 51)).cell? ⟨g2, k * 3, none⟩ = some (.int .i64 ee.k) ∧ (wr.alloc (.cells #[.int .i64 ee.k, .int .i64 ee.i, .int .u32 ee.v] 51)).cell? ⟨g2, k * 3 + 1, none⟩ = some (.int .i64 ee.i) ∧ (wr.alloc (.cells #[.int .i64 ee.k, .int .i64 ee.i, .int .u32 ee.v] 51)).cell? ⟨g2, k * 3 + 2, none⟩ = some (.int .u32 ee.v) ∧ (wr.alloc (.cells #[.int .i64 ee.k, .int .i64 ee.i, .int .u32 ee.v] 51)).cell? ⟨wr.heap.size, 0, none⟩ = some (.int .i64 ee.k) ∧ (wr.alloc (.cells #[.int .i64 ee.k, .int .i64 ee.i, .int .u32 ee.v] 51)).cell? ⟨wr.heap.size, 1, none⟩ = some (.int .i64 ee.i) ∧ (wr.alloc (.cells #[.int .i64 ee.k, .int .i64 ee.i, .int .u32 ee.v] 51)).cell? ⟨wr.heap.size, 2, none⟩ = some (.int .u32 ee.v)) := ⟨keepA b0, keepA b1, keepA b2, cell_of_heap (heap_alloc_at _ _) rfl, cell_of_heap (heap_alloc_at _ _) rfl, cell_of_heap (heap_alloc_at _ _) rfl⟩
          cases hq : (ee.k == 3)
          · rw [blindE_no _ hq] at d0 d1 d2
            have G2 : Hid ((wr.alloc (.cells #[.int .i64 ee.k, .int .i64 ee.i, .int .u32 ee.v] 51)).drew.cell? ⟨g3, k * 3, none⟩ = some (.int .i64 ee.k) ∧ (wr.alloc (.cells #[.int .i64 ee.k, .int .i64 ee.i, .int .u32 ee.v] 51)).drew.cell? ⟨g3, k * 3 + 1, none⟩ = some (.int .i64 ee.i) ∧ (wr.alloc (.cells #[.int .i64 ee.k, .int .i64 ee.i, .int .u32 ee.v] 51)).drew.cell? ⟨g3, k * 3 + 2, none⟩ = some (.int .u32 ee.v) ∧ (wr.alloc (.cells #[.int .i64 ee.k, .int .i64 ee.i, .int .u32 ee.v] 51)).drew.cell? ⟨wr.heap.size, 0, none⟩ = some (.int .i64 ee.k) ∧ (wr.alloc (.cells #[.int .i64 ee.k, .int .i64 ee.i, .int .u32 ee.v] 51)).drew.cell? ⟨wr.heap.size, 1, none⟩ = some (.int .i64 ee.i) ∧ (wr.alloc (.cells #[.int .i64 ee.k, .int .i64 ee.i, .int .u32 ee.v] 51)).drew.cell? ⟨wr.heap.size, 2, none⟩ = some (.int .u32 ee.v)) := ⟨keepA d0, keepA d1, keepA d2, cell_of_heap (heap_alloc_at _ _) rfl, cell_of_heap (heap_alloc_at _ _) rfl, cell_of_heap (heap_alloc_at _ _) rfl⟩
            clear b0 b1 b2 d0 d1 d2 l1 l2 l3
            go_wp2_with fail
            go_region_held3 (fun w' => w'.cell? ⟨g2, k * 3, none⟩ = some (.int .i64 ee.k) ∧ w'.cell? ⟨g2, k * 3 + 1, none⟩ = some (.int .i64 ee.i) ∧ w'.cell? ⟨g2, k * 3 + 2, none⟩ = some (.int .u32 ee.v) ∧ w'.cell? ⟨wr.heap.size, 0, none⟩ = some (.int .i64 ee.k) ∧ w'.cell? ⟨wr.heap.size, 1, none⟩ = some (.int .i64 ee.i) ∧ w'.cell? ⟨wr.heap.size, 2, none⟩ = some (.int .u32 ee.v)) (first | assumption | exact G1.out) (fail)
            go_wp2_with fail
            go_region_held3 (fun w' => w'.cell? ⟨g3, k * 3, none⟩ = some (.int .i64 ee.k) ∧ w'.cell? ⟨g3, k * 3 + 1, none⟩ = some (.int .i64 ee.i) ∧ w'.cell? ⟨g3, k * 3 + 2, none⟩ = some (.int .u32 ee.v) ∧ w'.cell? ⟨wr.heap.size, 0, none⟩ = some (.int .i64 ee.k) ∧ w'.cell? ⟨wr.heap.size, 1, none⟩ = some (.int .i64 ee.i) ∧ w'.cell? ⟨wr.heap.size, 2, none⟩ = some (.int .u32 ee.v)) (first | assumption | exact G2.out) (fail)
            go_wp2
            go_roundw
            case rel => exact ⟨k + 1, by omega, by go_num, chainB (by repeat (first | exact Below.refl _ _ | refine blw_alloc ?_ | refine blw_drew ?_ | assumption)) hBq⟩
            case measure => simp [intOf]; omega
          · rw [blindE_yes _ hq] at d0 d1 d2
            have G2 : Hid ((wr.alloc (.cells #[.int .i64 ee.k, .int .i64 ee.i, .int .u32 0] 51)).drew.cell? ⟨g3, k * 3, none⟩ = some (.int .i64 ee.k) ∧ (wr.alloc (.cells #[.int .i64 ee.k, .int .i64 ee.i, .int .u32 0] 51)).drew.cell? ⟨g3, k * 3 + 1, none⟩ = some (.int .i64 ee.i) ∧ (wr.alloc (.cells #[.int .i64 ee.k, .int .i64 ee.i, .int .u32 0] 51)).drew.cell? ⟨g3, k * 3 + 2, none⟩ = some (.int .u32 0) ∧ (wr.alloc (.cells #[.int .i64 ee.k, .int .i64 ee.i, .int .u32 0] 51)).drew.cell? ⟨wr.heap.size, 0, none⟩ = some (.int .i64 ee.k) ∧ (wr.alloc (.cells #[.int .i64 ee.k, .int .i64 ee.i, .int .u32 0] 51)).drew.cell? ⟨wr.heap.size, 1, none⟩ = some (.int .i64 ee.i) ∧ (wr.alloc (.cells #[.int .i64 ee.k, .int .i64 ee.i, .int .u32 0] 51)).drew.cell? ⟨wr.heap.size, 2, none⟩ = some (.int .u32 0)) := ⟨keepA d0, keepA d1, keepA d2, cell_of_heap (heap_alloc_at _ _) rfl, cell_of_heap (heap_alloc_at _ _) rfl, cell_of_heap (heap_alloc_at _ _) rfl⟩
            clear b0 b1 b2 d0 d1 d2 l1 l2 l3
            go_wp2_with fail
            go_region_held3 (fun w' => w'.cell? ⟨g2, k * 3, none⟩ = some (.int .i64 ee.k) ∧ w'.cell? ⟨g2, k * 3 + 1, none⟩ = some (.int .i64 ee.i) ∧ w'.cell? ⟨g2, k * 3 + 2, none⟩ = some (.int .u32 ee.v) ∧ w'.cell? ⟨wr.heap.size, 0, none⟩ = some (.int .i64 ee.k) ∧ w'.cell? ⟨wr.heap.size, 1, none⟩ = some (.int .i64 ee.i) ∧ w'.cell? ⟨wr.heap.size, 2, none⟩ = some (.int .u32 ee.v)) (first | assumption | exact G1.out) (fail)
            go_wp2_with fail
            go_region_held3 (fun w' => w'.cell? ⟨g3, k * 3, none⟩ = some (.int .i64 ee.k) ∧ w'.cell? ⟨g3, k * 3 + 1, none⟩ = some (.int .i64 ee.i) ∧ w'.cell? ⟨g3, k * 3 + 2, none⟩ = some (.int .u32 0) ∧ w'.cell? ⟨wr.heap.size, 0, none⟩ = some (.int .i64 ee.k) ∧ w'.cell? ⟨wr.heap.size, 1, none⟩ = some (.int .i64 ee.i) ∧ w'.cell? ⟨wr.heap.size, 2, none⟩ = some (.int .u32 0)) (first | assumption | exact G2.out) (fail)
            go_wp2
            go_roundw
            case rel => exact ⟨k + 1, by omega, by go_num, chainB (by repeat (first | exact Below.refl _ _ | refine blw_alloc ?_ | refine blw_drew ?_ | assumption)) hBq⟩
            case measure => simp [intOf]; omega
        · have e2 : k = es.length := by omega
          subst e2
          clear RW RG RB
          go_wp2_with fail
          go_loopw [170] (fun i wq => ∃ k : Nat, k ≤ (toldE es).length ∧ i = .int .i64 k ∧ Below w5.heap.size w5 wq) (fun i _ => (toldE es).length - (intOf i).toNat)
          case atStart => exact ⟨0, Nat.zero_le _, rfl, hBq⟩
          case round =>
            obtain ⟨k, hk3, rfl, hBr⟩ := hrel
            by_cases hlt3 : k < (toldE es).length
            · obtain ⟨g1, rfl, f1⟩ := RT.out k hlt3
              obtain ⟨g2, rfl, f2⟩ := RV.out k hlt3
              have e1 : (u32s (toldE es))[k]? = some (.int .u32 (toldE es)[k]) := by simp [hlt3]
              have a0 := cell_later hBr (f1 _ _ e1)
              have b0 := cell_later hBr (f2 _ _ e1)
              clear f1 f2 e1 RT RV hBq
              go_wp2
              go_roundw
              case rel => exact ⟨k + 1, by omega, by go_num, by first | exact hBr | exact chainB (by repeat (first | exact Below.refl _ _ | refine blw_alloc ?_ | refine blw_drew ?_ | assumption)) hBr⟩
              case measure => simp [intOf]; omega
            · have e3 : k = (toldE es).length := by omega
              subst e3
              clear RT RV hBq
              go_wp2
              go_ret
              exact ⟨rfl, hBw.trans (hBr.mono hBw.size)⟩
end Go.Proofs.Yteiienkneojleaa
