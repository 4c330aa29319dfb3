/- Contracts of package ct's log (NewLog, note, Release, Load .. Give, Len), over this seat's translation. Conditions: the log has at most a thousand million events. Contracts of package ct's log, read again (Len, Events), over this seat's translation. Conditions: the log has at most a thousand million events. Contracts of package ct's log, the rest: Load, Store, Take, Give, Blind, Released, over this seat's translation. Conditions: the log has at most a thousand million events. Contracts of package ct's log, read again: Blind and Released, over this seat's translation. Conditions: the log has at most a thousand million events. -/
import Derived.Test.YtjcnkigadlmpgaaDoorCt0
import Derived.Test.YtjcnkigadlmpgaaDoorFr
import Derived.Deep.RegionWith
namespace Go.Proofs.YtjcnkigadlmpgaaDoor
open Go.RowKit

theorem Tryd.infoEvent : (Tryd.prog.info? 39).map (fun i => (i.zero, i.size, i.bytes)) = some (some (.agg #[.int .i64 0, .int .i64 0, .int .u32 0]), 3, 24) := by kernel_rfl

/-- block g holds a log whose events lie in the row ob: n of them, their cells xs. -/
def LogAt (w : World) (g : Nat) (ob : Option Nat) (n : Nat) (xs : List Value) : Prop :=
  ∃ v, w.heap[g]? = some (.cells #[v] 63 (0, 0)) ∧ v.ownBlock = ob ∧ w.ownsRow 0 39 3 v n xs

abbrev ev (kind at_ val : Int) : List Value := [.int .i64 kind, .int .i64 at_, .int .u32 val]

theorem LogAt.kept {w w' : World} {g : Nat} {ob : Option Nat} {n : Nat} {xs : List Value} {S : Nat → Prop} (h : LogAt w g ob n xs) (hf : Fr S w w') (hg : ¬ S g) (hob : ∀ k, ob = some k → ¬ S k) : LogAt w' g ob n xs := by
  obtain ⟨v, h1, h2, h3⟩ := h
  refine ⟨v, by rw [hf.block g (lt_of_heap h1) hg]; exact h1, h2, owns_of_blocks h3 fun k hk => hf.block k (h3.lt k hk).2 (hob k (h2 ▸ hk))⟩
theorem LogAt.lt {w : World} {g : Nat} {ob : Option Nat} {n : Nat} {xs : List Value} (h : LogAt w g ob n xs) : g < w.heap.size := by
  obtain ⟨v, h1, _⟩ := h; exact lt_of_heap h1
/-- behind an append and a store of the new slice, the log has one event more. -/
theorem LogAt.step {w w1 : World} {g n cap cap2 g2 : Nat} {ad : Option Addr} {ob : Option Nat} {xs e : List Value} {o : Obj}
    (h1 : w.heap[g]? = some (.cells #[.slice ad n cap] 63 (0, 0))) (h2 : (Value.slice ad n cap).ownBlock = ob) (hap : ob ≠ some g)
    (hown : w1.ownsRow 0 39 3 (.slice (some ⟨g2, 0, none⟩) (n + 1) cap2) (n + 1) (xs ++ e)) (hgrow : (w.alloc o).grownBy w1 (Value.slice ad n cap).ownBlock) (hat : (Value.slice ad n cap).ownBlock = some g2 ∨ g2 = w.heap.size + 1) :
    LogAt (w1.setCell ⟨g, 0, none⟩ (.slice (some ⟨g2, 0, none⟩) (n + 1) cap2)) g (some g2) (n + 1) (xs ++ e) ∧ (ob = some g2 ∨ w.heap.size ≤ g2) ∧ Fr (fun i => i = g ∨ ob = some i) w (w1.setCell ⟨g, 0, none⟩ (.slice (some ⟨g2, 0, none⟩) (n + 1) cap2)) := by
  have hlt := lt_of_heap h1
  have hw1 : w1.heap[g]? = some (.cells #[.slice ad n cap] 63 (0, 0)) := by
    rw [hgrow.block g (by simp; omega) (by rw [h2]; exact fun x => hap x.symm), heap_alloc_old _ _ _ hlt]; exact h1
  have hne : g2 ≠ g := by
    intro e; subst e
    rcases hown.2 with ⟨hx, _⟩ | ⟨g', cap', cur, hx, hb, hg, _⟩
    · cases hx
    · cases hx; rw [hw1] at hg; cases hg
  refine ⟨⟨.slice (some ⟨g2, 0, none⟩) (n + 1) cap2, ?_, rfl, ?_⟩, ?_, ?_⟩
  · rw [heap_setCell_at _ _ _ _ _ _ _ hw1]; rfl
  · refine owns_of_blocks hown fun k hk => ?_
    have : k = g2 := by simpa [Value.ownBlock] using hk.symm
    subst this
    exact Below.heap_setCell _ _ _ _ hne
  · rcases hat with x | x
    · left; rw [← h2, x]
    · right; omega
  · refine Fr.setCell (Fr.grown ((Fr.refl _ w).alloc o) hgrow fun k hk _ => Or.inr (by rw [← h2, hk])) _ fun _ => Or.inl rfl
theorem LogAt.apart {w : World} {g : Nat} {ob : Option Nat} {n : Nat} {xs : List Value} (h : LogAt w g ob n xs) : ob ≠ some g := by
  obtain ⟨v, h1, h2, h3⟩ := h
  intro e
  rcases h3.2 with ⟨rfl, _⟩ | ⟨g', cap, cur, rfl, hb, hg, _⟩
  · rw [e] at h2; cases h2
  · have : g' = g := by rw [e] at h2; simpa [Value.ownBlock] using h2
    subst this; rw [h1] at hg; cases hg

set_option maxHeartbeats 800000 in
theorem note_any (g : Nat) (ob : Option Nat) (n : Nat) (xs : List Value) (kind at_ val : Int) (w : World) (h : LogAt w g ob n xs) (hn : n ≤ 1000000000) :
    Calls Tryd.prog 62 #[.pointer (some ⟨g, 0, none⟩), .int .i64 kind, .int .i64 at_, .int .u32 val] w fun e w' => e = .returned (.tuple #[]) ∧
      ∃ k, LogAt w' g (some k) (n + 1) (xs ++ ev kind at_ val) ∧ (ob = some k ∨ w.heap.size ≤ k) ∧ Fr (fun i => i = g ∨ ob = some i) w w' := by
  have hap := h.apart
  have hglt := h.lt
  obtain ⟨v, h1, h2, h3⟩ := h
  obtain ⟨ad, cap, rfl⟩ : ∃ ad cap, v = .slice ad n cap := by
    rcases h3.2 with ⟨rfl, rfl⟩ | ⟨g', cap, cur, rfl, _⟩
    · exact ⟨none, 0, rfl⟩
    · exact ⟨_, cap, rfl⟩
  have hc := cell_of_heap h1 (i := 0) rfl
  have hfz := frozen_of_heap (i := 0) h1
  obtain ⟨i0, hi, hz0, hz1, hz2⟩ := info_parts Tryd.infoEvent
  have H1 : Hid (_) := h1
  have H2 : Hid (_) := h2
  clear h1 h2
  go_enter Tryd.func62, Tryd.ntmps62
  go_wp2_with (at_builtin; refine wpList_append_lies _ rfl (.tmp 14) (.tmp 19) 36 rfl 0 39 i0 _ 3 24 Tryd.underlying36 hi hz0 hz1 hz2 rfl (by decide) _ n xs rfl (h3.alloc _) ⟨w.heap.size, 0, none⟩ 1 1 (ev kind at_ val) rfl rfl ?c1 ?c2 (by decide) ?c3 ?c4 (Nat.zero_le _) _ rfl ?_)
  case c1 => exact World.news_of_block (heap_alloc_at _ _)
  case c2 => intro u hu; simp only [List.mem_cons, List.not_mem_nil, or_false] at hu; rcases hu with rfl | rfl | rfl <;> rfl
  case c3 => unfold maxLen; omega
  case c4 => omega
  intro g2 cap2 w1 hown hgrow hat hlt2
  have hF := LogAt.step H1.out H2.out hap hown hgrow hat
  have hw1 : w1.cell? ⟨g, 0, none⟩ = some (.slice ad n cap) := by
    rw [World.cell?_of_block (hgrow.block g (by simp; omega) (by rw [H2.out]; exact fun x => hap x.symm)), World.cell?_of_block (heap_alloc_old _ _ _ hglt)]; exact hc
  have hf1 : w1.frozen? ⟨g, 0, none⟩ = false := by
    rw [World.frozen?_of_block (hgrow.block g (by simp; omega) (by rw [H2.out]; exact fun x => hap x.symm)), World.frozen?_of_block (heap_alloc_old _ _ _ hglt)]; exact hfz
  have HF : Hid (_) := hF
  clear hF hown hgrow hat hlt2 hc hfz h3 hi hz0 hz1 hz2 hap
  go_wp2
  go_end0
  exact ⟨rfl, g2, HF.out⟩

/-- what a note does to the log at g -/
def Noted (g : Nat) (ob : Option Nat) (n : Nat) (xs e : List Value) (w w' : World) : Prop :=
  ∃ k, LogAt w' g (some k) (n + 1) (xs ++ e) ∧ (ob = some k ∨ w.heap.size ≤ k) ∧ Fr (fun i => i = g ∨ ob = some i) w w'

set_option maxHeartbeats 400000 in
theorem newlog_any (w : World) :
    Calls Tryd.prog 38 #[] w fun e w' => e = .returned (.pointer (some ⟨w.heap.size, 0, none⟩)) ∧ w' = w.alloc (.cells #[.slice none 0 0] 63) := by
  go_enter Tryd.func38, Tryd.ntmps38
  go_wp2
  go_ret
  exact ⟨rfl, rfl⟩
theorem newlog_at (w : World) : LogAt (w.alloc (.cells #[.slice none 0 0] 63)) w.heap.size none 0 [] :=
  ⟨.slice none 0 0, heap_alloc_at _ _, rfl, World.ownsRow_nil _ _ _ _⟩

theorem Noted.alloc {g : Nat} {ob : Option Nat} {n : Nat} {xs e : List Value} {w w' : World} {o : Obj} (h : Noted g ob n xs e (w.alloc o) w') : Noted g ob n xs e w w' := by
  obtain ⟨k, h1, h2, h3⟩ := h
  exact ⟨k, h1, h2.imp_right (fun x => by simp at x; omega), ((Fr.refl _ w).alloc o).trans h3 (fun _ _ x => x)⟩
theorem LogAt.alloc {w : World} {g : Nat} {ob : Option Nat} {n : Nat} {xs : List Value} (h : LogAt w g ob n xs) (o : Obj) : LogAt (w.alloc o) g ob n xs :=
  h.kept (S := fun _ => False) ((Fr.refl _ w).alloc o) (fun x => x) (fun _ _ x => x)
theorem LogAt.row_lt {w : World} {g : Nat} {ob : Option Nat} {n : Nat} {xs : List Value} (h : LogAt w g ob n xs) : ∀ k, ob = some k → k < w.heap.size := by
  obtain ⟨v, h1, h2, h3⟩ := h
  intro k hk; exact (h3.lt k (h2.trans hk)).2

set_option maxHeartbeats 400000 in
theorem release_any (g : Nat) (ob : Option Nat) (n : Nat) (xs : List Value) (v : Int) (w : World) (h : LogAt w g ob n xs) (hn : n ≤ 1000000000) :
    Calls Tryd.prog 39 #[.pointer (some ⟨g, 0, none⟩), sec v] w fun e w' => e = .returned (u32 v) ∧ Noted g ob n xs (ev 3 0 v) w w' := by
  have HL : Hid (LogAt w g ob n xs) := h
  have hlt := h.lt
  have hrow := h.row_lt
  clear h
  go_enter Tryd.func39, Tryd.ntmps39
  go_wp2_with fail
  refine (note_any g ob n xs 3 0 v _ (HL.out.alloc _) hn).mono ?_
  rintro e w1 ⟨rfl, hN⟩
  have hc : w1.cell? ⟨w.heap.size, 0, none⟩ = some (.int .u32 v) := by
    obtain ⟨k, h1, h2, h3⟩ := hN
    rw [World.cell?_of_block (h3.block w.heap.size (by simp) (fun x => x.elim (fun x => by omega) (fun x => by have := hrow _ x; omega)))]
    exact cell_of_heap (heap_alloc_at _ _) rfl
  have HN : Hid (Noted g ob n xs (ev 3 0 v) w w1) := Noted.alloc hN
  clear hN hrow
  go_wp2
  go_ret
  exact ⟨rfl, HN.out⟩

theorem LogAt.drew {w : World} {g : Nat} {ob : Option Nat} {n : Nat} {xs : List Value} (h : LogAt w g ob n xs) : LogAt w.drew g ob n xs :=
  h.kept (S := fun _ => False) (Fr.refl _ w).drew (fun x => x) (fun _ _ x => x)

theorem Noted.below {g : Nat} {ob : Option Nat} {n B : Nat} {xs e : List Value} {w w' : World} (h : Noted g ob n xs e w w') (hB : B ≤ w.heap.size) (hg : B ≤ g) (hob : ∀ k, ob = some k → B ≤ k) : Below B w w' := by
  obtain ⟨k, _, _, h3⟩ := h
  exact h3.below hB (fun i hi x => x.elim (fun x => by omega) (fun x => by have := hob _ x; omega))

set_option maxHeartbeats 400000 in
theorem len_any (g : Nat) (ob : Option Nat) (n : Nat) (xs : List Value) (w : World) (h : LogAt w g ob n xs) :
    Calls Tryd.prog 9 #[.pointer (some ⟨g, 0, none⟩)] w fun e w' => e = .returned (.int .i64 n) ∧ w' = w := by
  obtain ⟨v, h1, h2, h3⟩ := h
  obtain ⟨ad, cap, rfl⟩ : ∃ ad cap, v = .slice ad n cap := by
    rcases h3.2 with ⟨rfl, rfl⟩ | ⟨g', cap, cur, rfl, _⟩
    · exact ⟨none, 0, rfl⟩
    · exact ⟨_, cap, rfl⟩
  have hc := cell_of_heap h1 (i := 0) rfl
  clear h1 h2 h3
  go_enter Tryd.func9, Tryd.ntmps9
  go_wp2
  go_ret
  exact ⟨rfl, rfl⟩

set_option maxHeartbeats 800000 in
theorem clone_any (v : Value) (n : Nat) (xs : List Value) (w : World) (h : w.ownsRow 0 39 3 v n xs) (h1 : ∀ u ∈ xs, u.oneCell' = true) (hn : n ≤ 1000000000) :
    Calls Tryd.prog 61 #[v] w fun e w' => ∃ v', e = .returned v' ∧ w'.ownsRow w.heap.size 39 3 v' n xs ∧ Below w.heap.size w w' := by
  have qT : ∀ (w : World) (a : Option Addr) (n c n' c' : Nat), (binOp .eql 36 (.slice a n c) (.slice none n' c')).run Tryd.prog w = .ok (.bool a.isNone) w := fun w a n c n' c' => Lib.run_eql_slice_nil w _ _ a n c n' c' Tryd.underlying36
  rcases h.2 with ⟨rfl, rfl⟩ | ⟨g', cap, cur, rfl, hb, hg, hle, hmx, hsz, htk⟩
  · have : xs = [] := by have := h.1; simpa using this
    subst this
    clear h h1
    go_enter Tryd.func61, Tryd.ntmps61
    go_wp2
    go_ret
    exact ⟨_, rfl, World.ownsRow_nil _ _ _ _, Below.refl _ _⟩
  · obtain ⟨i0, hi, hz0, hz1, hz2⟩ := info_parts Tryd.infoEvent
    have hlen := h.1
    have HC0 : Hid ((w.alloc (.cells #[] 39)).ownsRow w.heap.size 39 3 (.slice (some ⟨w.heap.size, 0, none⟩) 0 0) 0 []) := World.ownsRow_made w #[] 0 (Nat.le_refl _) (by decide) rfl
    have HC1 : Hid (∀ j u, xs[j]? = some u → (w.alloc (.cells #[] 39)).cell? ((⟨g', 0, none⟩ : Addr).add j) = some u) := fun j u hj => cell_add_kept (heap_alloc_old _ _ _ (h.lt g' rfl).2) (h.cells rfl j u hj)
    clear hb hg hle hmx hsz htk h
    go_enter Tryd.func61, Tryd.ntmps61
    go_wp2_with (at_builtin; refine wpList_append_own _ rfl (.tmp 5) (.tmp 6) 36 rfl w.heap.size 39 i0 _ 3 24 Tryd.underlying36 hi hz0 hz1 hz2 rfl (by decide) _ 0 [] rfl HC0.out ⟨g', 0, none⟩ n cap xs rfl hlen HC1.out h1 (by unfold maxLen; omega) (by omega) (by simp) ?_)
    intro v' w1 hown hgrow _
    clear h1 hi hz0 hz1 hz2 qT
    go_wp2
    go_ret
    exact ⟨_, rfl, hown, ((Below.refl _ _).alloc (Nat.le_refl _) _).grown hgrow (by simp) (by intro k hk; simp [Value.ownBlock] at hk; omega)⟩

set_option maxHeartbeats 400000 in
theorem events_any (g : Nat) (ob : Option Nat) (n : Nat) (xs : List Value) (w : World) (h : LogAt w g ob n xs) (h1 : ∀ u ∈ xs, u.oneCell' = true) (hn : n ≤ 1000000000) :
    Calls Tryd.prog 36 #[.pointer (some ⟨g, 0, none⟩)] w fun e w' => ∃ v', e = .returned v' ∧ w'.ownsRow w.heap.size 39 3 v' n xs ∧ Below w.heap.size w w' := by
  obtain ⟨v, h2, h3, h4⟩ := h
  have HX : Hid (w.ownsRow 0 39 3 v n xs) := h4
  obtain ⟨ad, cap, rfl⟩ : ∃ ad cap, v = .slice ad n cap := by
    rcases h4.2 with ⟨rfl, rfl⟩ | ⟨g', cap, cur, rfl, _⟩
    · exact ⟨none, 0, rfl⟩
    · exact ⟨_, cap, rfl⟩
  have hc := cell_of_heap h2 (i := 0) rfl
  clear h2 h3 h4
  go_enter Tryd.func36, Tryd.ntmps36
  go_wp2_with fail
  refine (clone_any _ n xs _ HX.out h1 hn).mono ?_
  rintro e w1 ⟨v', rfl, ho, hb⟩
  have HO : Hid (_) := ho
  clear ho
  go_wp2
  go_ret
  exact ⟨v', rfl, HO.out, hb⟩

/-- a number brought to 0 up to 2^32 - 1 -/
def cnt (n : Int) : Int := if 4294967295 < (if n < 0 then 0 else n) then 4294967295 else (if n < 0 then 0 else n)
theorem cnt_bd (n : Int) : 0 ≤ cnt n ∧ cnt n ≤ 4294967295 := by unfold cnt; omega
theorem cnt_cases (n : Int) : (n < 0 ∧ cnt n = 0) ∨ (0 ≤ n ∧ n ≤ 4294967295 ∧ cnt n = n) ∨ (4294967295 < n ∧ cnt n = 4294967295) := by unfold cnt; omega

set_option maxHeartbeats 400000 in
theorem count_any (n : Int) (w : World) :
    Calls Tryd.prog 63 #[.int .i64 n] w fun e w' => e = .returned (u32 (cnt n)) ∧ w' = w := by
  rcases cnt_cases n with ⟨h1, h2⟩ | ⟨h1, h2, h3⟩ | ⟨h1, h2⟩
  · rw [h2]; clear h2
    go_enter Tryd.func63, Tryd.ntmps63
    go_wp2
    go_ret
    exact ⟨rfl, rfl⟩
  · rw [h3]; clear h3
    go_enter Tryd.func63, Tryd.ntmps63
    go_wp2
    go_ret
    exact ⟨ret_int (by first | rfl | (simp only [IntKind.wrap_u32']; omega)), rfl⟩
  · rw [h2]; clear h2
    go_enter Tryd.func63, Tryd.ntmps63
    go_wp2
    go_ret
    exact ⟨rfl, rfl⟩

set_option maxHeartbeats 400000 in
theorem load_any (g : Nat) (ob : Option Nat) (n : Nat) (xs : List Value) (at_ : Int) (w : World) (h : LogAt w g ob n xs) (hn : n ≤ 1000000000) :
    Calls Tryd.prog 59 #[.pointer (some ⟨g, 0, none⟩), .int .i64 at_] w fun e w' => e = .returned (.tuple #[]) ∧ Noted g ob n xs (ev 1 at_ 0) w w' := by
  have HL : Hid (LogAt w g ob n xs) := h
  clear h
  go_enter Tryd.func59, Tryd.ntmps59
  go_wp2_with fail
  refine (note_any g ob n xs 1 at_ 0 _ HL.out hn).mono ?_
  rintro e w1 ⟨rfl, hN⟩
  have HN : Hid (Noted g ob n xs (ev 1 at_ 0) w w1) := hN
  clear hN
  go_wp2
  go_end0
  exact ⟨rfl, HN.out⟩
set_option maxHeartbeats 400000 in
theorem store_any (g : Nat) (ob : Option Nat) (n : Nat) (xs : List Value) (at_ : Int) (w : World) (h : LogAt w g ob n xs) (hn : n ≤ 1000000000) :
    Calls Tryd.prog 58 #[.pointer (some ⟨g, 0, none⟩), .int .i64 at_] w fun e w' => e = .returned (.tuple #[]) ∧ Noted g ob n xs (ev 2 at_ 0) w w' := by
  have HL : Hid (LogAt w g ob n xs) := h
  clear h
  go_enter Tryd.func58, Tryd.ntmps58
  go_wp2_with fail
  refine (note_any g ob n xs 2 at_ 0 _ HL.out hn).mono ?_
  rintro e w1 ⟨rfl, hN⟩
  have HN : Hid (Noted g ob n xs (ev 2 at_ 0) w w1) := hN
  clear hN
  go_wp2
  go_end0
  exact ⟨rfl, HN.out⟩
set_option maxHeartbeats 400000 in
theorem take_any (g : Nat) (ob : Option Nat) (n : Nat) (xs : List Value) (at_ c : Int) (w : World) (h : LogAt w g ob n xs) (hn : n ≤ 1000000000) :
    Calls Tryd.prog 42 #[.pointer (some ⟨g, 0, none⟩), .int .i64 at_, .int .i64 c] w fun e w' => e = .returned (.tuple #[]) ∧ Noted g ob n xs (ev 4 at_ (cnt c)) w w' := by
  have HL : Hid (LogAt w g ob n xs) := h
  clear h
  go_enter Tryd.func42, Tryd.ntmps42
  go_wp2_with fail
  refine (count_any c _).mono ?_
  rintro e w1 ⟨rfl, rfl⟩
  go_wp2_with fail
  refine (note_any g ob n xs 4 at_ (cnt c) _ HL.out hn).mono ?_
  rintro e w1 ⟨rfl, hN⟩
  have HN : Hid (Noted g ob n xs (ev 4 at_ (cnt c)) _ w1) := hN
  clear hN
  go_wp2
  go_end0
  exact ⟨rfl, HN.out⟩
set_option maxHeartbeats 400000 in
theorem give_any (g : Nat) (ob : Option Nat) (n : Nat) (xs : List Value) (at_ c : Int) (w : World) (h : LogAt w g ob n xs) (hn : n ≤ 1000000000) :
    Calls Tryd.prog 60 #[.pointer (some ⟨g, 0, none⟩), .int .i64 at_, .int .i64 c] w fun e w' => e = .returned (.tuple #[]) ∧ Noted g ob n xs (ev 5 at_ (cnt c)) w w' := by
  have HL : Hid (LogAt w g ob n xs) := h
  clear h
  go_enter Tryd.func60, Tryd.ntmps60
  go_wp2_with fail
  refine (count_any c _).mono ?_
  rintro e w1 ⟨rfl, rfl⟩
  go_wp2_with fail
  refine (note_any g ob n xs 5 at_ (cnt c) _ HL.out hn).mono ?_
  rintro e w1 ⟨rfl, hN⟩
  have HN : Hid (Noted g ob n xs (ev 5 at_ (cnt c)) _ w1) := hN
  clear hN
  go_wp2
  go_end0
  exact ⟨rfl, HN.out⟩

structure Ev where
  k : Int
  i : Int
  v : Int
def ecells : List Ev → List Value
  | [] => []
  | e :: l => .int .i64 e.k :: .int .i64 e.i :: .int .u32 e.v :: ecells l
theorem ecells_len (l : List Ev) : (ecells l).length = l.length * 3 := by
  induction l with
  | nil => rfl
  | cons e l ih => simp [ecells, ih]; omega
theorem ecells_one (l : List Ev) : ∀ u ∈ ecells l, u.oneCell' = true := by
  induction l with
  | nil => intro u hu; cases hu
  | cons e l ih =>
    intro u hu
    simp only [ecells, List.mem_cons] at hu
    rcases hu with rfl | rfl | rfl | hu
    · rfl
    · rfl
    · rfl
    · exact ih u hu
theorem ecells_snoc (l : List Ev) (e : Ev) : ecells (l ++ [e]) = ecells l ++ ev e.k e.i e.v := by
  induction l with
  | nil => rfl
  | cons x l ih => simp [ecells, ih]
theorem ecells_at (l : List Ev) (j : Nat) (h : j < l.length) : (ecells l)[j * 3]? = some (.int .i64 l[j].k) ∧ (ecells l)[j * 3 + 1]? = some (.int .i64 l[j].i) ∧ (ecells l)[j * 3 + 2]? = some (.int .u32 l[j].v) := by
  induction l generalizing j with
  | nil => simp at h
  | cons e l ih =>
    cases j with
    | zero => exact ⟨rfl, rfl, rfl⟩
    | succ j =>
      have := ih j (by simpa using h)
      have e1 : (j + 1) * 3 = j * 3 + 3 := by omega
      simp only [e1, ecells, List.getElem_cons_succ]
      exact this

theorem owns_block {w : World} {base : Nat} {e : TypeId} {size : Nat} {v : Value} {n : Nat} {xs : List Value} (h : w.ownsRow base e size v n xs) (hn : 0 < n) :
    ∃ g cap, v = .slice (some ⟨g, 0, none⟩) n cap ∧ base ≤ g ∧ ∀ j u, xs[j]? = some u → w.cell? ⟨g, j, none⟩ = some u := by
  rcases h.2 with ⟨_, h0⟩ | ⟨g, cap, cur, rfl, hb, hg, h1, h2, h3, h4⟩
  · omega
  · refine ⟨g, cap, rfl, hb, fun j u hj => ?_⟩
    have : cur[j]? = some u := by
      rw [← h4, List.getElem?_take] at hj
      split at hj
      · simpa using hj
      · cases hj
    exact cell_of_heap hg this

/-- the values that were told -/
def toldE : List Ev → List Int
  | [] => []
  | e :: l => if e.k == 3 then e.v :: toldE l else toldE l
theorem toldE_append (l m : List Ev) : toldE (l ++ m) = toldE l ++ toldE m := by
  induction l with
  | nil => rfl
  | cons e l ih => simp only [List.cons_append, toldE, ih]; split <;> simp
def toldK (l : List Ev) (k : Nat) : List Int := toldE (l.take k)
theorem toldK_yes (l : List Ev) (k : Nat) (h : k < l.length) (hk : (l[k].k == 3) = true) : toldK l (k + 1) = toldK l k ++ [l[k].v] := by
  unfold toldK; rw [List.take_succ_eq_append_getElem h, toldE_append]; simp [toldE, hk]
theorem toldK_no (l : List Ev) (k : Nat) (h : k < l.length) (hk : (l[k].k == 3) = false) : toldK l (k + 1) = toldK l k := by
  unfold toldK; rw [List.take_succ_eq_append_getElem h, toldE_append]; simp [toldE, hk]
theorem toldE_len (l : List Ev) : (toldE l).length ≤ l.length := by
  induction l with
  | nil => exact Nat.le_refl _
  | cons e l ih => simp only [toldE]; split <;> simp <;> omega
theorem toldK_len (l : List Ev) (k : Nat) : (toldK l k).length ≤ k := Nat.le_trans (toldE_len _) (by simp; omega)
abbrev u32s (l : List Int) : List Value := l.map fun x => .int .u32 x

theorem Tryd.infoU32 : (Tryd.prog.info? 30).map (fun i => (i.zero, i.size, i.bytes)) = some (some (.int .u32 0), 1, 4) := by kernel_rfl

def blindE (e : Ev) : Ev := if e.k == 3 then ⟨e.k, e.i, 0⟩ else e
theorem blindE_yes (e : Ev) (h : (e.k == 3) = true) : blindE e = ⟨e.k, e.i, 0⟩ := by simp [blindE, h]
theorem blindE_no (e : Ev) (h : (e.k == 3) = false) : blindE e = e := by simp [blindE, h]
def blindK (l : List Ev) (k : Nat) : List Ev := (l.take k).map blindE ++ l.drop k
theorem blindK_len (l : List Ev) (k : Nat) (h : k ≤ l.length) : (blindK l k).length = l.length := by simp [blindK]; omega
theorem blindK_at (l : List Ev) (k : Nat) (h : k < l.length) (h2 : k < (blindK l k).length) : (blindK l k)[k] = l[k] := by
  simp only [blindK]
  rw [List.getElem_append_right (by simp; omega)]
  simp [List.getElem_drop]
  congr 1; omega
theorem blindK_succ (l : List Ev) (k : Nat) (h : k < l.length) : blindK l (k + 1) = (blindK l k).set k (blindE l[k]) := by
  unfold blindK
  rw [List.take_succ_eq_append_getElem h, List.drop_eq_getElem_cons h, List.set_append]
  have : ¬ k < (List.map blindE (List.take k l)).length := by simp; omega
  rw [if_neg this]
  have e : k - (List.map blindE (List.take k l)).length = 0 := by simp; omega
  rw [e, List.map_append, List.append_assoc]; rfl
theorem ecells_set (l : List Ev) (k : Nat) (h : k < l.length) (x : Int) : ecells (l.set k ⟨l[k].k, l[k].i, x⟩) = (ecells l).set (k * 3 + 2) (.int .u32 x) := by
  induction l generalizing k with
  | nil => simp at h
  | cons e l ih =>
    cases k with
    | zero => rfl
    | succ k =>
      have := ih k (by simpa using h)
      have e1 : (k + 1) * 3 + 2 = k * 3 + 2 + 3 := by omega
      simp only [List.set_cons_succ, ecells, e1, List.getElem_cons_succ]
      rw [this]
theorem owns_set {w : World} {base : Nat} {e : TypeId} {size g n cap j : Nat} {xs : List Value} {u : Value} (h : w.ownsRow base e size (.slice (some ⟨g, 0, none⟩) n cap) n xs) :
    (w.setCell ⟨g, j, none⟩ u).ownsRow base e size (.slice (some ⟨g, 0, none⟩) n cap) n (xs.set j u) := by
  obtain ⟨hl, hr⟩ := h
  rcases hr with ⟨hx, _⟩ | ⟨g', cap', cur, hx, hb, hg, h1, h2, h3, h4⟩
  · cases hx
  · cases hx
    refine ⟨by simp [hl], Or.inr ⟨g, cap, cur.setIfInBounds j u, rfl, hb, heap_setCell_at _ _ _ _ _ _ _ hg, h1, h2, by simp [h3], ?_⟩⟩
    rw [Array.toList_setIfInBounds, ← h4, List.take_set]
theorem owns_frozen {w : World} {base : Nat} {e : TypeId} {size g n cap j : Nat} {xs : List Value} (h : w.ownsRow base e size (.slice (some ⟨g, 0, none⟩) n cap) n xs) : w.frozen? ⟨g, j, none⟩ = false := by
  obtain ⟨hl, hr⟩ := h
  rcases hr with ⟨hx, _⟩ | ⟨g', cap', cur, hx, hb, hg, h1, h2, h3, h4⟩
  · cases hx
  · cases hx; exact frozen_of_heap hg

set_option maxHeartbeats 1600000 in
theorem blind_any (g : Nat) (ob : Option Nat) (es : List Ev) (w : World) (h : LogAt w g ob es.length (ecells es)) (hn : es.length ≤ 1000000000) :
    Calls Tryd.prog 13 #[.pointer (some ⟨g, 0, none⟩)] w fun e w' => ∃ ad cap, e = .returned (.slice ad es.length cap) ∧ w'.ownsRow w.heap.size 39 3 (.slice ad es.length cap) es.length (ecells (es.map blindE)) ∧ Below w.heap.size w w' := by
  have HL : Hid (LogAt w g ob es.length (ecells es)) := h
  clear h
  go_enter Tryd.func13, Tryd.ntmps13
  go_wp2_with fail
  refine (events_any g ob es.length (ecells es) _ HL.out (ecells_one es) hn).mono ?_
  rintro e w1 ⟨v', rfl, hown, hB⟩
  obtain ⟨ad, cap, rfl⟩ := owns_shape hown
  have HO1 : Hid (w1.ownsRow w.heap.size 39 3 (.slice ad es.length cap) es.length (ecells es)) := hown
  clear hown
  go_wp2
  go_loopw [9] (fun i wr => ∃ (k : Nat), k ≤ es.length ∧ i = .int .i64 k ∧ wr.ownsRow w.heap.size 39 3 (.slice ad es.length cap) es.length (ecells (blindK es k)) ∧ Below w.heap.size w wr) (fun i _ => es.length - (intOf i).toNat)
  case atStart => exact ⟨0, Nat.zero_le _, rfl, HO1.out, hB⟩
  case round =>
    obtain ⟨k, hk, rfl, hown, hBr⟩ := hrel
    clear HO1 HL
    by_cases hlt : k < es.length
    · obtain ⟨g2, cap2, hv, hbase, hcells⟩ := owns_block hown (by omega)
      cases hv
      have hbl := blindK_len es k hk
      obtain ⟨c0, c1, c2⟩ := ecells_at (blindK es k) k (by omega)
      rw [blindK_at es k hlt] at c0 c1 c2
      replace c0 := hcells _ _ c0
      replace c1 := hcells _ _ c1
      replace c2 := hcells _ _ c2
      have hf2 := owns_frozen (j := k * 3 + 2) hown
      have HS : Hid (blindK es (k + 1) = (blindK es k).set k (blindE es[k])) := blindK_succ es k hlt
      have HO : Hid (wr.ownsRow w.heap.size 39 3 (.slice (some ⟨g2, 0, none⟩) es.length cap) es.length (ecells (blindK es k))) := hown
      have HX : Hid (ecells ((blindK es k).set k ⟨es[k].k, es[k].i, 0⟩) = (ecells (blindK es k)).set (k * 3 + 2) (.int .u32 0)) := by
        have := ecells_set (blindK es k) k (by omega) 0
        rw [blindK_at es k hlt] at this; exact this
      have HBS : Hid ((blindK es k).set k es[k] = blindK es k) := by
        unfold Hid; conv => lhs; rw [← blindK_at es k hlt (by omega)]
        exact List.set_getElem_self _
      clear hown hcells hbl
      cases hq : (es[k].k == 3)
      · have HE : Hid (_) := blindE_no _ hq
        go_wp2
        go_roundw
        case rel => exact ⟨k + 1, by omega, by go_num, by rw [HS.out, HE.out, HBS.out]; exact HO.out, hBr⟩
        case measure => simp [intOf]; omega
      · have HE : Hid (_) := blindE_yes _ hq
        go_wp2
        go_roundw
        case rel => exact ⟨k + 1, by omega, by go_num, by rw [HS.out, HE.out, HX.out]; exact owns_set HO.out, hBr.setCell (by simpa using hbase) _⟩
        case measure => simp [intOf]; omega
    · have e : k = es.length := by omega
      subst e
      have HE : Hid (blindK es es.length = es.map blindE) := by unfold Hid blindK; simp
      have HO : Hid (_) := hown
      clear hown
      go_wp2
      go_ret
      rw [← HE.out]
      exact ⟨ad, cap, rfl, HO.out, hBr⟩
theorem row_block {w : World} {base : Nat} {e : TypeId} {size : Nat} {v : Value} {n : Nat} {xs : List Value} (h : w.ownsRow base e size v n xs) {x : Nat} (hx : v.ownBlock = some x) : ∃ cs, w.heap[x]? = some (.cells cs e (0, 0)) := by
  rcases h.2 with ⟨rfl, _⟩ | ⟨g, cap, cur, rfl, hb, hg, _⟩
  · cases hx
  · have : g = x := by simpa [Value.ownBlock] using hx
    subst this; exact ⟨cur, hg⟩
theorem log_block {w : World} {g : Nat} {ob : Option Nat} {n : Nat} {xs : List Value} (h : LogAt w g ob n xs) : (∃ cs, w.heap[g]? = some (.cells cs 63 (0, 0))) ∧ ∀ x, ob = some x → ∃ cs, w.heap[x]? = some (.cells cs 39 (0, 0)) := by
  obtain ⟨v, h1, h2, h3⟩ := h
  exact ⟨⟨_, h1⟩, fun x hx => row_block h3 (h2.trans hx)⟩
theorem types_apart {w : World} {x y : Nat} {c d : Array Value} {s t : TypeId} (h : w.heap[x]? = some (.cells c s (0, 0))) (k : w.heap[y]? = some (.cells d t (0, 0))) (hne : s ≠ t) : x ≠ y := by
  intro e; subst e; rw [h] at k; cases k; exact hne rfl
end Go.Proofs.YtjcnkigadlmpgaaDoor
