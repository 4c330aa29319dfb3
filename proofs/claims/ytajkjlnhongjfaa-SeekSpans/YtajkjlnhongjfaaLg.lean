/- Contracts of package ct's log (NewLog, note, Release, Load .. Give, Len), over this seat's translation. Conditions: the log has at most a thousand million events. -/
import Derived.Test.YtajkjlnhongjfaaCt0
import Derived.Test.YtajkjlnhongjfaaFr
import Derived.Deep.RegionWith
namespace Go.Proofs.Ytajkjlnhongjfaa
open Go.RowKit

theorem Try.infoEvent : (Try.prog.info? 81).map (fun i => (i.zero, i.size, i.bytes)) = some (some (.agg #[.int .i64 0, .int .i64 0, .int .u32 0]), 3, 24) := by kernel_rfl

/-- block g holds a log whose events lie in the row ob: n of them, their cells xs. -/
def LogAt (w : World) (g : Nat) (ob : Option Nat) (n : Nat) (xs : List Value) : Prop :=
  ∃ v, w.heap[g]? = some (.cells #[v] 77 (0, 0)) ∧ v.ownBlock = ob ∧ w.ownsRow 0 81 3 v n xs

abbrev ev (kind at_ val : Int) : List Value := [.int .i64 kind, .int .i64 at_, .int .u32 val]

theorem LogAt.kept {w w' : World} {g : Nat} {ob : Option Nat} {n : Nat} {xs : List Value} {S : Nat → Prop} (h : LogAt w g ob n xs) (hf : Fr S w w') (hg : ¬ S g) (hob : ∀ k, ob = some k → ¬ S k) : LogAt w' g ob n xs := by
  obtain ⟨v, h1, h2, h3⟩ := h
  refine ⟨v, by rw [hf.block g (lt_of_heap h1) hg]; exact h1, h2, owns_of_blocks h3 fun k hk => hf.block k (h3.lt k hk).2 (hob k (h2 ▸ hk))⟩
theorem LogAt.lt {w : World} {g : Nat} {ob : Option Nat} {n : Nat} {xs : List Value} (h : LogAt w g ob n xs) : g < w.heap.size := by
  obtain ⟨v, h1, _⟩ := h; exact lt_of_heap h1
/-- behind an append and a store of the new slice, the log has one event more. -/
theorem LogAt.step {w w1 : World} {g n cap cap2 g2 : Nat} {ad : Option Addr} {ob : Option Nat} {xs e : List Value} {o : Obj}
    (h1 : w.heap[g]? = some (.cells #[.slice ad n cap] 77 (0, 0))) (h2 : (Value.slice ad n cap).ownBlock = ob) (hap : ob ≠ some g)
    (hown : w1.ownsRow 0 81 3 (.slice (some ⟨g2, 0, none⟩) (n + 1) cap2) (n + 1) (xs ++ e)) (hgrow : (w.alloc o).grownBy w1 (Value.slice ad n cap).ownBlock) (hat : (Value.slice ad n cap).ownBlock = some g2 ∨ g2 = w.heap.size + 1) :
    LogAt (w1.setCell ⟨g, 0, none⟩ (.slice (some ⟨g2, 0, none⟩) (n + 1) cap2)) g (some g2) (n + 1) (xs ++ e) ∧ (ob = some g2 ∨ w.heap.size ≤ g2) ∧ Fr (fun i => i = g ∨ ob = some i) w (w1.setCell ⟨g, 0, none⟩ (.slice (some ⟨g2, 0, none⟩) (n + 1) cap2)) := by
  have hlt := lt_of_heap h1
  have hw1 : w1.heap[g]? = some (.cells #[.slice ad n cap] 77 (0, 0)) := by
    rw [hgrow.block g (by simp; omega) (by rw [h2]; exact fun x => hap x.symm), heap_alloc_old _ _ _ hlt]; exact h1
  have hne : g2 ≠ g := by
    intro e; subst e
    rcases hown.2 with ⟨hx, _⟩ | ⟨g', cap', cur, hx, hb, hg, _⟩
    · cases hx
    · cases hx; rw [hw1] at hg; cases hg
  refine ⟨⟨.slice (some ⟨g2, 0, none⟩) (n + 1) cap2, ?_, rfl, ?_⟩, ?_, ?_⟩
  · rw [heap_setCell_at _ _ _ _ _ _ _ hw1]; rfl
  · refine owns_of_blocks hown fun k hk => ?_
    have : k = g2 := by simpa [Value.ownBlock] using hk.symm
    subst this
    exact Below.heap_setCell _ _ _ _ hne
  · rcases hat with x | x
    · left; rw [← h2, x]
    · right; omega
  · refine Fr.setCell (Fr.grown ((Fr.refl _ w).alloc o) hgrow fun k hk _ => Or.inr (by rw [← h2, hk])) _ fun _ => Or.inl rfl
theorem LogAt.apart {w : World} {g : Nat} {ob : Option Nat} {n : Nat} {xs : List Value} (h : LogAt w g ob n xs) : ob ≠ some g := by
  obtain ⟨v, h1, h2, h3⟩ := h
  intro e
  rcases h3.2 with ⟨rfl, _⟩ | ⟨g', cap, cur, rfl, hb, hg, _⟩
  · rw [e] at h2; cases h2
  · have : g' = g := by rw [e] at h2; simpa [Value.ownBlock] using h2
    subst this; rw [h1] at hg; cases hg

set_option maxHeartbeats 800000 in
theorem note_any (g : Nat) (ob : Option Nat) (n : Nat) (xs : List Value) (kind at_ val : Int) (w : World) (h : LogAt w g ob n xs) (hn : n ≤ 1000000000) :
    Calls Try.prog 34 #[.pointer (some ⟨g, 0, none⟩), .int .i64 kind, .int .i64 at_, .int .u32 val] w fun e w' => e = .returned (.tuple #[]) ∧
      ∃ k, LogAt w' g (some k) (n + 1) (xs ++ ev kind at_ val) ∧ (ob = some k ∨ w.heap.size ≤ k) ∧ Fr (fun i => i = g ∨ ob = some i) w w' := by
  have hap := h.apart
  have hglt := h.lt
  obtain ⟨v, h1, h2, h3⟩ := h
  obtain ⟨ad, cap, rfl⟩ : ∃ ad cap, v = .slice ad n cap := by
    rcases h3.2 with ⟨rfl, rfl⟩ | ⟨g', cap, cur, rfl, _⟩
    · exact ⟨none, 0, rfl⟩
    · exact ⟨_, cap, rfl⟩
  have hc := cell_of_heap h1 (i := 0) rfl
  have hfz := frozen_of_heap (i := 0) h1
  obtain ⟨i0, hi, hz0, hz1, hz2⟩ := info_parts Try.infoEvent
  have H1 : Hid (_) := h1
  have H2 : Hid (_) := h2
  clear h1 h2
  go_enter Try.func34, Try.ntmps34
  go_wp2_with (at_builtin; refine wpList_append_lies _ rfl (.tmp 14) (.tmp 19) 75 rfl 0 81 i0 _ 3 24 Try.underlying75 hi hz0 hz1 hz2 rfl (by decide) _ n xs rfl (h3.alloc _) ⟨w.heap.size, 0, none⟩ 1 1 (ev kind at_ val) rfl rfl ?c1 ?c2 (by decide) ?c3 ?c4 (Nat.zero_le _) _ rfl ?_)
  case c1 => exact World.news_of_block (heap_alloc_at _ _)
  case c2 => intro u hu; simp only [List.mem_cons, List.not_mem_nil, or_false] at hu; rcases hu with rfl | rfl | rfl <;> rfl
  case c3 => unfold maxLen; omega
  case c4 => omega
  intro g2 cap2 w1 hown hgrow hat hlt2
  have hF := LogAt.step H1.out H2.out hap hown hgrow hat
  have hw1 : w1.cell? ⟨g, 0, none⟩ = some (.slice ad n cap) := by
    rw [World.cell?_of_block (hgrow.block g (by simp; omega) (by rw [H2.out]; exact fun x => hap x.symm)), World.cell?_of_block (heap_alloc_old _ _ _ hglt)]; exact hc
  have hf1 : w1.frozen? ⟨g, 0, none⟩ = false := by
    rw [World.frozen?_of_block (hgrow.block g (by simp; omega) (by rw [H2.out]; exact fun x => hap x.symm)), World.frozen?_of_block (heap_alloc_old _ _ _ hglt)]; exact hfz
  have HF : Hid (_) := hF
  clear hF hown hgrow hat hlt2 hc hfz h3 hi hz0 hz1 hz2 hap
  go_wp2
  go_end0
  exact ⟨rfl, g2, HF.out⟩

/-- what a note does to the log at g -/
def Noted (g : Nat) (ob : Option Nat) (n : Nat) (xs e : List Value) (w w' : World) : Prop :=
  ∃ k, LogAt w' g (some k) (n + 1) (xs ++ e) ∧ (ob = some k ∨ w.heap.size ≤ k) ∧ Fr (fun i => i = g ∨ ob = some i) w w'

set_option maxHeartbeats 400000 in
theorem newlog_any (w : World) :
    Calls Try.prog 25 #[] w fun e w' => e = .returned (.pointer (some ⟨w.heap.size, 0, none⟩)) ∧ w' = w.alloc (.cells #[.slice none 0 0] 77) := by
  go_enter Try.func25, Try.ntmps25
  go_wp2
  go_ret
  exact ⟨rfl, rfl⟩
theorem newlog_at (w : World) : LogAt (w.alloc (.cells #[.slice none 0 0] 77)) w.heap.size none 0 [] :=
  ⟨.slice none 0 0, heap_alloc_at _ _, rfl, World.ownsRow_nil _ _ _ _⟩

theorem Noted.alloc {g : Nat} {ob : Option Nat} {n : Nat} {xs e : List Value} {w w' : World} {o : Obj} (h : Noted g ob n xs e (w.alloc o) w') : Noted g ob n xs e w w' := by
  obtain ⟨k, h1, h2, h3⟩ := h
  exact ⟨k, h1, h2.imp_right (fun x => by simp at x; omega), ((Fr.refl _ w).alloc o).trans h3 (fun _ _ x => x)⟩
theorem LogAt.alloc {w : World} {g : Nat} {ob : Option Nat} {n : Nat} {xs : List Value} (h : LogAt w g ob n xs) (o : Obj) : LogAt (w.alloc o) g ob n xs :=
  h.kept (S := fun _ => False) ((Fr.refl _ w).alloc o) (fun x => x) (fun _ _ x => x)
theorem LogAt.row_lt {w : World} {g : Nat} {ob : Option Nat} {n : Nat} {xs : List Value} (h : LogAt w g ob n xs) : ∀ k, ob = some k → k < w.heap.size := by
  obtain ⟨v, h1, h2, h3⟩ := h
  intro k hk; exact (h3.lt k (h2.trans hk)).2

set_option maxHeartbeats 400000 in
theorem release_any (g : Nat) (ob : Option Nat) (n : Nat) (xs : List Value) (v : Int) (w : World) (h : LogAt w g ob n xs) (hn : n ≤ 1000000000) :
    Calls Try.prog 26 #[.pointer (some ⟨g, 0, none⟩), sec v] w fun e w' => e = .returned (u32 v) ∧ Noted g ob n xs (ev 3 0 v) w w' := by
  have HL : Hid (LogAt w g ob n xs) := h
  have hlt := h.lt
  have hrow := h.row_lt
  clear h
  go_enter Try.func26, Try.ntmps26
  go_wp2_with fail
  refine (note_any g ob n xs 3 0 v _ (HL.out.alloc _) hn).mono ?_
  rintro e w1 ⟨rfl, hN⟩
  have hc : w1.cell? ⟨w.heap.size, 0, none⟩ = some (.int .u32 v) := by
    obtain ⟨k, h1, h2, h3⟩ := hN
    rw [World.cell?_of_block (h3.block w.heap.size (by simp) (fun x => x.elim (fun x => by omega) (fun x => by have := hrow _ x; omega)))]
    exact cell_of_heap (heap_alloc_at _ _) rfl
  have HN : Hid (Noted g ob n xs (ev 3 0 v) w w1) := Noted.alloc hN
  clear hN hrow
  go_wp2
  go_ret
  exact ⟨rfl, HN.out⟩

theorem LogAt.drew {w : World} {g : Nat} {ob : Option Nat} {n : Nat} {xs : List Value} (h : LogAt w g ob n xs) : LogAt w.drew g ob n xs :=
  h.kept (S := fun _ => False) (Fr.refl _ w).drew (fun x => x) (fun _ _ x => x)

theorem Noted.below {g : Nat} {ob : Option Nat} {n B : Nat} {xs e : List Value} {w w' : World} (h : Noted g ob n xs e w w') (hB : B ≤ w.heap.size) (hg : B ≤ g) (hob : ∀ k, ob = some k → B ≤ k) : Below B w w' := by
  obtain ⟨k, _, _, h3⟩ := h
  exact h3.below hB (fun i hi x => x.elim (fun x => by omega) (fun x => by have := hob _ x; omega))

end Go.Proofs.Ytajkjlnhongjfaa
