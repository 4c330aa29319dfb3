/- Contracts of package ct's log, read again (Len, Events), and of the laws' first lines (awake), over this seat's translation. Conditions: the log has at most a million events. -/
import Derived.Test.YteiienkneojleaaCtL
namespace Go.Proofs.Yteiienkneojleaa
open Go.RowKit

set_option maxHeartbeats 400000 in
theorem len_any (g : Nat) (ob : Option Nat) (n : Nat) (xs : List Value) (w : World) (h : LogAt w g ob n xs) :
    Calls Try.prog 40 #[.pointer (some ⟨g, 0, none⟩)] w fun e w' => e = .returned (.int .i64 n) ∧ w' = w := by
  obtain ⟨v, h1, h2, h3⟩ := h
  obtain ⟨ad, cap, rfl⟩ : ∃ ad cap, v = .slice ad n cap := by
    rcases h3.2 with ⟨rfl, rfl⟩ | ⟨g', cap, cur, rfl, _⟩
    · exact ⟨none, 0, rfl⟩
    · exact ⟨_, cap, rfl⟩
  have hc := cell_of_heap h1 (i := 0) rfl
  clear h1 h2 h3
  go_enter Try.func40, Try.ntmps40
  go_wp2
  go_ret
  exact ⟨rfl, rfl⟩

set_option maxHeartbeats 800000 in
theorem clone_any (v : Value) (n : Nat) (xs : List Value) (w : World) (h : w.ownsRow 0 51 3 v n xs) (h1 : ∀ u ∈ xs, u.oneCell' = true) (hn : n ≤ 1000000) :
    Calls Try.prog 49 #[v] w fun e w' => ∃ v', e = .returned v' ∧ w'.ownsRow w.heap.size 51 3 v' n xs ∧ Below w.heap.size w w' := by
  have qT : ∀ (w : World) (a : Option Addr) (n c n' c' : Nat), (binOp .eql 45 (.slice a n c) (.slice none n' c')).run Try.prog w = .ok (.bool a.isNone) w := fun w a n c n' c' => Lib.run_eql_slice_nil w _ _ a n c n' c' Try.underlying45
  rcases h.2 with ⟨rfl, rfl⟩ | ⟨g', cap, cur, rfl, hb, hg, hle, hmx, hsz, htk⟩
  · have : xs = [] := by have := h.1; simpa using this
    subst this
    clear h h1
    go_enter Try.func49, Try.ntmps49
    go_wp2
    go_ret
    exact ⟨_, rfl, World.ownsRow_nil _ _ _ _, Below.refl _ _⟩
  · obtain ⟨i0, hi, hz0, hz1, hz2⟩ := info_parts Try.infoEvent
    have hlen := h.1
    have HC0 : Hid ((w.alloc (.cells #[] 51)).ownsRow w.heap.size 51 3 (.slice (some ⟨w.heap.size, 0, none⟩) 0 0) 0 []) := World.ownsRow_made w #[] 0 (Nat.le_refl _) (by decide) rfl
    have HC1 : Hid (∀ j u, xs[j]? = some u → (w.alloc (.cells #[] 51)).cell? ((⟨g', 0, none⟩ : Addr).add j) = some u) := fun j u hj => cell_add_kept (heap_alloc_old _ _ _ (h.lt g' rfl).2) (h.cells rfl j u hj)
    clear hb hg hle hmx hsz htk h
    go_enter Try.func49, Try.ntmps49
    go_wp2_with (at_builtin; refine wpList_append_own _ rfl (.tmp 5) (.tmp 6) 45 rfl w.heap.size 51 i0 _ 3 24 Try.underlying45 hi hz0 hz1 hz2 rfl (by decide) _ 0 [] rfl HC0.out ⟨g', 0, none⟩ n cap xs rfl hlen HC1.out h1 (by unfold maxLen; omega) (by omega) (by simp) ?_)
    intro v' w1 hown hgrow _
    clear h1 hi hz0 hz1 hz2 qT
    go_wp2
    go_ret
    exact ⟨_, rfl, hown, ((Below.refl _ _).alloc (Nat.le_refl _) _).grown hgrow (by simp) (by intro k hk; simp [Value.ownBlock] at hk; omega)⟩

set_option maxHeartbeats 400000 in
theorem events_any (g : Nat) (ob : Option Nat) (n : Nat) (xs : List Value) (w : World) (h : LogAt w g ob n xs) (h1 : ∀ u ∈ xs, u.oneCell' = true) (hn : n ≤ 1000000) :
    Calls Try.prog 37 #[.pointer (some ⟨g, 0, none⟩)] w fun e w' => ∃ v', e = .returned v' ∧ w'.ownsRow w.heap.size 51 3 v' n xs ∧ Below w.heap.size w w' := by
  obtain ⟨v, h2, h3, h4⟩ := h
  have HX : Hid (w.ownsRow 0 51 3 v n xs) := h4
  obtain ⟨ad, cap, rfl⟩ : ∃ ad cap, v = .slice ad n cap := by
    rcases h4.2 with ⟨rfl, rfl⟩ | ⟨g', cap, cur, rfl, _⟩
    · exact ⟨none, 0, rfl⟩
    · exact ⟨_, cap, rfl⟩
  have hc := cell_of_heap h2 (i := 0) rfl
  clear h2 h3 h4
  go_enter Try.func37, Try.ntmps37
  go_wp2_with fail
  refine (clone_any _ n xs _ HX.out h1 hn).mono ?_
  rintro e w1 ⟨v', rfl, ho, hb⟩
  have HO : Hid (_) := ho
  clear ho
  go_wp2
  go_ret
  exact ⟨v', rfl, HO.out, hb⟩

theorem sel57 : ((selW (mk true) 5 7 : Nat) : Int) = 5 := by decide

set_option maxHeartbeats 800000 in
theorem awake_any (w : World) :
    Calls Try.prog 9 #[] w fun e w' => e = .returned (.bool true) ∧ Below w.heap.size w w' := by
  have HL : Hid (LogAt (w.alloc (.cells #[.slice none 0 0] 67)) w.heap.size none 0 []) := newlog_at w
  go_enter Try.func9, Try.ntmps9
  go_wp2_with fail
  refine (newlog_any _).mono ?_
  rintro e w1 ⟨rfl, rfl⟩
  go_wp2_with fail
  refine (mask_any true _).mono ?_
  rintro e w1 ⟨rfl, rfl⟩
  go_wp2_with fail
  refine (of_any 5 _).mono ?_
  rintro e w1 ⟨rfl, rfl⟩
  go_wp2_with fail
  refine (of_any 7 _).mono ?_
  rintro e w1 ⟨rfl, rfl⟩
  go_wp2_with fail
  refine (sel_any (mk true) 5 7 _ (by decide) (by decide) (by decide)).mono ?_
  rintro e w1 ⟨rfl, rfl⟩
  rw [sel57]
  go_wp2_with fail
  refine (release_any w.heap.size none 0 [] 5 _ ((((((((((((HL.out.alloc _).alloc _).alloc _).alloc _).alloc _).alloc _).alloc _).alloc _).alloc _).alloc _))) (by decide)).mono ?_
  rintro e w1 ⟨rfl, hN⟩
  have hB : Below w.heap.size w w1 := Below.trans (by repeat (first | exact Below.refl _ _ | refine blw_alloc ?_ | refine blw_drew ?_ | assumption)) (hN.below (by simp; omega) (Nat.le_refl _) (by intro k hk; cases hk))
  obtain ⟨k, hL1, _, _⟩ := hN
  have HL1 : Hid (LogAt w1 w.heap.size (some k) 1 (ev 3 0 5)) := hL1
  clear hL1 HL
  go_wp2_with fail
  refine (len_any _ _ _ _ _ HL1.out).mono ?_
  rintro e w2 ⟨rfl, rfl⟩
  go_wp2_with fail
  refine (events_any _ _ _ _ _ HL1.out (by intro u hu; simp only [List.mem_cons, List.not_mem_nil, or_false] at hu; rcases hu with rfl | rfl | rfl <;> rfl) (by decide)).mono ?_
  rintro e w3 ⟨v', rfl, ho, hb⟩
  obtain ⟨g2, cap, hv, _, _⟩ := ho.form (by decide)
  rw [hv] at ho ⊢
  have c0 : w3.cell? ⟨g2, 0, none⟩ = some (.int .i64 3) := ho.cells rfl 0 _ rfl
  have c1 : w3.cell? ⟨g2, 1, none⟩ = some (.int .i64 0) := ho.cells rfl 1 _ rfl
  have c2 : w3.cell? ⟨g2, 2, none⟩ = some (.int .u32 5) := ho.cells rfl 2 _ rfl
  clear ho hv HL1
  go_wp2
  go_ret
  exact ⟨rfl, hB.trans (hb.mono hB.size)⟩
end Go.Proofs.Yteiienkneojleaa
