/- Contracts of package ct's log, read again (Len, Events), over this seat's translation. Conditions: the log has at most a thousand million events. -/
import Derived.Test.YtlnankianpchbaaLg
namespace Go.Proofs.Ytlnankianpchbaa
open Go.RowKit

set_option maxHeartbeats 400000 in
theorem len_any (g : Nat) (ob : Option Nat) (n : Nat) (xs : List Value) (w : World) (h : LogAt w g ob n xs) :
    Calls Try.prog 11 #[.pointer (some ⟨g, 0, none⟩)] w fun e w' => e = .returned (.int .i64 n) ∧ w' = w := by
  obtain ⟨v, h1, h2, h3⟩ := h
  obtain ⟨ad, cap, rfl⟩ : ∃ ad cap, v = .slice ad n cap := by
    rcases h3.2 with ⟨rfl, rfl⟩ | ⟨g', cap, cur, rfl, _⟩
    · exact ⟨none, 0, rfl⟩
    · exact ⟨_, cap, rfl⟩
  have hc := cell_of_heap h1 (i := 0) rfl
  clear h1 h2 h3
  go_enter Try.func11, Try.ntmps11
  go_wp2
  go_ret
  exact ⟨rfl, rfl⟩

set_option maxHeartbeats 800000 in
theorem clone_any (v : Value) (n : Nat) (xs : List Value) (w : World) (h : w.ownsRow 0 40 3 v n xs) (h1 : ∀ u ∈ xs, u.oneCell' = true) (hn : n ≤ 1000000000) :
    Calls Try.prog 66 #[v] w fun e w' => ∃ v', e = .returned v' ∧ w'.ownsRow w.heap.size 40 3 v' n xs ∧ Below w.heap.size w w' := by
  have qT : ∀ (w : World) (a : Option Addr) (n c n' c' : Nat), (binOp .eql 37 (.slice a n c) (.slice none n' c')).run Try.prog w = .ok (.bool a.isNone) w := fun w a n c n' c' => Lib.run_eql_slice_nil w _ _ a n c n' c' Try.underlying37
  rcases h.2 with ⟨rfl, rfl⟩ | ⟨g', cap, cur, rfl, hb, hg, hle, hmx, hsz, htk⟩
  · have : xs = [] := by have := h.1; simpa using this
    subst this
    clear h h1
    go_enter Try.func66, Try.ntmps66
    go_wp2
    go_ret
    exact ⟨_, rfl, World.ownsRow_nil _ _ _ _, Below.refl _ _⟩
  · obtain ⟨i0, hi, hz0, hz1, hz2⟩ := info_parts Try.infoEvent
    have hlen := h.1
    have HC0 : Hid ((w.alloc (.cells #[] 40)).ownsRow w.heap.size 40 3 (.slice (some ⟨w.heap.size, 0, none⟩) 0 0) 0 []) := World.ownsRow_made w #[] 0 (Nat.le_refl _) (by decide) rfl
    have HC1 : Hid (∀ j u, xs[j]? = some u → (w.alloc (.cells #[] 40)).cell? ((⟨g', 0, none⟩ : Addr).add j) = some u) := fun j u hj => cell_add_kept (heap_alloc_old _ _ _ (h.lt g' rfl).2) (h.cells rfl j u hj)
    clear hb hg hle hmx hsz htk h
    go_enter Try.func66, Try.ntmps66
    go_wp2_with (at_builtin; refine wpList_append_own _ rfl (.tmp 5) (.tmp 6) 37 rfl w.heap.size 40 i0 _ 3 24 Try.underlying37 hi hz0 hz1 hz2 rfl (by decide) _ 0 [] rfl HC0.out ⟨g', 0, none⟩ n cap xs rfl hlen HC1.out h1 (by unfold maxLen; omega) (by omega) (by simp) ?_)
    intro v' w1 hown hgrow _
    clear h1 hi hz0 hz1 hz2 qT
    go_wp2
    go_ret
    exact ⟨_, rfl, hown, ((Below.refl _ _).alloc (Nat.le_refl _) _).grown hgrow (by simp) (by intro k hk; simp [Value.ownBlock] at hk; omega)⟩

set_option maxHeartbeats 400000 in
theorem events_any (g : Nat) (ob : Option Nat) (n : Nat) (xs : List Value) (w : World) (h : LogAt w g ob n xs) (h1 : ∀ u ∈ xs, u.oneCell' = true) (hn : n ≤ 1000000000) :
    Calls Try.prog 38 #[.pointer (some ⟨g, 0, none⟩)] w fun e w' => ∃ v', e = .returned v' ∧ w'.ownsRow w.heap.size 40 3 v' n xs ∧ Below w.heap.size w w' := by
  obtain ⟨v, h2, h3, h4⟩ := h
  have HX : Hid (w.ownsRow 0 40 3 v n xs) := h4
  obtain ⟨ad, cap, rfl⟩ : ∃ ad cap, v = .slice ad n cap := by
    rcases h4.2 with ⟨rfl, rfl⟩ | ⟨g', cap, cur, rfl, _⟩
    · exact ⟨none, 0, rfl⟩
    · exact ⟨_, cap, rfl⟩
  have hc := cell_of_heap h2 (i := 0) rfl
  clear h2 h3 h4
  go_enter Try.func38, Try.ntmps38
  go_wp2_with fail
  refine (clone_any _ n xs _ HX.out h1 hn).mono ?_
  rintro e w1 ⟨v', rfl, ho, hb⟩
  have HO : Hid (_) := ho
  clear ho
  go_wp2
  go_ret
  exact ⟨v', rfl, HO.out, hb⟩

end Go.Proofs.Ytlnankianpchbaa
