/- The law's 'few' and 'do', over this seat's translation. Conditions of 'do': at most 60 acts and 100 words, as the laws ask. -/
import Derived.Test.YtajnegonagpjgaaArR
namespace Go.Proofs.Ytajnegonagpjgaa
open Go.RowKit
set_option linter.unusedVariables false

def fewB (l : List Act) : Bool := decide (l.length ≤ 60) && l.all fun t => decide (t.l.length ≤ 40)
def fewK (l : List Act) (k : Nat) : Prop := ∀ j (hj : j < l.length), j < k → l[j].l.length ≤ 40
theorem few_yes (l : List Act) (h1 : l.length ≤ 60) (h2 : fewK l l.length) : fewB l = true := by
  simp only [fewB, Bool.and_eq_true, decide_eq_true_eq, List.all_eq_true]
  refine ⟨h1, fun t ht => ?_⟩
  obtain ⟨j, hj, rfl⟩ := List.mem_iff_getElem.1 ht
  exact h2 j hj hj
theorem few_no (l : List Act) (k : Nat) (hk : k < l.length) (h : 40 < l[k].l.length) : fewB l = false := by
  simp only [fewB, Bool.and_eq_false_iff, List.all_eq_false]
  exact Or.inr ⟨l[k], List.getElem_mem hk, by simpa using h⟩
theorem few_far (l : List Act) (h : 60 < l.length) : fewB l = false := by simp [fewB]; omega

set_option maxHeartbeats 800000 in
theorem few_any (ad : Option Addr) (cap : Nat) (l : List Act) (w : World) (h : ActsAt w ad l) :
    Calls Try.prog 7 #[.slice ad l.length cap] w fun e w' => e = .returned (.bool (fewB l)) ∧ Below w.heap.size w w' := by
  by_cases hf : 60 < l.length
  · have HF : Hid (_) := few_far l hf
    clear h
    go_enter Try.func7, Try.ntmps7
    go_wp2
    go_ret
    exact ⟨ret_bool HF.out.symm, Below.refl _ _⟩
  · have HC : Hid (ActsAt w ad l) := h
    clear h
    go_enter Try.func7, Try.ntmps7
    go_wp2
    go_loopw [10] (fun i wr => ∃ k : Nat, k ≤ l.length ∧ i = .int .i64 k ∧ fewK l k ∧ Below w.heap.size w wr) (fun i _ => l.length - (intOf i).toNat)
    case atStart => exact ⟨0, Nat.zero_le _, rfl, fun j _ h => absurd h (Nat.not_lt_zero _), Below.refl _ _⟩
    case round =>
      obtain ⟨k, hk, rfl, hfk, hB⟩ := hrel
      have HK : Hid (fewK l k) := hfk
      clear hfk
      by_cases hlt : k < l.length
      · obtain ⟨x, rfl, hc⟩ := HC.out.2 k hlt
        obtain ⟨c0, c1, c2, c3, c4⟩ := hc.below hB
        clear hc
        by_cases h40 : 40 < l[k].l.length
        · have HN : Hid (_) := few_no l k hlt h40
          go_wp2
          go_ret
          exact ⟨ret_bool HN.out.symm, chainB (by repeat (first | exact Below.refl _ _ | refine blw_alloc ?_ | refine blw_drew ?_ | assumption)) hB⟩
        · go_wp2
          go_roundw
          case rel =>
            refine ⟨k + 1, by omega, by go_num, fun j hj hjk => ?_, chainB (by repeat (first | exact Below.refl _ _ | refine blw_alloc ?_ | refine blw_drew ?_ | assumption)) hB⟩
            by_cases hj2 : j < k
            · exact HK.out j hj hj2
            · have : j = k := by omega
              subst this; omega
          case measure => simp [intOf]; omega
      · have e : k = l.length := by omega
        subst e
        have HY : Hid (_) := few_yes l (by omega) HK.out
        go_wp2
        go_ret
        exact ⟨ret_bool HY.out.symm, hB⟩

/-- what an act makes of an arena -/
def Ars.act (A : Ars) (t : Act) : Ars :=
  if t.kd % 7 = 0 then A.take t.n else if t.kd % 7 = 1 then A.give t.at_ else if t.kd % 7 = 2 then A.load t.at_ else if t.kd % 7 = 3 then A.store t.at_ t.v
  else if t.kd % 7 = 4 then A.rel t.at_ else if t.kd % 7 = 5 then A.put t.at_ t.l else A.shown t.at_ t.n

abbrev actObj (t : Act) : Obj := .cells #[.int .u8 (t.kd : Int), .int .i64 t.at_, .int .i64 t.n, .int .u32 (t.v : Int), .slice t.ad t.l.length t.cap] 32
set_option maxHeartbeats 800000 in
theorem do_0 (h : Hn) (F : Nat → Prop) (A : Ars) (t : Act) (w : World) (a : Ar w h F A) (o : Act.Ok w t) (ho : Off F t.ad t.l.length) (hn : A.es.length ≤ 100000000) (ht : A.top ≤ 100000000) (hl : t.l.length ≤ 100000000) (hr : (t.kd : Int) % 7 = 0) :
    Calls Try.prog 23 #[arPtr h, t.agg] w fun e w' => e = .returned (.tuple #[]) ∧ ∃ F', Ar w' h F' (A.take t.n) ∧ Step w F w' F' := by
  have HA : Hid (Ar w h F A) := a
  have HO : Hid (Act.Ok w t) := o
  have HF : Hid (Off F t.ad t.l.length) := ho
  have HU : Hid (∀ o, U32s (w.alloc o) t.ad t.l) := fun _ => o.u.below (by repeat (first | exact Below.refl _ _ | refine blw_alloc ?_ | refine blw_drew ?_ | assumption))
  have hnF : ¬ F w.heap.size := fun x => by have := a.lt _ x; omega
  have hkd := o.kd
  clear a o ho
  go_enter Try.func23, Try.ntmps23
  go_wp2_with fail
  refine (ar_take h F A t.n _ (HA.out.alloc _) (by omega)).mono ?_
  rintro e w2 ⟨rfl, F2, a2, s2⟩
  have HA2 : Hid (_) := a2
  have S2 : Hid (_) := s2
  clear a2 s2
  go_wp2
  go_end0
  exact ⟨rfl, F2, HA2.out, ((Step.refl _ _).alloc _).trans S2.out⟩
set_option maxHeartbeats 800000 in
theorem do_1 (h : Hn) (F : Nat → Prop) (A : Ars) (t : Act) (w : World) (a : Ar w h F A) (o : Act.Ok w t) (ho : Off F t.ad t.l.length) (hn : A.es.length ≤ 100000000) (ht : A.top ≤ 100000000) (hl : t.l.length ≤ 100000000) (hr : (t.kd : Int) % 7 = 1) :
    Calls Try.prog 23 #[arPtr h, t.agg] w fun e w' => e = .returned (.tuple #[]) ∧ ∃ F', Ar w' h F' (A.give t.at_) ∧ Step w F w' F' := by
  have HA : Hid (Ar w h F A) := a
  have HO : Hid (Act.Ok w t) := o
  have HF : Hid (Off F t.ad t.l.length) := ho
  have HU : Hid (∀ o, U32s (w.alloc o) t.ad t.l) := fun _ => o.u.below (by repeat (first | exact Below.refl _ _ | refine blw_alloc ?_ | refine blw_drew ?_ | assumption))
  have hnF : ¬ F w.heap.size := fun x => by have := a.lt _ x; omega
  have hkd := o.kd
  clear a o ho
  go_enter Try.func23, Try.ntmps23
  go_wp2_with fail
  refine (ar_give h F A t.at_ _ (HA.out.alloc _) HO.out.at1 (by omega)).mono ?_
  rintro e w2 ⟨rfl, F2, a2, s2⟩
  have HA2 : Hid (_) := a2
  have S2 : Hid (_) := s2
  clear a2 s2
  go_wp2
  go_end0
  exact ⟨rfl, F2, HA2.out, ((Step.refl _ _).alloc _).trans S2.out⟩
set_option maxHeartbeats 800000 in
theorem do_2 (h : Hn) (F : Nat → Prop) (A : Ars) (t : Act) (w : World) (a : Ar w h F A) (o : Act.Ok w t) (ho : Off F t.ad t.l.length) (hn : A.es.length ≤ 100000000) (ht : A.top ≤ 100000000) (hl : t.l.length ≤ 100000000) (hr : (t.kd : Int) % 7 = 2) :
    Calls Try.prog 23 #[arPtr h, t.agg] w fun e w' => e = .returned (.tuple #[]) ∧ ∃ F', Ar w' h F' (A.load t.at_) ∧ Step w F w' F' := by
  have HA : Hid (Ar w h F A) := a
  have HO : Hid (Act.Ok w t) := o
  have HF : Hid (Off F t.ad t.l.length) := ho
  have HU : Hid (∀ o, U32s (w.alloc o) t.ad t.l) := fun _ => o.u.below (by repeat (first | exact Below.refl _ _ | refine blw_alloc ?_ | refine blw_drew ?_ | assumption))
  have hnF : ¬ F w.heap.size := fun x => by have := a.lt _ x; omega
  have hkd := o.kd
  clear a o ho
  go_enter Try.func23, Try.ntmps23
  go_wp2_with fail
  refine (ar_load h F A t.at_ _ (HA.out.alloc _) HO.out.at1 (by omega)).mono ?_
  rintro e w2 ⟨rfl, F2, a2, s2⟩
  have HA2 : Hid (_) := a2
  have S2 : Hid (_) := s2
  clear a2 s2
  go_wp2
  go_end0
  exact ⟨rfl, F2, HA2.out, ((Step.refl _ _).alloc _).trans S2.out⟩
set_option maxHeartbeats 800000 in
theorem do_3 (h : Hn) (F : Nat → Prop) (A : Ars) (t : Act) (w : World) (a : Ar w h F A) (o : Act.Ok w t) (ho : Off F t.ad t.l.length) (hn : A.es.length ≤ 100000000) (ht : A.top ≤ 100000000) (hl : t.l.length ≤ 100000000) (hr : (t.kd : Int) % 7 = 3) :
    Calls Try.prog 23 #[arPtr h, t.agg] w fun e w' => e = .returned (.tuple #[]) ∧ ∃ F', Ar w' h F' (A.store t.at_ t.v) ∧ Step w F w' F' := by
  have HA : Hid (Ar w h F A) := a
  have HO : Hid (Act.Ok w t) := o
  have HF : Hid (Off F t.ad t.l.length) := ho
  have HU : Hid (∀ o, U32s (w.alloc o) t.ad t.l) := fun _ => o.u.below (by repeat (first | exact Below.refl _ _ | refine blw_alloc ?_ | refine blw_drew ?_ | assumption))
  have hnF : ¬ F w.heap.size := fun x => by have := a.lt _ x; omega
  have hkd := o.kd
  clear a o ho
  go_enter Try.func23, Try.ntmps23
  go_wp2_with fail
  go_region_held3 (fun w' => w'.cell? ⟨w.heap.size, 1, none⟩ = some (.int .i64 t.at_) ∧ w'.cell? ⟨w.heap.size, 3, none⟩ = some (.int .u32 (t.v : Int)))
    (first | (exact ⟨cell_of_heap hbx rfl, cell_of_heap hbx rfl⟩) | (go_keep))
    (first
      | (go_at_call 28; refine (of_any _ _).mono ?_; rintro e w' ⟨rfl, rfl⟩)
      | (go_at_call 27; refine (ar_store h F A t.at_ t.v _ ((HA.out.alloc _).drew.alloc _) HO.out.at1 HO.out.v (by omega)).mono ?_; rintro e w2 ⟨rfl, F2, a2, s2⟩; have hbx := s2.heap (o := actObj t) ((heap_alloc_old _ _ _ (by simp)).trans (heap_alloc_at _ _)) hnF))
  all_goals
    have HA2 : Hid (_) := a2
    have S2 : Hid (_) := s2
    clear a2 s2 hbx
    go_wp2
    go_end0
    exact ⟨rfl, F2, HA2.out, (((Step.refl _ _).alloc _).drew.alloc _).trans S2.out⟩
set_option maxHeartbeats 800000 in
theorem do_4 (h : Hn) (F : Nat → Prop) (A : Ars) (t : Act) (w : World) (a : Ar w h F A) (o : Act.Ok w t) (ho : Off F t.ad t.l.length) (hn : A.es.length ≤ 100000000) (ht : A.top ≤ 100000000) (hl : t.l.length ≤ 100000000) (hr : (t.kd : Int) % 7 = 4) :
    Calls Try.prog 23 #[arPtr h, t.agg] w fun e w' => e = .returned (.tuple #[]) ∧ ∃ F', Ar w' h F' (A.rel t.at_) ∧ Step w F w' F' := by
  have HA : Hid (Ar w h F A) := a
  have HO : Hid (Act.Ok w t) := o
  have HF : Hid (Off F t.ad t.l.length) := ho
  have HU : Hid (∀ o, U32s (w.alloc o) t.ad t.l) := fun _ => o.u.below (by repeat (first | exact Below.refl _ _ | refine blw_alloc ?_ | refine blw_drew ?_ | assumption))
  have hnF : ¬ F w.heap.size := fun x => by have := a.lt _ x; omega
  have hkd := o.kd
  clear a o ho
  go_enter Try.func23, Try.ntmps23
  go_wp2_with fail
  refine (ar_rel h F A t.at_ _ (HA.out.alloc _) HO.out.at1 (by omega)).mono ?_
  rintro e w2 ⟨rfl, F2, a2, s2⟩
  have HA2 : Hid (_) := a2
  have S2 : Hid (_) := s2
  clear a2 s2
  go_wp2
  go_end0
  exact ⟨rfl, F2, HA2.out, ((Step.refl _ _).alloc _).trans S2.out⟩
set_option maxHeartbeats 800000 in
theorem do_5 (h : Hn) (F : Nat → Prop) (A : Ars) (t : Act) (w : World) (a : Ar w h F A) (o : Act.Ok w t) (ho : Off F t.ad t.l.length) (hn : A.es.length ≤ 100000000) (ht : A.top ≤ 100000000) (hl : t.l.length ≤ 100000000) (hr : (t.kd : Int) % 7 = 5) :
    Calls Try.prog 23 #[arPtr h, t.agg] w fun e w' => e = .returned (.tuple #[]) ∧ ∃ F', Ar w' h F' (A.put t.at_ t.l) ∧ Step w F w' F' := by
  have HA : Hid (Ar w h F A) := a
  have HO : Hid (Act.Ok w t) := o
  have HF : Hid (Off F t.ad t.l.length) := ho
  have HU : Hid (∀ o, U32s (w.alloc o) t.ad t.l) := fun _ => o.u.below (by repeat (first | exact Below.refl _ _ | refine blw_alloc ?_ | refine blw_drew ?_ | assumption))
  have hnF : ¬ F w.heap.size := fun x => by have := a.lt _ x; omega
  have hkd := o.kd
  clear a o ho
  go_enter Try.func23, Try.ntmps23
  go_wp2_with fail
  refine (ar_put h F A t.at_ t.ad t.cap t.l _ (HA.out.alloc _) HO.out.at1 HO.out.l (HU.out _) HF.out (by omega)).mono ?_
  rintro e w2 ⟨rfl, F2, a2, s2⟩
  have HA2 : Hid (_) := a2
  have S2 : Hid (_) := s2
  clear a2 s2
  go_wp2
  go_end0
  exact ⟨rfl, F2, HA2.out, ((Step.refl _ _).alloc _).trans S2.out⟩
set_option maxHeartbeats 800000 in
theorem do_6 (h : Hn) (F : Nat → Prop) (A : Ars) (t : Act) (w : World) (a : Ar w h F A) (o : Act.Ok w t) (ho : Off F t.ad t.l.length) (hn : A.es.length ≤ 100000000) (ht : A.top ≤ 100000000) (hl : t.l.length ≤ 100000000) (hr : (t.kd : Int) % 7 = 6) :
    Calls Try.prog 23 #[arPtr h, t.agg] w fun e w' => e = .returned (.tuple #[]) ∧ ∃ F', Ar w' h F' (A.shown t.at_ t.n) ∧ Step w F w' F' := by
  have HA : Hid (Ar w h F A) := a
  have HO : Hid (Act.Ok w t) := o
  have HF : Hid (Off F t.ad t.l.length) := ho
  have HU : Hid (∀ o, U32s (w.alloc o) t.ad t.l) := fun _ => o.u.below (by repeat (first | exact Below.refl _ _ | refine blw_alloc ?_ | refine blw_drew ?_ | assumption))
  have hnF : ¬ F w.heap.size := fun x => by have := a.lt _ x; omega
  have hkd := o.kd
  clear a o ho
  go_enter Try.func23, Try.ntmps23
  go_wp2_with fail
  refine (ar_show h F A t.at_ t.n _ (HA.out.alloc _) HO.out.at1 (fun x => by have := Ars.fits_iff.1 x; omega)).mono ?_
  rintro e w2 ⟨v2, F2, rfl, _, a2, s2⟩
  have HA2 : Hid (_) := a2
  have S2 : Hid (_) := s2
  clear a2 s2
  go_wp2
  go_end0
  exact ⟨rfl, F2, HA2.out, ((Step.refl _ _).alloc _).trans S2.out⟩
theorem do_any (h : Hn) (F : Nat → Prop) (A : Ars) (t : Act) (w : World) (a : Ar w h F A) (o : Act.Ok w t) (ho : Off F t.ad t.l.length) (hn : A.es.length ≤ 100000000) (ht : A.top ≤ 100000000) (hl : t.l.length ≤ 100000000) :
    Calls Try.prog 23 #[arPtr h, t.agg] w fun e w' => e = .returned (.tuple #[]) ∧ ∃ F', Ar w' h F' (A.act t) ∧ Step w F w' F' := by
  have hr : t.kd % 7 = 0 ∨ t.kd % 7 = 1 ∨ t.kd % 7 = 2 ∨ t.kd % 7 = 3 ∨ t.kd % 7 = 4 ∨ t.kd % 7 = 5 ∨ t.kd % 7 = 6 := by omega
  unfold Ars.act
  rcases hr with hr | hr | hr | hr | hr | hr | hr <;> simp only [hr]
  · exact do_0 h F A t w a o ho hn ht hl (by omega)
  · exact do_1 h F A t w a o ho hn ht hl (by omega)
  · exact do_2 h F A t w a o ho hn ht hl (by omega)
  · exact do_3 h F A t w a o ho hn ht hl (by omega)
  · exact do_4 h F A t w a o ho hn ht hl (by omega)
  · exact do_5 h F A t w a o ho hn ht hl (by omega)
  · exact do_6 h F A t w a o ho hn ht hl (by omega)
end Go.Proofs.Ytajnegonagpjgaa
