/- Contracts of package arena (Put, Show, Give), over this seat's translation. Conditions: the log has at most a thousand million events; numbers are those of int; what is put lies apart from the arena. -/
import Derived.Test.YtjcnkigadlmpgaaDoorArC
import Derived.Deep.LoopGhost
namespace Go.Proofs.YtjcnkigadlmpgaaDoor
open Go.RowKit

/-- a slice's words -/
def U32s (w : World) (ad : Option Addr) (l : List Nat) : Prop := ∀ k (hk : k < l.length), ∃ x, ad = some x ∧ w.cell? (x.add k) = some (.int .u32 (l[k] : Int))
/-- it has no block of F, if it has any word -/
def Off (F : Nat → Prop) (ad : Option Addr) (n : Nat) : Prop := ∀ x, ad = some x → 0 < n → ¬ F x.block
theorem U32s.lt {w : World} {ad : Option Addr} {l : List Nat} (h : U32s w ad l) : ∀ x, ad = some x → 0 < l.length → x.block < w.heap.size := by
  intro x hx hn
  obtain ⟨y, hy, hc⟩ := h 0 hn
  rw [hx] at hy; cases hy
  rcases Nat.lt_or_ge x.block w.heap.size with hlt | hge
  · exact hlt
  · have : (x.add 0).block = x.block := add_block x 0
    simp [World.cell?, this, Array.getElem?_eq_none hge] at hc
theorem off_high {w : World} {F : Nat → Prop} {ad : Option Addr} {l : List Nat} (h : U32s w ad l) (hF : ∀ i, F i → w.heap.size ≤ i) : Off F ad l.length := fun x hx hn hf => by
  have := h.lt x hx hn; have := hF _ hf; omega
theorem U32s.below {w w' : World} {ad : Option Addr} {l : List Nat} (h : U32s w ad l) (hb : Below w.heap.size w w') : U32s w' ad l := by
  intro k hk
  obtain ⟨x, rfl, hc⟩ := h k hk
  exact ⟨x, rfl, cell_later hb hc⟩
theorem isRow_u32s {w : World} {ad : Option Addr} {len cap : Nat} {zs : List Int} (h : IsRow .u32 w ad len cap zs) : ∃ l : List Nat, l.length = len ∧ (∀ x ∈ l, x < 4294967296) ∧ U32s w ad l := by
  have hlz : len ≤ zs.length := by
    rcases h with ⟨_, h0, _, _⟩ | ⟨x, _, h1, _, h2, _⟩ <;> omega
  have hlen : ((zs.take len).map Int.toNat).length = len := by simp; omega
  have hget : ∀ k (hk : k < ((zs.take len).map Int.toNat).length), zs[k]? = some (zs.getD k 0) ∧ ((zs.take len).map Int.toNat)[k] = (zs.getD k 0).toNat := by
    intro k hk
    have hk2 : k < zs.length := by omega
    simp [hk2, List.getD]
  have hmem : ∀ n ∈ zs, (Lit.int .u32 n).wf = true := by
    rcases h with ⟨_, _, _, rfl⟩ | ⟨x, _, _, _, _, _, h3⟩
    · intro n hn; cases hn
    · exact h3
  refine ⟨(zs.take len).map Int.toNat, hlen, ?_, ?_⟩
  · intro x hx
    obtain ⟨n, hn, rfl⟩ := List.mem_map.1 hx
    have := wf_u32 (hmem n (List.mem_of_mem_take hn)); omega
  · intro k hk
    rcases h with ⟨_, h0, _, _⟩ | ⟨x, rfl, h1, _, h2, h3, h4⟩
    · omega
    · refine ⟨x, rfl, ?_⟩
      obtain ⟨g1, g2⟩ := hget k hk
      have hb := wf_u32 (h4 _ (List.mem_of_getElem? g1))
      rw [g2, h3 k (by omega), Int.toNat_of_nonneg hb.1]
theorem U32s.step {w w' : World} {F F' : Nat → Prop} {ad : Option Addr} {l : List Nat} (h : U32s w ad l) (s : Step w F w' F') (ho : Off F ad l.length) : U32s w' ad l := by
  intro k hk
  obtain ⟨x, rfl, hc⟩ := h k hk
  exact ⟨x, rfl, s.cell hc (by rw [add_block]; exact ho x rfl (by omega))⟩
theorem Ars.put_step {A : Ars} {i k : Nat} {l : List Nat} (hk : k < l.length) (hf : i + l.length ≤ A.top) : (A.putK i l k).store ((i : Int) + (k : Int)) l[k] = A.putK i l (k + 1) := by
  unfold Ars.store
  rw [if_pos (by rw [Ars.fits_iff, Ars.putK_top]; omega)]
  have e1 : ((i : Int) + (k : Int)).toNat = i + k := by omega
  have e2 : l.getD k 0 = l[k] := by simp [List.getD_eq_getElem?_getD, List.getElem?_eq_getElem hk]
  simp only [Ars.putK, e1, e2]

set_option maxHeartbeats 800000 in
theorem ar_put_yes (h : Hn) (F : Nat → Prop) (A : Ars) (i : Nat) (ad : Option Addr) (cap : Nat) (l : List Nat) (w : World) (a : Ar w h F A) (hf : i + l.length ≤ A.top) (hl : ∀ x ∈ l, x < 4294967296) (hc : U32s w ad l) (ho : Off F ad l.length) (hn : A.es.length + l.length ≤ 1000000000) :
    Calls Tryd.prog 20 #[arPtr h, .int .i64 (i : Int), .slice ad l.length cap] w fun e w' => e = .returned (.bool true) ∧ ∃ F', Ar w' h F' (A.putK i l l.length) ∧ Step w F w' F' := by
  have hfit : A.fits (i : Int) (l.length : Int) = true := Ars.fits_nat hf
  have hb1 := a.ok.1
  have hb2 := a.ok.2.1
  have HA : Hid (Ar w h F A) := a
  clear a
  go_enter Tryd.func20, Tryd.ntmps20
  go_wp2_with (go_at_call 40; refine (ar_fits h F A _ _ _ HA.out (by omega)).mono ?_; rintro e w' ⟨rfl, hw⟩; subst w')
  go_loopw [17] (fun c wr => ∃ (k : Nat) (F1 : Nat → Prop), k ≤ l.length ∧ c = .int .i64 k ∧ Ar wr h F1 (A.putK i l k) ∧ Step w F wr F1) (fun c _ => l.length - (intOf c).toNat)
  case atStart => exact ⟨0, F, Nat.zero_le _, rfl, HA.out, Step.refl _ _⟩
  case round =>
    obtain ⟨k, F1, hk, rfl, a1, s1⟩ := hrel
    by_cases hlt : k < l.length
    · obtain ⟨x, rfl, hcell⟩ := hc k hlt
      replace hcell := s1.cell hcell (by rw [add_block]; exact ho x rfl (by omega))
      have HA1 : Hid (∀ o, Ar (wr.alloc o) h F1 (A.putK i l k)) := fun o => a1.alloc o
      have S1 : Hid (Step w F wr F1) := s1
      have HE : Hid ((A.putK i l k).store ((i : Int) + (k : Int)) l[k] = A.putK i l (k + 1)) := Ars.put_step hlt hf
      have hv := hl l[k] (List.getElem_mem hlt)
      have hes := Ars.putK_eslen (A := A) i l k
      have HES : Hid ((A.putK i l k).es.length ≤ 1000000000) := by unfold Hid; omega
      clear a1 s1 hc ho hl HA hfit hes
      go_wp2_with (first
        | (go_at_call 22; refine (of_any _ _).mono ?_; rintro e w' ⟨rfl, rfl⟩)
        | (go_at_call 30; refine (ar_store h F1 (A.putK i l k) _ l[k] _ (HA1.out _) (by omega) hv HES.out).mono ?_; rintro e w2 ⟨rfl, F2, a2, s2⟩))
      go_roundw
      case rel => exact ⟨k + 1, F2, by omega, by go_num, HE.out ▸ a2, S1.out.trans (((Step.refl _ _).alloc _).trans s2)⟩
      case measure => simp [intOf]; omega
    · have e : k = l.length := by omega
      subst e
      have HA1 : Hid (_) := a1
      have S1 : Hid (_) := s1
      clear a1 s1 hc ho hl HA hfit
      go_wp2
      go_ret
      exact ⟨rfl, F1, HA1.out, S1.out⟩

set_option maxHeartbeats 400000 in
theorem ar_put_no (h : Hn) (F : Nat → Prop) (A : Ars) (at_ : Int) (ad : Option Addr) (n cap : Nat) (w : World) (a : Ar w h F A) (ha : at_ < 9223372036854775808) (hc : A.fits at_ n = false) :
    Calls Tryd.prog 20 #[arPtr h, .int .i64 at_, .slice ad n cap] w fun e w' => e = .returned (.bool false) ∧ w' = w := by
  have HA : Hid (Ar w h F A) := a
  clear a
  go_enter Tryd.func20, Tryd.ntmps20
  go_wp2_with (go_at_call 40; refine (ar_fits h F A _ _ _ HA.out ha).mono ?_; rintro e w' ⟨rfl, hw⟩; subst w')
  go_ret
  exact ⟨rfl, rfl⟩
theorem ar_put (h : Hn) (F : Nat → Prop) (A : Ars) (at_ : Int) (ad : Option Addr) (cap : Nat) (l : List Nat) (w : World) (a : Ar w h F A) (ha : at_ < 9223372036854775808) (hl : ∀ x ∈ l, x < 4294967296) (hc : U32s w ad l) (ho : Off F ad l.length) (hn : A.es.length + l.length ≤ 1000000000) :
    Calls Tryd.prog 20 #[arPtr h, .int .i64 at_, .slice ad l.length cap] w fun e w' => e = .returned (.bool (A.fits at_ l.length)) ∧ ∃ F', Ar w' h F' (A.put at_ l) ∧ Step w F w' F' := by
  cases hf : A.fits at_ l.length
  · refine (ar_put_no h F A at_ ad l.length cap w a ha hf).mono ?_
    rintro e w' ⟨rfl, rfl⟩
    refine ⟨rfl, F, ?_, Step.refl _ _⟩
    simp only [Ars.put, hf]; exact a
  · have h1 := Ars.fits_iff.1 hf
    obtain ⟨i, rfl⟩ := Int.eq_ofNat_of_zero_le h1.1
    refine (ar_put_yes h F A i ad cap l w a (by omega) hl hc ho hn).mono ?_
    rintro e w' ⟨rfl, F', a', s'⟩
    refine ⟨rfl, F', ?_, s'⟩
    simp only [Ars.put, hf]; exact a'

def showK (A : Ars) (i n k : Nat) : List Nat := A.told i k ++ List.replicate (n - k) 0
theorem showK_len (A : Ars) (i n k : Nat) (h : k ≤ n) : (showK A i n k).length = n := by simp [showK, Ars.told_len]; omega
theorem showK_zero (A : Ars) (i n : Nat) : (secs (showK A i n 0)).toArray = rowZ n := by simp [showK, Ars.told, rowZ]
theorem showK_succ (A : Ars) (i n k : Nat) (h : k < n) : showK A i n (k + 1) = (showK A i n k).set k (A.word (i + k)) := by
  unfold showK
  rw [Ars.told_succ, List.set_append, if_neg (by rw [Ars.told_len]; omega), Ars.told_len, Nat.sub_self]
  have : n - k = (n - (k + 1)) + 1 := by omega
  rw [this, List.replicate_succ, List.set_cons_zero, List.append_assoc]; rfl
theorem showK_all (A : Ars) (i n : Nat) : showK A i n n = A.told i n := by simp [showK]
theorem rel_step {A : Ars} {i n k : Nat} (hk : k < n) (hf : i + n ≤ A.top) : (A.relK i k).rel ((i : Int) + (k : Int)) = A.relK i (k + 1) ∧ (A.relK i k).loadV ((i : Int) + (k : Int)) = A.word (i + k) := by
  have e1 : ((i : Int) + (k : Int)).toNat = i + k := by omega
  have e2 : (A.relK i k).fits ((i : Int) + (k : Int)) 1 = true := by rw [Ars.fits_iff, Ars.relK_top]; omega
  unfold Ars.rel Ars.loadV
  rw [if_pos e2, if_pos e2, e1, Ars.relK_word]; exact ⟨rfl, rfl⟩

theorem run_make_u32s (z : Int) (n : Nat) (hz : z = (n : Int)) (hn : n ≤ 4194304) (w : World) :
    (Instr.makeSlice 22 (.int .i64 z) (.int .i64 z)).run Tryd.prog w = .ok (.slice (some ⟨w.heap.size, 0, none⟩) n n) (w.alloc (.cells (rowZ n) 30)) := by
  obtain ⟨i0, hi, hz0, hz1, hz2⟩ := info_parts Tryd.infoU32
  subst hz
  have := run_make (P := Tryd.prog) w 22 30 i0 _ Tryd.underlying22 hi hz0 .i64 .i64 n n (by omega) (Int.le_refl _) (by rw [hz2]; omega) (by omega)
  rw [this, hz1, ← made_rowZ]; simp [Value.cells]
theorem u32_row_at {w : World} {g k : Nat} {l : List Nat} (h : w.heap[g]? = some (.cells (secs l).toArray 30 (0, 0))) (hk : k < l.length) : w.cell? ⟨g, k, none⟩ = some (.int .u32 (l[k] : Int)) :=
  cell_of_heap h (by simp [hk])

set_option maxHeartbeats 800000 in
theorem ar_show_yes (h : Hn) (F : Nat → Prop) (A : Ars) (i n : Nat) (w : World) (a : Ar w h F A) (hf : i + n ≤ A.top) (hn : A.es.length + 2 * n ≤ 1000000000) :
    Calls Tryd.prog 23 #[arPtr h, .int .i64 (i : Int), .int .i64 (n : Int)] w fun e w' => ∃ g F', e = .returned (.slice (some ⟨g, 0, none⟩) n n) ∧ w'.heap[g]? = some (.cells (secs (A.told i n)).toArray 30 (0, 0)) ∧ w.heap.size ≤ g ∧ ¬ F' g ∧ Ar w' h F' (A.relK i n) ∧ Step w F w' F' := by
  have hfit : A.fits (i : Int) (n : Int) = true := Ars.fits_nat hf
  have hb1 := a.ok.1
  have hb2 := a.ok.2.1
  have hnF : ¬ F w.heap.size := fun x => by have := a.lt _ x; omega
  have hmk := run_make_u32s n n rfl (by omega)
  have HA : Hid (Ar w h F A) := a
  clear a
  go_enter Tryd.func23, Tryd.ntmps23
  go_wp2_with (go_at_call 40; refine (ar_fits h F A _ _ _ HA.out (by omega)).mono ?_; rintro e w' ⟨rfl, hw⟩; subst w')
  clear hmk
  go_loopw [18] (fun c wr => ∃ (k : Nat) (F1 : Nat → Prop), k ≤ n ∧ c = .int .i64 k ∧ Ar wr h F1 (A.relK i k) ∧ Step w F wr F1 ∧ wr.heap[w.heap.size]? = some (.cells (secs (showK A i n k)).toArray 30 (0, 0)) ∧ ¬ F1 w.heap.size) (fun c _ => n - (intOf c).toNat)
  case atStart => exact ⟨0, F, Nat.zero_le _, rfl, HA.out.alloc _, (Step.refl _ _).alloc _, by rw [showK_zero]; exact heap_alloc_at _ _, hnF⟩
  case round =>
    obtain ⟨k, F1, hk, rfl, a1, s1, hr, hn1⟩ := hrel
    by_cases hlt : k < n
    · have hlt' : (k : Int) < (n : Int) := by omega
      have HA1 : Hid (Ar wr h F1 (A.relK i k)) := a1
      have S1 : Hid (Step w F wr F1) := s1
      have hsz := lt_of_heap hr
      have HR : Hid (wr.heap[w.heap.size]? = some (.cells (secs (showK A i n k)).toArray 30 (0, 0))) := hr
      have HE : Hid (_) := rel_step (A := A) hlt hf
      have hes := Ars.relK_eslen (A := A) i k
      have HES : Hid ((A.relK i k).es.length < 1000000000) := by unfold Hid; omega
      clear a1 s1 HA hfit hes hr
      go_wp2_with (first
        | (go_at_call 16; refine (ar_rel h F1 (A.relK i k) _ _ HA1.out (by omega) HES.out).mono ?_; rintro e w2 ⟨rfl, F2, a2, s2⟩; have hr2 := s2.heap HR.out hn1; have cc := u32_row_at hr2 (k := k) (by rw [showK_len _ _ _ _ hk]; exact hlt); have ff := frozen_of_heap (i := k) hr2; have HR2 : Hid (_) := hr2; clear hr2))
      go_roundw
      case rel =>
        refine ⟨k + 1, F2, by omega, by go_num, ?_, ?_, ?_, s2.out hn1 hsz⟩
        · rw [← HE.out.1]; exact a2.setOther _ _ (s2.out hn1 hsz)
        · exact S1.out.trans s2 |>.setNew _ _ (Nat.le_refl _)
        · rw [heap_setCell_at _ _ _ _ _ _ _ HR2.out, HE.out.2, showK_succ _ _ _ _ hlt, secs_set]; simp
      case measure => simp [intOf]; omega
    · have e : k = n := by omega
      subst e
      have HA1 : Hid (_) := a1
      have S1 : Hid (_) := s1
      have HR : Hid (_) := hr
      clear a1 s1 HA hfit hr
      go_wp2
      go_ret
      exact ⟨w.heap.size, F1, rfl, by rw [← showK_all]; exact HR.out, Nat.le_refl _, hn1, HA1.out, S1.out⟩
end Go.Proofs.YtjcnkigadlmpgaaDoor
