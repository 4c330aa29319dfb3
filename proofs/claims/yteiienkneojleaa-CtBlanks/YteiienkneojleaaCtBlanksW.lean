/- The law CtBlanks returns true at all lists of words; the contract of ct.Blank. -/
import Derived.Test.YteiienkneojleaaCtM
namespace Go.Proofs.Yteiienkneojleaa
open Go.RowKit

/-- all words or'ed -/
def orAll : List Nat → Nat
  | [] => 0
  | x :: l => orAll l ||| x
theorem orAll_lt (l : List Nat) (h : ∀ x ∈ l, x < 4294967296) : orAll l < 4294967296 := by
  induction l with
  | nil => exact (by decide : (0 : Nat) < 4294967296)
  | cons x l ih => exact or32 (ih fun y hy => h y (List.mem_cons_of_mem _ hy)) (h x (List.mem_cons_self ..))
theorem or_zero (a b : Nat) : (a ||| b) = 0 ↔ a = 0 ∧ b = 0 := by
  constructor
  · intro h
    have ha : a ≤ a ||| b := Nat.left_le_or
    have hb : b ≤ a ||| b := Nat.right_le_or
    omega
  · rintro ⟨rfl, rfl⟩; rfl
theorem orAll_zero (l : List Nat) : (orAll l == 0) = l.all (· == 0) := by
  induction l with
  | nil => rfl
  | cons x l ih => rw [Bool.eq_iff_iff] at *; simp only [orAll, beq_iff_eq, List.all_cons, Bool.and_eq_true, or_zero] at *; rw [ih]; exact And.comm
def orK (l : List Nat) (k : Nat) : Nat := orAll (l.take k).reverse
theorem orK_succ (l : List Nat) (k : Nat) (h : k < l.length) : orK l (k + 1) = orK l k ||| l[k] := by
  unfold orK; rw [List.take_succ_eq_append_getElem h, List.reverse_append]; rfl
theorem orK_all (l : List Nat) : (orK l l.length == 0) = l.all (· == 0) := by
  unfold orK; rw [List.take_of_length_le (Nat.le_refl _), orAll_zero]; simp
theorem orK_lt (l : List Nat) (k : Nat) (h : ∀ x ∈ l, x < 4294967296) : orK l k < 4294967296 :=
  orAll_lt _ fun x hx => h x (List.mem_of_mem_take (List.mem_reverse.1 hx))

abbrev secs (l : List Nat) : List Value := l.map fun (x : Nat) => .int .u32 (x : Int)

set_option maxHeartbeats 800000 in
theorem blank_any (v : Value) (l : List Nat) (w : World) (h : w.ownsRow 0 26 1 v l.length (secs l)) (hl : ∀ x ∈ l, x < 4294967296) (hn : l.length ≤ 1000000) :
    Calls Try.prog 41 #[v] w fun e w' => e = .returned (.bool (l.all (· == 0))) ∧ Below w.heap.size w w' := by
  obtain ⟨ad, cap, rfl, hc⟩ : ∃ ad cap, v = .slice ad l.length cap ∧ (∀ k (hk : k < l.length), ∃ g, ad = some ⟨g, 0, none⟩ ∧ w.cell? ⟨g, k, none⟩ = some (.int .u32 (l[k] : Int))) := by
    rcases h.2 with ⟨rfl, h0⟩ | ⟨g', cap, cur, rfl, _⟩
    · exact ⟨none, 0, by rw [h0], fun k hk => by omega⟩
    · refine ⟨_, cap, rfl, fun k hk => ⟨g', rfl, ?_⟩⟩
      have := h.cells rfl k (.int .u32 (l[k] : Int)) (by simp [hk])
      by_cases h0 : k = 0
      · subst h0; exact this
      · simpa [Addr.add, h0] using this
  clear h
  go_enter Try.func41, Try.ntmps41
  go_wp2
  go_loopw [3, 8] (fun s i wr => ∃ k : Nat, k ≤ l.length ∧ i = .int .i64 k ∧ s = .int .u32 (orK l k : Int) ∧ Below w.heap.size w wr) (fun _ i _ => l.length - (intOf i).toNat)
  case atStart => exact ⟨0, Nat.zero_le _, rfl, rfl, Below.refl _ _⟩
  case round =>
    obtain ⟨k, hk, rfl, rfl, hB⟩ := hrel
    by_cases hlt : k < l.length
    · obtain ⟨g, rfl, hcell⟩ := hc k hlt
      replace hcell := cell_later hB hcell
      have HO : Hid (bits .or .u32 (orK l k : Int) (l[k] : Int) = (orK l (k + 1) : Int)) := by
        unfold Hid; rw [u32_or_nat _ _ (orK_lt _ _ hl) (hl _ (List.getElem_mem hlt)), orK_succ l k hlt]
      clear hc hl
      go_wp2
      go_roundw
      case rel => exact ⟨k + 1, by omega, by go_num, by rw [HO.out], chainB (by repeat (first | exact Below.refl _ _ | refine blw_alloc ?_ | refine blw_drew ?_ | assumption)) hB⟩
      case measure => simp [intOf]; omega
    · have e : k = l.length := by omega
      subst e
      clear hc hl
      go_wp2
      go_ret
      exact ⟨ret_bool (by rw [← orK_all]; rw [Bool.eq_iff_iff]; simp), hB⟩

theorem Try.infoSec : (Try.prog.info? 26).map (fun i => (i.zero, i.size, i.bytes)) = some (some (.agg #[.int .u32 0]), 1, 8) := by kernel_rfl

def allK (l : List Nat) (k : Nat) : Bool := (l.take k).all (· == 0)
theorem allK_succ (l : List Nat) (k : Nat) (h : k < l.length) : allK l (k + 1) = (allK l k && l[k] == 0) := by
  unfold allK; rw [List.take_succ_eq_append_getElem h, List.all_append]; simp only [List.all_cons, List.all_nil, Bool.and_true]
theorem secs_succ (l : List Nat) (k : Nat) (h : k < l.length) : secs (l.take (k + 1)) = secs (l.take k) ++ [.int .u32 (l[k] : Int)] := by
  unfold secs; rw [List.take_succ_eq_append_getElem h, List.map_append]; rfl

set_option maxHeartbeats 1600000 in
theorem ctBlanks_at (ad : Option Addr) (cap : Nat) (l : List Nat) (w : World) (hl : ∀ x ∈ l, x < 4294967296) (hn : l.length ≤ 100)
    (hc : ∀ k (hk : k < l.length), ∃ x, ad = some x ∧ w.cell? (x.add k) = some (.int .u32 (l[k] : Int))) :
    Calls Try.prog 8 #[.slice ad l.length cap] w fun e w' => e = .returned (.bool true) ∧ Below w.heap.size w w' := by
  obtain ⟨i0, hi, hz0, hz1, hz2⟩ := info_parts Try.infoSec
  go_enter Try.func8, Try.ntmps8
  go_wp2_with fail
  refine (awake_any _).mono ?_
  rintro e w1 ⟨rfl, hb1⟩
  go_wp2_with fail
  go_loopw [3, 4, 14] (fun s all i wr => ∃ (k : Nat) (sd : Option Addr) (sc : Nat), k ≤ l.length ∧ i = .int .i64 k ∧ all = .bool (allK l k) ∧ s = .slice sd k sc ∧ wr.ownsRow w.heap.size 26 1 (.slice sd k sc) k (secs (l.take k)) ∧ Below w.heap.size w wr) (fun _ _ i _ => l.length - (intOf i).toNat)
  case atStart => exact ⟨0, none, 0, Nat.zero_le _, rfl, rfl, rfl, World.ownsRow_nil _ _ _ _, hb1⟩
  case round =>
    obtain ⟨k, sd, sc, hk, rfl, rfl, rfl, hown, hB⟩ := hrel
    by_cases hlt : k < l.length
    · obtain ⟨x, rfl, hcell⟩ := hc k hlt
      replace hcell := cell_later hB hcell
      clear hc
      have HN : Hid (∀ j u, [Value.int .u32 (l[k] : Int)][j]? = some u → ((wr.alloc (sb (l[k] : Int))).alloc (sb (l[k] : Int))).cell? ((⟨wr.heap.size + 1, 0, none⟩ : Addr).add j) = some u) := by
        have h := World.news_of_block (heap_alloc_at (wr.alloc (sb (l[k] : Int))) (sb (l[k] : Int)))
        unfold Hid; intro j u hj; have h2 := h j u (by simpa using hj); simpa using h2
      have HO : Hid (((wr.alloc (sb (l[k] : Int))).alloc (sb (l[k] : Int))).ownsRow w.heap.size 26 1 (.slice sd k sc) k (secs (l.take k))) := (hown.alloc _).alloc _
      have HA : Hid (allK l (k + 1) = (allK l k && l[k] == 0)) := allK_succ l k hlt
      have HS : Hid (_) := secs_succ l k hlt
      have HZ : Hid (((l[k] : Int) == 0) = (l[k] == 0)) := by unfold Hid; rw [Bool.eq_iff_iff]; simp
      have HR : Hid (∀ g, (Value.slice sd k sc).ownBlock = some g → w.heap.size ≤ g) := fun g hg => (hown.lt g hg).1
      have hsz := hB.size
      generalize hq : allK l k = q at *
      clear hown hq
      cases q
      all_goals
        go_wp2_with (first
          | (go_at_call 10; refine (of_any _ _).mono ?_; rintro e w' ⟨rfl, rfl⟩)
          | (at_builtin; refine wpList_append_own _ rfl (.tmp 18) (.tmp 21) 58 rfl w.heap.size 26 i0 _ 1 8 Try.underlying58 hi hz0 hz1 hz2 rfl (by decide) (.slice sd k sc) k (secs (l.take k)) rfl HO.out ⟨wr.heap.size + 1, 0, none⟩ 1 1 [.int .u32 (l[k] : Int)] rfl rfl HN.out (by intro u hu; simp at hu; subst hu; rfl) (by unfold maxLen; omega) (by omega) (by simp; omega) ?_; intro s' w2 hown' hgrow _))
        obtain ⟨sd', sc', rfl⟩ := owns_shape hown'
        rw [← HS.out] at hown'
        have hB2 : Below w.heap.size w w2 := (hB.trans (by refine Below.mono ?_ hsz; exact (by repeat (first | exact Below.refl _ _ | refine blw_alloc ?_ | refine blw_drew ?_ | assumption)))).grown hgrow (by simp; omega) HR.out
        go_roundw
        case rel => exact ⟨k + 1, sd', sc', by omega, by go_num, by first | (rw [HA.out, HZ.out]; rfl) | (rw [HA.out]; rfl), rfl, hown', hB2⟩
        case measure => simp [intOf]; omega
    · have e : k = l.length := by omega
      subst e
      have HL : Hid (wr.ownsRow 0 26 1 (.slice sd l.length sc) l.length (secs l)) := by
        rw [List.take_of_length_le (Nat.le_refl _)] at hown
        refine ⟨hown.1, ?_⟩
        rcases hown.2 with h0 | ⟨g, cp, cur, h1, h2, h3⟩
        · exact Or.inl h0
        · exact Or.inr ⟨g, cp, cur, h1, Nat.zero_le _, h3⟩
      have HA : Hid (allK l l.length = l.all (· == 0)) := by unfold Hid allK; rw [List.take_of_length_le (Nat.le_refl _)]
      clear hown hc
      go_wp2_with fail
      refine (blank_any _ l _ HL.out hl (by omega)).mono ?_
      rintro e w2 ⟨rfl, hbx⟩
      rw [HA.out]
      have hB2 := chainB hbx hB
      clear hbx HL HA
      generalize l.all (· == 0) = q
      cases q
      all_goals
        go_wp2
        go_ret
        exact ⟨rfl, hB2⟩

set_option maxHeartbeats 400000 in
theorem ctBlanks_far (ad : Option Addr) (len cap : Nat) (w : World) (hl : 100 < len) :
    Calls Try.prog 8 #[.slice ad len cap] w fun e w' => e = .returned (.bool true) ∧ Below w.heap.size w w' := by
  go_enter Try.func8, Try.ntmps8
  go_wp2_with fail
  refine (awake_any _).mono ?_
  rintro e w1 ⟨rfl, hb1⟩
  go_wp2
  go_ret
  exact ⟨rfl, hb1⟩

theorem ctBlanks_walk (ad : Option Addr) (len cap : Nat) (zs : List Int) (w : World) (h : IsRow .u32 w ad len cap zs) :
    Calls Try.prog 8 #[.slice ad len cap] w fun e w' => e = .returned (.bool true) ∧ Below w.heap.size w w' := by
  by_cases hf : 100 < len
  · exact ctBlanks_far ad len cap w hf
  · have hlz : len ≤ zs.length := by
      rcases h with ⟨_, h0, _, _⟩ | ⟨x, _, h1, _, h2, _⟩ <;> omega
    have hlen : ((zs.take len).map Int.toNat).length = len := by simp; omega
    have hget : ∀ k (hk : k < ((zs.take len).map Int.toNat).length), zs[k]? = some (zs.getD k 0) ∧ ((zs.take len).map Int.toNat)[k] = (zs.getD k 0).toNat := by
      intro k hk
      have hk2 : k < zs.length := by omega
      simp [hk2, List.getD]
    have hmem : ∀ n ∈ zs, (Lit.int .u32 n).wf = true := by
      rcases h with ⟨_, _, _, rfl⟩ | ⟨x, _, _, _, _, _, h3⟩
      · intro n hn; cases hn
      · exact h3
    have key := ctBlanks_at ad cap ((zs.take len).map Int.toNat) w ?_ (by omega) ?_
    · rw [hlen] at key; exact key
    · intro x hx
      obtain ⟨n, hn, rfl⟩ := List.mem_map.1 hx
      have := wf_u32 (hmem n (List.mem_of_mem_take hn)); omega
    · intro k hk
      rcases h with ⟨_, h0, _, _⟩ | ⟨x, rfl, h1, _, h2, h3, h4⟩
      · omega
      · refine ⟨x, rfl, ?_⟩
        obtain ⟨g1, g2⟩ := hget k hk
        have hb := wf_u32 (h4 _ (List.mem_of_getElem? g1))
        rw [g2, h3 k (by omega), Int.toNat_of_nonneg hb.1]
end Go.Proofs.Yteiienkneojleaa
