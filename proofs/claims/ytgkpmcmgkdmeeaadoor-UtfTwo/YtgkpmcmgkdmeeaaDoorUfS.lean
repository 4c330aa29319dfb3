/- Helpers of the law UtfTwo: an append of a slice that may be nil; a row of words cut in two; the law's same; two texts' points, and both's. Conditions: none. -/
import Derived.Test.YtgkpmcmgkdmeeaaDoorUfT
import Derived.Laws.AppendOwnNone
import Derived.BigQuiet
import Derived.Deep.QuietTactic
namespace Go.Proofs.YtgkpmcmgkdmeeaaDoor
open Go.RowKit
set_option linter.unusedVariables false

def u8cs (l : List Nat) : List Value := l.map fun (b : Nat) => Value.int .u8 (b : Int)
theorem u8cs_one (l : List Nat) : ∀ u ∈ u8cs l, u.oneCell' = true := fun u hu => by
  obtain ⟨z, _, rfl⟩ := List.mem_map.1 hu; rfl
theorem src8 {w : World} {ad : Option Addr} {l : List Nat} {c : Nat} (h : U8s w ad l) (h0 : ad = none → c = 0) :
    (ad = none ∧ l.length = 0 ∧ c = 0 ∧ u8cs l = []) ∨ ∃ q, ad = some q ∧ (u8cs l).length = l.length * 1 ∧ ∀ j u, (u8cs l)[j]? = some u → w.cell? (q.add j) = some u := by
  cases ad with
  | none =>
    have e : l = [] := by
      cases l with
      | nil => rfl
      | cons x r => obtain ⟨y, hy, _⟩ := h 0 (by simp); cases hy
    subst e
    exact Or.inl ⟨rfl, rfl, h0 rfl, rfl⟩
  | some q =>
    refine Or.inr ⟨q, rfl, by simp [u8cs], fun j u hj => ?_⟩
    have hl : j < l.length := by have := (List.getElem?_eq_some_iff.1 hj).1; simpa [u8cs] using this
    obtain ⟨y, hy, hc⟩ := h j hl
    cases hy
    have e : (u8cs l)[j]? = some (.int .u8 (l[j] : Int)) := by simp [u8cs, hl]
    rw [e] at hj; cases hj
    exact hc
theorem wpList_append_opt9 {P : Program} {w : World} {ops : Array Oper} {rest : List Oper} {o : Oper} {a : Go.Act} {Q : Exit → Go.Act → World → Prop} (hgd : o.guard = none) (s x : Operand) (t : TypeId)
    (ho : o.op = .call { callee := .builtin .append, args := #[s, x], argTypes := #[t, t] })
    (base : Nat) (e : TypeId) (i : TypeInfo) (z : Value) (size bytes : Nat) (ht : P.underlying t = some (.slice e)) (hi : P.info? e = some i) (hz : i.zero = some z)
    (hsize : i.size = size) (hby : i.bytes = bytes) (hzs : z.cells.size = size) (hsz : 0 < size)
    (v : Value) (n : Nat) (xs : List Value) (hs : a.eval s = v) (hown : w.ownsRow base e size v n xs)
    (ad : Option Addr) (m c : Nat) (news : List Value) (hx : a.eval x = .slice ad m c)
    (hd : (ad = none ∧ m = 0 ∧ c = 0 ∧ news = []) ∨ ∃ q, ad = some q ∧ news.length = m * size ∧ ∀ j u, news[j]? = some u → w.cell? (q.add j) = some u) (h1 : ∀ u ∈ news, u.oneCell' = true)
    (h63 : n + m ≤ maxLen) (hbytes : (n + m) * bytes ≤ 140737488355328) (hbase : base ≤ w.heap.size)
    (h : ∀ v' w', w'.ownsRow base e size v' (n + m) (xs ++ news) → w.grownBy w' v.ownBlock → wpList P ops Q rest (a.put o.dst v') w') : wpList P ops Q (o :: rest) a w := by
  rcases hd with ⟨rfl, rfl, rfl, rfl⟩ | ⟨q, rfl, hl, hn⟩
  · exact wpList_append_own_none hgd s x t ho base e i size ht hi v n xs hs hown hx (h v w (by simpa using hown) ⟨rfl, rfl, rfl, Nat.le_refl _, fun _ _ _ => rfl⟩)
  · exact wpList_append_own w hgd s x t ho base e i z size bytes ht hi hz hsize hby hzs hsz v n xs hs hown q m c news hx hl hn h1 h63 hbytes hbase fun v' w' h2 h3 _ => h v' w' h2 h3
theorem own8 {w : World} {base n : Nat} {v : Value} {l : List Nat} (h : w.ownsRow base 5 1 v n (u8cs l)) (hn : n = l.length) : ∃ sd sc, v = .slice sd l.length sc ∧ U8s w sd l := by
  subst hn
  obtain ⟨sd, sc, rfl⟩ := owns_shape h
  refine ⟨sd, sc, rfl, fun k hk => ?_⟩
  obtain ⟨g, cap2, hv, _, hc⟩ := owns_block h (by omega)
  cases hv
  refine ⟨_, rfl, ?_⟩
  rw [add_plain]
  exact hc k (.int .u8 (l[k] : Int)) (by simp [u8cs, hk])
/-- a row of words, cut in two -/
theorem cut_at {w : World} {base n cap : Nat} {ad : Option Addr} {p q : List Nat} (h : w.ownsRow base 23 1 (.slice ad n cap) n (secs (p ++ q))) (hn : n = p.length + q.length) :
    ∃ a1 c1 a2 c2, (∀ W, (Instr.sliceAt 29 (.slice ad n cap) none (some (.int .i64 (p.length : Int))) none).run Tryd.prog W = .ok (.slice a1 p.length c1) W) ∧ (∀ W, (Instr.sliceAt 29 (.slice ad n cap) (some (.int .i64 (p.length : Int))) none none).run Tryd.prog W = .ok (.slice a2 q.length c2) W) ∧ U32s w a1 p ∧ U32s w a2 q := by
  have he : Tryd.prog.elem 29 = 23 := by kernel_rfl
  have hu : Tryd.prog.underlying 29 = some (.slice (Tryd.prog.elem 29)) := by rw [he]; exact Tryd.underlying29
  have hcap : n ≤ cap := by
    rcases h.2 with ⟨h0, h1⟩ | ⟨g, cap2, cur, hv, _, _, h1, _⟩
    · cases h0; omega
    · cases hv; omega
  refine ⟨if cap = 0 then ad else ad.map (·.add 0), cap, if cap = p.length then ad else ad.map (·.add p.length), cap - p.length, fun W => ?_, fun W => ?_, ?_, ?_⟩
  · rw [run_sliceAt_slice (h := hu), run_slice_h (ht := hu) (cap := cap) (kh := .i64) (h := (p.length : Int)) (h0 := by omega) (h2 := by omega), he, Tryd.sizeOf23 W]
    simp only [Result.andThen, sliced, Int.toNat_natCast, Nat.sub_zero, Nat.zero_mul]
  · rw [run_sliceAt_slice (h := hu), run_slice_l (ht := hu) (len := n) (kl := .i64) (l := (p.length : Int)) (h0 := by omega) (h1 := by omega), he, Tryd.sizeOf23 W]
    simp only [Result.andThen, sliced, Int.toNat_natCast, Nat.mul_one]
    rw [show n - p.length = q.length by omega]
  · intro k hk
    obtain ⟨g, cap2, hv, _, hc⟩ := owns_block h (by omega)
    cases hv
    refine ⟨⟨g, 0, none⟩, by split <;> simp [Addr.add], ?_⟩
    rw [add_plain]
    exact hc k _ (by rw [secs, List.map_append, List.getElem?_append_left (by simpa using hk)]; simp [hk])
  · intro k hk
    obtain ⟨g, cap2, hv, _, hc⟩ := owns_block h (by omega)
    cases hv
    refine ⟨⟨g, p.length, none⟩, by rw [if_neg (by omega)]; simp [Addr.add]; try (intro e; simp [e]), ?_⟩
    have e : (⟨g, p.length, none⟩ : Addr).add k = ⟨g, p.length + k, none⟩ := by simp [Addr.add]
    rw [e]
    exact hc (p.length + k) _ (by simp [secs, hk])

set_option maxHeartbeats 1600000 in
theorem same9_yes (ad ae : Option Addr) (c d : Nat) (l : List Nat) (w : World) (h1 : U32s w ad l) (h2 : U32s w ae l) (hn : l.length ≤ 1000000000) :
    Calls Tryd.prog 21 #[.slice ad l.length c, .slice ae l.length d] w fun e w' => e = .returned (.bool true) ∧ Below w.heap.size w w' := by
  have H1 := hid h1
  have H2 := hid h2
  clear h1 h2
  go_enter Tryd.func21, Tryd.ntmps21
  go_wp2_with fail
  go_loopw [8] (fun i wr => ∃ k : Nat, k ≤ l.length ∧ i = .int .i64 (k : Int) ∧ Below w.heap.size w wr) (fun i _ => l.length - (intOf i).toNat)
  case atStart => exact ⟨0, Nat.zero_le _, rfl, Below.refl _ _⟩
  case round =>
    obtain ⟨k, hk, rfl, hB⟩ := hrel
    have HB := hid hB
    by_cases hlt : k < l.length
    · obtain ⟨x, rfl, hx⟩ := (H1.out.below hB) k hlt
      obtain ⟨y, rfl, hy⟩ := (H2.out.below hB) k hlt
      obtain ⟨v, hv⟩ : ∃ v, l[k] = v := ⟨_, rfl⟩
      rw [hv] at hx hy
      clear hB hv
      go_wp2_with fail
      go_quiet (fail)
      clear hx hy
      go_wp2
      go_roundw
      case rel => exact ⟨k + 1, by omega, by go_num, HB.out.trans (below_drewN (Below.refl _ _) _)⟩
      case measure => simp [intOf]; omega
    · go_wp2
      go_ret
      exact ⟨rfl, HB.out⟩

theorem two_pts (b c : List Nat) (h : good (runL us0 b) = true) : good (runL us0 (b ++ c)) = good (runL us0 c) ∧ (good (runL us0 c) = true → lptsOf (effL (b ++ c)) = lptsOf (effL b) ++ lptsOf (effL c)) := by
  obtain ⟨h1, h2⟩ := two_run b c h
  refine ⟨h2, fun hc => ?_⟩
  unfold effL lptsOf
  rw [h2, h, hc, h1]
  simp

end Go.Proofs.YtgkpmcmgkdmeeaaDoor
