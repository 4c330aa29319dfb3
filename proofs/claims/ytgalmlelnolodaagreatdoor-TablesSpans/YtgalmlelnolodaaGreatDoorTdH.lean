/- Package tables' become, over this seat's translation: what a point becomes in full. Conditions: at most 10^9 lines, whose points rise; what a point becomes ends, and is at most 10^6 points. Package tables' full, over this seat's translation: the table of what lines' points become. Conditions: between one line and 10^6 of them, whose points rise; what each becomes ends, and is at most 10^6 points. Package tables' New, lines and Full, over this seat's translation: what the chart of what points become says. Conditions: what the library's variables hold is some number, some errors. The given chart of what points become, as plain mathematics: its points rise, what each becomes ends, and is at most three points. Nothing of the program is named here. Package tables' lines and Full, over this seat's translation: the table of what the given chart's points become. Conditions: what the library's variables hold is some number, some errors. -/
import Derived.Test.YtgalmlelnolodaaGreatDoorTdD
import Derived.Test.YtgalmlelnolodaaGreatDoorTbQ
import Derived.Test.YtgalmlelnolodaaGreatDoorTdC
import Derived.Laws.CopyOwn
import Derived.Deep.AppendLies
import Derived.Laws.MakeOwn
import Derived.Test.YtgalmlelnolodaaGreatDoorChWr
import Derived.Test.YtgalmlelnolodaaGreatDoorChGa
import Derived.Test.YtgalmlelnolodaaGreatDoorTbV
namespace Go.Proofs.YtgalmlelnolodaaGreatDoor
open Go.RowKit
set_option linter.unusedVariables false

theorem own_src {w : World} {base n cap : Nat} {ad : Option Addr} {l : List Nat} (h : w.ownsRow base 22 1 (.slice ad n cap) n (iV l)) (hn : l.length = n) : (ad = none ∧ n = 0 ∧ cap = 0 ∧ iV l = []) ∨ ∃ q, ad = some q ∧ (iV l).length = n * 1 ∧ ∀ j u, (iV l)[j]? = some u → w.cell? (q.add j) = some u := by
  rcases h.2 with ⟨hx, h0⟩ | ⟨g', cap', cur, hx, hb, hg, h1, h2, h3, h4⟩
  · cases hx
    have : l = [] := List.length_eq_zero_iff.1 (by omega)
    subst this
    exact Or.inl ⟨rfl, rfl, rfl, rfl⟩
  · cases hx
    refine Or.inr ⟨_, rfl, by simp [iV, hn], fun j u hj => ?_⟩
    rw [add_plain]
    refine cell_of_heap hg ?_
    rw [← h4, List.getElem?_take] at hj
    split at hj
    · simpa using hj
    · cases hj
def lnsD (l : List Dq) : List Ln := l.map fun x => (x.d.p, x.d.to)
theorem lnsD_pts (l : List Dq) : (lnsD l).map (·.1) = l.map (·.d.p) := by unfold lnsD; rw [List.map_map]; rfl
theorem ris_nodup {l : List Dq} (h : RisD l) : ((lnsD l).map (·.1)).Nodup := by
  rw [lnsD_pts]
  unfold List.Nodup
  rw [List.pairwise_map, List.pairwise_iff_getElem]
  intro i j hi hj hij
  have := h i j hi hj hij
  omega
theorem lnOf_at {l : List Dq} (h : RisD l) {i : Nat} (hi : i < l.length) : lnOf (lnsD l) l[i].d.p = some (l[i].d.p, l[i].d.to) :=
  lnOf_mem (ris_nodup h) (d := (l[i].d.p, l[i].d.to)) (List.mem_map.2 ⟨l[i], List.getElem_mem hi, rfl⟩)
theorem lnOf_not {l : List Dq} {p : Nat} (h : ∀ x ∈ l, x.d.p ≠ p) : lnOf (lnsD l) p = none := lnOf_none (by
  rw [lnsD_pts]; intro hm
  obtain ⟨x, hx, e⟩ := List.mem_map.1 hm
  exact h x hx e)
theorem mapM_len {α β : Type} (f : α → Option β) : ∀ {l : List α} {r : List β}, l.mapM f = some r → r.length = l.length := by
  intro l
  induction l with
  | nil => intro r h; cases h; rfl
  | cons a t ih =>
    intro r h
    rw [List.mapM_cons] at h
    cases ha : f a with
    | none => rw [ha] at h; cases h
    | some b =>
      cases ht : t.mapM f with
      | none => rw [ha, ht] at h; cases h
      | some s => rw [ha, ht] at h; cases h; rw [List.length_cons, List.length_cons, ih ht]
def flatK (rs : List (List Nat)) (k : Nat) : List Nat := (rs.take k).flatten
theorem flatK_succ (rs : List (List Nat)) (k : Nat) (h : k < rs.length) : flatK rs (k + 1) = flatK rs k ++ rs[k] := by
  unfold flatK
  rw [List.take_succ_eq_append_getElem h, List.flatten_append]
  simp only [List.flatten_cons, List.flatten_nil, List.append_nil]
theorem flatK_le (rs : List (List Nat)) (k : Nat) : (flatK rs k).length ≤ rs.flatten.length := by
  unfold flatK
  conv => rhs; rw [← List.take_append_drop k rs]
  rw [List.flatten_append, List.length_append]
  omega
theorem flatK_all (rs : List (List Nat)) : flatK rs rs.length = rs.flatten := by unfold flatK; rw [List.take_length]
theorem iV_app (a b : List Nat) : iV (a ++ b) = iV a ++ iV b := by unfold iV; rw [List.map_append]
theorem iV_len (a : List Nat) : (iV a).length = a.length := by simp [iV]
theorem iV_one (a : List Nat) : ∀ u ∈ iV a, u.oneCell' = true := by
  intro u hu
  obtain ⟨n, _, rfl⟩ := List.mem_map.1 hu
  rfl
set_option maxHeartbeats 6400000 in
theorem become_any (ad : Option Addr) (cap : Nat) (l : List Dq) (hr : RisD l) (hn : l.length ≤ 1000000000) (hto : ∀ x ∈ l, x.d.to.length ≤ 1000000) : ∀ (f p : Nat) (r : List Nat) (w : World), bcm f (lnsD l) p = some r → r.length ≤ 1000000 → DpAt w ad l → (∀ x ∈ l, U32B w x.g x.d.to) →
    Calls Tryz.prog 83 #[.slice ad l.length cap, .int .u32 (p : Int)] w fun e w' => ∃ sd sc, e = .returned (.slice sd r.length sc) ∧ w'.ownsRow w.heap.size 22 1 (.slice sd r.length sc) r.length (iV r) ∧ Below w.heap.size w w' := by
  have HRis := hid hr
  have HTO := hid hto
  clear hto
  obtain ⟨i0, hi, hz0, hz1, hz2⟩ := info_parts infoU32
  have HI := hid (And.intro hi (And.intro hz0 (And.intro hz1 hz2)))
  clear hi hz0 hz1 hz2 hr
  intro f
  induction f with
  | zero => intro p r w h; cases h
  | succ f ih =>
    intro p r w hb hl hd hu
    have HD := hid hd
    have HU := hid hu
    have HIH := hid ih
    have HS := hid (searchD_any ad cap p l w hd HRis.out hn)
    clear ih hd hu
    go_enter Tryz.func83, Tryz.ntmps83
    go_wp2_with fail
    refine HS.out.mono ?_
    rintro e w1 ⟨hf, hB⟩
    have B1 := hid hB
    clear hB HS
    rcases hf with ⟨i, hil, hp, rfl⟩ | ⟨hno, i, rfl⟩
    · have hln := lnOf_at HRis.out hil
      rw [hp] at hln
      unfold bcm at hb
      rw [hln] at hb
      obtain ⟨g, rfl, c0, c1, c2, c3⟩ := (HD.out.below B1.out) i hil
      have hux := HU.out l[i] (List.getElem_mem hil)
      have htx := HTO.out l[i] (List.getElem_mem hil)
      obtain ⟨x, hx⟩ : ∃ x, l[i] = x := ⟨_, rfl⟩
      rw [hx] at c0 c1 c2 c3 hb hux htx
      simp only at hb
      cases hm : x.d.to.mapM (bcm f (lnsD l)) with
      | none => rw [hm] at hb; cases hb
      | some rs =>
        rw [hm] at hb
        obtain rfl : rs.flatten = r := by simpa using hb
        have hrl := mapM_len _ hm
        have HEach := hid (mapM_each _ _ _ hm)
        have HXU := hid hux
        have HX := hid htx
        have HL := hid hl
        have HRL := hid hrl
        clear hln hb hm hx hux htx hl hrl hp c0 c2 c3
        obtain ⟨V, hV⟩ : ∃ V, x.d.to.length = V := ⟨_, rfl⟩
        rw [hV] at HX HRL
        simp only [Dq.sl, hV] at c1
        go_wp2_with fail
        have HVX := hid hV
        clear hV c1
        go_loopw [26, 7] (fun c all wr => ∃ (k sc : Nat) (sd : Option Addr), k ≤ V ∧ c = .int .i64 (k : Int) ∧ all = .slice sd (flatK rs k).length sc ∧ wr.ownsRow w.heap.size 22 1 (.slice sd (flatK rs k).length sc) (flatK rs k).length (iV (flatK rs k)) ∧ Below w.heap.size w wr) (fun c _ _ => V - (intOf c).toNat)
        case atStart => exact ⟨0, 0, none, Nat.zero_le _, rfl, rfl, World.ownsRow_nil _ _ _ _, B1.out⟩
        case round =>
          obtain ⟨k, sc, sd, hk, rfl, rfl, hown, hB⟩ := hrel
          have HB := hid hB
          have HO := hid hown
          by_cases hlt : k < V
          · have hkb : k < 1000000 := by have := HX.out; omega
            have hkx : k < x.d.to.length := by rw [HVX.out]; exact hlt
            have hkr : k < rs.length := by rw [HRL.out]; exact hlt
            have kq := (HXU.out.below hB).cell hkx
            obtain ⟨q, hq⟩ : ∃ q, x.d.to.getD k 0 = q := ⟨_, rfl⟩
            have hqe : x.d.to[k] = q := by rw [← hq, List.getD_eq_getElem?_getD, List.getElem?_eq_getElem hkx]; rfl
            have hbq := HEach.out k hkx
            rw [hqe, List.getElem?_eq_getElem hkr] at hbq
            rw [hq] at kq
            have HFS := hid (flatK_succ rs k hkr)
            have HFL := hid (flatK_le rs (k + 1))
            obtain ⟨s, hs⟩ : ∃ s, rs[k] = s := ⟨_, rfl⟩
            rw [hs] at hbq HFS
            rw [HFS.out] at HFL
            have hsl : s.length ≤ 1000000 := by have h1 := HFL.out; have h2 := HL.out; rw [List.length_append] at h1; omega
            have HC := hid (HIH.out q s wr hbq hsl (HD.out.below hB) (fun y hy => (HU.out y hy).below hB))
            obtain ⟨A, hA⟩ : ∃ A, flatK rs k = A := ⟨_, rfl⟩
            rw [hA] at HO HFS HFL ⊢
            have hal : A.length + s.length ≤ 1000000 := by have h1 := HFL.out; have h2 := HL.out; rw [List.length_append] at h1; omega
            clear hown hB hq hqe hbq hs hsl hA hkx hkr
            go_wp2_with fail
            refine HC.out.mono ?_
            rintro e w3 ⟨ad2, cap2, rfl, ho3, hB3⟩
            have O3 := hid (owns_below HO.out hB3)
            have B3 := hid (HB.out.trans (hB3.mono HB.out.size))
            have HSR := hid (own_src ho3 rfl)
            clear ho3 hB3 HC HO kq
            go_wp2_with (at_builtin; refine wpList_append_optS rfl (.tmp 30) (.tmp 33) 62 rfl w.heap.size 22 i0 _ 1 4 Tryz.underlying62 HI.out.1 HI.out.2.1 HI.out.2.2.1 HI.out.2.2.2 rfl (by decide) _ A.length (iV A) rfl O3.out ad2 s.length cap2 (iV s) rfl HSR.out (iV_one s) (by unfold maxLen; omega) (by omega) B3.out.size ?_; intro v6 w6 hown' hgrow; obtain ⟨sd', sc', rfl⟩ := owns_shape hown'; have HO6 := hid hown'; have B6 := hid (B3.out.grown hgrow B3.out.size (fun k hk => (O3.out.lt k hk).1)); clear hown' hgrow)
            have HO7 := hid (show w6.ownsRow w.heap.size 22 1 (.slice sd' (flatK rs (k + 1)).length sc') (flatK rs (k + 1)).length (iV (flatK rs (k + 1))) by
              rw [HFS.out, List.length_append, iV_app]; exact HO6.out)
            have HLE := hid (show (flatK rs (k + 1)).length = A.length + s.length by rw [HFS.out, List.length_append])
            go_roundw
            case rel => exact ⟨k + 1, sc', sd', by omega, by go_num, by rw [HLE.out], HO7.out, B6.out⟩
            case measure => simp [intOf]; omega
          · obtain rfl : k = V := by omega
            have e : flatK rs k = rs.flatten := by rw [← HRL.out]; exact flatK_all rs
            rw [e] at HO ⊢
            clear hown hB
            go_wp2
            go_ret
            exact ⟨sd, sc, rfl, HO.out, HB.out⟩
    · rw [lnOf_not hno |> fun e => show bcm (f + 1) (lnsD l) p = some [p] by unfold bcm; rw [e]] at hb
      cases hb
      clear hno hl
      go_wp2
      go_ret
      refine ⟨some ⟨w1.heap.size, 0, none⟩, 1, rfl, ⟨rfl, Or.inr ⟨w1.heap.size, 1, _, rfl, B1.out.size, heap_alloc_at _ _, Nat.le_refl _, by unfold maxLen; omega, rfl, rfl⟩⟩, B1.out.alloc B1.out.size _⟩
end Go.Proofs.YtgalmlelnolodaaGreatDoor
namespace Go.Proofs.YtgalmlelnolodaaGreatDoor
open Go.RowKit
set_option linter.unusedVariables false

/-- three words of a row -/
def three (r : List Nat) : Array Value := #[.int .u32 ((r.getD 0 0 : Nat) : Int), .int .u32 ((r.getD 1 0 : Nat) : Int), .int .u32 ((r.getD 2 0 : Nat) : Int)]
/-- rows of three words, each in a block of its own, none of them kb -/
structure RowsI (w : World) (vs : List Value) (rs : List (List Nat)) (kb : Option Nat) : Prop where
  len : vs.length = rs.length
  row : ∀ i (h : i < rs.length), ∃ b, vs[i]? = some (.slice (some ⟨b, 0, none⟩) 3 3) ∧ w.heap[b]? = some (.cells (three rs[i]) 22 (0, 0)) ∧ kb ≠ some b
theorem RowsI.nil (w : World) (kb : Option Nat) : RowsI w [] [] kb := ⟨rfl, fun i h => by simp at h⟩
theorem RowsI.keep {w w' : World} {vs : List Value} {rs : List (List Nat)} {kb kb' : Option Nat} (r : RowsI w vs rs kb) (hk : ∀ b cs, w.heap[b]? = some (.cells cs 22 (0, 0)) → kb ≠ some b → w'.heap[b]? = w.heap[b]? ∧ kb' ≠ some b) : RowsI w' vs rs kb' :=
  ⟨r.len, fun i h => by
    obtain ⟨b, h1, h2, h3⟩ := r.row i h
    obtain ⟨k1, k2⟩ := hk b _ h2 h3
    exact ⟨b, h1, k1.trans h2, k2⟩⟩
theorem RowsI.snoc {w : World} {vs : List Value} {rs : List (List Nat)} {kb : Option Nat} {b : Nat} {x : List Nat} (r : RowsI w vs rs kb) (hb : w.heap[b]? = some (.cells (three x) 22 (0, 0))) (hk : kb ≠ some b) : RowsI w (vs ++ [.slice (some ⟨b, 0, none⟩) 3 3]) (rs ++ [x]) kb :=
  ⟨by simp [r.len], fun i h => by
    by_cases hi : i < rs.length
    · obtain ⟨c, h1, h2, h3⟩ := r.row i hi
      exact ⟨c, by rw [List.getElem?_append_left (by rw [r.len]; exact hi)]; exact h1, by rw [List.getElem_append_left hi]; exact h2, h3⟩
    · have e : i = rs.length := by simp at h; omega
      subst e
      exact ⟨b, by rw [← r.len, List.getElem?_append_right (Nat.le_refl _)]; simp, by rw [List.getElem_append_right (Nat.le_refl _)]; simpa using hb, hk⟩⟩
def rowOf (F : Nat) (C : List Dq) (x : Dq) : List Nat := (bcm F (lnsD C) x.d.p).getD []
theorem infoRow : (Tryz.prog.info? 62).map (fun i => (i.zero, i.size, i.bytes)) = some (some (.slice none 0 0), 1, 24) := by kernel_rfl
theorem splice_three (r : List Nat) : (splice [Value.int .u32 0, .int .u32 0, .int .u32 0] 0 (iV (r.take 3))).toArray = three r := by
  match r with
  | [] => rfl
  | [a] => rfl
  | [a, b] => rfl
  | a :: b :: c :: t => rfl
theorem ris_filter {l : List Dq} (h : RisD l) (f : Dq → Bool) : RisD (l.filter f) := by
  have h1 : l.Pairwise (fun a b => a.d.p < b.d.p) := List.pairwise_iff_getElem.2 fun i j hi hj hij => h i j hi hj hij
  have h2 := h1.filter f
  exact fun i j hi hj hij => List.pairwise_iff_getElem.1 h2 i j hi hj hij
theorem iV_take3 {r : List Nat} {j : Nat} {v : Value} (h : (iV (r.take 3))[j]? = some v) : (iV r)[j]? = some v := by
  unfold iV at h ⊢
  rw [List.map_take, List.getElem?_take] at h
  split at h
  · exact h
  · cases h
theorem uSize : (Tryz.prog.info? 22).map (·.size) = some 1 := by kernel_rfl
theorem copy3 {w : World} {nb n sc : Nat} {sd : Option Addr} {r : List Nat} (h : w.heap[nb]? = some (.cells #[.int .u32 0, .int .u32 0, .int .u32 0] 22 (0, 0))) (hn : n = r.length)
    (hs : (sd = none ∧ n = 0 ∧ sc = 0 ∧ iV r = []) ∨ ∃ q, sd = some q ∧ (iV r).length = n * 1 ∧ ∀ j u, (iV r)[j]? = some u → w.cell? (q.add j) = some u) :
    ∃ (w' : World) (m : Nat), (∀ ty, (Builtin.copy_ #[62, 62] ty #[.slice (some ⟨nb, 0, none⟩) 3 3, .slice sd n sc]).run Tryz.prog w = .ok (goInt m) w') ∧ w'.heap[nb]? = some (.cells (three r) 22 (0, 0)) ∧ Below nb w w' := by
  subst hn
  rcases hs with ⟨rfl, h0, rfl, h4⟩ | ⟨q, rfl, _, h3⟩
  · have hr : r = [] := List.length_eq_zero_iff.1 h0
    subst hr
    exact ⟨w, 0, fun ty => run_copy_none (P := Tryz.prog) w _ _ ty 22 _ _ _ _ _ _ Tryz.underlying62 uSize rfl, h, Below.refl _ _⟩
  · have hl : (iV (r.take 3)).length = Nat.min r.length 3 := by rw [iV_len, List.length_take]; exact Nat.min_comm _ _
    have hfit : 0 + (iV (r.take 3)).length ≤ (#[Value.int .u32 0, .int .u32 0, .int .u32 0] : Array Value).size := by rw [iV_len, List.length_take]; show 0 + min 3 r.length ≤ 3; omega
    refine ⟨_, _, fun ty => run_copy_row (P := Tryz.prog) w _ _ ty 22 nb 0 _ _ q _ _ _ 22 (iV (r.take 3)) Tryz.underlying62 uSize h hl (fun j v hj => h3 j v (iV_take3 hj)) hfit (iV_one _), ?_, below_setRow (Below.refl _ _) (Nat.le_refl _) _⟩
    rw [setRow_heap w nb _ _ _ _ h, ← splice_three]
    simp [splice]
theorem tb_put0 {w : World} {T : Nat} {a b v : Value} (h : w.heap[T]? = some (.cells #[a, b] 71 (0, 0))) : (w.setCell ⟨T, 0, none⟩ v).heap[T]? = some (.cells #[v, b] 71 (0, 0)) := heap_setCell_at _ _ 0 _ _ _ _ h
theorem tb_put1 {w : World} {T : Nat} {a b v : Value} (h : w.heap[T]? = some (.cells #[a, b] 71 (0, 0))) : (w.setCell ⟨T, 1, none⟩ v).heap[T]? = some (.cells #[a, v] 71 (0, 0)) := heap_setCell_at _ _ 1 _ _ _ _ h
theorem heap_ne {w : World} {a b : Nat} {cs ds : Array Value} {t u : TypeId} (h1 : w.heap[a]? = some (.cells cs t (0, 0))) (h2 : w.heap[b]? = some (.cells ds u (0, 0))) (hne : t ≠ u) : a ≠ b := fun e => by
  subst e; rw [h1] at h2; cases h2; exact hne rfl
theorem run_make3 (w : World) : (Instr.makeSlice 62 (.int .i64 3) (.int .i64 3)).run Tryz.prog w = .ok (.slice (some ⟨w.heap.size, 0, none⟩) 3 3) (w.alloc (.cells #[.int .u32 0, .int .u32 0, .int .u32 0] 22)) := by
  obtain ⟨i0, hi, hz0, hz1, hz2⟩ := info_parts infoU32
  have := run_make (P := Tryz.prog) w 62 22 i0 _ Tryz.underlying62 hi hz0 .i64 .i64 3 3 (by omega) (Int.le_refl _) (by rw [hz2]; omega) (by omega)
  have e : madeCells (Value.int IntKind.u32 0).cells (Int.toNat 3 * 1) = #[.int .u32 0, .int .u32 0, .int .u32 0] := by kernel_rfl
  rw [this, hz1, e]
  rfl
theorem take_map_snoc {α β : Type} {f : α → β} {C : List α} {P : List β} (h : C.map f = P) {k : Nat} (hk : k < C.length) : P.take (k + 1) = P.take k ++ [f C[k]] := by
  subst h
  rw [List.take_succ_eq_append_getElem (by simpa using hk)]
  simp
set_option maxHeartbeats 12800000 in
set_option maxRecDepth 4000 in
theorem full_any (F : Nat) (ad : Option Addr) (cap : Nat) (l : List Dq) (cp : Bool) (w : World) (hin : DpIn w ad l cap) (hl0 : 0 < l.length) (hln : l.length ≤ 1000000) (hr : RisD l) (hto : ∀ x ∈ l, x.d.to.length ≤ 1000000) (hu : ∀ x ∈ l, U32B w x.g x.d.to)
    (hE : ∀ x ∈ l.filter (okD cp), ∃ r, bcm F (lnsD (l.filter (okD cp))) x.d.p = some r ∧ r.length ≤ 1000000) :
    Calls Tryz.prog 56 #[.slice ad l.length cap, .bool cp] w fun e w' => ∃ (kd rd : Option Addr) (kc rc : Nat) (vs : List Value), e = .returned (.agg #[.slice kd (l.filter (okD cp)).length kc, .slice rd (l.filter (okD cp)).length rc]) ∧
      w'.ownsRow w.heap.size 22 1 (.slice kd (l.filter (okD cp)).length kc) (l.filter (okD cp)).length (iV ((l.filter (okD cp)).map (·.d.p))) ∧
      w'.ownsRow w.heap.size 62 1 (.slice rd (l.filter (okD cp)).length rc) (l.filter (okD cp)).length vs ∧
      RowsI w' vs ((l.filter (okD cp)).map (rowOf F (l.filter (okD cp)))) (Value.slice kd (l.filter (okD cp)).length kc).ownBlock ∧ Below w.heap.size w w' := by
  have HU := hid hu
  have HIN := hid hin
  have HTO := hid hto
  have HRC := hid (ris_filter hr (okD cp))
  have HSub := hid (show ∀ x ∈ l.filter (okD cp), x ∈ l from fun x hx => (List.mem_filter.1 hx).1)
  have hcl : (l.filter (okD cp)).length ≤ 1000000 := Nat.le_trans (List.length_filter_le _ _) hln
  have HE := hid hE
  clear hu hin hr hto hE
  go_enter Tryz.func56, Tryz.ntmps56
  go_wp2_with fail
  have P0 := hid (show ((w.alloc (.cells #[.bool cp] 4)).alloc (.cells #[.slice none 0 0, .slice none 0 0] 71)).heap[w.heap.size]? = some (.cells #[.bool cp] 4 (0, 0)) from by
    rw [heap_alloc_old _ _ _ (by simp)]; exact heap_alloc_at _ _)
  have P1 := hid (show ((w.alloc (.cells #[.bool cp] 4)).alloc (.cells #[.slice none 0 0, .slice none 0 0] 71)).heap[w.heap.size + 1]? = some (.cells #[.slice none 0 0, .slice none 0 0] 71 (0, 0)) from by
    have := heap_alloc_at (w.alloc (.cells #[.bool cp] 4)) (.cells #[.slice none 0 0, .slice none 0 0] 71); rw [World.size_alloc] at this; exact this)
  have HB0 := hid (show Below w.heap.size w ((w.alloc (.cells #[.bool cp] 4)).alloc (.cells #[.slice none 0 0, .slice none 0 0] 71)) from ((Below.refl _ _).alloc (Nat.le_refl _) _).alloc (by simp) _)
  have HSZ := hid (show ((w.alloc (.cells #[.bool cp] 4)).alloc (.cells #[.slice none 0 0, .slice none 0 0] 71)).heap.size = w.heap.size + 1 + 1 by simp)
  generalize (w.alloc (.cells #[.bool cp] 4)).alloc (.cells #[.slice none 0 0, .slice none 0 0] 71) = W0 at *
  have HIN0 := hid (show DpIn W0 ad l cap from by
    rcases HIN.out with h | ⟨x, h1, h2⟩
    · exact Or.inl h
    · exact Or.inr ⟨x, h1, fun j u hj => cell_below HB0.out (h2 j u hj) (cell_block_ltD (h2 j u hj))⟩)
  refine (cloneD_any ad cap l _ HIN0.out (by omega)).mono ?_
  rintro e w1 ⟨ad1, cap1, rfl, ho1, hb1⟩
  obtain ⟨g, tl, rfl, hbg, hk1, hc1, hx1, ht1⟩ := blkD_of ho1 hl0 rfl
  have K1 := hid hk1
  have B1 := hid hb1
  have Q0 := hid ((hb1.block w.heap.size (by have := HSZ.out; omega)).trans P0.out)
  have HBG := hid hbg
  clear ho1 hk1 hb1 HIN0 HIN
  go_wp2_with fail
  refine (deleteD_any g W0.heap.size cap1 w.heap.size cp l tl _ K1.out hbg (by omega) hc1 hx1 ht1 Q0.out (by have := HSZ.out; omega)).mono ?_
  rintro e w2 ⟨rfl, ho2, hb2⟩
  have O2 := hid ho2
  have B2 := hid (show Below W0.heap.size W0 w2 from B1.out.trans (hb2.mono hbg))
  obtain ⟨C, hC⟩ : ∃ C, l.filter (okD cp) = C := ⟨_, rfl⟩
  rw [hC] at O2 HRC HSub HE hcl ⊢
  have HCE := hid hC
  clear ho2 hb2 hC K1 B1 Q0 P0
  obtain ⟨n, hn⟩ : ∃ n, C.length = n := ⟨_, rfl⟩
  have HN := hid hn
  have HD := hid (fun (w' : World) (h : w'.ownsRow W0.heap.size 64 4 (.slice (some ⟨g, 0, none⟩) n cap1) n (dqC C)) => show DpAt w' (some ⟨g, 0, none⟩) C from dpAt_own (cap := cap1) (by rw [hn]; exact h))
  have HBM := hid (fun (f p : Nat) (r : List Nat) (w : World) (h1 : bcm f (lnsD C) p = some r) (h2 : r.length ≤ 1000000) (h3 : DpAt w (some ⟨g, 0, none⟩) C) (h4 : ∀ x ∈ C, U32B w x.g x.d.to) => become_any (some ⟨g, 0, none⟩) cap1 C HRC.out (by omega) (fun x hx => HTO.out x (HSub.out x hx)) f p r w h1 h2 h3 h4)
  rw [hn] at O2 hcl HBM ⊢
  clear hn
  go_wp2_with fail
  have T0 := hid (heap_alloc_at w2 (.cells #[.slice none 0 0, .slice none 0 0] 71))
  have hBA := (Below.refl w2.heap.size w2).alloc (Nat.le_refl _) (.cells #[.slice none 0 0, .slice none 0 0] 71)
  have O3 := hid (owns_below O2.out hBA)
  have B3 := hid (show Below W0.heap.size W0 (w2.alloc (.cells #[.slice none 0 0, .slice none 0 0] 71)) from B2.out.trans (hBA.mono B2.out.size))
  have HTN := hid (show W0.heap.size ≤ w2.heap.size from B2.out.size)
  clear hBA B2 O2
  generalize w2.alloc (.cells #[.slice none 0 0, .slice none 0 0] 71) = w3 at *
  obtain ⟨T, hT⟩ : ∃ T, w2.heap.size = T := ⟨_, rfl⟩
  rw [hT] at T0 HTN ⊢
  clear hT
  obtain ⟨pts, hpts⟩ : ∃ pts, C.map (·.d.p) = pts := ⟨_, rfl⟩
  obtain ⟨rws, hrws⟩ : ∃ rws, C.map (rowOf F C) = rws := ⟨_, rfl⟩
  have HPT := hid hpts
  have HRW := hid hrws
  clear hpts hrws
  obtain ⟨B, hBe⟩ : ∃ B, W0.heap.size = B := ⟨_, rfl⟩
  have HBE := hid hBe
  rw [hBe] at O3 B3 HTN HD
  go_loopw [16] (fun c wr => ∃ (k kc rc : Nat) (kd rd : Option Addr) (vs : List Value), k ≤ n ∧ c = .int .i64 (k : Int) ∧ Below B W0 wr ∧ wr.heap[T]? = some (.cells #[.slice kd k kc, .slice rd k rc] 71 (0, 0)) ∧
    wr.ownsRow B 64 4 (.slice (some ⟨g, 0, none⟩) n cap1) n (dqC C) ∧ wr.ownsRow B 22 1 (.slice kd k kc) k (iV (pts.take k)) ∧ wr.ownsRow B 62 1 (.slice rd k rc) k vs ∧ RowsI wr vs (rws.take k) (Value.slice kd k kc).ownBlock) (fun c _ => n - (intOf c).toNat)
  case atStart => exact ⟨0, 0, 0, none, none, [], Nat.zero_le _, rfl, B3.out, T0.out, O3.out, World.ownsRow_nil _ _ _ _, World.ownsRow_nil _ _ _ _, RowsI.nil _ _⟩
  case round =>
    obtain ⟨k, kc, rc, kd, rd, vs, hk, rfl, hB, hT, hO, hK, hR, hI⟩ := hrel
    have BR := hid hB
    have TR := hid hT
    have OR := hid hO
    have KR := hid hK
    have RR := hid hR
    have IR := hid hI
    by_cases hlt : k < n
    · have hkc : k < C.length := by rw [HN.out]; exact hlt
      obtain ⟨g', hg', c0, c1, c2, c3⟩ := HD.out wr hO k hkc
      obtain rfl : g = g' := by cases hg'; rfl
      obtain ⟨r, hr, hrl⟩ := HE.out C[k] (List.getElem_mem hkc)
      obtain ⟨x, hx⟩ : ∃ x, C[k] = x := ⟨_, rfl⟩
      have HPS := hid (take_map_snoc HPT.out hkc)
      have HRS := hid (take_map_snoc HRW.out hkc)
      rw [hx] at c0 c1 c2 c3 hr HPS HRS
      have hro : rowOf F C x = r := by unfold rowOf; rw [hr]; rfl
      rw [hro] at HRS
      have HRr := hid hr
      have hkb : k < 1000000 := by omega
      obtain ⟨vg, hvg⟩ : ∃ v, x.g = v := ⟨_, rfl⟩
      obtain ⟨vn, hvn⟩ : ∃ v, x.d.to.length = v := ⟨_, rfl⟩
      obtain ⟨vc, hvc⟩ : ∃ v, x.cap = v := ⟨_, rfl⟩
      obtain ⟨p, hp⟩ : ∃ v, x.d.p = v := ⟨_, rfl⟩
      obtain ⟨bc, hbc⟩ : ∃ v, x.d.c = v := ⟨_, rfl⟩
      obtain ⟨ba, hba⟩ : ∃ v, x.d.a = v := ⟨_, rfl⟩
      simp only [Dq.sl, hvg, hvn, hvc, hp, hbc, hba] at c0 c1 c2 c3 HRr HPS
      clear hB hT hO hK hR hI hx hg' hr hkc hro hvg hvn hvc hp hbc hba hk
      have hmk := run_make3
      go_upto_region 7 with fail
      clear hmk c0 c1 c2 c3
      obtain ⟨wa, hwa⟩ : ∃ y, wr.alloc (.cells #[.int .u32 (p : Int), .slice (some ⟨vg, 0, none⟩) vn vc, .bool bc, .bool ba] 64) = y := ⟨_, rfl⟩
      obtain ⟨na, hna⟩ : ∃ na, wr.heap.size = na := ⟨_, rfl⟩
      have HNA := hid hna
      have A0 := hid (show wa.heap[na]? = some (.cells #[.int .u32 (p : Int), .slice (some ⟨vg, 0, none⟩) vn vc, .bool bc, .bool ba] 64 (0, 0)) by rw [← hwa, ← hna]; exact heap_alloc_at _ _)
      have hsa : wa.heap.size = na + 1 := by rw [← hwa, World.size_alloc, hna]
      have BA := hid (show Below na wr wa from by rw [← hwa, ← hna]; exact (Below.refl _ _).alloc (Nat.le_refl _) _)
      rw [hwa, hna]
      clear hwa hna
      have N0 := hid (heap_alloc_at wa (.cells #[.int .u32 0, .int .u32 0, .int .u32 0] 22))
      have hBb := (Below.refl wa.heap.size wa).alloc (Nat.le_refl _) (.cells #[.int .u32 0, .int .u32 0, .int .u32 0] 22)
      have BB := hid (show Below (na + 1) wa (wa.alloc (.cells #[.int .u32 0, .int .u32 0, .int .u32 0] 22)) from by rw [← hsa]; exact hBb)
      have hsb : (wa.alloc (.cells #[.int .u32 0, .int .u32 0, .int .u32 0] 22)).heap.size = na + 1 + 1 := by rw [World.size_alloc, hsa]
      rw [hsa] at N0
      obtain ⟨wb, hwb⟩ : ∃ y, wa.alloc (.cells #[.int .u32 0, .int .u32 0, .int .u32 0] 22) = y := ⟨_, rfl⟩
      rw [hwb] at N0 BB hsb ⊢
      clear hwb hBb hsa
      have HSB := hid hsb
      have AB := hid (show Below na wr wb from BA.out.trans (BB.out.mono (by omega)))
      have A1 := hid ((BB.out.block na (by omega)).trans A0.out)
      have HBN := hid (show B ≤ na from by have := BR.out.size; have := HBE.out; have := HNA.out; omega)
      have OB := hid (owns_of_blocks (w' := wb) OR.out fun q hq => AB.out.block q (by have := (OR.out.lt q hq).2; have := HNA.out; omega))
      have B4 := hid (show Below B W0 wb from BR.out.trans (AB.out.mono HBN.out))
      have kp := cell_of_heap (i := 0) A1.out rfl
      clear hsb BA BB
      go_wp2_with fail
      refine (HBM.out F p r _ HRr.out hrl (HD.out _ OB.out) (fun y hy => (HU.out y (HSub.out y hy)).keep fun cs h => ((HB0.out.trans (B4.out.mono (by have := HBE.out; have := HSZ.out; omega))).block _ (lt_of_heap h)).trans h)).mono ?_
      rintro e wc ⟨sd, sc, rfl, hoc, hbc⟩
      have NC := hid ((hbc.block (na + 1) (by have := HSB.out; omega)).trans ((rfl : wb.heap[na + 1]? = _).trans N0.out))
      have HSR := hid (own_src hoc rfl)
      have DC := hid (show Below (na + 1) wb wc from hbc.mono (by have := HSB.out; omega))
      clear hoc hbc kp OB
      obtain ⟨wd, m, hcopy, hd1, hbd⟩ := copy3 NC.out rfl HSR.out
      have N1 := hid hd1
      have DD := hid (show Below (na + 1) wb wd from DC.out.trans hbd)
      have ED := hid (show Below na wr wd from AB.out.trans (DD.out.mono (by omega)))
      have A2 := hid ((DD.out.block na (by omega)).trans A1.out)
      have TLT := hid (show T < na by have h := lt_of_heap TR.out; have := HNA.out; omega)
      have TD := hid ((ED.out.block T TLT.out).trans TR.out)
      have HLT := hid (fun (q : Nat) (h : q < wr.heap.size) => show q < na by have := HNA.out; omega)
      have KD := hid (owns_of_blocks (w' := wd) KR.out fun q hq => ED.out.block q (HLT.out q (KR.out.lt q hq).2))
      have RD := hid (owns_of_blocks (w' := wd) RR.out fun q hq => ED.out.block q (HLT.out q (RR.out.lt q hq).2))
      have OD := hid (owns_of_blocks (w' := wd) OR.out fun q hq => ED.out.block q (HLT.out q (OR.out.lt q hq).2))
      have ID := hid (IR.out.keep (w' := wd) (kb' := (Value.slice kd k kc).ownBlock) fun b cs h1 h2 => ⟨ED.out.block b (HLT.out b (lt_of_heap h1)), h2⟩)
      have BD := hid (show Below B W0 wd from BR.out.trans (ED.out.mono HBN.out))
      have KBN := hid (fun (q : Nat) (h : (Value.slice kd k kc).ownBlock = some q) => HLT.out q (KR.out.lt q h).2)
      have RBN := hid (fun (q : Nat) (h : (Value.slice rd k rc).ownBlock = some q) => HLT.out q (RR.out.lt q h).2)
      have ND := hid (show na + 1 < wd.heap.size from lt_of_heap N1.out)
      clear hd1 hbd NC HSR DC N0 A1 A0 AB DD ED TR KR RR OR IR BR B4 HLT HRr
      go_upto_region 8 with fail
      clear hcopy
      have kT := cell_of_heap (i := 0) TD.out rfl
      have ka := cell_of_heap (i := 0) A2.out rfl
      obtain ⟨i0, hi, hz0, hz1, hz2⟩ := info_parts infoU32
      go_wp2_with (at_builtin; refine wpList_append_lies _ rfl (.tmp 28) (.tmp 31) 62 rfl B 22 i0 _ 1 4 Tryz.underlying62 hi hz0 hz1 hz2 rfl (by decide) _ k (iV (pts.take k)) rfl (KD.out.alloc _) ⟨wd.heap.size, 0, none⟩ 1 1 [.int .u32 (p : Int)] rfl rfl (World.news_of_block (heap_alloc_at _ _)) (by intro u hu; simp at hu; rcases hu with rfl; rfl) (by decide) (by unfold maxLen; omega) (by omega) (by have := BD.out.size; have := HBE.out; simp; omega) _ rfl ?_)
      intro g2 cap2 wf hown hgrow hat hlt2
      have FK := hid (fun (q : Nat) (h1 : q < wd.heap.size) (h2 : (Value.slice kd k kc).ownBlock ≠ some q) => show wf.heap[q]? = wd.heap[q]? from (hgrow.block q (by simp; omega) (fun e => h2 e.symm)).trans (heap_alloc_old _ _ _ h1))
      have hTK : (Value.slice kd k kc).ownBlock ≠ some T := rowNe KD.out TD.out (by decide)
      have TF := hid ((FK.out T (by have := TLT.out; have := ND.out; omega) hTK).trans TD.out)
      have HO := hid hown
      have GT := hid hat
      have BF := hid (show Below B W0 wf from (BD.out.alloc (by have := BD.out.size; have := HBE.out; omega) _).grown hgrow (by have := BD.out.size; have := HBE.out; simp; omega) (fun q hq => (KD.out.lt q hq).1))
      have HG2 := hid (show g2 ≠ T from fun e => by
        subst e
        rcases hown.2 with ⟨hx, _⟩ | ⟨g', cap', cur, hx, _, hg, _⟩
        · cases hx
        · cases hx; rw [TF.out] at hg; cases hg)
      have fT := cell_of_heap (i := 0) TF.out rfl
      have zT := frozen_of_heap (i := 0) TF.out
      have SZF := hid (show wd.heap.size ≤ wf.heap.size from by have := hgrow.size; simp at this; omega)
      clear hown hgrow hat hlt2 kT ka hTK hz0 hz1 hz2 hi
      go_upto_region 9 with fail
      have TG := hid (tb_put0 (v := .slice (some ⟨g2, 0, none⟩) (k + 1) cap2) TF.out)
      have GK := hid (fun (q : Nat) (h : q ≠ T) => show (wf.setCell ⟨T, 0, none⟩ (.slice (some ⟨g2, 0, none⟩) (k + 1) cap2)).heap[q]? = wf.heap[q]? from Below.heap_setCell _ _ _ _ h)
      have BG := hid (show Below B W0 (wf.setCell ⟨T, 0, none⟩ (.slice (some ⟨g2, 0, none⟩) (k + 1) cap2)) from BF.out.setCell (p := ⟨T, 0, none⟩) HTN.out _)
      have SZG := hid (show wf.heap.size = (wf.setCell ⟨T, 0, none⟩ (.slice (some ⟨g2, 0, none⟩) (k + 1) cap2)).heap.size by simp [World.setCell])
      clear fT zT
      generalize wf.setCell ⟨T, 0, none⟩ (.slice (some ⟨g2, 0, none⟩) (k + 1) cap2) = wg at *
      have KG := hid (owns_of_blocks (w' := wg) HO.out fun q hq => by
        have e : q = g2 := by simpa [Value.ownBlock] using hq.symm
        rw [e]
        exact GK.out g2 HG2.out)
      have HKG := hid (fun (q : Nat) (cs : Array Value) (t : TypeId) (h : wd.heap[q]? = some (.cells cs t (0, 0))) (h2 : (Value.slice kd k kc).ownBlock ≠ some q) (h3 : q ≠ T) => show wg.heap[q]? = wd.heap[q]? from (GK.out q h3).trans (FK.out q (lt_of_heap h) h2))
      have RG := hid (owns_of_blocks (w' := wg) RD.out fun q hq => by
        obtain ⟨cs, hcs⟩ := rowB RD.out hq
        exact HKG.out q cs _ hcs (fun e => rowNe KD.out hcs (by decide) e) (heap_ne hcs TD.out (by decide)))
      have OG := hid (owns_of_blocks (w' := wg) OD.out fun q hq => by
        obtain ⟨cs, hcs⟩ := rowB OD.out hq
        exact HKG.out q cs _ hcs (fun e => rowNe KD.out hcs (by decide) e) (heap_ne hcs TD.out (by decide)))
      have IG := hid (ID.out.keep (w' := wg) (kb' := some g2) fun b cs h1 h2 => ⟨HKG.out b cs _ h1 h2 (heap_ne h1 TD.out (by decide)), fun e => by
        cases e
        rcases GT.out with h | h
        · exact h2 h
        · have := lt_of_heap h1; omega⟩)
      have N2 := hid ((HKG.out (na + 1) _ _ N1.out (fun e => by have := KBN.out _ e; omega) (by have := TLT.out; omega)).trans N1.out)
      have GN := hid (show some g2 ≠ some (na + 1) from fun e => by
        cases e
        rcases GT.out with h | h
        · have := KBN.out _ h; omega
        · have := ND.out; omega)
      have IG2 := hid (IG.out.snoc N2.out GN.out)
      clear FK HKG GK IG KD RD OD ID TD TF HO BD BF N1 A2
      have kT := cell_of_heap (i := 1) TG.out rfl
      obtain ⟨i0, hi, hz0, hz1, hz2⟩ := info_parts infoRow
      go_wp2_with (at_builtin; refine wpList_append_own _ rfl (.tmp 35) (.tmp 37) 69 rfl B 62 i0 _ 1 24 Tryz.underlying69 hi hz0 hz1 hz2 rfl (by decide) _ k vs rfl (RG.out.alloc _) ⟨wg.heap.size, 0, none⟩ 1 1 [.slice (some ⟨na + 1, 0, none⟩) 3 3] rfl rfl (World.news_of_block (heap_alloc_at _ _)) (by intro u hu; simp at hu; rcases hu with rfl; rfl) (by unfold maxLen; omega) (by omega) (by have := BG.out.size; have := HBE.out; simp; omega) ?_)
      intro v' wi hown hgrow _
      obtain ⟨rd2, rc2, rfl⟩ := owns_shape hown
      have FK := hid (fun (q : Nat) (h1 : q < wg.heap.size) (h2 : (Value.slice rd k rc).ownBlock ≠ some q) => show wi.heap[q]? = wg.heap[q]? from (hgrow.block q (by simp; omega) (fun e => h2 e.symm)).trans (heap_alloc_old _ _ _ h1))
      have TI := hid ((FK.out T (lt_of_heap TG.out) (rowNe RG.out TG.out (by decide))).trans TG.out)
      have HO := hid hown
      have BI := hid (show Below B W0 wi from (BG.out.alloc (by have := BG.out.size; have := HBE.out; omega) _).grown hgrow (by have := BG.out.size; have := HBE.out; simp; omega) (fun q hq => (RG.out.lt q hq).1))
      have fT := cell_of_heap (i := 1) TI.out rfl
      have zT := frozen_of_heap (i := 1) TI.out
      clear hown hgrow kT hz0 hz1 hz2 hi
      go_upto_region 10 with fail
      have TJ := hid (tb_put1 (v := .slice rd2 (k + 1) rc2) TI.out)
      have GK := hid (fun (q : Nat) (h : q ≠ T) => show (wi.setCell ⟨T, 1, none⟩ (.slice rd2 (k + 1) rc2)).heap[q]? = wi.heap[q]? from Below.heap_setCell _ _ _ _ h)
      have BJ := hid (show Below B W0 (wi.setCell ⟨T, 1, none⟩ (.slice rd2 (k + 1) rc2)) from BI.out.setCell (p := ⟨T, 1, none⟩) HTN.out _)
      clear fT zT
      generalize wi.setCell ⟨T, 1, none⟩ (.slice rd2 (k + 1) rc2) = wj at *
      have HKJ := hid (fun (q : Nat) (cs : Array Value) (t : TypeId) (h : wg.heap[q]? = some (.cells cs t (0, 0))) (h2 : (Value.slice rd k rc).ownBlock ≠ some q) (h3 : q ≠ T) => show wj.heap[q]? = wg.heap[q]? from (GK.out q h3).trans (FK.out q (lt_of_heap h) h2))
      have RJ := hid (owns_of_blocks (w' := wj) HO.out fun q hq => by
        obtain ⟨cs, hcs⟩ := rowB HO.out hq
        exact GK.out q (heap_ne hcs TI.out (by decide)))
      have KJ := hid (owns_of_blocks (w' := wj) KG.out fun q hq => by
        obtain ⟨cs, hcs⟩ := rowB KG.out hq
        exact HKJ.out q cs _ hcs (fun e => rowNe RG.out hcs (by decide) e) (heap_ne hcs TG.out (by decide)))
      have OJ := hid (owns_of_blocks (w' := wj) OG.out fun q hq => by
        obtain ⟨cs, hcs⟩ := rowB OG.out hq
        exact HKJ.out q cs _ hcs (fun e => rowNe RG.out hcs (by decide) e) (heap_ne hcs TG.out (by decide)))
      have IJ := hid (IG2.out.keep (w' := wj) (kb' := some g2) fun b cs h1 h2 => ⟨HKJ.out b cs _ h1 (fun e => rowNe RG.out h1 (by decide) e) (heap_ne h1 TG.out (by decide)), h2⟩)
      rw [← HRS.out] at IJ
      have KJ2 := hid (show wj.ownsRow B 22 1 (.slice (some ⟨g2, 0, none⟩) (k + 1) cap2) (k + 1) (iV (pts.take (k + 1))) by rw [HPS.out, iV_app]; exact KJ.out)
      clear FK HKJ GK KG RG OG IG2 TG TI HO BG BI N2 KJ
      go_wp2
      go_roundw
      case rel => exact ⟨k + 1, cap2, rc2, some ⟨g2, 0, none⟩, rd2, vs ++ [.slice (some ⟨na + 1, 0, none⟩) 3 3], by omega, by go_num, BJ.out, TJ.out, OJ.out, KJ2.out, RJ.out, IJ.out⟩
      case measure => simp [intOf]; omega
    · obtain rfl : k = n := by omega
      have P4 := hid ((hB.block (w.heap.size + 1) (by have := HBE.out; have := HSZ.out; omega)).trans P1.out)
      have hTP : T ≠ w.heap.size + 1 := by have := HTN.out; have := HBE.out; have := HSZ.out; omega
      have HTP := hid hTP
      have ept : pts.take k = pts := by rw [List.take_of_length_le]; rw [← HPT.out, List.length_map, HN.out]; exact Nat.le_refl _
      have erw : rws.take k = rws := by rw [List.take_of_length_le]; rw [← HRW.out, List.length_map, HN.out]; exact Nat.le_refl _
      rw [ept] at KR
      rw [erw] at IR
      clear hB hT hO hK hR hI ept erw hk
      have kT0 := cell_of_heap (i := 0) TR.out rfl
      have kT1 := cell_of_heap (i := 1) TR.out rfl
      have k0 := cell_of_heap (i := 0) P4.out rfl
      have k1 := cell_of_heap (i := 1) P4.out rfl
      have z0 := frozen_of_heap (i := 0) P4.out
      have z1 := frozen_of_heap (i := 1) P4.out
      go_wp2
      have Q := hid (tb_put1 (v := .slice rd k rc) (tb_put0 (v := .slice kd k kc) P4.out))
      have d0 := cell_of_heap (i := 0) Q.out rfl
      have d1 := cell_of_heap (i := 1) Q.out rfl
      have HKe := hid (fun (q : Nat) (h : q ≠ w.heap.size + 1) => show (((wr.setCell ⟨w.heap.size + 1, 0, none⟩ (.slice kd k kc)).setCell ⟨w.heap.size + 1, 1, none⟩ (.slice rd k rc))).heap[q]? = wr.heap[q]? from (Below.heap_setCell _ _ _ _ h).trans (Below.heap_setCell _ _ _ _ h))
      have HBW := hid (show B = w.heap.size + 1 + 1 by have := HBE.out; have := HSZ.out; omega)
      refine bodyPost_ret (v := .agg #[.slice kd k kc, .slice rd k rc]) (by simp only [results, Tryz.results56]; simp [go_sem, d0, d1]) rfl ?_
      rw [HCE.out, HN.out, HPT.out, HRW.out]
      refine ⟨kd, rd, kc, rc, vs, rfl, ?_, ?_, ?_, ?_⟩
      · exact owns_base (owns_of_blocks KR.out fun q hq => HKe.out q (by have := (KR.out.lt q hq).1; have := HBW.out; omega)) (by have := HBW.out; omega)
      · exact owns_base (owns_of_blocks RR.out fun q hq => HKe.out q (by have := (RR.out.lt q hq).1; have := HBW.out; omega)) (by have := HBW.out; omega)
      · exact IR.out.keep fun b cs h1 h2 => ⟨HKe.out b (heap_ne h1 P4.out (by decide)), h2⟩
      · exact ((HB0.out.trans (BR.out.mono (by have := HBW.out; omega))).setCell (p := ⟨w.heap.size + 1, 0, none⟩) (Nat.le_succ _) _).setCell (p := ⟨w.heap.size + 1, 1, none⟩) (Nat.le_succ _) _
end Go.Proofs.YtgalmlelnolodaaGreatDoor
namespace Go.Proofs.YtgalmlelnolodaaGreatDoor
open Go.RowKit
set_option linter.unusedVariables false

/-- a slice's three numbers -/
abbrev Sl3 := Option Addr × Nat × Nat
abbrev Sl3.v (s : Sl3) : Value := .slice s.1 s.2.1 s.2.2
theorem OutD.setOther {w : World} {lo base N i : Nat} {v u : Value} {its : List Dt} {vs : List Value} {cs : Array Value} (o : OutD w lo base v its vs) (h : w.heap[N]? = some (.cells cs 84 (0, 0))) : OutD (w.setCell ⟨N, i, none⟩ u) lo base v its vs :=
  ⟨owns_of_blocks o.own fun q hq => by
    obtain ⟨ds, hds⟩ := rowB o.own hq
    exact Below.heap_setCell _ _ _ _ (heap_ne hds h (by decide)), fun k hk => by
    obtain ⟨g, cap, h1, h2, h3⟩ := o.row k hk
    exact ⟨g, cap, h1, h2, h3.keep fun ds hds => (Below.heap_setCell _ _ _ _ (heap_ne hds h (by decide))).trans hds⟩⟩
theorem tab_set {w : World} {N i : Nat} {s0 s1 s2 s3 s4 s5 v : Value} (h : w.heap[N]? = some (.cells #[s0, s1, s2, s3, s4, s5] 84 (0, 0))) : (w.setCell ⟨N, i, none⟩ v).heap[N]? = some (.cells (#[s0, s1, s2, s3, s4, s5].setIfInBounds i v) 84 (0, 0)) := heap_setCell_at _ _ _ _ _ _ _ h
set_option maxRecDepth 2000 in
set_option maxHeartbeats 12800000 in
theorem new_any (w : World) (v : Vr w) :
    Calls Tryz.prog 7 #[] w fun e w' => ∃ (g : Nat) (s0 s1 s3 s4 s5 : Sl3) (ad : Option Addr) (cap : Nat) (its : List Dt) (vs : List Value), e = .returned (.pointer (some ⟨g, 0, none⟩)) ∧ w'.heap[g]? = some (.cells #[s0.v, s1.v, .slice ad its.length cap, s3.v, s4.v, s5.v] 84 (0, 0)) ∧ w.heap.size ≤ g ∧
      its.map dtE = chL ∧ OutD w' w.heap.size w.heap.size (.slice ad its.length cap) its vs ∧ Below w.heap.size w w' := by
  have V0 := hid v
  clear v
  go_enter Tryz.func7, Tryz.ntmps7
  generalize hT1 : ByteArray.mk _ = T1
  generalize hT2 : ByteArray.mk _ = T2
  generalize hT3 : ByteArray.mk _ = T3
  generalize hT4 : ByteArray.mk _ = T4
  generalize hT5 : ByteArray.mk _ = T5
  generalize hT6 : ByteArray.mk _ = T6
  have F1 := hid (show T1.size ≤ 1000000 from Nat.le_of_ble_eq_true (by subst hT1; kernel_rfl))
  have F2 := hid (show T2.size ≤ 1000000 from Nat.le_of_ble_eq_true (by subst hT2; kernel_rfl))
  have F4 := hid (show T4.size ≤ 1000000 from Nat.le_of_ble_eq_true (by subst hT4; kernel_rfl))
  have F5 := hid (show T5.size ≤ 1000000 from Nat.le_of_ble_eq_true (by subst hT5; kernel_rfl))
  have F6 := hid (show T6.size ≤ 1000000 from Nat.le_of_ble_eq_true (by subst hT6; kernel_rfl))
  have F3 : goodV dcK upD 400 T3 = true := by subst hT3; kernel_rfl
  rw [dcK_eq] at F3
  have F3 := hid F3
  have E3 : eqV dcK (lwV T3) chL = true := by subst hT3; kernel_rfl
  rw [dcK_eq] at E3
  have E3 := hid E3
  clear hT1 hT2 hT3 hT4 hT5 hT6
  go_wp2_with fail
  have HN0 := hid (heap_alloc_at w (.cells #[.slice none 0 0, .slice none 0 0, .slice none 0 0, .slice none 0 0, .slice none 0 0, .slice none 0 0] 84))
  have B0 := hid (show Below w.heap.size w (w.alloc (.cells #[.slice none 0 0, .slice none 0 0, .slice none 0 0, .slice none 0 0, .slice none 0 0, .slice none 0 0] 84)) from (Below.refl _ _).alloc (Nat.le_refl _) _)
  generalize w.alloc (.cells #[.slice none 0 0, .slice none 0 0, .slice none 0 0, .slice none 0 0, .slice none 0 0, .slice none 0 0] 84) = w0 at *
  obtain ⟨N, hN⟩ : ∃ N, w.heap.size = N := ⟨_, rfl⟩
  have HNE := hid hN
  rw [hN] at HN0 ⊢
  clear hN
  refine (ranges_any T1 _ (V0.out.below B0.out) F1.out).mono ?_
  rintro e v1 ⟨ad1, cap1, at1, its1, rfl, hr, ho, hb⟩
  have HV1 := hid ((hb.block N (lt_of_heap HN0.out)).trans HN0.out)
  have BV1 := hid (belowCat B0.out hb)
  obtain ⟨n1, hn1⟩ : ∃ n, its1.length = n := ⟨_, rfl⟩
  rw [hn1]
  clear hr ho hb hn1 HN0 B0
  obtain ⟨E1, hE1⟩ : ∃ E : Int, (if at1 = 0 then 0 else 3) = E := ⟨_, rfl⟩
  rw [hE1]
  clear hE1
  have c1 := cell_of_heap (i := 0) HV1.out rfl
  have z1 := frozen_of_heap (i := 0) HV1.out
  go_wp2_with fail
  have HN1 := hid (show (v1.setCell ⟨N, 0, none⟩ (.slice ad1 n1 cap1)).heap[N]? = some (.cells #[.slice ad1 n1 cap1, .slice none 0 0, .slice none 0 0, .slice none 0 0, .slice none 0 0, .slice none 0 0] 84 (0, 0)) from tab_set HV1.out)
  have B1 := hid (show Below w.heap.size w (v1.setCell ⟨N, 0, none⟩ (.slice ad1 n1 cap1)) from BV1.out.setCell (p := ⟨N, 0, none⟩) (by have := HNE.out; show w.heap.size ≤ N; omega) _)
  clear c1 z1 HV1 BV1
  generalize v1.setCell ⟨N, 0, none⟩ (.slice ad1 n1 cap1) = w1 at *
  refine (classes_any T2 _ (V0.out.below B1.out) F2.out).mono ?_
  rintro e v2 ⟨ad2, cap2, at2, its2, rfl, hr, ho, hb⟩
  have HV2 := hid ((hb.block N (lt_of_heap HN1.out)).trans HN1.out)
  have BV2 := hid (belowCat B1.out hb)
  obtain ⟨n2, hn2⟩ : ∃ n, its2.length = n := ⟨_, rfl⟩
  rw [hn2]
  clear hr ho hb hn2 HN1 B1
  obtain ⟨E2, hE2⟩ : ∃ E : Int, (if at2 = 0 then 0 else 3) = E := ⟨_, rfl⟩
  rw [hE2]
  clear hE2
  have c2 := cell_of_heap (i := 1) HV2.out rfl
  have z2 := frozen_of_heap (i := 1) HV2.out
  go_wp2_with fail
  have HN2 := hid (show (v2.setCell ⟨N, 1, none⟩ (.slice ad2 n2 cap2)).heap[N]? = some (.cells #[.slice ad1 n1 cap1, .slice ad2 n2 cap2, .slice none 0 0, .slice none 0 0, .slice none 0 0, .slice none 0 0] 84 (0, 0)) from tab_set HV2.out)
  have B2 := hid (show Below w.heap.size w (v2.setCell ⟨N, 1, none⟩ (.slice ad2 n2 cap2)) from BV2.out.setCell (p := ⟨N, 1, none⟩) (by have := HNE.out; show w.heap.size ≤ N; omega) _)
  clear c2 z2 HV2 BV2
  generalize v2.setCell ⟨N, 1, none⟩ (.slice ad2 n2 cap2) = w2 at *
  refine (decomps_any T3 _ (V0.out.below B2.out) (goodV_size F3.out)).mono ?_
  rintro e v3 ⟨ad3, cap3, at3, its3, vs3, rfl, hr, ho, hb⟩
  obtain ⟨rfl, _⟩ := goodV_said F3.out hr
  have HL := hid (its_lit E3.out hr)
  have OD0 := hid (show OutD v3 w.heap.size w.heap.size (.slice ad3 its3.length cap3) its3 vs3 from ho.base B2.out.size B2.out.size)
  have HV3 := hid ((hb.block N (lt_of_heap HN2.out)).trans HN2.out)
  have BV3 := hid (belowCat B2.out hb)
  obtain ⟨n3, hn3⟩ : ∃ n, its3.length = n := ⟨_, rfl⟩
  rw [hn3] at OD0
  have HN3E := hid hn3
  rw [hn3]
  clear hr ho hb hn3 HN2 B2
  rw [if_pos rfl]
  have c3 := cell_of_heap (i := 2) HV3.out rfl
  have z3 := frozen_of_heap (i := 2) HV3.out
  go_wp2_with fail
  have HN3 := hid (show (v3.setCell ⟨N, 2, none⟩ (.slice ad3 n3 cap3)).heap[N]? = some (.cells #[.slice ad1 n1 cap1, .slice ad2 n2 cap2, .slice ad3 n3 cap3, .slice none 0 0, .slice none 0 0, .slice none 0 0] 84 (0, 0)) from tab_set HV3.out)
  have B3 := hid (show Below w.heap.size w (v3.setCell ⟨N, 2, none⟩ (.slice ad3 n3 cap3)) from BV3.out.setCell (p := ⟨N, 2, none⟩) (by have := HNE.out; show w.heap.size ≤ N; omega) _)
  have OD0 := hid (OutD.setOther (i := 2) (u := (.slice ad3 n3 cap3)) OD0.out HV3.out)
  clear c3 z3 HV3 BV3
  generalize v3.setCell ⟨N, 2, none⟩ (.slice ad3 n3 cap3) = w3 at *
  refine (runs_any T4 _ (V0.out.below B3.out) F4.out).mono ?_
  rintro e v4 ⟨ad4, cap4, at4, its4, rfl, hr, ho, hb⟩
  have HV4 := hid ((hb.block N (lt_of_heap HN3.out)).trans HN3.out)
  have BV4 := hid (belowCat B3.out hb)
  have OV4 := hid (OD0.out.below hb)
  obtain ⟨n4, hn4⟩ : ∃ n, its4.length = n := ⟨_, rfl⟩
  rw [hn4]
  clear hr ho hb hn4 HN3 B3 OD0
  obtain ⟨E4, hE4⟩ : ∃ E : Int, (if at4 = 0 then 0 else 3) = E := ⟨_, rfl⟩
  rw [hE4]
  clear hE4
  have c4 := cell_of_heap (i := 3) HV4.out rfl
  have z4 := frozen_of_heap (i := 3) HV4.out
  go_wp2_with fail
  have HN4 := hid (show (v4.setCell ⟨N, 3, none⟩ (.slice ad4 n4 cap4)).heap[N]? = some (.cells #[.slice ad1 n1 cap1, .slice ad2 n2 cap2, .slice ad3 n3 cap3, .slice ad4 n4 cap4, .slice none 0 0, .slice none 0 0] 84 (0, 0)) from tab_set HV4.out)
  have B4 := hid (show Below w.heap.size w (v4.setCell ⟨N, 3, none⟩ (.slice ad4 n4 cap4)) from BV4.out.setCell (p := ⟨N, 3, none⟩) (by have := HNE.out; show w.heap.size ≤ N; omega) _)
  have OD1 := hid (OutD.setOther (i := 3) (u := (.slice ad4 n4 cap4)) OV4.out HV4.out)
  clear c4 z4 HV4 BV4 OV4
  generalize v4.setCell ⟨N, 3, none⟩ (.slice ad4 n4 cap4) = w4 at *
  refine (runs_any T5 _ (V0.out.below B4.out) F5.out).mono ?_
  rintro e v5 ⟨ad5, cap5, at5, its5, rfl, hr, ho, hb⟩
  have HV5 := hid ((hb.block N (lt_of_heap HN4.out)).trans HN4.out)
  have BV5 := hid (belowCat B4.out hb)
  have OV5 := hid (OD1.out.below hb)
  obtain ⟨n5, hn5⟩ : ∃ n, its5.length = n := ⟨_, rfl⟩
  rw [hn5]
  clear hr ho hb hn5 HN4 B4 OD1
  obtain ⟨E5, hE5⟩ : ∃ E : Int, (if at5 = 0 then 0 else 3) = E := ⟨_, rfl⟩
  rw [hE5]
  clear hE5
  have c5 := cell_of_heap (i := 4) HV5.out rfl
  have z5 := frozen_of_heap (i := 4) HV5.out
  go_wp2_with fail
  have HN5 := hid (show (v5.setCell ⟨N, 4, none⟩ (.slice ad5 n5 cap5)).heap[N]? = some (.cells #[.slice ad1 n1 cap1, .slice ad2 n2 cap2, .slice ad3 n3 cap3, .slice ad4 n4 cap4, .slice ad5 n5 cap5, .slice none 0 0] 84 (0, 0)) from tab_set HV5.out)
  have B5 := hid (show Below w.heap.size w (v5.setCell ⟨N, 4, none⟩ (.slice ad5 n5 cap5)) from BV5.out.setCell (p := ⟨N, 4, none⟩) (by have := HNE.out; show w.heap.size ≤ N; omega) _)
  have OD2 := hid (OutD.setOther (i := 4) (u := (.slice ad5 n5 cap5)) OV5.out HV5.out)
  clear c5 z5 HV5 BV5 OV5
  generalize v5.setCell ⟨N, 4, none⟩ (.slice ad5 n5 cap5) = w5 at *
  refine (sets_any T6 _ (V0.out.below B5.out) F6.out).mono ?_
  rintro e v6 ⟨ad6, cap6, at6, its6, rfl, hr, ho, hb⟩
  have HV6 := hid ((hb.block N (lt_of_heap HN5.out)).trans HN5.out)
  have BV6 := hid (belowCat B5.out hb)
  have OV6 := hid (OD2.out.below hb)
  obtain ⟨n6, hn6⟩ : ∃ n, its6.length = n := ⟨_, rfl⟩
  rw [hn6]
  clear hr ho hb hn6 HN5 B5 OD2
  obtain ⟨E6, hE6⟩ : ∃ E : Int, (if at6 = 0 then 0 else 3) = E := ⟨_, rfl⟩
  rw [hE6]
  clear hE6
  have c6 := cell_of_heap (i := 5) HV6.out rfl
  have z6 := frozen_of_heap (i := 5) HV6.out
  go_wp2
  have HN6 := hid (show (v6.setCell ⟨N, 5, none⟩ (.slice ad6 n6 cap6)).heap[N]? = some (.cells #[.slice ad1 n1 cap1, .slice ad2 n2 cap2, .slice ad3 n3 cap3, .slice ad4 n4 cap4, .slice ad5 n5 cap5, .slice ad6 n6 cap6] 84 (0, 0)) from tab_set HV6.out)
  have B6 := hid (show Below w.heap.size w (v6.setCell ⟨N, 5, none⟩ (.slice ad6 n6 cap6)) from BV6.out.setCell (p := ⟨N, 5, none⟩) (by have := HNE.out; show w.heap.size ≤ N; omega) _)
  have OD3 := hid (OutD.setOther (i := 5) (u := (.slice ad6 n6 cap6)) OV6.out HV6.out)
  clear c6 z6 HV6 BV6 OV6
  go_ret
  have e3 := HN3E.out
  exact ⟨N, (ad1, n1, cap1), (ad2, n2, cap2), (ad4, n4, cap4), (ad5, n5, cap5), (ad6, n6, cap6), ad3, cap3, its3, vs3, rfl, by rw [e3]; exact HN6.out, by have := HNE.out; omega, HL.out, by rw [e3]; exact OD3.out, B6.out⟩
end Go.Proofs.YtgalmlelnolodaaGreatDoor
namespace Go.Proofs.YtgalmlelnolodaaGreatDoor
set_option linter.unusedVariables false

theorem risesB_said : ∀ {l : List Nat}, risesB l = true → l.Pairwise (· < ·) := by
  intro l
  induction l with
  | nil => intro _; exact List.Pairwise.nil
  | cons a r ih =>
    intro h
    cases r with
    | nil => exact List.pairwise_singleton _ _
    | cons b t =>
      simp only [risesB, Bool.and_eq_true] at h
      have hab : a < b := by have := h.1; unfold Nat.blt at this; exact Nat.le_of_ble_eq_true this
      have hp := ih h.2
      refine List.Pairwise.cons (fun x hx => ?_) hp
      rcases List.mem_cons.1 hx with rfl | hx
      · exact hab
      · exact Nat.lt_trans hab (List.rel_of_pairwise_cons hp hx)
/-- what each becomes ends within so many lines, and is at most three points -/
def few3 (F : Nat) (l : List Ln) : Bool := l.all fun d => match bcm F l d.1 with
  | some r => Nat.ble r.length 3
  | none => false
theorem few3_said {F : Nat} {l : List Ln} (h : few3 F l = true) : ∀ d ∈ l, ∃ r, bcm F l d.1 = some r ∧ r.length ≤ 3 := fun d hd => by
  have h1 := List.all_eq_true.1 h d hd
  cases hb : bcm F l d.1 with
  | none => rw [hb] at h1; cases h1
  | some r => rw [hb] at h1; exact ⟨r, rfl, Nat.le_of_ble_eq_true h1⟩
theorem chL_rises : (chL.map (·.1)).Pairwise (· < ·) := risesB_said (by decide +kernel)
theorem chL_few : few3 3 (cnt false chL) = true := by decide +kernel
theorem chL_len : chL.length = 506 ∧ (cnt false chL).length = 306 := by decide +kernel
theorem chL_01D5 : bcm 3 (cnt false chL) 469 = some [85, 776, 772] := by decide +kernel
theorem chL_has : ((cnt false chL).map (·.1)).contains 469 = true := by decide +kernel
theorem chL_to : (chL.all fun d => Nat.ble d.2.1.length 3) = true := by decide +kernel
end Go.Proofs.YtgalmlelnolodaaGreatDoor
namespace Go.Proofs.YtgalmlelnolodaaGreatDoor
open Go.RowKit
set_option linter.unusedVariables false

/-- the given chart's decompositions in memory -/
structure GvD (w : World) (ad : Option Addr) (cap : Nat) (ds : List Dq) : Prop where
  lit : ds.map (fun x => dtE x.d) = chL
  at_ : DpIn w ad ds cap
  wds : ∀ x ∈ ds, U32B w x.g x.d.to
theorem GvD.below {w w' : World} {ad : Option Addr} {cap : Nat} {ds : List Dq} (h : GvD w ad cap ds) (hb : Below w.heap.size w w') : GvD w' ad cap ds :=
  ⟨h.lit, by
    rcases h.at_ with h | ⟨x, h1, h2⟩
    · exact Or.inl h
    · exact Or.inr ⟨x, h1, fun j u hj => cell_below hb (h2 j u hj) (cell_block_ltD (h2 j u hj))⟩, fun x hx => (h.wds x hx).below hb⟩
theorem GvD.len {w : World} {ad : Option Addr} {cap : Nat} {ds : List Dq} (h : GvD w ad cap ds) : ds.length = 506 := by
  have := congrArg List.length h.lit
  rw [List.length_map, chL_len.1] at this; exact this
theorem GvD.ris {w : World} {ad : Option Addr} {cap : Nat} {ds : List Dq} (h : GvD w ad cap ds) : RisD ds := by
  have h1 := chL_rises
  rw [← h.lit, List.map_map, List.pairwise_map] at h1
  exact fun i j hi hj hij => List.pairwise_iff_getElem.1 h1 i j hi hj hij
theorem GvD.to3 {w : World} {ad : Option Addr} {cap : Nat} {ds : List Dq} (h : GvD w ad cap ds) : ∀ x ∈ ds, x.d.to.length ≤ 3 := fun x hx => by
  have h1 := chL_to
  rw [← h.lit, List.all_map] at h1
  exact Nat.le_of_ble_eq_true (List.all_eq_true.1 h1 x hx)
theorem lns_cnt {ds : List Dq} {L : List Lt} (h : ds.map (fun x => dtE x.d) = L) (cp : Bool) : lnsD (ds.filter (okD cp)) = cnt cp L := by
  subst h
  unfold lnsD cnt
  rw [List.filter_map, List.map_map]
  rfl
theorem outD_gvd {w : World} {lo base cap : Nat} {ad : Option Addr} {its : List Dt} {vs : List Value} (o : OutD w lo base (.slice ad its.length cap) its vs) (hl : its.map dtE = chL) : ∃ ds : List Dq, ds.length = its.length ∧ GvD w ad cap ds := by
  obtain ⟨ds, e1, e2, e3⟩ := o.rows
  refine ⟨ds, by rw [← e1, List.length_map], ⟨by rw [← hl, ← e1, List.map_map]; rfl, ?_, fun x hx => (e3 x hx).2⟩⟩
  subst e2
  have hown := o.own
  have hdl : ds.length = its.length := by rw [← e1, List.length_map]
  obtain ⟨n, hn⟩ : ∃ n, its.length = n := ⟨_, rfl⟩
  rw [hn] at hown hdl
  rcases hown.2 with ⟨hx, h0⟩ | ⟨g', cap', cur, hx, hb, hg, h1, h2, h3, h4⟩
  · cases hx
    have : ds = [] := List.length_eq_zero_iff.1 (by omega)
    exact Or.inl ⟨rfl, this, rfl⟩
  · cases hx
    refine Or.inr ⟨_, rfl, fun j u hj => ?_⟩
    rw [add_plain]
    refine cell_of_heap hg ?_
    rw [← h4, List.getElem?_take] at hj
    split at hj
    · simpa using hj
    · cases hj
set_option maxHeartbeats 1600000 in
theorem tlines_any (g : Nat) (s0 s1 s2 s3 s4 s5 : Sl3) (w : World) (h : w.heap[g]? = some (.cells #[s0.v, s1.v, s2.v, s3.v, s4.v, s5.v] 84 (0, 0))) :
    Calls Tryz.prog 41 #[.pointer (some ⟨g, 0, none⟩)] w fun e w' => e = .returned (.agg #[s0.v, s1.v, s2.v, s3.v, s4.v, s5.v]) ∧ Below w.heap.size w w' := by
  obtain ⟨a0, n0, p0⟩ := s0
  obtain ⟨a1, n1, p1⟩ := s1
  obtain ⟨a2, n2, p2⟩ := s2
  obtain ⟨a3, n3, p3⟩ := s3
  obtain ⟨a4, n4, p4⟩ := s4
  obtain ⟨a5, n5, p5⟩ := s5
  simp only [Sl3.v] at h ⊢
  have hh := (heap_alloc_old w (.cells #[.slice none 0 0, .slice none 0 0, .slice none 0 0, .slice none 0 0, .slice none 0 0, .slice none 0 0] 84) g (lt_of_heap h)).trans h
  have HR := hid (heap_alloc_at w (.cells #[.slice none 0 0, .slice none 0 0, .slice none 0 0, .slice none 0 0, .slice none 0 0, .slice none 0 0] 84))
  have HB := hid (show Below w.heap.size w (w.alloc (.cells #[.slice none 0 0, .slice none 0 0, .slice none 0 0, .slice none 0 0, .slice none 0 0, .slice none 0 0] 84)) from (Below.refl _ _).alloc (Nat.le_refl _) _)
  go_enter Tryz.func41, Tryz.ntmps41
  go_upto_region 3 with fail
  generalize w.alloc (.cells #[.slice none 0 0, .slice none 0 0, .slice none 0 0, .slice none 0 0, .slice none 0 0, .slice none 0 0] 84) = w1 at *
  obtain ⟨N, hN⟩ : ∃ N, w.heap.size = N := ⟨_, rfl⟩
  rw [hN] at HR HB ⊢
  have k0 := cell_of_heap (i := 0) hh rfl
  have k1 := cell_of_heap (i := 1) hh rfl
  have k2 := cell_of_heap (i := 2) hh rfl
  have k3 := cell_of_heap (i := 3) hh rfl
  have k4 := cell_of_heap (i := 4) hh rfl
  have k5 := cell_of_heap (i := 5) hh rfl
  have c0 := cell_of_heap (i := 0) HR.out rfl
  have c1 := cell_of_heap (i := 1) HR.out rfl
  have c2 := cell_of_heap (i := 2) HR.out rfl
  have c3 := cell_of_heap (i := 3) HR.out rfl
  have c4 := cell_of_heap (i := 4) HR.out rfl
  have c5 := cell_of_heap (i := 5) HR.out rfl
  have z0 := frozen_of_heap (i := 0) HR.out
  have z1 := frozen_of_heap (i := 1) HR.out
  have z2 := frozen_of_heap (i := 2) HR.out
  have z3 := frozen_of_heap (i := 3) HR.out
  have z4 := frozen_of_heap (i := 4) HR.out
  have z5 := frozen_of_heap (i := 5) HR.out
  clear hh h
  go_wp2
  have hS : ((((((w1.setCell ⟨N, 0, none⟩ (.slice a0 n0 p0)).setCell ⟨N, 1, none⟩ (.slice a1 n1 p1)).setCell ⟨N, 2, none⟩ (.slice a2 n2 p2)).setCell ⟨N, 3, none⟩ (.slice a3 n3 p3)).setCell ⟨N, 4, none⟩ (.slice a4 n4 p4)).setCell ⟨N, 5, none⟩ (.slice a5 n5 p5)).heap[N]? = some (.cells #[.slice a0 n0 p0, .slice a1 n1 p1, .slice a2 n2 p2, .slice a3 n3 p3, .slice a4 n4 p4, .slice a5 n5 p5] 84 (0, 0)) := (tab_set (i := 5) (v := .slice a5 n5 p5) (tab_set (i := 4) (v := .slice a4 n4 p4) (tab_set (i := 3) (v := .slice a3 n3 p3) (tab_set (i := 2) (v := .slice a2 n2 p2) (tab_set (i := 1) (v := .slice a1 n1 p1) (tab_set (i := 0) (v := .slice a0 n0 p0) HR.out))))))
  have d0 := cell_of_heap (i := 0) hS rfl
  have d1 := cell_of_heap (i := 1) hS rfl
  have d2 := cell_of_heap (i := 2) hS rfl
  have d3 := cell_of_heap (i := 3) hS rfl
  have d4 := cell_of_heap (i := 4) hS rfl
  have d5 := cell_of_heap (i := 5) hS rfl
  have hb := blw_set6 (a := .slice a0 n0 p0) (b := .slice a1 n1 p1) (c := .slice a2 n2 p2) (d := .slice a3 n3 p3) (e := .slice a4 n4 p4) (f := .slice a5 n5 p5) (g := N) (w0 := w) (w := w1) (by rw [hN]; exact HB.out) (by omega)
  rw [hN] at hb
  exact bodyPost_ret (v := .agg #[.slice a0 n0 p0, .slice a1 n1 p1, .slice a2 n2 p2, .slice a3 n3 p3, .slice a4 n4 p4, .slice a5 n5 p5]) (by simp only [results, Tryz.results41]; simp [go_sem, d0, d1, d2, d3, d4, d5]) rfl ⟨rfl, by rw [hN]; exact hb⟩
/-- what the row of a line has -/
def rowK (K : List Ln) (d : Ln) : List Nat := (bcm 3 K d.1).getD []
/-- a table of what points become, a call's own -/
structure TabK (w : World) (lo : Nat) (K : List Ln) (kd rd : Option Addr) (kc rc : Nat) (vs : List Value) : Prop where
  keys : w.ownsRow lo 22 1 (.slice kd K.length kc) K.length (iV (K.map (·.1)))
  rows : w.ownsRow lo 62 1 (.slice rd K.length rc) K.length vs
  each : RowsI w vs (K.map (rowK K)) (Value.slice kd K.length kc).ownBlock
set_option maxRecDepth 4000 in
set_option maxHeartbeats 1600000 in
theorem fullM_any (g cap : Nat) (s0 s1 s3 s4 s5 : Sl3) (ad : Option Addr) (ds : List Dq) (cp : Bool) (w : World) (h : w.heap[g]? = some (.cells #[s0.v, s1.v, .slice ad ds.length cap, s3.v, s4.v, s5.v] 84 (0, 0))) (hd : GvD w ad cap ds) (hf : few3 3 (cnt cp chL) = true) :
    Calls Tryz.prog 30 #[.pointer (some ⟨g, 0, none⟩), .bool cp] w fun e w' => ∃ (kd rd : Option Addr) (kc rc : Nat) (vs : List Value), e = .returned (.agg #[.slice kd (cnt cp chL).length kc, .slice rd (cnt cp chL).length rc]) ∧ TabK w' w.heap.size (cnt cp chL) kd rd kc rc vs ∧ Below w.heap.size w w' := by
  have HLEN := hid hd.len
  have HK := hid (lns_cnt hd.lit cp)
  have HF := hid (few3_said hf)
  have HD := hid hd
  have HH := hid h
  have hE : ∀ x ∈ ds.filter (okD cp), ∃ r, bcm 3 (lnsD (ds.filter (okD cp))) x.d.p = some r ∧ r.length ≤ 1000000 := fun x hx => by
    rw [HK.out]
    have hm : (x.d.p, x.d.to) ∈ cnt cp chL := by rw [← HK.out]; exact List.mem_map.2 ⟨x, hx, rfl⟩
    obtain ⟨r, h1, h2⟩ := HF.out _ hm
    exact ⟨r, h1, by omega⟩
  have HE := hid hE
  have EL := hid (show (ds.filter (okD cp)).length = (cnt cp chL).length by rw [← HK.out]; unfold lnsD; rw [List.length_map])
  have EP := hid (show (ds.filter (okD cp)).map (·.d.p) = (cnt cp chL).map (·.1) by rw [← HK.out, lnsD_pts])
  have ER := hid (show (ds.filter (okD cp)).map (rowOf 3 (ds.filter (okD cp))) = (cnt cp chL).map (rowK (cnt cp chL)) by
    have e : (cnt cp chL).map (rowK (cnt cp chL)) = (lnsD (ds.filter (okD cp))).map (rowK (lnsD (ds.filter (okD cp)))) := by rw [HK.out]
    rw [e]
    conv => rhs; unfold lnsD
    rw [List.map_map]
    rfl)
  obtain ⟨K, hK⟩ : ∃ K, cnt cp chL = K := ⟨_, rfl⟩
  rw [hK] at EL EP ER ⊢
  obtain ⟨a0, n0, p0⟩ := s0
  obtain ⟨a1, n1, p1⟩ := s1
  obtain ⟨a3, n3, p3⟩ := s3
  obtain ⟨a4, n4, p4⟩ := s4
  obtain ⟨a5, n5, p5⟩ := s5
  clear h hd hE hf HF HK hK
  go_enter Tryz.func30, Tryz.ntmps30
  go_wp2_with fail
  have B1 := hid ((Below.refl w.heap.size w).alloc (Nat.le_refl _) (.cells #[.slice none 0 0, .slice none 0 0] 71))
  have HR := hid (heap_alloc_at w (.cells #[.slice none 0 0, .slice none 0 0] 71))
  have H1 := hid ((B1.out.block g (lt_of_heap HH.out)).trans HH.out)
  have D1 := hid (HD.out.below B1.out)
  generalize w.alloc (.cells #[.slice none 0 0, .slice none 0 0] 71) = w1 at *
  obtain ⟨N, hN⟩ : ∃ N, w.heap.size = N := ⟨_, rfl⟩
  have HN := hid hN
  rw [hN] at HR B1 ⊢
  clear hN
  refine (tlines_any g (a0, n0, p0) (a1, n1, p1) (ad, ds.length, cap) (a3, n3, p3) (a4, n4, p4) (a5, n5, p5) w1 H1.out).mono ?_
  rintro e w2 ⟨rfl, hB2⟩
  simp only [Sl3.v]
  have B2 := hid (show Below N w w2 from B1.out.trans (hB2.mono (by have := B1.out.size; have := HN.out; omega)))
  have R2 := hid ((hB2.block N (lt_of_heap HR.out)).trans HR.out)
  have D2 := hid (D1.out.below hB2)
  clear hB2 B1 HR H1 D1
  have hfd : ∀ w : World, (Instr.field 84 (.agg #[.slice a0 n0 p0, .slice a1 n1 p1, .slice ad ds.length cap, .slice a3 n3 p3, .slice a4 n4 p4, .slice a5 n5 p5]) 2).run Tryz.prog w = .ok (.slice ad ds.length cap) w := fun _ => by kernel_rfl
  go_wp2_with fail
  clear hfd
  refine (full_any 3 ad cap ds cp _ D2.out.at_ (by have := HLEN.out; omega) (by have := HLEN.out; omega) D2.out.ris (fun x hx => by have := D2.out.to3 x hx; omega) D2.out.wds HE.out).mono ?_
  rintro e w3 ⟨kd, rd, kc, rc, vs, rfl, h1, h2, h3, hB3⟩
  rw [EL.out, EP.out] at h1
  rw [EL.out] at h2
  rw [EL.out, ER.out] at h3
  rw [EL.out]
  have K1 := hid h1
  have K2 := hid h2
  have K3 := hid h3
  have B3 := hid (show Below N w w3 from B2.out.trans (hB3.mono (by have := B2.out.size; have := HN.out; omega)))
  have R3 := hid ((hB3.block N (lt_of_heap R2.out)).trans R2.out)
  have LT := hid (show N < w2.heap.size from lt_of_heap R2.out)
  clear h1 h2 h3 hB3 B2 R2 D2 HE EL EP ER HD HH
  have c0 := cell_of_heap (i := 0) R3.out rfl
  have c1 := cell_of_heap (i := 1) R3.out rfl
  have z0 := frozen_of_heap (i := 0) R3.out
  have z1 := frozen_of_heap (i := 1) R3.out
  obtain ⟨n, hn⟩ : ∃ n, K.length = n := ⟨_, rfl⟩
  have HNN := hid hn
  rw [hn] at K1 K2 K3 ⊢
  clear hn
  go_wp2
  have Q := hid (tb_put1 (v := .slice rd n rc) (tb_put0 (v := .slice kd n kc) R3.out))
  have d0 := cell_of_heap (i := 0) Q.out rfl
  have d1 := cell_of_heap (i := 1) Q.out rfl
  have HKe := hid (fun (q : Nat) (h : q ≠ N) => show (((w3.setCell ⟨N, 0, none⟩ (.slice kd n kc)).setCell ⟨N, 1, none⟩ (.slice rd n rc))).heap[q]? = w3.heap[q]? from (Below.heap_setCell _ _ _ _ h).trans (Below.heap_setCell _ _ _ _ h))
  refine bodyPost_ret (v := .agg #[.slice kd n kc, .slice rd n rc]) (by simp only [results, Tryz.results30]; simp [go_sem, d0, d1]) rfl ?_
  refine ⟨kd, rd, kc, rc, vs, by rw [HNN.out], ⟨?_, ?_, ?_⟩, ?_⟩
  · rw [HNN.out]
    exact owns_base (owns_of_blocks K1.out fun q hq => HKe.out q (by have := (K1.out.lt q hq).1; have := LT.out; omega)) (by have := LT.out; have := HN.out; omega)
  · rw [HNN.out]
    exact owns_base (owns_of_blocks K2.out fun q hq => HKe.out q (by have := (K2.out.lt q hq).1; have := LT.out; omega)) (by have := LT.out; have := HN.out; omega)
  · rw [HNN.out]
    exact K3.out.keep fun b cs h1 h2 => ⟨HKe.out b (heap_ne h1 R3.out (by decide)), h2⟩
  · rw [HN.out]
    exact (B3.out.setCell (p := ⟨N, 0, none⟩) (Nat.le_refl _) _).setCell (p := ⟨N, 1, none⟩) (Nat.le_refl _) _
end Go.Proofs.YtgalmlelnolodaaGreatDoor
