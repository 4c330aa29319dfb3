/- Package tables' full, over this seat's translation: the table of what lines' points become. Conditions: between one line and 10^6 of them, whose points rise; what each becomes ends, and is at most 10^6 points. -/
import Derived.Test.YtkhdcpejpffnkaaGreatDoorTdC
import Derived.Test.YtkhdcpejpffnkaaGreatDoorTdE
import Derived.Laws.CopyOwn
import Derived.Deep.AppendLies
import Derived.Laws.MakeOwn
namespace Go.Proofs.YtkhdcpejpffnkaaGreatDoor
open Go.RowKit
set_option linter.unusedVariables false

/-- three words of a row -/
def three (r : List Nat) : Array Value := #[.int .u32 ((r.getD 0 0 : Nat) : Int), .int .u32 ((r.getD 1 0 : Nat) : Int), .int .u32 ((r.getD 2 0 : Nat) : Int)]
/-- rows of three words, each in a block of its own, none of them kb -/
structure RowsI (w : World) (vs : List Value) (rs : List (List Nat)) (kb : Option Nat) : Prop where
  len : vs.length = rs.length
  row : ∀ i (h : i < rs.length), ∃ b, vs[i]? = some (.slice (some ⟨b, 0, none⟩) 3 3) ∧ w.heap[b]? = some (.cells (three rs[i]) 22 (0, 0)) ∧ kb ≠ some b
theorem RowsI.nil (w : World) (kb : Option Nat) : RowsI w [] [] kb := ⟨rfl, fun i h => by simp at h⟩
theorem RowsI.keep {w w' : World} {vs : List Value} {rs : List (List Nat)} {kb kb' : Option Nat} (r : RowsI w vs rs kb) (hk : ∀ b cs, w.heap[b]? = some (.cells cs 22 (0, 0)) → kb ≠ some b → w'.heap[b]? = w.heap[b]? ∧ kb' ≠ some b) : RowsI w' vs rs kb' :=
  ⟨r.len, fun i h => by
    obtain ⟨b, h1, h2, h3⟩ := r.row i h
    obtain ⟨k1, k2⟩ := hk b _ h2 h3
    exact ⟨b, h1, k1.trans h2, k2⟩⟩
theorem RowsI.snoc {w : World} {vs : List Value} {rs : List (List Nat)} {kb : Option Nat} {b : Nat} {x : List Nat} (r : RowsI w vs rs kb) (hb : w.heap[b]? = some (.cells (three x) 22 (0, 0))) (hk : kb ≠ some b) : RowsI w (vs ++ [.slice (some ⟨b, 0, none⟩) 3 3]) (rs ++ [x]) kb :=
  ⟨by simp [r.len], fun i h => by
    by_cases hi : i < rs.length
    · obtain ⟨c, h1, h2, h3⟩ := r.row i hi
      exact ⟨c, by rw [List.getElem?_append_left (by rw [r.len]; exact hi)]; exact h1, by rw [List.getElem_append_left hi]; exact h2, h3⟩
    · have e : i = rs.length := by simp at h; omega
      subst e
      exact ⟨b, by rw [← r.len, List.getElem?_append_right (Nat.le_refl _)]; simp, by rw [List.getElem_append_right (Nat.le_refl _)]; simpa using hb, hk⟩⟩
def rowOf (F : Nat) (C : List Dq) (x : Dq) : List Nat := (bcm F (lnsD C) x.d.p).getD []
theorem infoRow : (Tryz.prog.info? 33).map (fun i => (i.zero, i.size, i.bytes)) = some (some (.slice none 0 0), 1, 24) := by kernel_rfl
theorem splice_three (r : List Nat) : (splice [Value.int .u32 0, .int .u32 0, .int .u32 0] 0 (iV (r.take 3))).toArray = three r := by
  match r with
  | [] => rfl
  | [a] => rfl
  | [a, b] => rfl
  | a :: b :: c :: t => rfl
theorem ris_filter {l : List Dq} (h : RisD l) (f : Dq → Bool) : RisD (l.filter f) := by
  have h1 : l.Pairwise (fun a b => a.d.p < b.d.p) := List.pairwise_iff_getElem.2 fun i j hi hj hij => h i j hi hj hij
  have h2 := h1.filter f
  exact fun i j hi hj hij => List.pairwise_iff_getElem.1 h2 i j hi hj hij
theorem iV_take3 {r : List Nat} {j : Nat} {v : Value} (h : (iV (r.take 3))[j]? = some v) : (iV r)[j]? = some v := by
  unfold iV at h ⊢
  rw [List.map_take, List.getElem?_take] at h
  split at h
  · exact h
  · cases h
theorem uSize : (Tryz.prog.info? 22).map (·.size) = some 1 := by kernel_rfl
theorem copy3 {w : World} {nb n sc : Nat} {sd : Option Addr} {r : List Nat} (h : w.heap[nb]? = some (.cells #[.int .u32 0, .int .u32 0, .int .u32 0] 22 (0, 0))) (hn : n = r.length)
    (hs : (sd = none ∧ n = 0 ∧ sc = 0 ∧ iV r = []) ∨ ∃ q, sd = some q ∧ (iV r).length = n * 1 ∧ ∀ j u, (iV r)[j]? = some u → w.cell? (q.add j) = some u) :
    ∃ (w' : World) (m : Nat), (∀ ty, (Builtin.copy_ #[33, 33] ty #[.slice (some ⟨nb, 0, none⟩) 3 3, .slice sd n sc]).run Tryz.prog w = .ok (goInt m) w') ∧ w'.heap[nb]? = some (.cells (three r) 22 (0, 0)) ∧ Below nb w w' := by
  subst hn
  rcases hs with ⟨rfl, h0, rfl, h4⟩ | ⟨q, rfl, _, h3⟩
  · have hr : r = [] := List.length_eq_zero_iff.1 h0
    subst hr
    exact ⟨w, 0, fun ty => run_copy_none (P := Tryz.prog) w _ _ ty 22 _ _ _ _ _ _ Tryz.underlying33 uSize rfl, h, Below.refl _ _⟩
  · have hl : (iV (r.take 3)).length = Nat.min r.length 3 := by rw [iV_len, List.length_take]; exact Nat.min_comm _ _
    have hfit : 0 + (iV (r.take 3)).length ≤ (#[Value.int .u32 0, .int .u32 0, .int .u32 0] : Array Value).size := by rw [iV_len, List.length_take]; show 0 + min 3 r.length ≤ 3; omega
    refine ⟨_, _, fun ty => run_copy_row (P := Tryz.prog) w _ _ ty 22 nb 0 _ _ q _ _ _ 22 (iV (r.take 3)) Tryz.underlying33 uSize h hl (fun j v hj => h3 j v (iV_take3 hj)) hfit (iV_one _), ?_, below_setRow (Below.refl _ _) (Nat.le_refl _) _⟩
    rw [setRow_heap w nb _ _ _ _ h, ← splice_three]
    simp [splice]
theorem tb_put0 {w : World} {T : Nat} {a b v : Value} (h : w.heap[T]? = some (.cells #[a, b] 36 (0, 0))) : (w.setCell ⟨T, 0, none⟩ v).heap[T]? = some (.cells #[v, b] 36 (0, 0)) := heap_setCell_at _ _ 0 _ _ _ _ h
theorem tb_put1 {w : World} {T : Nat} {a b v : Value} (h : w.heap[T]? = some (.cells #[a, b] 36 (0, 0))) : (w.setCell ⟨T, 1, none⟩ v).heap[T]? = some (.cells #[a, v] 36 (0, 0)) := heap_setCell_at _ _ 1 _ _ _ _ h
theorem heap_ne {w : World} {a b : Nat} {cs ds : Array Value} {t u : TypeId} (h1 : w.heap[a]? = some (.cells cs t (0, 0))) (h2 : w.heap[b]? = some (.cells ds u (0, 0))) (hne : t ≠ u) : a ≠ b := fun e => by
  subst e; rw [h1] at h2; cases h2; exact hne rfl
theorem run_make3 (w : World) : (Instr.makeSlice 33 (.int .i64 3) (.int .i64 3)).run Tryz.prog w = .ok (.slice (some ⟨w.heap.size, 0, none⟩) 3 3) (w.alloc (.cells #[.int .u32 0, .int .u32 0, .int .u32 0] 22)) := by
  obtain ⟨i0, hi, hz0, hz1, hz2⟩ := info_parts infoU32
  have := run_make (P := Tryz.prog) w 33 22 i0 _ Tryz.underlying33 hi hz0 .i64 .i64 3 3 (by omega) (Int.le_refl _) (by rw [hz2]; omega) (by omega)
  have e : madeCells (Value.int IntKind.u32 0).cells (Int.toNat 3 * 1) = #[.int .u32 0, .int .u32 0, .int .u32 0] := by kernel_rfl
  rw [this, hz1, e]
  rfl
theorem take_map_snoc {α β : Type} {f : α → β} {C : List α} {P : List β} (h : C.map f = P) {k : Nat} (hk : k < C.length) : P.take (k + 1) = P.take k ++ [f C[k]] := by
  subst h
  rw [List.take_succ_eq_append_getElem (by simpa using hk)]
  simp
set_option maxHeartbeats 12800000 in
set_option maxRecDepth 4000 in
theorem full_any (F : Nat) (ad : Option Addr) (cap : Nat) (l : List Dq) (cp : Bool) (w : World) (hin : DpIn w ad l cap) (hl0 : 0 < l.length) (hln : l.length ≤ 1000000) (hr : RisD l) (hto : ∀ x ∈ l, x.d.to.length ≤ 1000000) (hu : ∀ x ∈ l, U32B w x.g x.d.to)
    (hE : ∀ x ∈ l.filter (okD cp), ∃ r, bcm F (lnsD (l.filter (okD cp))) x.d.p = some r ∧ r.length ≤ 1000000) :
    Calls Tryz.prog 47 #[.slice ad l.length cap, .bool cp] w fun e w' => ∃ (kd rd : Option Addr) (kc rc : Nat) (vs : List Value), e = .returned (.agg #[.slice kd (l.filter (okD cp)).length kc, .slice rd (l.filter (okD cp)).length rc]) ∧
      w'.ownsRow w.heap.size 22 1 (.slice kd (l.filter (okD cp)).length kc) (l.filter (okD cp)).length (iV ((l.filter (okD cp)).map (·.d.p))) ∧
      w'.ownsRow w.heap.size 33 1 (.slice rd (l.filter (okD cp)).length rc) (l.filter (okD cp)).length vs ∧
      RowsI w' vs ((l.filter (okD cp)).map (rowOf F (l.filter (okD cp)))) (Value.slice kd (l.filter (okD cp)).length kc).ownBlock ∧ Below w.heap.size w w' := by
  have HU := hid hu
  have HIN := hid hin
  have HTO := hid hto
  have HRC := hid (ris_filter hr (okD cp))
  have HSub := hid (show ∀ x ∈ l.filter (okD cp), x ∈ l from fun x hx => (List.mem_filter.1 hx).1)
  have hcl : (l.filter (okD cp)).length ≤ 1000000 := Nat.le_trans (List.length_filter_le _ _) hln
  have HE := hid hE
  clear hu hin hr hto hE
  go_enter Tryz.func47, Tryz.ntmps47
  go_wp2_with fail
  have P0 := hid (show ((w.alloc (.cells #[.bool cp] 4)).alloc (.cells #[.slice none 0 0, .slice none 0 0] 36)).heap[w.heap.size]? = some (.cells #[.bool cp] 4 (0, 0)) from by
    rw [heap_alloc_old _ _ _ (by simp)]; exact heap_alloc_at _ _)
  have P1 := hid (show ((w.alloc (.cells #[.bool cp] 4)).alloc (.cells #[.slice none 0 0, .slice none 0 0] 36)).heap[w.heap.size + 1]? = some (.cells #[.slice none 0 0, .slice none 0 0] 36 (0, 0)) from by
    have := heap_alloc_at (w.alloc (.cells #[.bool cp] 4)) (.cells #[.slice none 0 0, .slice none 0 0] 36); rw [World.size_alloc] at this; exact this)
  have HB0 := hid (show Below w.heap.size w ((w.alloc (.cells #[.bool cp] 4)).alloc (.cells #[.slice none 0 0, .slice none 0 0] 36)) from ((Below.refl _ _).alloc (Nat.le_refl _) _).alloc (by simp) _)
  have HSZ := hid (show ((w.alloc (.cells #[.bool cp] 4)).alloc (.cells #[.slice none 0 0, .slice none 0 0] 36)).heap.size = w.heap.size + 1 + 1 by simp)
  generalize (w.alloc (.cells #[.bool cp] 4)).alloc (.cells #[.slice none 0 0, .slice none 0 0] 36) = W0 at *
  have HIN0 := hid (show DpIn W0 ad l cap from by
    rcases HIN.out with h | ⟨x, h1, h2⟩
    · exact Or.inl h
    · exact Or.inr ⟨x, h1, fun j u hj => cell_below HB0.out (h2 j u hj) (cell_block_ltD (h2 j u hj))⟩)
  refine (cloneD_any ad cap l _ HIN0.out (by omega)).mono ?_
  rintro e w1 ⟨ad1, cap1, rfl, ho1, hb1⟩
  obtain ⟨g, tl, rfl, hbg, hk1, hc1, hx1, ht1⟩ := blkD_of ho1 hl0 rfl
  have K1 := hid hk1
  have B1 := hid hb1
  have Q0 := hid ((hb1.block w.heap.size (by have := HSZ.out; omega)).trans P0.out)
  have HBG := hid hbg
  clear ho1 hk1 hb1 HIN0 HIN
  go_wp2_with fail
  refine (deleteD_any g W0.heap.size cap1 w.heap.size cp l tl _ K1.out hbg (by omega) hc1 hx1 ht1 Q0.out (by have := HSZ.out; omega)).mono ?_
  rintro e w2 ⟨rfl, ho2, hb2⟩
  have O2 := hid ho2
  have B2 := hid (show Below W0.heap.size W0 w2 from B1.out.trans (hb2.mono hbg))
  obtain ⟨C, hC⟩ : ∃ C, l.filter (okD cp) = C := ⟨_, rfl⟩
  rw [hC] at O2 HRC HSub HE hcl ⊢
  have HCE := hid hC
  clear ho2 hb2 hC K1 B1 Q0 P0
  obtain ⟨n, hn⟩ : ∃ n, C.length = n := ⟨_, rfl⟩
  have HN := hid hn
  have HD := hid (fun (w' : World) (h : w'.ownsRow W0.heap.size 71 4 (.slice (some ⟨g, 0, none⟩) n cap1) n (dqC C)) => show DpAt w' (some ⟨g, 0, none⟩) C from dpAt_own (cap := cap1) (by rw [hn]; exact h))
  have HBM := hid (fun (f p : Nat) (r : List Nat) (w : World) (h1 : bcm f (lnsD C) p = some r) (h2 : r.length ≤ 1000000) (h3 : DpAt w (some ⟨g, 0, none⟩) C) (h4 : ∀ x ∈ C, U32B w x.g x.d.to) => become_any (some ⟨g, 0, none⟩) cap1 C HRC.out (by omega) (fun x hx => HTO.out x (HSub.out x hx)) f p r w h1 h2 h3 h4)
  rw [hn] at O2 hcl HBM ⊢
  clear hn
  go_wp2_with fail
  have T0 := hid (heap_alloc_at w2 (.cells #[.slice none 0 0, .slice none 0 0] 36))
  have hBA := (Below.refl w2.heap.size w2).alloc (Nat.le_refl _) (.cells #[.slice none 0 0, .slice none 0 0] 36)
  have O3 := hid (owns_below O2.out hBA)
  have B3 := hid (show Below W0.heap.size W0 (w2.alloc (.cells #[.slice none 0 0, .slice none 0 0] 36)) from B2.out.trans (hBA.mono B2.out.size))
  have HTN := hid (show W0.heap.size ≤ w2.heap.size from B2.out.size)
  clear hBA B2 O2
  generalize w2.alloc (.cells #[.slice none 0 0, .slice none 0 0] 36) = w3 at *
  obtain ⟨T, hT⟩ : ∃ T, w2.heap.size = T := ⟨_, rfl⟩
  rw [hT] at T0 HTN ⊢
  clear hT
  obtain ⟨pts, hpts⟩ : ∃ pts, C.map (·.d.p) = pts := ⟨_, rfl⟩
  obtain ⟨rws, hrws⟩ : ∃ rws, C.map (rowOf F C) = rws := ⟨_, rfl⟩
  have HPT := hid hpts
  have HRW := hid hrws
  clear hpts hrws
  obtain ⟨B, hBe⟩ : ∃ B, W0.heap.size = B := ⟨_, rfl⟩
  have HBE := hid hBe
  rw [hBe] at O3 B3 HTN HD
  go_loopw [16] (fun c wr => ∃ (k kc rc : Nat) (kd rd : Option Addr) (vs : List Value), k ≤ n ∧ c = .int .i64 (k : Int) ∧ Below B W0 wr ∧ wr.heap[T]? = some (.cells #[.slice kd k kc, .slice rd k rc] 36 (0, 0)) ∧
    wr.ownsRow B 71 4 (.slice (some ⟨g, 0, none⟩) n cap1) n (dqC C) ∧ wr.ownsRow B 22 1 (.slice kd k kc) k (iV (pts.take k)) ∧ wr.ownsRow B 33 1 (.slice rd k rc) k vs ∧ RowsI wr vs (rws.take k) (Value.slice kd k kc).ownBlock) (fun c _ => n - (intOf c).toNat)
  case atStart => exact ⟨0, 0, 0, none, none, [], Nat.zero_le _, rfl, B3.out, T0.out, O3.out, World.ownsRow_nil _ _ _ _, World.ownsRow_nil _ _ _ _, RowsI.nil _ _⟩
  case round =>
    obtain ⟨k, kc, rc, kd, rd, vs, hk, rfl, hB, hT, hO, hK, hR, hI⟩ := hrel
    have BR := hid hB
    have TR := hid hT
    have OR := hid hO
    have KR := hid hK
    have RR := hid hR
    have IR := hid hI
    by_cases hlt : k < n
    · have hkc : k < C.length := by rw [HN.out]; exact hlt
      obtain ⟨g', hg', c0, c1, c2, c3⟩ := HD.out wr hO k hkc
      obtain rfl : g = g' := by cases hg'; rfl
      obtain ⟨r, hr, hrl⟩ := HE.out C[k] (List.getElem_mem hkc)
      obtain ⟨x, hx⟩ : ∃ x, C[k] = x := ⟨_, rfl⟩
      have HPS := hid (take_map_snoc HPT.out hkc)
      have HRS := hid (take_map_snoc HRW.out hkc)
      rw [hx] at c0 c1 c2 c3 hr HPS HRS
      have hro : rowOf F C x = r := by unfold rowOf; rw [hr]; rfl
      rw [hro] at HRS
      have HRr := hid hr
      have hkb : k < 1000000 := by omega
      obtain ⟨vg, hvg⟩ : ∃ v, x.g = v := ⟨_, rfl⟩
      obtain ⟨vn, hvn⟩ : ∃ v, x.d.to.length = v := ⟨_, rfl⟩
      obtain ⟨vc, hvc⟩ : ∃ v, x.cap = v := ⟨_, rfl⟩
      obtain ⟨p, hp⟩ : ∃ v, x.d.p = v := ⟨_, rfl⟩
      obtain ⟨bc, hbc⟩ : ∃ v, x.d.c = v := ⟨_, rfl⟩
      obtain ⟨ba, hba⟩ : ∃ v, x.d.a = v := ⟨_, rfl⟩
      simp only [Dq.sl, hvg, hvn, hvc, hp, hbc, hba] at c0 c1 c2 c3 HRr HPS
      clear hB hT hO hK hR hI hx hg' hr hkc hro hvg hvn hvc hp hbc hba hk
      have hmk := run_make3
      go_upto_region 7 with fail
      clear hmk c0 c1 c2 c3
      obtain ⟨wa, hwa⟩ : ∃ y, wr.alloc (.cells #[.int .u32 (p : Int), .slice (some ⟨vg, 0, none⟩) vn vc, .bool bc, .bool ba] 71) = y := ⟨_, rfl⟩
      obtain ⟨na, hna⟩ : ∃ na, wr.heap.size = na := ⟨_, rfl⟩
      have HNA := hid hna
      have A0 := hid (show wa.heap[na]? = some (.cells #[.int .u32 (p : Int), .slice (some ⟨vg, 0, none⟩) vn vc, .bool bc, .bool ba] 71 (0, 0)) by rw [← hwa, ← hna]; exact heap_alloc_at _ _)
      have hsa : wa.heap.size = na + 1 := by rw [← hwa, World.size_alloc, hna]
      have BA := hid (show Below na wr wa from by rw [← hwa, ← hna]; exact (Below.refl _ _).alloc (Nat.le_refl _) _)
      rw [hwa, hna]
      clear hwa hna
      have N0 := hid (heap_alloc_at wa (.cells #[.int .u32 0, .int .u32 0, .int .u32 0] 22))
      have hBb := (Below.refl wa.heap.size wa).alloc (Nat.le_refl _) (.cells #[.int .u32 0, .int .u32 0, .int .u32 0] 22)
      have BB := hid (show Below (na + 1) wa (wa.alloc (.cells #[.int .u32 0, .int .u32 0, .int .u32 0] 22)) from by rw [← hsa]; exact hBb)
      have hsb : (wa.alloc (.cells #[.int .u32 0, .int .u32 0, .int .u32 0] 22)).heap.size = na + 1 + 1 := by rw [World.size_alloc, hsa]
      rw [hsa] at N0
      obtain ⟨wb, hwb⟩ : ∃ y, wa.alloc (.cells #[.int .u32 0, .int .u32 0, .int .u32 0] 22) = y := ⟨_, rfl⟩
      rw [hwb] at N0 BB hsb ⊢
      clear hwb hBb hsa
      have HSB := hid hsb
      have AB := hid (show Below na wr wb from BA.out.trans (BB.out.mono (by omega)))
      have A1 := hid ((BB.out.block na (by omega)).trans A0.out)
      have HBN := hid (show B ≤ na from by have := BR.out.size; have := HBE.out; have := HNA.out; omega)
      have OB := hid (owns_of_blocks (w' := wb) OR.out fun q hq => AB.out.block q (by have := (OR.out.lt q hq).2; have := HNA.out; omega))
      have B4 := hid (show Below B W0 wb from BR.out.trans (AB.out.mono HBN.out))
      have kp := cell_of_heap (i := 0) A1.out rfl
      clear hsb BA BB
      go_wp2_with fail
      refine (HBM.out F p r _ HRr.out hrl (HD.out _ OB.out) (fun y hy => (HU.out y (HSub.out y hy)).keep fun cs h => ((HB0.out.trans (B4.out.mono (by have := HBE.out; have := HSZ.out; omega))).block _ (lt_of_heap h)).trans h)).mono ?_
      rintro e wc ⟨sd, sc, rfl, hoc, hbc⟩
      have NC := hid ((hbc.block (na + 1) (by have := HSB.out; omega)).trans ((rfl : wb.heap[na + 1]? = _).trans N0.out))
      have HSR := hid (own_src hoc rfl)
      have DC := hid (show Below (na + 1) wb wc from hbc.mono (by have := HSB.out; omega))
      clear hoc hbc kp OB
      obtain ⟨wd, m, hcopy, hd1, hbd⟩ := copy3 NC.out rfl HSR.out
      have N1 := hid hd1
      have DD := hid (show Below (na + 1) wb wd from DC.out.trans hbd)
      have ED := hid (show Below na wr wd from AB.out.trans (DD.out.mono (by omega)))
      have A2 := hid ((DD.out.block na (by omega)).trans A1.out)
      have TLT := hid (show T < na by have h := lt_of_heap TR.out; have := HNA.out; omega)
      have TD := hid ((ED.out.block T TLT.out).trans TR.out)
      have HLT := hid (fun (q : Nat) (h : q < wr.heap.size) => show q < na by have := HNA.out; omega)
      have KD := hid (owns_of_blocks (w' := wd) KR.out fun q hq => ED.out.block q (HLT.out q (KR.out.lt q hq).2))
      have RD := hid (owns_of_blocks (w' := wd) RR.out fun q hq => ED.out.block q (HLT.out q (RR.out.lt q hq).2))
      have OD := hid (owns_of_blocks (w' := wd) OR.out fun q hq => ED.out.block q (HLT.out q (OR.out.lt q hq).2))
      have ID := hid (IR.out.keep (w' := wd) (kb' := (Value.slice kd k kc).ownBlock) fun b cs h1 h2 => ⟨ED.out.block b (HLT.out b (lt_of_heap h1)), h2⟩)
      have BD := hid (show Below B W0 wd from BR.out.trans (ED.out.mono HBN.out))
      have KBN := hid (fun (q : Nat) (h : (Value.slice kd k kc).ownBlock = some q) => HLT.out q (KR.out.lt q h).2)
      have RBN := hid (fun (q : Nat) (h : (Value.slice rd k rc).ownBlock = some q) => HLT.out q (RR.out.lt q h).2)
      have ND := hid (show na + 1 < wd.heap.size from lt_of_heap N1.out)
      clear hd1 hbd NC HSR DC N0 A1 A0 AB DD ED TR KR RR OR IR BR B4 HLT HRr
      go_upto_region 8 with fail
      clear hcopy
      have kT := cell_of_heap (i := 0) TD.out rfl
      have ka := cell_of_heap (i := 0) A2.out rfl
      obtain ⟨i0, hi, hz0, hz1, hz2⟩ := info_parts infoU32
      go_wp2_with (at_builtin; refine wpList_append_lies _ rfl (.tmp 28) (.tmp 31) 33 rfl B 22 i0 _ 1 4 Tryz.underlying33 hi hz0 hz1 hz2 rfl (by decide) _ k (iV (pts.take k)) rfl (KD.out.alloc _) ⟨wd.heap.size, 0, none⟩ 1 1 [.int .u32 (p : Int)] rfl rfl (World.news_of_block (heap_alloc_at _ _)) (by intro u hu; simp at hu; rcases hu with rfl; rfl) (by decide) (by unfold maxLen; omega) (by omega) (by have := BD.out.size; have := HBE.out; simp; omega) _ rfl ?_)
      intro g2 cap2 wf hown hgrow hat hlt2
      have FK := hid (fun (q : Nat) (h1 : q < wd.heap.size) (h2 : (Value.slice kd k kc).ownBlock ≠ some q) => show wf.heap[q]? = wd.heap[q]? from (hgrow.block q (by simp; omega) (fun e => h2 e.symm)).trans (heap_alloc_old _ _ _ h1))
      have hTK : (Value.slice kd k kc).ownBlock ≠ some T := rowNe KD.out TD.out (by decide)
      have TF := hid ((FK.out T (by have := TLT.out; have := ND.out; omega) hTK).trans TD.out)
      have HO := hid hown
      have GT := hid hat
      have BF := hid (show Below B W0 wf from (BD.out.alloc (by have := BD.out.size; have := HBE.out; omega) _).grown hgrow (by have := BD.out.size; have := HBE.out; simp; omega) (fun q hq => (KD.out.lt q hq).1))
      have HG2 := hid (show g2 ≠ T from fun e => by
        subst e
        rcases hown.2 with ⟨hx, _⟩ | ⟨g', cap', cur, hx, _, hg, _⟩
        · cases hx
        · cases hx; rw [TF.out] at hg; cases hg)
      have fT := cell_of_heap (i := 0) TF.out rfl
      have zT := frozen_of_heap (i := 0) TF.out
      have SZF := hid (show wd.heap.size ≤ wf.heap.size from by have := hgrow.size; simp at this; omega)
      clear hown hgrow hat hlt2 kT ka hTK hz0 hz1 hz2 hi
      go_upto_region 9 with fail
      have TG := hid (tb_put0 (v := .slice (some ⟨g2, 0, none⟩) (k + 1) cap2) TF.out)
      have GK := hid (fun (q : Nat) (h : q ≠ T) => show (wf.setCell ⟨T, 0, none⟩ (.slice (some ⟨g2, 0, none⟩) (k + 1) cap2)).heap[q]? = wf.heap[q]? from Below.heap_setCell _ _ _ _ h)
      have BG := hid (show Below B W0 (wf.setCell ⟨T, 0, none⟩ (.slice (some ⟨g2, 0, none⟩) (k + 1) cap2)) from BF.out.setCell (p := ⟨T, 0, none⟩) HTN.out _)
      have SZG := hid (show wf.heap.size = (wf.setCell ⟨T, 0, none⟩ (.slice (some ⟨g2, 0, none⟩) (k + 1) cap2)).heap.size by simp [World.setCell])
      clear fT zT
      generalize wf.setCell ⟨T, 0, none⟩ (.slice (some ⟨g2, 0, none⟩) (k + 1) cap2) = wg at *
      have KG := hid (owns_of_blocks (w' := wg) HO.out fun q hq => by
        have e : q = g2 := by simpa [Value.ownBlock] using hq.symm
        rw [e]
        exact GK.out g2 HG2.out)
      have HKG := hid (fun (q : Nat) (cs : Array Value) (t : TypeId) (h : wd.heap[q]? = some (.cells cs t (0, 0))) (h2 : (Value.slice kd k kc).ownBlock ≠ some q) (h3 : q ≠ T) => show wg.heap[q]? = wd.heap[q]? from (GK.out q h3).trans (FK.out q (lt_of_heap h) h2))
      have RG := hid (owns_of_blocks (w' := wg) RD.out fun q hq => by
        obtain ⟨cs, hcs⟩ := rowB RD.out hq
        exact HKG.out q cs _ hcs (fun e => rowNe KD.out hcs (by decide) e) (heap_ne hcs TD.out (by decide)))
      have OG := hid (owns_of_blocks (w' := wg) OD.out fun q hq => by
        obtain ⟨cs, hcs⟩ := rowB OD.out hq
        exact HKG.out q cs _ hcs (fun e => rowNe KD.out hcs (by decide) e) (heap_ne hcs TD.out (by decide)))
      have IG := hid (ID.out.keep (w' := wg) (kb' := some g2) fun b cs h1 h2 => ⟨HKG.out b cs _ h1 h2 (heap_ne h1 TD.out (by decide)), fun e => by
        cases e
        rcases GT.out with h | h
        · exact h2 h
        · have := lt_of_heap h1; omega⟩)
      have N2 := hid ((HKG.out (na + 1) _ _ N1.out (fun e => by have := KBN.out _ e; omega) (by have := TLT.out; omega)).trans N1.out)
      have GN := hid (show some g2 ≠ some (na + 1) from fun e => by
        cases e
        rcases GT.out with h | h
        · have := KBN.out _ h; omega
        · have := ND.out; omega)
      have IG2 := hid (IG.out.snoc N2.out GN.out)
      clear FK HKG GK IG KD RD OD ID TD TF HO BD BF N1 A2
      have kT := cell_of_heap (i := 1) TG.out rfl
      obtain ⟨i0, hi, hz0, hz1, hz2⟩ := info_parts infoRow
      go_wp2_with (at_builtin; refine wpList_append_own _ rfl (.tmp 35) (.tmp 37) 34 rfl B 33 i0 _ 1 24 Tryz.underlying34 hi hz0 hz1 hz2 rfl (by decide) _ k vs rfl (RG.out.alloc _) ⟨wg.heap.size, 0, none⟩ 1 1 [.slice (some ⟨na + 1, 0, none⟩) 3 3] rfl rfl (World.news_of_block (heap_alloc_at _ _)) (by intro u hu; simp at hu; rcases hu with rfl; rfl) (by unfold maxLen; omega) (by omega) (by have := BG.out.size; have := HBE.out; simp; omega) ?_)
      intro v' wi hown hgrow _
      obtain ⟨rd2, rc2, rfl⟩ := owns_shape hown
      have FK := hid (fun (q : Nat) (h1 : q < wg.heap.size) (h2 : (Value.slice rd k rc).ownBlock ≠ some q) => show wi.heap[q]? = wg.heap[q]? from (hgrow.block q (by simp; omega) (fun e => h2 e.symm)).trans (heap_alloc_old _ _ _ h1))
      have TI := hid ((FK.out T (lt_of_heap TG.out) (rowNe RG.out TG.out (by decide))).trans TG.out)
      have HO := hid hown
      have BI := hid (show Below B W0 wi from (BG.out.alloc (by have := BG.out.size; have := HBE.out; omega) _).grown hgrow (by have := BG.out.size; have := HBE.out; simp; omega) (fun q hq => (RG.out.lt q hq).1))
      have fT := cell_of_heap (i := 1) TI.out rfl
      have zT := frozen_of_heap (i := 1) TI.out
      clear hown hgrow kT hz0 hz1 hz2 hi
      go_upto_region 10 with fail
      have TJ := hid (tb_put1 (v := .slice rd2 (k + 1) rc2) TI.out)
      have GK := hid (fun (q : Nat) (h : q ≠ T) => show (wi.setCell ⟨T, 1, none⟩ (.slice rd2 (k + 1) rc2)).heap[q]? = wi.heap[q]? from Below.heap_setCell _ _ _ _ h)
      have BJ := hid (show Below B W0 (wi.setCell ⟨T, 1, none⟩ (.slice rd2 (k + 1) rc2)) from BI.out.setCell (p := ⟨T, 1, none⟩) HTN.out _)
      clear fT zT
      generalize wi.setCell ⟨T, 1, none⟩ (.slice rd2 (k + 1) rc2) = wj at *
      have HKJ := hid (fun (q : Nat) (cs : Array Value) (t : TypeId) (h : wg.heap[q]? = some (.cells cs t (0, 0))) (h2 : (Value.slice rd k rc).ownBlock ≠ some q) (h3 : q ≠ T) => show wj.heap[q]? = wg.heap[q]? from (GK.out q h3).trans (FK.out q (lt_of_heap h) h2))
      have RJ := hid (owns_of_blocks (w' := wj) HO.out fun q hq => by
        obtain ⟨cs, hcs⟩ := rowB HO.out hq
        exact GK.out q (heap_ne hcs TI.out (by decide)))
      have KJ := hid (owns_of_blocks (w' := wj) KG.out fun q hq => by
        obtain ⟨cs, hcs⟩ := rowB KG.out hq
        exact HKJ.out q cs _ hcs (fun e => rowNe RG.out hcs (by decide) e) (heap_ne hcs TG.out (by decide)))
      have OJ := hid (owns_of_blocks (w' := wj) OG.out fun q hq => by
        obtain ⟨cs, hcs⟩ := rowB OG.out hq
        exact HKJ.out q cs _ hcs (fun e => rowNe RG.out hcs (by decide) e) (heap_ne hcs TG.out (by decide)))
      have IJ := hid (IG2.out.keep (w' := wj) (kb' := some g2) fun b cs h1 h2 => ⟨HKJ.out b cs _ h1 (fun e => rowNe RG.out h1 (by decide) e) (heap_ne h1 TG.out (by decide)), h2⟩)
      rw [← HRS.out] at IJ
      have KJ2 := hid (show wj.ownsRow B 22 1 (.slice (some ⟨g2, 0, none⟩) (k + 1) cap2) (k + 1) (iV (pts.take (k + 1))) by rw [HPS.out, iV_app]; exact KJ.out)
      clear FK HKJ GK KG RG OG IG2 TG TI HO BG BI N2 KJ
      go_wp2
      go_roundw
      case rel => exact ⟨k + 1, cap2, rc2, some ⟨g2, 0, none⟩, rd2, vs ++ [.slice (some ⟨na + 1, 0, none⟩) 3 3], by omega, by go_num, BJ.out, TJ.out, OJ.out, KJ2.out, RJ.out, IJ.out⟩
      case measure => simp [intOf]; omega
    · obtain rfl : k = n := by omega
      have P4 := hid ((hB.block (w.heap.size + 1) (by have := HBE.out; have := HSZ.out; omega)).trans P1.out)
      have hTP : T ≠ w.heap.size + 1 := by have := HTN.out; have := HBE.out; have := HSZ.out; omega
      have HTP := hid hTP
      have ept : pts.take k = pts := by rw [List.take_of_length_le]; rw [← HPT.out, List.length_map, HN.out]; exact Nat.le_refl _
      have erw : rws.take k = rws := by rw [List.take_of_length_le]; rw [← HRW.out, List.length_map, HN.out]; exact Nat.le_refl _
      rw [ept] at KR
      rw [erw] at IR
      clear hB hT hO hK hR hI ept erw hk
      have kT0 := cell_of_heap (i := 0) TR.out rfl
      have kT1 := cell_of_heap (i := 1) TR.out rfl
      have k0 := cell_of_heap (i := 0) P4.out rfl
      have k1 := cell_of_heap (i := 1) P4.out rfl
      have z0 := frozen_of_heap (i := 0) P4.out
      have z1 := frozen_of_heap (i := 1) P4.out
      go_wp2
      have Q := hid (tb_put1 (v := .slice rd k rc) (tb_put0 (v := .slice kd k kc) P4.out))
      have d0 := cell_of_heap (i := 0) Q.out rfl
      have d1 := cell_of_heap (i := 1) Q.out rfl
      have HKe := hid (fun (q : Nat) (h : q ≠ w.heap.size + 1) => show (((wr.setCell ⟨w.heap.size + 1, 0, none⟩ (.slice kd k kc)).setCell ⟨w.heap.size + 1, 1, none⟩ (.slice rd k rc))).heap[q]? = wr.heap[q]? from (Below.heap_setCell _ _ _ _ h).trans (Below.heap_setCell _ _ _ _ h))
      have HBW := hid (show B = w.heap.size + 1 + 1 by have := HBE.out; have := HSZ.out; omega)
      refine bodyPost_ret (v := .agg #[.slice kd k kc, .slice rd k rc]) (by simp only [results, Tryz.results47]; simp [go_sem, d0, d1]) rfl ?_
      rw [HCE.out, HN.out, HPT.out, HRW.out]
      refine ⟨kd, rd, kc, rc, vs, rfl, ?_, ?_, ?_, ?_⟩
      · exact owns_base (owns_of_blocks KR.out fun q hq => HKe.out q (by have := (KR.out.lt q hq).1; have := HBW.out; omega)) (by have := HBW.out; omega)
      · exact owns_base (owns_of_blocks RR.out fun q hq => HKe.out q (by have := (RR.out.lt q hq).1; have := HBW.out; omega)) (by have := HBW.out; omega)
      · exact IR.out.keep fun b cs h1 h2 => ⟨HKe.out b (heap_ne h1 P4.out (by decide)), h2⟩
      · exact ((HB0.out.trans (BR.out.mono (by have := HBW.out; omega))).setCell (p := ⟨w.heap.size + 1, 0, none⟩) (Nat.le_succ _) _).setCell (p := ⟨w.heap.size + 1, 1, none⟩) (Nat.le_succ _) _
end Go.Proofs.YtkhdcpejpffnkaaGreatDoor
