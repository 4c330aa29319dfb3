/- Package tables' become, over this seat's translation: what a point becomes in full. Conditions: at most 10^9 lines, whose points rise; what a point becomes ends, and is at most 10^6 points. -/
import Derived.Test.YtkhdcpejpffnkaaGreatDoorTdD
import Derived.Test.YtkhdcpejpffnkaaGreatDoorTbQ
namespace Go.Proofs.YtkhdcpejpffnkaaGreatDoor
open Go.RowKit
set_option linter.unusedVariables false

theorem own_src {w : World} {base n cap : Nat} {ad : Option Addr} {l : List Nat} (h : w.ownsRow base 22 1 (.slice ad n cap) n (iV l)) (hn : l.length = n) : (ad = none ∧ n = 0 ∧ cap = 0 ∧ iV l = []) ∨ ∃ q, ad = some q ∧ (iV l).length = n * 1 ∧ ∀ j u, (iV l)[j]? = some u → w.cell? (q.add j) = some u := by
  rcases h.2 with ⟨hx, h0⟩ | ⟨g', cap', cur, hx, hb, hg, h1, h2, h3, h4⟩
  · cases hx
    have : l = [] := List.length_eq_zero_iff.1 (by omega)
    subst this
    exact Or.inl ⟨rfl, rfl, rfl, rfl⟩
  · cases hx
    refine Or.inr ⟨_, rfl, by simp [iV, hn], fun j u hj => ?_⟩
    rw [add_plain]
    refine cell_of_heap hg ?_
    rw [← h4, List.getElem?_take] at hj
    split at hj
    · simpa using hj
    · cases hj
def lnsD (l : List Dq) : List Ln := l.map fun x => (x.d.p, x.d.to)
theorem lnsD_pts (l : List Dq) : (lnsD l).map (·.1) = l.map (·.d.p) := by unfold lnsD; rw [List.map_map]; rfl
theorem ris_nodup {l : List Dq} (h : RisD l) : ((lnsD l).map (·.1)).Nodup := by
  rw [lnsD_pts]
  unfold List.Nodup
  rw [List.pairwise_map, List.pairwise_iff_getElem]
  intro i j hi hj hij
  have := h i j hi hj hij
  omega
theorem lnOf_at {l : List Dq} (h : RisD l) {i : Nat} (hi : i < l.length) : lnOf (lnsD l) l[i].d.p = some (l[i].d.p, l[i].d.to) :=
  lnOf_mem (ris_nodup h) (d := (l[i].d.p, l[i].d.to)) (List.mem_map.2 ⟨l[i], List.getElem_mem hi, rfl⟩)
theorem lnOf_not {l : List Dq} {p : Nat} (h : ∀ x ∈ l, x.d.p ≠ p) : lnOf (lnsD l) p = none := lnOf_none (by
  rw [lnsD_pts]; intro hm
  obtain ⟨x, hx, e⟩ := List.mem_map.1 hm
  exact h x hx e)
theorem mapM_len {α β : Type} (f : α → Option β) : ∀ {l : List α} {r : List β}, l.mapM f = some r → r.length = l.length := by
  intro l
  induction l with
  | nil => intro r h; cases h; rfl
  | cons a t ih =>
    intro r h
    rw [List.mapM_cons] at h
    cases ha : f a with
    | none => rw [ha] at h; cases h
    | some b =>
      cases ht : t.mapM f with
      | none => rw [ha, ht] at h; cases h
      | some s => rw [ha, ht] at h; cases h; rw [List.length_cons, List.length_cons, ih ht]
def flatK (rs : List (List Nat)) (k : Nat) : List Nat := (rs.take k).flatten
theorem flatK_succ (rs : List (List Nat)) (k : Nat) (h : k < rs.length) : flatK rs (k + 1) = flatK rs k ++ rs[k] := by
  unfold flatK
  rw [List.take_succ_eq_append_getElem h, List.flatten_append]
  simp only [List.flatten_cons, List.flatten_nil, List.append_nil]
theorem flatK_le (rs : List (List Nat)) (k : Nat) : (flatK rs k).length ≤ rs.flatten.length := by
  unfold flatK
  conv => rhs; rw [← List.take_append_drop k rs]
  rw [List.flatten_append, List.length_append]
  omega
theorem flatK_all (rs : List (List Nat)) : flatK rs rs.length = rs.flatten := by unfold flatK; rw [List.take_length]
theorem iV_app (a b : List Nat) : iV (a ++ b) = iV a ++ iV b := by unfold iV; rw [List.map_append]
theorem iV_len (a : List Nat) : (iV a).length = a.length := by simp [iV]
theorem iV_one (a : List Nat) : ∀ u ∈ iV a, u.oneCell' = true := by
  intro u hu
  obtain ⟨n, _, rfl⟩ := List.mem_map.1 hu
  rfl
set_option maxHeartbeats 6400000 in
theorem become_any (ad : Option Addr) (cap : Nat) (l : List Dq) (hr : RisD l) (hn : l.length ≤ 1000000000) (hto : ∀ x ∈ l, x.d.to.length ≤ 1000000) : ∀ (f p : Nat) (r : List Nat) (w : World), bcm f (lnsD l) p = some r → r.length ≤ 1000000 → DpAt w ad l → (∀ x ∈ l, U32B w x.g x.d.to) →
    Calls Tryz.prog 89 #[.slice ad l.length cap, .int .u32 (p : Int)] w fun e w' => ∃ sd sc, e = .returned (.slice sd r.length sc) ∧ w'.ownsRow w.heap.size 22 1 (.slice sd r.length sc) r.length (iV r) ∧ Below w.heap.size w w' := by
  have HRis := hid hr
  have HTO := hid hto
  clear hto
  obtain ⟨i0, hi, hz0, hz1, hz2⟩ := info_parts infoU32
  have HI := hid (And.intro hi (And.intro hz0 (And.intro hz1 hz2)))
  clear hi hz0 hz1 hz2 hr
  intro f
  induction f with
  | zero => intro p r w h; cases h
  | succ f ih =>
    intro p r w hb hl hd hu
    have HD := hid hd
    have HU := hid hu
    have HIH := hid ih
    have HS := hid (searchD_any ad cap p l w hd HRis.out hn)
    clear ih hd hu
    go_enter Tryz.func89, Tryz.ntmps89
    go_wp2_with fail
    refine HS.out.mono ?_
    rintro e w1 ⟨hf, hB⟩
    have B1 := hid hB
    clear hB HS
    rcases hf with ⟨i, hil, hp, rfl⟩ | ⟨hno, i, rfl⟩
    · have hln := lnOf_at HRis.out hil
      rw [hp] at hln
      unfold bcm at hb
      rw [hln] at hb
      obtain ⟨g, rfl, c0, c1, c2, c3⟩ := (HD.out.below B1.out) i hil
      have hux := HU.out l[i] (List.getElem_mem hil)
      have htx := HTO.out l[i] (List.getElem_mem hil)
      obtain ⟨x, hx⟩ : ∃ x, l[i] = x := ⟨_, rfl⟩
      rw [hx] at c0 c1 c2 c3 hb hux htx
      simp only at hb
      cases hm : x.d.to.mapM (bcm f (lnsD l)) with
      | none => rw [hm] at hb; cases hb
      | some rs =>
        rw [hm] at hb
        obtain rfl : rs.flatten = r := by simpa using hb
        have hrl := mapM_len _ hm
        have HEach := hid (mapM_each _ _ _ hm)
        have HXU := hid hux
        have HX := hid htx
        have HL := hid hl
        have HRL := hid hrl
        clear hln hb hm hx hux htx hl hrl hp c0 c2 c3
        obtain ⟨V, hV⟩ : ∃ V, x.d.to.length = V := ⟨_, rfl⟩
        rw [hV] at HX HRL
        simp only [Dq.sl, hV] at c1
        go_wp2_with fail
        have HVX := hid hV
        clear hV c1
        go_loopw [26, 7] (fun c all wr => ∃ (k sc : Nat) (sd : Option Addr), k ≤ V ∧ c = .int .i64 (k : Int) ∧ all = .slice sd (flatK rs k).length sc ∧ wr.ownsRow w.heap.size 22 1 (.slice sd (flatK rs k).length sc) (flatK rs k).length (iV (flatK rs k)) ∧ Below w.heap.size w wr) (fun c _ _ => V - (intOf c).toNat)
        case atStart => exact ⟨0, 0, none, Nat.zero_le _, rfl, rfl, World.ownsRow_nil _ _ _ _, B1.out⟩
        case round =>
          obtain ⟨k, sc, sd, hk, rfl, rfl, hown, hB⟩ := hrel
          have HB := hid hB
          have HO := hid hown
          by_cases hlt : k < V
          · have hkb : k < 1000000 := by have := HX.out; omega
            have hkx : k < x.d.to.length := by rw [HVX.out]; exact hlt
            have hkr : k < rs.length := by rw [HRL.out]; exact hlt
            have kq := (HXU.out.below hB).cell hkx
            obtain ⟨q, hq⟩ : ∃ q, x.d.to.getD k 0 = q := ⟨_, rfl⟩
            have hqe : x.d.to[k] = q := by rw [← hq, List.getD_eq_getElem?_getD, List.getElem?_eq_getElem hkx]; rfl
            have hbq := HEach.out k hkx
            rw [hqe, List.getElem?_eq_getElem hkr] at hbq
            rw [hq] at kq
            have HFS := hid (flatK_succ rs k hkr)
            have HFL := hid (flatK_le rs (k + 1))
            obtain ⟨s, hs⟩ : ∃ s, rs[k] = s := ⟨_, rfl⟩
            rw [hs] at hbq HFS
            rw [HFS.out] at HFL
            have hsl : s.length ≤ 1000000 := by have h1 := HFL.out; have h2 := HL.out; rw [List.length_append] at h1; omega
            have HC := hid (HIH.out q s wr hbq hsl (HD.out.below hB) (fun y hy => (HU.out y hy).below hB))
            obtain ⟨A, hA⟩ : ∃ A, flatK rs k = A := ⟨_, rfl⟩
            rw [hA] at HO HFS HFL ⊢
            have hal : A.length + s.length ≤ 1000000 := by have h1 := HFL.out; have h2 := HL.out; rw [List.length_append] at h1; omega
            clear hown hB hq hqe hbq hs hsl hA hkx hkr
            go_wp2_with fail
            refine HC.out.mono ?_
            rintro e w3 ⟨ad2, cap2, rfl, ho3, hB3⟩
            have O3 := hid (owns_below HO.out hB3)
            have B3 := hid (HB.out.trans (hB3.mono HB.out.size))
            have HSR := hid (own_src ho3 rfl)
            clear ho3 hB3 HC HO kq
            go_wp2_with (at_builtin; refine wpList_append_optS rfl (.tmp 30) (.tmp 33) 33 rfl w.heap.size 22 i0 _ 1 4 Tryz.underlying33 HI.out.1 HI.out.2.1 HI.out.2.2.1 HI.out.2.2.2 rfl (by decide) _ A.length (iV A) rfl O3.out ad2 s.length cap2 (iV s) rfl HSR.out (iV_one s) (by unfold maxLen; omega) (by omega) B3.out.size ?_; intro v6 w6 hown' hgrow; obtain ⟨sd', sc', rfl⟩ := owns_shape hown'; have HO6 := hid hown'; have B6 := hid (B3.out.grown hgrow B3.out.size (fun k hk => (O3.out.lt k hk).1)); clear hown' hgrow)
            have HO7 := hid (show w6.ownsRow w.heap.size 22 1 (.slice sd' (flatK rs (k + 1)).length sc') (flatK rs (k + 1)).length (iV (flatK rs (k + 1))) by
              rw [HFS.out, List.length_append, iV_app]; exact HO6.out)
            have HLE := hid (show (flatK rs (k + 1)).length = A.length + s.length by rw [HFS.out, List.length_append])
            go_roundw
            case rel => exact ⟨k + 1, sc', sd', by omega, by go_num, by rw [HLE.out], HO7.out, B6.out⟩
            case measure => simp [intOf]; omega
          · obtain rfl : k = V := by omega
            have e : flatK rs k = rs.flatten := by rw [← HRL.out]; exact flatK_all rs
            rw [e] at HO ⊢
            clear hown hB
            go_wp2
            go_ret
            exact ⟨sd, sc, rfl, HO.out, HB.out⟩
    · rw [lnOf_not hno |> fun e => show bcm (f + 1) (lnsD l) p = some [p] by unfold bcm; rw [e]] at hb
      cases hb
      clear hno hl
      go_wp2
      go_ret
      refine ⟨some ⟨w1.heap.size, 0, none⟩, 1, rfl, ⟨rfl, Or.inr ⟨w1.heap.size, 1, _, rfl, B1.out.size, heap_alloc_at _ _, Nat.le_refl _, by unfold maxLen; omega, rfl, rfl⟩⟩, B1.out.alloc B1.out.size _⟩
end Go.Proofs.YtkhdcpejpffnkaaGreatDoor
