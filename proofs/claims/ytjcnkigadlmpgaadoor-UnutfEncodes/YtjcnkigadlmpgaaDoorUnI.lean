/- The document's Encode (layer 10), over this seat's translation. Conditions: at most a thousand points. -/
import Derived.Test.YtjcnkigadlmpgaaDoorUnH
import Derived.Test.YtjcnkigadlmpgaaDoorArD
import Derived.Test.YtjcnkigadlmpgaaDoorUfP
namespace Go.Proofs.YtjcnkigadlmpgaaDoor
open Go.RowKit
set_option linter.unusedVariables false

theorem Tryd.infoU8n : (Tryd.prog.info? 5).map (fun i => (i.zero, i.size, i.bytes)) = some (some (.int .u8 0), 1, 1) := by kernel_rfl
set_option maxHeartbeats 3200000 in
set_option maxRecDepth 20000 in
theorem rencode_any (a1 a2 : Option Addr) (c1 c2 n : Nat) (xs ks : List Nat) (w : World) (hx : xs.length = n) (hk : ks.length = n) (h1 : U32s w a1 xs) (h2 : U32s w a2 ks) (hn : n ≤ 1000) :
    Calls Tryd.prog 14 #[.slice a1 n c1, .slice a2 n c2] w fun e w' => ∃ sd sc, e = .returned (.slice sd (encL (fun i => xs.getD i 0) (fun i => ks.getD i 0) n).length sc) ∧ w'.ownsRow w.heap.size 5 1 (.slice sd (encL (fun i => xs.getD i 0) (fun i => ks.getD i 0) n).length sc) (encL (fun i => xs.getD i 0) (fun i => ks.getD i 0) n).length (ucs (encL (fun i => xs.getD i 0) (fun i => ks.getD i 0) n)) ∧ Below w.heap.size w w' := by
  obtain ⟨i0, hi, hz0, hz1, hz2⟩ := info_parts Tryd.infoU8n
  have H1 := hid h1
  have H2 := hid h2
  have HX := hid hx
  have HK := hid hk
  clear h1 h2 hx hk
  go_enter Tryd.func14, Tryd.ntmps14
  go_wp2_with fail
  go_loopw [5, 6] (fun c5 c6 wr => ∃ (i : Nat) (L : List Nat) (sd : Option Addr) (sc : Nat), i ≤ n ∧ L = encL (fun i => xs.getD i 0) (fun i => ks.getD i 0) i ∧ c5 = .slice sd L.length sc ∧ c6 = .int .i64 (i : Int) ∧ wr.ownsRow w.heap.size 5 1 (.slice sd L.length sc) L.length (ucs L) ∧ Below w.heap.size w wr) (fun _ c6 _ => n - (intOf c6).toNat)
  case atStart => exact ⟨0, [], none, 0, Nat.zero_le _, rfl, rfl, rfl, ⟨rfl, Or.inl ⟨rfl, rfl⟩⟩, Below.refl _ _⟩
  case round =>
    obtain ⟨i, L, sd, sc, hin, hL, rfl, rfl, hown, hB⟩ := hrel
    have HL := hid hL
    have HO := hid hown
    have HB := hid hB
    have hLl : L.length ≤ 4000 := by rw [hL]; have := encL_len (fun i => xs.getD i 0) (fun i => ks.getD i 0) i; omega
    clear hL hown hB
    by_cases hlt : i < n
    · have hix : i < xs.length := by rw [HX.out]; exact hlt
      have hik : i < ks.length := by rw [HK.out]; exact hlt
      obtain ⟨p1, rfl, hc1⟩ := H1.out i hix
      obtain ⟨p2, rfl, hc2⟩ := H2.out i hik
      replace hc1 := cell_later HB.out hc1
      replace hc2 := cell_later HB.out hc2
      have HS := hid (show encL (fun i => xs.getD i 0) (fun i => ks.getD i 0) (i + 1) = L ++ (if ks[i] % 2 == 1 then bysB (xs[i] % 2097152) else []) from by
        simp only [encL]
        rw [← HL.out]
        simp [List.getD_eq_getElem?_getD, hix, hik])
      obtain ⟨xv, hxv⟩ : ∃ x, xs[i] = x := ⟨_, rfl⟩
      obtain ⟨kv, hkv⟩ : ∃ x, ks[i] = x := ⟨_, rfl⟩
      rw [hxv] at hc1 HS
      rw [hkv] at hc2 HS
      clear hxv hkv hix hik
      by_cases hod : kv % 2 = 1
      · have k1 : ((kv : Int) % 2 == 1) = true := by simp; omega
        have k2 : ((kv : Int) % 2 = 1) = True := eq_true (by omega)
        rw [if_pos (by simpa using hod)] at HS
        have HMX := hid (show (xv : Int) % 2097152 = ((xv % 2097152 : Nat) : Int) by omega)
        have HBY := hid (fun w' => ubytes_any (xv % 2097152) w' (Nat.mod_lt _ (by decide)))
        have hbl : (bysB (xv % 2097152)).length ≤ 4 := bysB_len _
        obtain ⟨q, hq⟩ : ∃ q, bysB (xv % 2097152) = q := ⟨_, rfl⟩
        rw [hq] at HS HBY hbl
        clear hq hod
        go_wp2_with fail
        rw [HMX.out]
        refine (HBY.out _).mono ?_
        rintro e w5 ⟨⟨g, rfl, hg⟩, hB5⟩
        have HG := hid hg
        have HO5 := hid (owns_below HO.out hB5)
        have B5 := hid (belowCat HB.out hB5)
        have HOB := hid (show ∀ k, (Value.slice sd L.length sc).ownBlock = some k → w.heap.size ≤ k from fun k hk => (HO.out.lt k hk).1)
        obtain ⟨m, hm⟩ : ∃ m, q.length = m := ⟨_, rfl⟩
        have HM := hid hm
        rw [hm] at hbl ⊢
        obtain ⟨l, hl⟩ : ∃ l, L.length = l := ⟨_, rfl⟩
        have HLL := hid hl
        rw [hl] at hLl HO5 HOB
        rw [hl]
        clear hg hB5 hc1 hc2 k1 k2 hm hl
        go_wp2_with (at_builtin; refine wpList_append_own _ rfl (.tmp 19) (.tmp 25) 40 rfl w.heap.size 5 i0 _ 1 1 Tryd.underlying40 hi hz0 hz1 hz2 rfl (by decide) _ l (ucs L) rfl HO5.out ⟨g, 0, none⟩ m m (ucs q) rfl (by rw [← HM.out]; simp [ucs]) (ucs_news HG.out) (ucs_one q) (by unfold maxLen; omega) (by omega) B5.out.size ?_; intro v6 w6 hown' hgrow _; obtain ⟨sd', sc', rfl⟩ := owns_shape hown'; have HO6 := hid hown'; have B6 := hid (B5.out.grown hgrow B5.out.size HOB.out); clear hown' hgrow)
        go_roundw
        case rel =>
          have h6 := HO6.out
          rw [← ucs_append] at h6
          have e : (L ++ q).length = l + m := by rw [List.length_append, HLL.out, HM.out]
          exact ⟨i + 1, L ++ q, sd', sc', by omega, HS.out.symm, by rw [e], by go_num, by rw [e]; exact h6, B6.out⟩
        case measure => simp [intOf]; omega
      · have k1 : ((kv : Int) % 2 == 1) = false := by simp; omega
        have k2 : ((kv : Int) % 2 = 1) = False := eq_false (by omega)
        rw [if_neg (by simpa using hod)] at HS
        clear hod
        go_wp2
        go_roundw
        case rel => exact ⟨i + 1, L, sd, sc, by omega, by rw [HS.out]; simp, rfl, by go_num, HO.out, HB.out⟩
        case measure => simp [intOf]; omega
    · have hie : i = n := by omega
      subst hie
      clear hlt
      go_wp2
      go_ret
      rw [← HL.out]
      exact ⟨sd, sc, rfl, HO.out, HB.out⟩
end Go.Proofs.YtjcnkigadlmpgaaDoor
