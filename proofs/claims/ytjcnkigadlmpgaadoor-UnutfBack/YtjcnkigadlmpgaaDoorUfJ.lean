/- The document's Points (layer 9), over this seat's translation. Conditions: bytes below 256; at most a thousand. -/
import Derived.Test.YtjcnkigadlmpgaaDoorUfI
namespace Go.Proofs.YtjcnkigadlmpgaaDoor
open Go.RowKit
set_option linter.unusedVariables false

theorem dps_fuel (n : Nat) : ∀ (l : List Nat) (f g : Nat), l.length ≤ n → l.length ≤ f → l.length ≤ g → dps f l = dps g l := by
  induction n with
  | zero =>
    intro l f g h _ _
    obtain rfl : l = [] := List.length_eq_zero_iff.1 (by omega)
    cases f <;> cases g <;> rfl
  | succ n ih =>
    intro l f g h hf hg
    cases l with
    | nil => cases f <;> cases g <;> rfl
    | cons c t =>
      obtain ⟨f, rfl⟩ : ∃ k, f = k + 1 := ⟨f - 1, by simp at hf; omega⟩
      obtain ⟨g, rfl⟩ : ∃ k, g = k + 1 := ⟨g - 1, by simp at hg; omega⟩
      simp only [dps]
      by_cases h0 : (dpB (c :: t)).2 = 0
      · rw [if_pos h0, if_pos h0]
      · rw [if_neg h0, if_neg h0]
        have hd : ((c :: t).drop (dpB (c :: t)).2).length ≤ t.length := by rw [List.length_drop]; simp; omega
        simp only [List.length_cons] at h hf hg
        rw [ih _ f g (by omega) (by omega) (by omega)]
/-- the document's points of bytes, each with how many bytes it has -/
def dpsA (l : List Nat) : Option (List (Nat × Nat)) := dps l.length l
theorem dpsA_nil : dpsA [] = some [] := rfl
theorem dpsA_stop {l : List Nat} (h0 : l ≠ []) (h : (dpB l).2 = 0) : dpsA l = none := by
  cases l with
  | nil => exact absurd rfl h0
  | cons c t => simp [dpsA, dps, h]
theorem dpsA_next {l : List Nat} (h0 : l ≠ []) (h : (dpB l).2 ≠ 0) : dpsA l = (dpsA (l.drop (dpB l).2)).map (dpB l :: ·) := by
  cases l with
  | nil => exact absurd rfl h0
  | cons c t =>
    have hd : ((c :: t).drop (dpB (c :: t)).2).length ≤ t.length := by rw [List.length_drop]; simp; omega
    show dps (t.length + 1) (c :: t) = _
    simp only [dps, if_neg h, dpsA]
    rw [dps_fuel t.length _ t.length _ hd hd (Nat.le_refl _)]
theorem dpsA_read (l : List Nat) (hb : ∀ b ∈ l, b < 256) : (∀ ps, dpsA l = some ps → good (runL us0 l) = true ∧ lanes us0 l = flatL ps) ∧ (dpsA l = none → good (runL us0 l) = false) :=
  read_dps l.length l us0 (Nat.le_refl _) hb rfl rfl
theorem dp_small (l : List Nat) (hb : ∀ b ∈ l, b < 256) : (dpB l).1 < 4294967296 ∧ (dpB l).2 ≤ l.length := by
  by_cases h : (dpB l).2 = 0
  · refine ⟨?_, by omega⟩
    cases l with
    | nil => decide
    | cons c t =>
      by_cases h7 : c ≤ 127
      · simp [dpB, h7] at h
      · by_cases hm : mrB c = 0 ∨ t.length < mrB c
        · simp [dpB, h7, hm]
        · cases hct : ctB (mrB c) t (lwB c) (hgB c) (vrB c) with
          | none => simp [dpB, h7, hm, hct]
          | some u => simp [dpB, h7, hm, hct] at h
  · obtain ⟨_, h2, h3⟩ := dp_len l hb h
    exact ⟨h3, h2⟩
theorem slice_u8 {w : World} {x : Addr} {l : List Nat} (h : U8s w (some x) l) (k : Nat) : U8s w (some (x.add k)) (l.drop k) := h.drop k
theorem secs_snoc9 (l : List Nat) (p : Nat) : secs (l ++ [p]) = secs l ++ [.int .u32 (p : Int)] := by simp [secs]

/-- what Points answers -/
def PtsR (w w' : World) (T : Option (List (Nat × Nat))) (e : Ending) : Prop :=
  (T = none ∧ e = .returned (.tuple #[.slice none 0 0, .bool false])) ∨ ∃ ps v, T = some ps ∧ e = .returned (.tuple #[v, .bool true]) ∧ w'.ownsRow w.heap.size 30 1 v ps.length (secs (ps.map (·.1)))
set_option maxHeartbeats 3200000 in
set_option maxRecDepth 20000 in
theorem rpoints_any (ad : Option Addr) (c : Nat) (l : List Nat) (w : World) (h1 : U8s w ad l) (hl : ∀ x ∈ l, x < 256) (hn : l.length ≤ 1000) (hcp : l.length ≤ c) :
    Calls Tryd.prog 17 #[.slice ad l.length c] w fun e w' => PtsR w w' (dpsA l) e ∧ Below w.heap.size w w' := by
  obtain ⟨i0, hi, hz0, hz1, hz2⟩ := info_parts Tryd.infoU32
  have H1 := hid h1
  have HL := hid hl
  obtain ⟨T, hT⟩ : ∃ T, dpsA l = T := ⟨_, rfl⟩
  have HT := hid hT
  rw [hT]
  clear h1 hl hT
  go_enter Tryd.func17, Tryd.ntmps17
  go_wp2_with fail
  go_loopw [0, 4] (fun c0 c4 wr => ∃ (rest : List Nat) (done : List (Nat × Nat)) (ad' : Option Addr) (cc : Nat), c0 = .slice ad' rest.length cc ∧ U8s w ad' rest ∧ (∀ x ∈ rest, x < 256) ∧ rest.length + done.length ≤ l.length ∧ rest.length ≤ cc ∧ wr.ownsRow w.heap.size 30 1 c4 done.length (secs (done.map (·.1))) ∧ dpsA l = (dpsA rest).map (done ++ ·) ∧ Below w.heap.size w wr) (fun c0 _ _ => match c0 with | .slice _ n _ => n | _ => 0)
  case atStart => exact ⟨l, [], ad, c, rfl, H1.out, HL.out, by simp, hcp, ⟨rfl, Or.inl ⟨rfl, rfl⟩⟩, by cases dpsA l <;> simp, Below.refl _ _⟩
  case round =>
    obtain ⟨rest, done, ad', cc, rfl, hu, hlt, hlen, hcc, hown, hds, hB⟩ := hrel
    obtain ⟨sd, sc, rfl⟩ := owns_shape hown
    by_cases h0 : rest = []
    · subst h0
      have HR := hid (show T = some done from by rw [← HT.out, hds, dpsA_nil]; simp)
      have HOW := hid hown
      have HB := hid hB
      clear hu hlt hown hds hB
      go_wp2
      refine bodyPost_ret (v := .tuple #[.slice sd done.length sc, .bool true]) (by simp [results, Tryd.results17, go_sem]) rfl ?_
      exact ⟨Or.inr ⟨done, _, HR.out, rfl, HOW.out⟩, HB.out⟩
    · have hpos : 0 < rest.length := List.length_pos_iff.2 h0
      have hin : (0 : Int) < (rest.length : Int) := by omega
      have HP := hid (rpoint_any ad' cc rest wr (hu.below hB) hlt (by omega) h0)
      have HU := hid hu
      have HLT := hid hlt
      have HOW := hid hown
      have HB := hid hB
      have HSM := hid (dp_small rest hlt)
      by_cases hz : (dpB rest).2 = 0
      · have HR := hid (show T = none from by rw [← HT.out, hds, dpsA_stop h0 hz]; rfl)
        obtain ⟨p, hp⟩ : ∃ p, (dpB rest).1 = p := ⟨_, rfl⟩
        rw [hp, hz] at HP
        clear hu hlt hown hB hds hz
        go_wp2_with fail
        refine HP.out.mono ?_
        rintro e w2 ⟨rfl, hw⟩
        subst hw
        go_wp2
        refine bodyPost_ret (v := .tuple #[.slice none 0 0, .bool false]) (by simp [results, Tryd.results17, go_sem]) rfl ?_
        exact ⟨Or.inl ⟨HR.out, rfl⟩, HB.out⟩
      · obtain ⟨x, rfl, _⟩ := hu 0 hpos
        have HE := hid (dpsA_next h0 hz)
        have HDS := hid hds
        have HSL := hid (slice_u8 hu (dpB rest).2)
        obtain ⟨p, hp⟩ : ∃ p, (dpB rest).1 = p := ⟨_, rfl⟩
        obtain ⟨k, hk⟩ : ∃ k, (dpB rest).2 = k := ⟨_, rfl⟩
        rw [hp, hk] at HP HSM
        rw [hk] at HE HSL hz
        have hk0 : ((k : Int) == 0) = false := by simp; omega
        have hk1 : ((k : Int) = 0) = False := eq_false (by omega)
        have hkn : (k : Int) ≤ (rest.length : Int) := by have := HSM.out.2; omega
        clear hu hlt hown hB hds
        go_wp2_with fail
        refine HP.out.mono ?_
        rintro e w2 ⟨rfl, hw⟩
        subst hw
        have HOC := hid (show (w2.alloc (.cells #[.int .u32 (p : Int)] 30)).ownsRow w.heap.size 30 1 (.slice sd done.length sc) done.length (secs (done.map (·.1))) from owns_below HOW.out ((Below.refl _ _).alloc (Nat.le_refl _) _))
        have BC := hid (show Below w.heap.size w (w2.alloc (.cells #[.int .u32 (p : Int)] 30)) from blw_alloc HB.out)
        have HOB := hid (show ∀ j, (Value.slice sd done.length sc).ownBlock = some j → w.heap.size ≤ j from fun j hj => (HOC.out.lt j hj).1)
        go_wp2_with (at_builtin; refine wpList_append_lies _ rfl (.tmp 17) (.tmp 19) 22 rfl w.heap.size 30 i0 _ 1 4 Tryd.underlying22 hi hz0 hz1 hz2 rfl (by decide) (.slice sd done.length sc) done.length (secs (done.map (·.1))) rfl HOC.out ⟨w2.heap.size, 0, none⟩ 1 1 [.int .u32 (p : Int)] rfl rfl ?c1 ?c2 (by decide) ?c3 ?c4 ?c5 _ rfl ?_)
        case c1 => exact World.news_of_block (heap_alloc_at _ _)
        case c2 => intro u hu; simp only [List.mem_cons, List.not_mem_nil, or_false] at hu; rcases hu with rfl; rfl
        case c3 => unfold maxLen; omega
        case c4 => omega
        case c5 => exact BC.out.size
        intro g7 cap7 w7 hown' hgrow hat hlt2
        have HO7 := hid (show w7.ownsRow w.heap.size 30 1 (.slice (some ⟨g7, 0, none⟩) (done.length + 1) cap7) (done ++ [dpB rest]).length (secs ((done ++ [dpB rest]).map (·.1))) from by
          rw [List.map_append, List.map_cons, List.map_nil, secs_snoc9, hp, List.length_append]; simpa [secs] using hown')
        have B7 := hid (BC.out.grown hgrow BC.out.size HOB.out)
        have HU7 := hid (show U8s w (if cc = k then some x else some (x.add k)) (rest.drop k) from by
          split
          · intro q hq; rw [List.length_drop] at hq; omega
          · exact HSL.out)
        clear hown' hgrow hat hlt2
        go_wp2
        go_roundw
        case rel => exact ⟨rest.drop k, done ++ [dpB rest], _, cc - k, by rw [List.length_drop], HU7.out, fun y hy => HLT.out y (List.mem_of_mem_drop hy), by rw [List.length_drop, List.length_append, List.length_singleton]; omega, by rw [List.length_drop]; omega, HO7.out, by rw [HDS.out, HE.out]; cases dpsA (rest.drop k) <;> simp, B7.out⟩
        case measure => show rest.length - k < rest.length; omega
end Go.Proofs.YtjcnkigadlmpgaaDoor
