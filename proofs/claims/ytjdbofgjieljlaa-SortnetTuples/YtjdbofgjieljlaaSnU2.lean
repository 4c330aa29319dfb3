/- The law's 'tuples': its two arrays of rows, filled. Over this seat's translation. -/
import Derived.Test.YtjdbofgjieljlaaSnT2
import Derived.Test.YtjdbofgjieljlaaIv
import Derived.Deep.CutRange
import Derived.Deep.AppendLies
namespace Go.Proofs.Ytjdbofgjieljlaa
open Go.RowKit

def lanesOf (n wd : Nat) : List Nat := (List.range wd).map fun k => k * n
def inRows (ts : List Tl) (wd : Nat) : List (List Nat) := ts.map fun t => (List.range wd).map fun k => t.l.getD k 0
theorem getD_at {α : Type} (l : List α) (i : Nat) (d : α) (h : i < l.length) : l.getD i d = l[i] := by rw [List.getD_eq_getElem?_getD, List.getElem?_eq_getElem h]; rfl
theorem outRow (f : Nat → Nat) (n wd i : Nat) (hi : i < n) : ((tups f (lanesOf n wd) n).getD i []).length = wd ∧ ∀ k, k < wd → ((tups f (lanesOf n wd) n).getD i []).getD k 0 = f (k * n + i) := by
  rw [getD_at _ _ _ (by rw [tups_len]; exact hi), tups_at]
  refine ⟨by simp [tup, lanesOf], fun k hk => ?_⟩
  rw [getD_at _ _ _ (by simp [tup, lanesOf]; exact hk)]
  simp [tup, lanesOf]
theorem inRow (ts : List Tl) (wd i : Nat) (hi : i < ts.length) : ((inRows ts wd).getD i []).length = wd ∧ ∀ k, k < wd → ((inRows ts wd).getD i []).getD k 0 = ts[i].l.getD k 0 := by
  rw [getD_at _ _ _ (by simp [inRows]; exact hi)]
  simp only [inRows, List.getElem_map]
  refine ⟨by simp, fun k hk => ?_⟩
  rw [getD_at _ _ _ (by simp; exact hk)]
  simp
theorem cut_mid (O I : List (List Nat)) (i k : Nat) (hi : i < O.length) : (cutR O i k ++ cutR I i k)[i]'(by rw [List.length_append, cutR_len]; omega) = (O.getD i []).take k := by
  rw [List.getElem_append_left (by rw [cutR_len]; exact hi), cutR_at, if_neg (Nat.lt_irrefl _), if_pos rfl]

theorem Fill.more {w0 w : World} {B0 : Nat} {h : Hn} {A A1 : Ars} {bo bi n : Nat} {F1 : Nat → Prop} {vs : List Value} {ls : List (List Nat)} {e e' : Nat} (f : Fill w0 B0 h A bo bi n w F1 A1 vs ls e) (he : e ≤ e') : Fill w0 B0 h A bo bi n w F1 A1 vs ls e' :=
  { f with es := Nat.le_trans f.es (by omega) }
theorem Fill.outs {w0 w : World} {B0 : Nat} {h : Hn} {A A1 : Ars} {bo bi n wd : Nat} {F1 : Nat → Prop} {vs : List Value} {O I : List (List Nat)} {e : Nat} (f : Fill w0 B0 h A bo bi n w F1 A1 vs (O ++ I) e) (hO : O.length = n) (hl : ∀ j, j < n → (O.getD j []).length = wd) (hw : 0 < wd) : ∀ j, j < n → ∃ g cap, w.cell? ⟨bo, j, none⟩ = some (.slice (some ⟨g, 0, none⟩) wd cap) ∧ Us w (some ⟨g, 0, none⟩) (O.getD j []) := fun j hj => by
  have hv : j < vs.length := by rw [f.len]; omega
  obtain ⟨ad, cap, h1, h2⟩ := f.rows.us j hv
  have e1 : (O ++ I)[j]'(by rw [← f.rows.len]; exact hv) = O.getD j [] := by rw [List.getElem_append_left (by omega), getD_at]
  rw [e1, hl j hj] at h1
  rw [e1] at h2
  have hc : w.cell? ⟨bo, j, none⟩ = some (.slice ad wd cap) := cell_of_heap (i := j) f.ho (by rw [← h1]; simp [hj, hv])
  have ho := f.rows.own j hv
  rw [h1, e1, hl j hj] at ho
  obtain ⟨g, rfl, _⟩ := owns_cell ho hw
  exact ⟨g, cap, hc, h2⟩
theorem Fill.ins {w0 w : World} {B0 : Nat} {h : Hn} {A A1 : Ars} {bo bi n wd : Nat} {F1 : Nat → Prop} {vs : List Value} {O I : List (List Nat)} {e : Nat} (f : Fill w0 B0 h A bo bi n w F1 A1 vs (O ++ I) e) (hO : O.length = n) (hI : I.length = n) (hl : ∀ j, j < n → (I.getD j []).length = wd) : ∀ j, j < n → ∃ ad cap, w.cell? ⟨bi, j, none⟩ = some (.slice ad wd cap) ∧ Us w ad (I.getD j []) := fun j hj => by
  have hv : n + j < vs.length := by rw [f.len]; omega
  obtain ⟨ad, cap, h1, h2⟩ := f.rows.us (n + j) hv
  have e1 : (O ++ I)[n + j]'(by rw [← f.rows.len]; exact hv) = I.getD j [] := by
    rw [List.getElem_append_right (by omega), getD_at _ _ _ (by omega)]; simp [hO]
  rw [e1, hl j hj] at h1
  rw [e1] at h2
  exact ⟨ad, cap, cell_of_heap (i := j) f.hi (by rw [← h1]; simp [List.getElem?_drop, hv]), h2⟩
def offL (l m : List (List Nat)) (x : List Nat) (k : Nat) : Int := ((l.take k).count x : Int) - ((m.take k).count x : Int)
theorem offL_succ (l m : List (List Nat)) (x : List Nat) (k : Nat) (h1 : k < l.length) (h2 : k < m.length) : offL l m x (k + 1) = offL l m x k + (if l.getD k [] = x then 1 else 0) - (if m.getD k [] = x then 1 else 0) := by
  unfold offL
  rw [getD_at _ _ _ h1, getD_at _ _ _ h2, List.take_succ_eq_append_getElem h1, List.take_succ_eq_append_getElem h2, List.count_append, List.count_append, List.count_singleton, List.count_singleton]
  simp only [beq_iff_eq]
  split <;> split <;> omega
theorem offL_bd (l m : List (List Nat)) (x : List Nat) (k : Nat) : -(k : Int) ≤ offL l m x k ∧ offL l m x k ≤ k := by
  unfold offL
  have h1 : (l.take k).count x ≤ k := Nat.le_trans (List.count_le_length) (by simp; omega)
  have h2 : (m.take k).count x ≤ k := Nat.le_trans (List.count_le_length) (by simp; omega)
  omega
theorem offL_all (l m : List (List Nat)) (x : List Nat) (h : m.Perm l) : offL l m x l.length = 0 := by
  unfold offL
  have h1 : m.take l.length = m := by rw [← h.length_eq]; exact List.take_length
  rw [h1, List.take_length, h.count_eq]; omega
structure Sm (w0 w : World) : Prop where
  c : ∀ a, w.cell? a = w0.cell? a
  b : Below w0.heap.size w0 w
theorem Sm.dn {w0 w : World} (s : Sm w0 w) (q : Nat) : Sm w0 (w.drewN q) := ⟨fun a => s.c a, belowDN s.b q⟩
theorem Sm.us {w0 w : World} (s : Sm w0 w) {ad : Option Addr} {l : List Nat} (h : Us w0 ad l) : Us w ad l := fun k hk => by
  obtain ⟨x, h1, h2⟩ := h k hk
  exact ⟨x, h1, (s.c _).trans h2⟩
theorem us_same {w0 w : World} (s : ∀ a, w.cell? a = w0.cell? a) {ad : Option Addr} {l : List Nat} (h : Us w0 ad l) : Us w ad l := fun k hk => by
  obtain ⟨x, h1, h2⟩ := h k hk
  exact ⟨x, h1, (s _).trans h2⟩
theorem cell_dn2 {w : World} {a : Addr} {v : Value} (k : Nat) (h : w.cell? a = some v) : (w.drewN k).cell? a = some v := h
theorem us_two {w : World} {g : Nat} {l : List Nat} (h : Us w (some ⟨g, 0, none⟩) l) (k : Nat) (hk : k < l.length) : w.cell? ⟨g, k, none⟩ = some (.int .u32 (l.getD k 0 : Int)) := by
  obtain ⟨x, h1, h2⟩ := h k hk
  cases h1
  rw [add_plain] at h2
  rw [h2, getD_at _ _ _ hk]
theorem cut_nextO (O I : List (List Nat)) (i k v : Nat) (row : List Nat) (hi : i < O.length) (hk : k < (O.getD i []).length) (hrow : (cutR O i k ++ cutR I i k)[i]'(by rw [List.length_append, cutR_len]; omega) = row) (hv : (O.getD i []).getD k 0 = v) : (cutR O i k ++ cutR I i k).set i (row ++ [v]) = cutR O i (k + 1) ++ cutR I i k := by
  rw [List.set_append_left _ _ (by rw [cutR_len]; exact hi)]
  rw [List.getElem_append_left (by rw [cutR_len]; exact hi)] at hrow
  rw [← hrow, ← hv, cutR_succ O i k hi hk]
theorem cut_midI (O I : List (List Nat)) (i k n : Nat) (hn : O.length = n) (hi : i < I.length) : (cutR O i (k + 1) ++ cutR I i k)[n + i]'(by rw [List.length_append, cutR_len, cutR_len]; omega) = (I.getD i []).take k := by
  rw [List.getElem_append_right (by rw [cutR_len]; omega)]
  rw [cutR_at]
  have e : n + i - (cutR O i (k + 1)).length = i := by rw [cutR_len]; omega
  simp only [e, Nat.lt_irrefl, if_false, if_true]
theorem cut_nextI (O I : List (List Nat)) (i k u n : Nat) (hn : O.length = n) (hi : i < I.length) (hk : k < (I.getD i []).length) (hu : (I.getD i []).getD k 0 = u) : (cutR O i (k + 1) ++ cutR I i k).set (n + i) ((I.getD i []).take k ++ [u]) = cutR O i (k + 1) ++ cutR I i (k + 1) := by
  rw [List.set_append_right _ _ (by rw [cutR_len]; omega)]
  have e : n + i - (cutR O i (k + 1)).length = i := by rw [cutR_len]; omega
  have h1 := cutR_succ I i k hi hk
  rw [cutR_at, if_neg (Nat.lt_irrefl _), if_pos rfl, hu] at h1
  rw [e, h1]
def Reg9 (w0 : World) (B0 : Nat) (h : Hn) (A : Ars) (bo bi n : Nat) (F1 : Nat → Prop) (A1 : Ars) (vs : List Value) (ls : List (List Nat)) (e p v i k : Nat) (sd : Option Addr) (sc : Nat) (row : List Nat) (b5 b12 b13 b14 b15 b16 : Bool) (x34 x41 x42 x43 x44 : Value) (w' : World) : Prop :=
  (b5 = true → x34 = .slice sd k sc) ∧ (b12 = true → x41 = .int .u32 (v : Int)) ∧ (b15 = true → x44 = .pointer (some ⟨bo, i, none⟩)) ∧
  (b12 = false → Fill w0 B0 h A bo bi n w' F1 A1 vs ls e) ∧
  (b12 = true → b14 = false → ∃ F2, Fill w0 B0 h A bo bi n w' F2 (A1.relN p) vs ls (e + 2)) ∧
  (b13 = true → b14 = false → ∃ z, x42 = .slice (some ⟨z, 0, none⟩) 1 1 ∧ w'.heap[z]? = some (.cells #[.int .u32 (v : Int)] 31 (0, 0))) ∧
  (b14 = true → b16 = false → ∃ F2 u2 g cp, x43 = .slice (some ⟨g, 0, none⟩) (k + 1) cp ∧ Fill w0 B0 h A bo bi n u2 F2 (A1.relN p) vs ls (e + 2) ∧ w'.ownsRow B0 31 1 (.slice (some ⟨g, 0, none⟩) (k + 1) cp) (k + 1) (us row ++ [.int .u32 (v : Int)]) ∧ u2.grownBy w' (Value.slice sd k sc).ownBlock ∧ ((Value.slice sd k sc).ownBlock = some g ∨ g = u2.heap.size)) ∧
  (b16 = true → ∃ F2 vs2, Fill w0 B0 h A bo bi n w' F2 (A1.relN p) vs2 (ls.set i (row ++ [v])) (e + 2))
abbrev ord9 (b5 b12 b13 b14 b15 b16 : Bool) : Bool := (!b13 || b12) && (!b14 || (b13 && b5)) && (!b15 || b14) && (!b16 || b15)

set_option maxHeartbeats 6400000 in
theorem tuples_any (h : Hn) (F : Nat → Prop) (A : Ars) (ad : Option Addr) (cap : Nat) (ts : List Tl) (n wd B0 : Nat) (w : World) (a : Ar w h F A) (hF : ∀ g, F g → B0 ≤ g) (hB0 : B0 ≤ w.heap.size) (hT : TLs B0 w ad ts) (hn : ts.length = n) (hn60 : n ≤ 60) (hw2 : 2 ≤ wd) (hw5 : wd ≤ 5) (htop : A.top = n * wd) (hes : A.es.length ≤ 700000000) (hwf : ∀ t ∈ ts, ∀ x ∈ t.l, x < 4294967296)
    (hperm : (tups A.word (lanesOf n wd) n).Perm (inRows ts wd)) (hsort : ∀ j, j + 1 < n → tkey ((tups A.word (lanesOf n wd) n).getD j []) ≤ tkey ((tups A.word (lanesOf n wd) n).getD (j + 1) [])) (hwd : ∀ x, A.word x < 4294967296) :
    Calls Try.prog 18 #[arPtr h, .slice ad n cap, .int .i64 (n : Int), .int .i64 (wd : Int)] w fun e w' => e = .returned (.bool true) ∧ Below B0 w w' := by
  have HA := hid a
  have HF := hid hF
  have HT := hid hT
  obtain ⟨i0, hi, hz0, hz1, hz2⟩ := info_parts Try.infoWord
  have hmk := run_make_rows n n rfl (by omega)
  have HOR := hid (fun i hi => outRow A.word n wd i hi)
  have HIR := hid (fun i hi => inRow ts wd i hi)
  have HOL := hid (tups_len A.word (lanesOf n wd) n)
  have HIL := hid (show (inRows ts wd).length = n by simp [inRows, hn])
  have HTOP := hid htop
  have HNT := hid hn
  obtain ⟨O, hO⟩ : ∃ O, tups A.word (lanesOf n wd) n = O := ⟨_, rfl⟩
  obtain ⟨I, hI⟩ : ∃ I, inRows ts wd = I := ⟨_, rfl⟩
  have HPM := hid hperm
  have HSO := hid hsort
  rw [hO] at HOR HOL HPM HSO
  rw [hI] at HIR HIL HPM
  have HWB := hid hwd
  clear hperm hsort hwd
  clear a hF hT hO hI htop hn
  go_enter Try.func18, Try.ntmps18
  go_wp2_with fail
  clear hmk
  have F0 := hid (show Fill w B0 h A w.heap.size (w.heap.size + 1) n ((w.alloc (.cells (List.replicate n (Value.slice none 0 0)).toArray 29)).alloc (.cells (List.replicate n (Value.slice none 0 0)).toArray 29)) F A (List.replicate (2 * n) (.slice none 0 0)) (cutR O 0 0 ++ cutR I 0 0) 0 from by
    have e1 : (List.replicate (2 * n) (Value.slice none 0 0)).take n = List.replicate n (Value.slice none 0 0) := by rw [List.take_replicate, show min n (2 * n) = n by omega]
    have e2 : (List.replicate (2 * n) (Value.slice none 0 0)).drop n = List.replicate n (Value.slice none 0 0) := by rw [List.drop_replicate, show 2 * n - n = n by omega]
    have e3 : cutR O 0 0 ++ cutR I 0 0 = List.replicate (2 * n) [] := by rw [cutR_zero, cutR_zero, HOL.out, HIL.out, List.replicate_append_replicate, show n + n = 2 * n by omega]
    rw [e3]
    refine ⟨(HA.out.alloc _).alloc _, rfl, rfl, Nat.le_refl _, ((Below.refl _ w).alloc hB0 _).alloc (by simp; omega) _, HF.out, ?_, ?_, ⟨fun z => by have := HA.out.lt _ z; omega, fun z => by have := HA.out.lt _ z; omega⟩, Rows.nil _ _ _ _, by simp, ⟨hB0, by omega, by omega⟩, hB0⟩
    · rw [e1, heap_alloc_old _ _ _ (by simp)]; exact heap_alloc_at _ _
    · rw [e2]; have := heap_alloc_at (w.alloc (.cells (List.replicate n (Value.slice none 0 0)).toArray 29)) (.cells (List.replicate n (Value.slice none 0 0)).toArray 29); rw [World.size_alloc] at this; exact this)
  obtain ⟨bo, hbo⟩ : ∃ b, w.heap.size = b := ⟨_, rfl⟩
  rw [hbo] at F0 ⊢
  obtain ⟨bi, hbi⟩ : ∃ b, bo + 1 = b := ⟨_, rfl⟩
  rw [hbi] at F0 ⊢
  clear hbo hbi
  go_loopw [22] (fun c wr => ∃ (i : Nat) (F1 : Nat → Prop) (A1 : Ars) (vs : List Value), i ≤ n ∧ c = .int .i64 (i : Int) ∧ Fill w B0 h A bo bi n wr F1 A1 vs (cutR O i 0 ++ cutR I i 0) (i * 10)) (fun c _ => n - (intOf c).toNat)
  case atStart => exact ⟨0, F, A, _, Nat.zero_le _, rfl, F0.out⟩
  case round =>
    clear F0
    obtain ⟨i, F1, A1, vs, hil, rfl, f1⟩ := hrel
    have FI := hid f1
    clear f1
    by_cases hin : i < n
    · obtain ⟨wz, rfl⟩ : ∃ y, y = wr := ⟨_, rfl⟩
      go_wp2_with fail
      go_loopw [26] (fun c wr => ∃ (k : Nat) (F1 : Nat → Prop) (A1 : Ars) (vs : List Value), k ≤ wd ∧ c = .int .i64 (k : Int) ∧ Fill w B0 h A bo bi n wr F1 A1 vs (cutR O i k ++ cutR I i k) (i * 10 + k * 2)) (fun c _ => wd - (intOf c).toNat)
      case atStart => exact ⟨0, F1, A1, vs, Nat.zero_le _, rfl, FI.out⟩
      case round =>
        clear FI
        obtain ⟨k, F1, A1, vs, hkl, rfl, f1⟩ := hrel
        by_cases hkw : k < wd
        · have FK := hid f1
          have FD := hid f1.drew
          have HVI := hid (show i < vs.length by rw [f1.len]; omega)
          have HLR := hid (cut_mid O I i k (by rw [HOL.out]; exact hin))
          have HRL := hid (show ((O.getD i []).take k).length = k by rw [List.length_take, (HOR.out i hin).1]; omega)
          obtain ⟨sd, sc, hvs⟩ := owns_shape (f1.rows.own i HVI.out)
          rw [HLR.out, HRL.out] at hvs
          have HVS := hid hvs
          have VT := hid (show (vs.take n).toArray[i]? = some (.slice sd k sc) by rw [← hvs]; simp [hin, HVI.out])
          have hpt : k * n + i < A1.top := by
            rw [f1.top, HTOP.out]
            have : (k + 1) * n ≤ wd * n := Nat.mul_le_mul_right _ hkw
            rw [Nat.add_mul, Nat.one_mul] at this
            rw [Nat.mul_comm n wd]; omega
          have hkn : k * n ≤ 300 := by have : k * n ≤ 5 * 60 := Nat.mul_le_mul (by omega) hn60; omega
          have hesk : A1.es.length ≤ 700001000 := by have := f1.es; omega
          have HW3 := hid (show IntKind.i64.wrap (IntKind.i64.wrap ((k : Int) * (n : Int)) + (i : Int)) = ((k * n + i : Nat) : Int) from by
            have e : (k : Int) * (n : Int) = ((k * n : Nat) : Int) := by simp
            rw [e]
            generalize k * n = X at *
            have e1 : IntKind.i64.wrap (X : Int) = (X : Int) := by rw [IntKind.wrap_i64]; omega
            rw [e1, IntKind.wrap_i64]; omega)
          have HRE := hid (show ∀ F w, Ar w h F A1 → Calls Try.prog 28 #[arPtr h, .int .i64 (IntKind.i64.wrap (IntKind.i64.wrap ((k : Int) * (n : Int)) + (i : Int)))] w fun e w' => e = .returned (.int .u32 (A1.word (k * n + i) : Nat)) ∧ ∃ F', Ar w' h F' (A1.relN (k * n + i)) ∧ Step w F w' F' from fun F w a => by
            rw [HW3.out]; exact ar_rel_yes h F A1 (k * n + i) w a hpt (by omega))
          have hx1 := Ars.word_lt f1.ar.ok (k * n + i)
          have HKO := hid (show k < (O.getD i []).length by rw [(HOR.out i hin).1]; exact hkw)
          have HKI := hid (show k < (I.getD i []).length by rw [(HIR.out i (by rw [HNT.out]; exact hin)).1]; exact hkw)
          have HVO := hid (show (O.getD i []).getD k 0 = A1.word (k * n + i) by rw [(HOR.out i hin).2 k hkw, f1.word])
          generalize (O.getD i []).take k = row at *
          clear hvs f1 hpt hkn hesk hx1
          obtain ⟨v, hv⟩ : ∃ v, A1.word (k * n + i) = v := ⟨_, rfl⟩
          rw [hv] at HRE HVO
          have HVW := hid hv
          clear hv
          go_wp2_with fail
          go_cut [26] from 26 to 69 (fun c wx => c = .int .i64 (k : Int) ∧ ∃ F2 vs2, Fill w B0 h A bo bi n wx F2 (A1.relN (k * n + i)) vs2 ((cutR O i k ++ cutR I i k).set i (row ++ [v])) (i * 10 + k * 2 + 2))
          case first =>
            refine wp_region_held_drew (S := fun _ => True) (by kernel_rfl) trivial (fun _ => ?_)
            refine tk_at (i := 0) (d := some 29) (v := ?_) rfl rfl (by kernel_rfl) (by kernel_rfl) (by kernel_rfl) (fun _ _ _ h => h) (Or.inl ⟨by rfl, ?_⟩) trivial ?_
            rotate_left
            · (intro w hSw; (try dsimp only at hSw); go_simp; try (with_reducible rfl))
            simp only [Act.put, List.setIfInBounds_toArray, List.set_cons_zero, List.set_cons_succ]
            refine tk_at (i := 1) (d := some 30) (v := ?_) rfl rfl (by kernel_rfl) (by kernel_rfl) (by kernel_rfl) (fun _ _ _ h => h) (Or.inl ⟨by rfl, ?_⟩) trivial ?_
            rotate_left
            · (intro w hSw; (try dsimp only at hSw); go_simp; try (with_reducible rfl))
            simp only [Act.put, List.setIfInBounds_toArray, List.set_cons_zero, List.set_cons_succ]
            refine tk_at (i := 2) (d := some 31) (v := ?_) rfl rfl (by kernel_rfl) (by kernel_rfl) (by kernel_rfl) (fun _ _ _ h => h) (Or.inl ⟨by rfl, ?_⟩) trivial ?_
            rotate_left
            · (intro w hSw; (try dsimp only at hSw); go_simp; try (with_reducible rfl))
            simp only [Act.put, List.setIfInBounds_toArray, List.set_cons_zero, List.set_cons_succ]
            refine tk_at (i := 3) (d := some 32) (v := ?_) rfl rfl (by kernel_rfl) (by kernel_rfl) (by kernel_rfl) (fun _ _ _ h => h) (Or.inl ⟨by rfl, ?_⟩) trivial ?_
            rotate_left
            · (intro w hSw; (try dsimp only at hSw); go_simp; try (with_reducible rfl))
            simp only [Act.put, List.setIfInBounds_toArray, List.set_cons_zero, List.set_cons_succ]
            refine tk_at (i := 4) (d := some 33) (v := ?_) rfl rfl (by kernel_rfl) (by kernel_rfl) (by kernel_rfl) (fun _ _ _ h => h) (Or.inl ⟨by rfl, ?_⟩) trivial ?_
            rotate_left
            · (intro w hSw; (try dsimp only at hSw); go_simp; try (with_reducible rfl))
            simp only [Act.put, List.setIfInBounds_toArray, List.set_cons_zero, List.set_cons_succ]
            refine tk_at (i := 6) (d := some 35) (v := ?_) rfl rfl (by kernel_rfl) (by kernel_rfl) (by kernel_rfl) (fun _ _ _ h => h) (Or.inl ⟨by rfl, ?_⟩) trivial ?_
            rotate_left
            · (intro w hSw; (try dsimp only at hSw); go_simp; try (with_reducible rfl))
            simp only [Act.put, List.setIfInBounds_toArray, List.set_cons_zero, List.set_cons_succ]
            refine tk_at (i := 7) (d := some 36) (v := ?_) rfl rfl (by kernel_rfl) (by kernel_rfl) (by kernel_rfl) (fun _ _ _ h => h) (Or.inl ⟨by rfl, ?_⟩) trivial ?_
            rotate_left
            · (intro w hSw; (try dsimp only at hSw); go_simp; try (with_reducible rfl))
            simp only [Act.put, List.setIfInBounds_toArray, List.set_cons_zero, List.set_cons_succ]
            refine tk_at (i := 8) (d := some 37) (v := ?_) rfl rfl (by kernel_rfl) (by kernel_rfl) (by kernel_rfl) (fun _ _ _ h => h) (Or.inl ⟨by rfl, ?_⟩) trivial ?_
            rotate_left
            · (intro w hSw; (try dsimp only at hSw); go_simp; try (with_reducible rfl))
            simp only [Act.put, List.setIfInBounds_toArray, List.set_cons_zero, List.set_cons_succ]
            refine tk_at (i := 9) (d := some 38) (v := ?_) rfl rfl (by kernel_rfl) (by kernel_rfl) (by kernel_rfl) (fun _ _ _ h => h) (Or.inl ⟨by rfl, ?_⟩) trivial ?_
            rotate_left
            · (intro w hSw; (try dsimp only at hSw); go_simp; try (with_reducible rfl))
            simp only [Act.put, List.setIfInBounds_toArray, List.set_cons_zero, List.set_cons_succ]
            refine tk_at (i := 10) (d := some 39) (v := ?_) rfl rfl (by kernel_rfl) (by kernel_rfl) (by kernel_rfl) (fun _ _ _ h => h) (Or.inl ⟨by rfl, ?_⟩) trivial ?_
            rotate_left
            · (intro w hSw; (try dsimp only at hSw); go_simp; try (with_reducible rfl))
            simp only [Act.put, List.setIfInBounds_toArray, List.set_cons_zero, List.set_cons_succ]
            refine tk_at (i := 11) (d := some 40) (v := ?_) rfl rfl (by kernel_rfl) (by kernel_rfl) (by kernel_rfl) (fun _ _ _ h => h) (Or.inl ⟨by rfl, ?_⟩) trivial ?_
            rotate_left
            · (intro w hSw; (try dsimp only at hSw); go_simp; try (with_reducible rfl))
            simp only [Act.put, List.setIfInBounds_toArray, List.set_cons_zero, List.set_cons_succ]
            have HI0 := hid (show Reg9 w B0 h A bo bi n F1 A1 vs (cutR O i k ++ cutR I i k) (i * 10 + k * 2) (k * n + i) v i k sd sc row false false false false false false u34 u41 u42 u43 u44 wr.drew from ⟨fun h => (by cases h), fun h => (by cases h), fun h => (by cases h), fun _ => FD.out, fun h => (by cases h), fun h => (by cases h), fun h => (by cases h), fun h => (by cases h)⟩)
            refine wpAnyH_inv (fun listed a w' => ∃ (b5 b12 b13 b14 b15 b16 : Bool) (x34 x41 x42 x43 x44 : Value), listed = #[true, true, true, true, true, b5, true, true, true, true, true, true, b12, b13, b14, b15, b16] ∧ a = { tmps := #[arPtr h, Value.slice ad n cap, Value.int IntKind.i64 (n : Int), Value.int IntKind.i64 (wd : Int), undef, undef, undef, undef, Value.bool false, Value.slice (some ⟨bo, 0, none⟩) n n, Value.slice (some ⟨bi, 0, none⟩) n n, Value.int IntKind.i64 (i : Int), Value.int IntKind.i64 (k : Int), u13, undef, undef, undef, Value.int IntKind.i64 (n : Int), Value.slice (some ⟨bo, 0, none⟩) n n, Value.int IntKind.i64 (n : Int), Value.slice (some ⟨bi, 0, none⟩) n n, Value.int IntKind.i64 (n : Int), Value.int IntKind.i64 (i : Int), Value.bool true, Value.int IntKind.i64 (i : Int), Value.int IntKind.i64 (wd : Int), Value.int IntKind.i64 (k : Int), Value.bool true, Value.int IntKind.i64 (k : Int), Value.slice (some ⟨bo, 0, none⟩) n n, Value.int IntKind.i64 (i : Int), Value.slice (some ⟨bo, 0, none⟩) n n, Value.int IntKind.i64 (i : Int), Value.pointer (some ⟨bo, i, none⟩), x34, arPtr h, Value.int IntKind.i64 (k : Int), Value.int IntKind.i64 (n : Int), Value.int IntKind.i64 (IntKind.i64.wrap ((k : Int) * (n : Int))), Value.int IntKind.i64 (i : Int), Value.int IntKind.i64 (IntKind.i64.wrap (IntKind.i64.wrap ((k : Int) * (n : Int)) + (i : Int))), x41, x42, x43, x44, u45, u46, u47, u48, u49, u50, u51, u52, u53, u54, u55, u56, u57, u58, u59, u60, u61, u62, u63, u64, u65, u66, u67, u68, u69, u70, undef, undef, undef, undef, undef, undef, undef, undef, undef, undef, undef, undef, undef, undef, undef, undef, undef, undef, undef, undef, undef, undef, undef, undef, undef, undef, undef, undef, undef, undef, undef, undef, undef, undef, undef, undef, undef, undef, undef, undef, undef, undef, undef, undef, undef, undef, undef, undef], defers := [] } ∧ ord9 b5 b12 b13 b14 b15 b16 = true ∧ Reg9 w B0 h A bo bi n F1 A1 vs (cutR O i k ++ cutR I i k) (i * 10 + k * 2) (k * n + i) v i k sd sc row b5 b12 b13 b14 b15 b16 x34 x41 x42 x43 x44 w') ?_ _ _ _ _ (by decide +kernel) ⟨false, false, false, false, false, false, _, _, _, _, _, by kernel_rfl, rfl, rfl, HI0.out⟩
            clear HI0
            intro listed a w' ⟨b5, b12, b13, b14, b15, b16, x34, x41, x42, x43, x44, hl, ha, hord, hr9⟩
            subst hl ha
            have HR9 := hid hr9
            clear hr9
            refine ⟨fun hr => ?_, fun j hj => ?_⟩
            · have hall : (b5 && b12 && b13 && b14 && b15 && b16) = true := by
                clear HR9
                revert b5 b12 b13 b14 b15 b16
                decide +kernel
              simp only [Bool.and_eq_true] at hall
              obtain ⟨⟨⟨⟨⟨rfl, rfl⟩, rfl⟩, rfl⟩, rfl⟩, rfl⟩ := hall
              have HF := hid (HR9.out.2.2.2.2.2.2.2 rfl)
              clear hr hord HR9
              dsimp only
              go_wp2_with fail
              go_meet
              case rel => exact ⟨rfl, HF.out⟩
            · have hcase : (j = 5 ∧ b5 = false ∧ b14 = false ∧ b15 = false ∧ b16 = false) ∨ (j = 12 ∧ b12 = false ∧ b13 = false ∧ b14 = false ∧ b15 = false ∧ b16 = false) ∨ (j = 13 ∧ b12 = true ∧ b13 = false ∧ b14 = false ∧ b15 = false ∧ b16 = false) ∨ (j = 14 ∧ b5 = true ∧ b12 = true ∧ b13 = true ∧ b14 = false ∧ b15 = false ∧ b16 = false) ∨ (j = 15 ∧ b5 = true ∧ b12 = true ∧ b13 = true ∧ b14 = true ∧ b15 = false ∧ b16 = false) ∨ (j = 16 ∧ b5 = true ∧ b12 = true ∧ b13 = true ∧ b14 = true ∧ b15 = true ∧ b16 = false) := by
                refine of_decide_eq_true ((List.all_eq_true (p := fun j => decide ((j = 5 ∧ b5 = false ∧ b14 = false ∧ b15 = false ∧ b16 = false) ∨ (j = 12 ∧ b12 = false ∧ b13 = false ∧ b14 = false ∧ b15 = false ∧ b16 = false) ∨ (j = 13 ∧ b12 = true ∧ b13 = false ∧ b14 = false ∧ b15 = false ∧ b16 = false) ∨ (j = 14 ∧ b5 = true ∧ b12 = true ∧ b13 = true ∧ b14 = false ∧ b15 = false ∧ b16 = false) ∨ (j = 15 ∧ b5 = true ∧ b12 = true ∧ b13 = true ∧ b14 = true ∧ b15 = false ∧ b16 = false) ∨ (j = 16 ∧ b5 = true ∧ b12 = true ∧ b13 = true ∧ b14 = true ∧ b15 = true ∧ b16 = false)))).1 ?_ j hj)
                clear HR9 hj
                revert b5 b12 b13 b14 b15 b16
                decide +kernel
              have HORD := hid hord
              clear hj hord
              rcases hcase with ⟨rfl, rfl, rfl, rfl, rfl⟩ | ⟨rfl, rfl, rfl, rfl, rfl, rfl⟩ | ⟨rfl, rfl, rfl, rfl, rfl, rfl⟩ | ⟨rfl, rfl, rfl, rfl, rfl, rfl, rfl⟩ | ⟨rfl, rfl, rfl, rfl, rfl, rfl, rfl⟩ | ⟨rfl, rfl, rfl, rfl, rfl, rfl, rfl⟩
              · have HQ := hid (show Reg9 w B0 h A bo bi n F1 A1 vs (cutR O i k ++ cutR I i k) (i * 10 + k * 2) (k * n + i) v i k sd sc row true b12 b13 false false false (.slice sd k sc) x41 x42 x43 x44 w' from ⟨fun _ => rfl, HR9.out.2⟩)
                have hld : w'.cell? ⟨bo, i, none⟩ = some (.slice sd k sc) := by
                  cases b12 with
                  | false => exact cell_of_heap (i := i) (HR9.out.2.2.2.1 rfl).ho VT.out
                  | true => obtain ⟨F2, f⟩ := HR9.out.2.2.2.2.1 rfl rfl; exact cell_of_heap (i := i) f.ho VT.out
                clear HR9
                refine wpOp_shut rfl (fun K hK => ?_)
                go_simp
                go_wp2_with fail
                exact hK.out _ _ ⟨trivial, true, b12, b13, false, false, false, _, x41, x42, x43, x44, by kernel_rfl, rfl, by have := HORD.out; revert this; cases b12 <;> cases b13 <;> simp, HQ.out⟩
              · have HFL := hid (HR9.out.2.2.2.1 rfl)
                have HX5 := hid HR9.out.1
                clear HR9
                refine wpOp_shut rfl (fun K hK => ?_)
                go_simp
                refine (HRE.out F1 _ HFL.out.ar).mono ?_
                rintro e u1 ⟨rfl, F2, a2, s2⟩
                have HQ := hid (show Reg9 w B0 h A bo bi n F1 A1 vs (cutR O i k ++ cutR I i k) (i * 10 + k * 2) (k * n + i) v i k sd sc row b5 true false false false false x34 (.int .u32 (v : Int)) x42 x43 x44 u1 from ⟨HX5.out, fun _ => rfl, fun h => (by cases h), fun h => (by cases h), fun _ _ => ⟨F2, HFL.out.rel (k * n + i) a2 s2⟩, fun h => (by cases h), fun h => (by cases h), fun h => (by cases h)⟩)
                clear a2 s2
                go_wp2_with fail
                exact hK.out _ _ ⟨trivial, b5, true, false, false, false, false, x34, _, x42, x43, x44, by kernel_rfl, rfl, by cases b5 <;> rfl, HQ.out⟩
              · obtain ⟨F2, f⟩ := HR9.out.2.2.2.2.1 rfl rfl
                obtain rfl := HR9.out.2.1 rfl
                have HX5 := hid HR9.out.1
                have HQ := hid (show Reg9 w B0 h A bo bi n F1 A1 vs (cutR O i k ++ cutR I i k) (i * 10 + k * 2) (k * n + i) v i k sd sc row b5 true true false false false x34 (.int .u32 (v : Int)) (.slice (some ⟨w'.heap.size, 0, none⟩) 1 1) x43 x44 (w'.alloc (.cells #[.int .u32 (v : Int)] 31 (0, 0))) from ⟨HX5.out, fun _ => rfl, fun h => (by cases h), fun h => (by cases h), fun _ _ => ⟨F2, f.alloc _⟩, fun _ _ => ⟨_, rfl, heap_alloc_at _ _⟩, fun h => (by cases h), fun h => (by cases h)⟩)
                clear HR9 f
                refine wpOp_shut rfl (fun K hK => ?_)
                go_simp
                go_wp2_with fail
                exact hK.out _ _ ⟨trivial, b5, true, true, false, false, false, x34, _, _, x43, x44, by kernel_rfl, rfl, by cases b5 <;> rfl, HQ.out⟩
              · obtain ⟨F2, f⟩ := HR9.out.2.2.2.2.1 rfl rfl
                obtain rfl := HR9.out.2.1 rfl
                obtain rfl := HR9.out.1 rfl
                obtain ⟨z, rfl, hz⟩ := HR9.out.2.2.2.2.2.1 rfl rfl
                have how := f.rows.own i HVI.out
                rw [HVS.out, HLR.out, HRL.out] at how
                refine wpOp_shut rfl (fun K hK => ?_)
                refine step_append_lies _ rfl (.tmp 34) (.tmp 42) 29 rfl B0 31 i0 _ 1 4 Try.underlying29 hi hz0 hz1 hz2 rfl (by decide) (.slice sd k sc) k (us row) rfl how ⟨z, 0, none⟩ 1 1 [.int .u32 (v : Int)] rfl rfl (World.news_of_block hz) (by intro y hy; simp at hy; subst hy; rfl) (by decide) (by unfold maxLen; omega) (by omega) (Nat.le_trans f.h0 f.bel.size) _ rfl ?_
                intro g cp u3 hown hgrow hat _
                have HQ := hid (show Reg9 w B0 h A bo bi n F1 A1 vs (cutR O i k ++ cutR I i k) (i * 10 + k * 2) (k * n + i) v i k sd sc row true true true true false false (.slice sd k sc) (.int .u32 (v : Int)) (.slice (some ⟨z, 0, none⟩) 1 1) (.slice (some ⟨g, 0, none⟩) (k + 1) cp) x44 u3 from ⟨fun _ => rfl, fun _ => rfl, fun h => (by cases h), fun h => (by cases h), fun _ h => (by cases h), fun _ h => (by cases h), fun _ _ => ⟨F2, w', g, cp, rfl, f, hown, hgrow, hat⟩, fun h => (by cases h)⟩)
                exact hK.out _ _ ⟨trivial, true, true, true, true, false, false, .slice sd k sc, .int .u32 (v : Int), .slice (some ⟨z, 0, none⟩) 1 1, .slice (some ⟨g, 0, none⟩) (k + 1) cp, x44, by kernel_rfl, by kernel_rfl, rfl, HQ.out⟩
              · have HQ := hid (show Reg9 w B0 h A bo bi n F1 A1 vs (cutR O i k ++ cutR I i k) (i * 10 + k * 2) (k * n + i) v i k sd sc row true true true true true false x34 x41 x42 x43 (.pointer (some ⟨bo, i, none⟩)) w' from ⟨HR9.out.1, HR9.out.2.1, fun _ => rfl, HR9.out.2.2.2⟩)
                clear HR9
                refine wpOp_shut rfl (fun K hK => ?_)
                go_simp
                go_wp2_with fail
                exact hK.out _ _ ⟨trivial, true, true, true, true, true, false, x34, x41, x42, x43, _, by kernel_rfl, rfl, rfl, HQ.out⟩
              · obtain ⟨F2, u2, g, cp, rfl, f, hown, hgrow, hat⟩ := HR9.out.2.2.2.2.2.2.1 rfl rfl
                obtain rfl := HR9.out.2.2.1 rfl
                have fg := f.grown i v g cp u2.heap.size HVI.out (by simp only [HLR.out, HRL.out]; exact hown) (by rw [HVS.out]; exact hgrow) (by rw [HVS.out]; exact hat) (Nat.le_refl _)
                have sc1 := cell_of_heap (i := i) fg.2.2.1 VT.out
                have sf1 := frozen_of_heap (i := i) fg.2.2.1
                have fp := f.putO i v g cp u2.heap.size hin HVI.out (by simp only [HLR.out, HRL.out]; exact hown) (by rw [HVS.out]; exact hgrow) (by rw [HVS.out]; exact hat) (Nat.le_refl _)
                simp only [HLR.out, HRL.out] at fp
                have HQ := hid (show Reg9 w B0 h A bo bi n F1 A1 vs (cutR O i k ++ cutR I i k) (i * 10 + k * 2) (k * n + i) v i k sd sc row true true true true true true x34 x41 x42 (.slice (some ⟨g, 0, none⟩) (k + 1) cp) (.pointer (some ⟨bo, i, none⟩)) (w'.setCell ⟨bo, i, none⟩ (.slice (some ⟨g, 0, none⟩) (k + 1) cp)) from ⟨HR9.out.1, HR9.out.2.1, fun _ => rfl, fun h => (by cases h), fun _ h => (by cases h), fun _ h => (by cases h), fun _ h => (by cases h), fun _ => ⟨F2, _, fp⟩⟩)
                clear HR9 fg fp f hown hgrow hat
                refine wpOp_shut rfl (fun K hK => ?_)
                go_simp
                go_wp2_with fail
                exact hK.out _ _ ⟨trivial, true, true, true, true, true, true, x34, x41, x42, _, _, by kernel_rfl, rfl, rfl, HQ.out⟩
          case rest =>
            obtain ⟨rfl, F2, vs2, f2⟩ := hcut
            rw [cut_nextO O I i k v row (by rw [HOL.out]; exact hin) HKO.out HLR.out HVO.out] at f2
            have HLI := hid (cut_midI O I i k n HOL.out (by rw [HIL.out]; exact hin))
            have HIT := hid (show ((I.getD i []).take k).length = k by rw [List.length_take]; have := HKI.out; omega)
            have HVJ := hid (show n + i < vs2.length by rw [f2.len]; omega)
            obtain ⟨td, tc, hvt⟩ := owns_shape (f2.rows.own (n + i) HVJ.out)
            rw [HLI.out, HIT.out] at hvt
            have HVT := hid hvt
            have VU := hid (show (vs2.drop n).toArray[i]? = some (.slice td k tc) by rw [← hvt]; simp [List.getElem?_drop, HVJ.out])
            have FK2 := hid f2
            have hit : i < ts.length := by rw [HNT.out]; exact hin
            obtain ⟨x, rfl, hxb, cx, hxm⟩ := (HT.out.below f2.bel) i hit
            have HIU := hid ((HIR.out i hit).2 k hkw)
            have HWF := hid (hwf (ts[i]'hit) (List.getElem_mem hit))
            have ld := cell_of_heap (i := i) f2.hi VU.out
            generalize ts[i]'hit = tt at *
            obtain ⟨tad, tcap, tl⟩ := tt
            simp only at cx hxm HIU HWF
            clear f2 hvt hit FK FD HVS VT HRE HVW HKO HLR HRL HVO HW3
            have HXM := hid hxm
            clear hxm hxb
            by_cases hkt : k < tl.length
            · obtain ⟨y, rfl, _, cy⟩ := HXM.out k hkt
              have HIU2 := hid (show (I.getD i []).getD k 0 = tl[k] by rw [HIU.out]; simp [hkt])
              obtain ⟨u, hu⟩ : ∃ u, tl[k] = u := ⟨_, rfl⟩
              rw [hu] at cy HIU2
              clear hu
              have FA := hid (FK2.out.alloc (.cells #[.int .u32 (u : Int)] 31 (0, 0)))
              have HOWN := hid (show (wc.alloc (.cells #[.int .u32 (u : Int)] 31 (0, 0))).ownsRow B0 31 1 (.slice td k tc) k (us ((I.getD i []).take k)) by
                have := FA.out.rows.own (n + i) HVJ.out
                rw [HVT.out, HLI.out, HIT.out] at this; exact this)
              have HB9 := hid (show B0 ≤ (wc.alloc (.cells #[.int .u32 (u : Int)] 31 (0, 0))).heap.size from Nat.le_trans FA.out.h0 FA.out.bel.size)
              clear HXM HIU
              go_wp2_with (at_builtin; refine wpList_append_lies _ rfl (.tmp 64) (.tmp 66) 29 rfl B0 31 i0 _ 1 4 Try.underlying29 hi hz0 hz1 hz2 rfl (by decide) (.slice td k tc) k (us ((I.getD i []).take k)) rfl HOWN.out ⟨wc.heap.size, 0, none⟩ 1 1 [.int .u32 (u : Int)] rfl rfl (World.news_of_block (heap_alloc_at _ _)) (by intro y hy; simp at hy; subst hy; rfl) (by decide) (by unfold maxLen; omega) (by omega) HB9.out _ rfl ?_; intro g cp u3 hown hgrow hat _; have fg := FA.out.grown (n + i) u g cp _ HVJ.out (by simp only [HLI.out, HIT.out]; exact hown) (by rw [HVT.out]; exact hgrow) (by rw [HVT.out]; exact hat) (Nat.le_refl _); have sc2 := cell_of_heap (i := i) fg.2.2.2.1 VU.out; have sf2 := frozen_of_heap (i := i) fg.2.2.2.1; have H5 := hid (And.intro hown (And.intro hgrow hat)); clear fg hown hgrow hat)
              go_roundw
              case rel =>
                have fp := FA.out.putI i u g cp _ HVJ.out (by simp only [HLI.out, HIT.out]; exact H5.out.1) (by rw [HVT.out]; exact H5.out.2.1) (by rw [HVT.out]; exact H5.out.2.2) (Nat.le_refl _)
                simp only [HLI.out, HIT.out] at fp
                rw [cut_nextI O I i k u n HOL.out (by rw [HIL.out]; exact hin) HKI.out HIU2.out] at fp
                exact ⟨k + 1, F2, _, _, by omega, by go_num, by rw [show i * 10 + (k + 1) * 2 = i * 10 + k * 2 + 2 by omega]; exact fp⟩
              case measure => simp [intOf]; omega
            · have HIU2 := hid (show (I.getD i []).getD k 0 = 0 by rw [HIU.out]; simp [hkt])
              have FA := hid (FK2.out.alloc (.cells #[.int .u32 (0 : Int)] 31 (0, 0)))
              have HOWN := hid (show (wc.alloc (.cells #[.int .u32 (0 : Int)] 31 (0, 0))).ownsRow B0 31 1 (.slice td k tc) k (us ((I.getD i []).take k)) by
                have := FA.out.rows.own (n + i) HVJ.out
                rw [HVT.out, HLI.out, HIT.out] at this; exact this)
              have HB9 := hid (show B0 ≤ (wc.alloc (.cells #[.int .u32 (0 : Int)] 31 (0, 0))).heap.size from Nat.le_trans FA.out.h0 FA.out.bel.size)
              clear HXM HIU
              go_wp2_with (at_builtin; refine wpList_append_lies _ rfl (.tmp 64) (.tmp 66) 29 rfl B0 31 i0 _ 1 4 Try.underlying29 hi hz0 hz1 hz2 rfl (by decide) (.slice td k tc) k (us ((I.getD i []).take k)) rfl HOWN.out ⟨wc.heap.size, 0, none⟩ 1 1 [.int .u32 (0 : Int)] rfl rfl (World.news_of_block (heap_alloc_at _ _)) (by intro y hy; simp at hy; subst hy; rfl) (by decide) (by unfold maxLen; omega) (by omega) HB9.out _ rfl ?_; intro g cp u3 hown hgrow hat _; have fg := FA.out.grown (n + i) 0 g cp _ HVJ.out (by simp only [HLI.out, HIT.out]; exact hown) (by rw [HVT.out]; exact hgrow) (by rw [HVT.out]; exact hat) (Nat.le_refl _); have sc2 := cell_of_heap (i := i) fg.2.2.2.1 VU.out; have sf2 := frozen_of_heap (i := i) fg.2.2.2.1; have H5 := hid (And.intro hown (And.intro hgrow hat)); clear fg hown hgrow hat)
              go_roundw
              case rel =>
                have fp := FA.out.putI i 0 g cp _ HVJ.out (by simp only [HLI.out, HIT.out]; exact H5.out.1) (by rw [HVT.out]; exact H5.out.2.1) (by rw [HVT.out]; exact H5.out.2.2) (Nat.le_refl _)
                simp only [HLI.out, HIT.out] at fp
                rw [cut_nextI O I i k 0 n HOL.out (by rw [HIL.out]; exact hin) HKI.out HIU2.out] at fp
                exact ⟨k + 1, F2, _, _, by omega, by go_num, by rw [show i * 10 + (k + 1) * 2 = i * 10 + k * 2 + 2 by omega]; exact fp⟩
              case measure => simp [intOf]; omega
        · have hke : wd = k := by omega
          have FN := hid (show Fill w B0 h A bo bi n wr F1 A1 vs (cutR O (i + 1) 0 ++ cutR I (i + 1) 0) ((i + 1) * 10) by
            have h1 := cutR_next O i k (by rw [(HOR.out i hin).1]; exact hke)
            have h2 := cutR_next I i k (by rw [(HIR.out i (by rw [HNT.out]; exact hin)).1]; exact hke)
            rw [h1, h2] at f1
            exact f1.more (by omega))
          clear f1
          go_wp2_with fail
          go_roundw
          case rel => exact ⟨i + 1, F1, A1, vs, by omega, by go_num, FN.out⟩
          case measure => simp [intOf]; omega
    · have hie : n = i := by omega
      subst hie
      have hO1 : cutR O n 0 = O := by have := cutR_all O; rw [HOL.out] at this; exact this
      have hI1 : cutR I n 0 = I := by have := cutR_all I; rw [HIL.out] at this; exact this
      rw [hO1, hI1] at FI
      have HRO := hid (FI.out.outs HOL.out (fun j hj => (HOR.out j hj).1) (by omega))
      have HRI := hid (FI.out.ins HOL.out HIL.out (fun j hj => (HIR.out j (by rw [HNT.out]; exact hj)).1))
      have HBE := hid FI.out.bel
      clear hO1 hI1 FI
      obtain ⟨w5, rfl⟩ : ∃ y, y = wr := ⟨_, rfl⟩
      go_wp2_with fail
      go_loopw [72] (fun c wr => ∃ (i : Nat), i ≤ n ∧ c = .int .i64 (i : Int) ∧ Sm w5 wr) (fun c _ => n - (intOf c).toNat)
      case atStart => exact ⟨0, Nat.zero_le _, rfl, ⟨fun _ => rfl, Below.refl _ _⟩⟩
      case round =>
        obtain ⟨i, hin, rfl, hsm⟩ := hrel
        have HSM := hid hsm
        clear hsm
        by_cases hil : i < n
        · go_wp2_with fail
          go_cut [72, 88] from 72 to 118 (fun c r wx => c = .int .i64 (i : Int) ∧ r = .bool false ∧ Sm w5 wx)
          case first =>
            by_cases h0 : 0 < i
            · obtain ⟨j, hj⟩ : ∃ j, i = j + 1 := ⟨i - 1, by omega⟩
              have hjn : j < n := by omega
              obtain ⟨g, cp, cg, ug⟩ := HRO.out i hil
              obtain ⟨g', cp', cg', ug'⟩ := HRO.out j hjn
              have l1 : (O.getD i []).length = wd := (HOR.out i hil).1
              have l2 : (O.getD j []).length = wd := (HOR.out j hjn).1
              have hle := HSO.out j (by omega)
              rw [← hj] at hle
              have a0 := (HSM.out.c _).trans (us_two ug 0 (by omega))
              have a1 := (HSM.out.c _).trans (us_two ug 1 (by omega))
              have b0 := (HSM.out.c _).trans (us_two ug' 0 (by omega))
              have b1 := (HSM.out.c _).trans (us_two ug' 1 (by omega))
              have c0 := (HSM.out.c _).trans cg
              have c1 := (HSM.out.c _).trans cg'
              have k1 : (O.getD i []).getD 1 0 < 4294967296 := by rw [(HOR.out i hil).2 1 (by omega)]; exact HWB.out _
              have k2 : (O.getD j []).getD 1 0 < 4294967296 := by rw [(HOR.out j hjn).2 1 (by omega)]; exact HWB.out _
              unfold tkey at hle
              obtain ⟨x0, hx0⟩ : ∃ x, (O.getD i []).getD 0 0 = x := ⟨_, rfl⟩
              obtain ⟨x1, hx1⟩ : ∃ x, (O.getD i []).getD 1 0 = x := ⟨_, rfl⟩
              obtain ⟨y0, hy0⟩ : ∃ x, (O.getD j []).getD 0 0 = x := ⟨_, rfl⟩
              obtain ⟨y1, hy1⟩ : ∃ x, (O.getD j []).getD 1 0 = x := ⟨_, rfl⟩
              rw [hx0] at a0 hle
              rw [hx1] at a1 hle k1
              rw [hy0] at b0 hle
              rw [hy1] at b1 hle k2
              have hdec : decide (x0 < y0 ∨ (x0 = y0 ∧ x1 < y1)) = false := decide_eq_false (by omega)
              have HBF := hid (show ∀ W, (∀ a, W.cell? a = wr.cell? a) → Calls Try.prog 61 #[.slice (some ⟨g, 0, none⟩) wd cp, .slice (some ⟨g', 0, none⟩) wd cp'] W fun e w' => e = .returned (.bool false) ∧ ∃ q, w' = W.drewN q from fun W hW => by
                have := before_any ⟨g, 0, none⟩ ⟨g', 0, none⟩ wd wd cp cp' x0 x1 y0 y1 W hw2 hw2 ((hW _).trans a0) ((hW _).trans a1) ((hW _).trans b0) ((hW _).trans b1)
                rw [hdec] at this; exact this)
              have hw1 : IntKind.i64.wrap ((i : Int) - 1) = (j : Int) := by rw [IntKind.wrap_i64]; omega
              have hi0 : (0 : Int) < (i : Int) := by omega
              have hin1 : (i : Int) < (n : Int) := by omega
              have hjn1 : (j : Int) < (n : Int) := by omega
              have HJ := hid hj
              clear hj cg cg' ug ug' l1 l2 hle a0 a1 b0 b1 k1 k2 hx0 hx1 hy0 hy1 hdec
              go_quiet ((go_at_call 61; exact Calls.quiet_of (HBF.out _ (fun _ => rfl))))
              go_wp2_with fail
              go_meet
              case rel => exact ⟨rfl, rfl, HSM.out.dn _⟩
            · have h00 : i = 0 := by omega
              have hd1 : decide (0 < i) = false := decide_eq_false (by omega)
              have HI := hid h00
              clear h00 h0
              go_quiet (fail)
              go_wp2_with fail
              go_meet
              case rel => exact ⟨rfl, rfl, HSM.out.dn _⟩
          case rest =>
            obtain ⟨rfl, rfl, hsm⟩ := hcut
            have HSC := hid hsm
            clear hsm
            obtain ⟨g, cp, cg, ug⟩ := HRO.out i hil
            have HCG := hid cg
            have HUG := hid ug
            have HLR1 := hid (HOR.out i hil).1
            have HOA := hid (show offL I O (O.getD i []) n = 0 by have := offL_all I O (O.getD i []) HPM.out; rw [HIL.out] at this; exact this)
            have HOB := hid (fun q => offL_bd I O (O.getD i []) q)
            have HOS := hid (fun q h1 h2 => offL_succ I O (O.getD i []) q h1 h2)
            have HO0 := hid (show offL I O (O.getD i []) 0 = 0 by simp [offL])
            clear cg ug
            obtain ⟨wz, rfl⟩ : ∃ y, y = wr := ⟨_, rfl⟩
            go_wp2_with fail
            go_loopw [15, 90] (fun s c wr => ∃ (k : Nat), k ≤ n ∧ c = .int .i64 (k : Int) ∧ s = .int .i64 (offL I O (O.getD i []) k) ∧ Sm w5 wr) (fun _ c _ => n - (intOf c).toNat)
            case atStart => exact ⟨0, Nat.zero_le _, rfl, by rw [HO0.out], HSC.out⟩
            case round =>
              obtain ⟨k, hk, rfl, rfl, hsk⟩ := hrel
              have HSK := hid hsk
              clear hsk
              have hob := HOB.out k
              by_cases hkn : k < n
              · obtain ⟨ia, ic, ci, ui⟩ := HRI.out k hkn
                obtain ⟨og, oc, co, uo⟩ := HRO.out k hkn
                have li : (I.getD k []).length = wd := (HIR.out k (by rw [HNT.out]; exact hkn)).1
                have lo : (O.getD k []).length = wd := (HOR.out k hkn).1
                have HSA := hid (show ∀ W : World, (∀ a, W.cell? a = wr.cell? a) → Calls Try.prog 62 #[.slice ia wd ic, .slice (some ⟨g, 0, none⟩) wd cp] W fun e w' => e = .returned (.bool (decide (I.getD k [] = O.getD i []))) ∧ ∃ q, w' = W.drewN q from fun W hW => by
                  have s1 : ∀ a, W.cell? a = w5.cell? a := fun a => (hW a).trans (HSK.out.c a)
                  have := same_any ia (some ⟨g, 0, none⟩) ic cp (I.getD k []) (O.getD i []) W (us_same s1 ui) (us_same s1 HUG.out) (by rw [li, HLR1.out]) (by rw [li]; omega)
                  rw [li, HLR1.out] at this; exact this)
                have HSB := hid (show ∀ W : World, (∀ a, W.cell? a = wr.cell? a) → Calls Try.prog 62 #[.slice (some ⟨og, 0, none⟩) wd oc, .slice (some ⟨g, 0, none⟩) wd cp] W fun e w' => e = .returned (.bool (decide (O.getD k [] = O.getD i []))) ∧ ∃ q, w' = W.drewN q from fun W hW => by
                  have s1 : ∀ a, W.cell? a = w5.cell? a := fun a => (hW a).trans (HSK.out.c a)
                  have := same_any (some ⟨og, 0, none⟩) (some ⟨g, 0, none⟩) oc cp (O.getD k []) (O.getD i []) W (us_same s1 uo) (us_same s1 HUG.out) (by rw [lo, HLR1.out]) (by rw [lo]; omega)
                  rw [lo, HLR1.out] at this; exact this)
                have HO1 := hid (HOS.out k (by rw [HIL.out]; exact hkn) (by rw [HOL.out]; exact hkn))
                have ca := (HSK.out.c _).trans ci
                have cb := (HSK.out.c _).trans co
                have cgk := (HSK.out.c _).trans HCG.out
                obtain ⟨o, ho⟩ : ∃ o, offL I O (O.getD i []) k = o := ⟨_, rfl⟩
                obtain ⟨o2, ho2⟩ : ∃ o, offL I O (O.getD i []) (k + 1) = o := ⟨_, rfl⟩
                rw [ho] at HO1 hob ⊢
                rw [ho2] at HO1
                have hoq : o ≤ 60 ∧ -60 ≤ o := by omega
                have hin1 : (i : Int) < (n : Int) := by omega
                have hkn1 : (k : Int) < (n : Int) := by omega
                clear ci ui co uo li lo ho hob
                by_cases e1 : I.getD k [] = O.getD i []
                · by_cases e2 : O.getD k [] = O.getD i []
                  · have HO9 := hid (show o2 = o by rw [HO1.out, if_pos e1, if_pos e2]; omega)
                    rw [decide_eq_true e1] at HSA
                    rw [decide_eq_true e2] at HSB
                    clear e1 e2 HO1
                    go_wp2_with fail
                    go_quiet ((go_at_call 62; exact Calls.quiet_of (HSA.out _ (fun _ => rfl))))
                    go_wp2_with fail
                    have HSN := hid (HSK.out.dn nq)
                    have ca2 := cell_dn2 nq ca
                    have cb2 := cell_dn2 nq cb
                    have cg2 := cell_dn2 nq cgk
                    have HSB2 := hid (show ∀ W : World, (∀ a, W.cell? a = (wr.drewN nq).cell? a) → _ from fun W hW => HSB.out W hW)
                    generalize wr.drewN nq = wn at *
                    clear ca cb cgk
                    go_quiet ((go_at_call 62; exact Calls.quiet_of (HSB2.out _ (fun _ => rfl))))
                    go_wp2_with fail
                    go_roundw
                    case rel => exact ⟨k + 1, by omega, by go_num, by rw [ho2, HO9.out] <;> go_num, HSN.out.dn _⟩
                    case measure => simp [intOf]; omega
                  · have HO9 := hid (show o2 = o + 1 by rw [HO1.out, if_pos e1, if_neg e2]; omega)
                    rw [decide_eq_true e1] at HSA
                    rw [decide_eq_false e2] at HSB
                    clear e1 e2 HO1
                    go_wp2_with fail
                    go_quiet ((go_at_call 62; exact Calls.quiet_of (HSA.out _ (fun _ => rfl))))
                    go_wp2_with fail
                    have HSN := hid (HSK.out.dn nq)
                    have ca2 := cell_dn2 nq ca
                    have cb2 := cell_dn2 nq cb
                    have cg2 := cell_dn2 nq cgk
                    have HSB2 := hid (show ∀ W : World, (∀ a, W.cell? a = (wr.drewN nq).cell? a) → _ from fun W hW => HSB.out W hW)
                    generalize wr.drewN nq = wn at *
                    clear ca cb cgk
                    go_quiet ((go_at_call 62; exact Calls.quiet_of (HSB2.out _ (fun _ => rfl))))
                    go_wp2_with fail
                    go_roundw
                    case rel => exact ⟨k + 1, by omega, by go_num, by rw [ho2, HO9.out] <;> go_num, HSN.out.dn _⟩
                    case measure => simp [intOf]; omega
                · by_cases e2 : O.getD k [] = O.getD i []
                  · have HO9 := hid (show o2 = o - 1 by rw [HO1.out, if_neg e1, if_pos e2]; omega)
                    rw [decide_eq_false e1] at HSA
                    rw [decide_eq_true e2] at HSB
                    clear e1 e2 HO1
                    go_wp2_with fail
                    go_quiet ((go_at_call 62; exact Calls.quiet_of (HSA.out _ (fun _ => rfl))))
                    go_wp2_with fail
                    have HSN := hid (HSK.out.dn nq)
                    have ca2 := cell_dn2 nq ca
                    have cb2 := cell_dn2 nq cb
                    have cg2 := cell_dn2 nq cgk
                    have HSB2 := hid (show ∀ W : World, (∀ a, W.cell? a = (wr.drewN nq).cell? a) → _ from fun W hW => HSB.out W hW)
                    generalize wr.drewN nq = wn at *
                    clear ca cb cgk
                    go_quiet ((go_at_call 62; exact Calls.quiet_of (HSB2.out _ (fun _ => rfl))))
                    go_wp2_with fail
                    go_roundw
                    case rel => exact ⟨k + 1, by omega, by go_num, by rw [ho2, HO9.out] <;> go_num, HSN.out.dn _⟩
                    case measure => simp [intOf]; omega
                  · have HO9 := hid (show o2 = o by rw [HO1.out, if_neg e1, if_neg e2]; omega)
                    rw [decide_eq_false e1] at HSA
                    rw [decide_eq_false e2] at HSB
                    clear e1 e2 HO1
                    go_wp2_with fail
                    go_quiet ((go_at_call 62; exact Calls.quiet_of (HSA.out _ (fun _ => rfl))))
                    go_wp2_with fail
                    have HSN := hid (HSK.out.dn nq)
                    have ca2 := cell_dn2 nq ca
                    have cb2 := cell_dn2 nq cb
                    have cg2 := cell_dn2 nq cgk
                    have HSB2 := hid (show ∀ W : World, (∀ a, W.cell? a = (wr.drewN nq).cell? a) → _ from fun W hW => HSB.out W hW)
                    generalize wr.drewN nq = wn at *
                    clear ca cb cgk
                    go_quiet ((go_at_call 62; exact Calls.quiet_of (HSB2.out _ (fun _ => rfl))))
                    go_wp2_with fail
                    go_roundw
                    case rel => exact ⟨k + 1, by omega, by go_num, by rw [ho2, HO9.out] <;> go_num, HSN.out.dn _⟩
                    case measure => simp [intOf]; omega
              · have hke : n = k := by omega
                subst hke
                rw [HOA.out]
                go_wp2_with fail
                go_roundw
                case rel => exact ⟨i + 1, by omega, by go_num, HSK.out⟩
                case measure => simp [intOf]; omega
        · go_wp2_with fail
          go_ret
          exact ⟨rfl, HBE.out.trans (HSM.out.b.mono (Nat.le_trans hB0 HBE.out.size))⟩
end Go.Proofs.Ytjdbofgjieljlaa
