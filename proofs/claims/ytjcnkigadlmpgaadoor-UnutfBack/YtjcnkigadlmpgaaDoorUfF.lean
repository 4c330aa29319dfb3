/- The contract of package utf's Decode where it decodes, over this seat's translation. Conditions: rows that lie apart; at most 4096 words; the log has at most 300 million events; the variable leads holds what the program's text lays there, and is no part of the arena. -/
import Derived.Test.YtjcnkigadlmpgaaDoorUfG
namespace Go.Proofs.YtjcnkigadlmpgaaDoor
open Go.RowKit
set_option linter.unusedVariables false

theorem Lv.step {w w' : World} {F F' : Nat → Prop} (t : Lv w) (s : Step w F w' F') (hn : ¬ F 1) : Lv w' := fun i hi => s.cell (t i hi) hn
theorem Lv.pos {w : World} (t : Lv w) : 1 < w.heap.size := lt_of_cell (t 0 (by decide))
theorem Lv.fr {w w' : World} {S : Nat → Prop} (t : Lv w) (f : Fr S w w') (hn : ¬ S 1) : Lv w' := fun i hi =>
  (World.cell?_of_block (w := w) (w' := w') (a := ⟨1, i, none⟩) (f.block _ t.pos hn)).trans (t i hi)
/-- what stands behind some rounds of the first loop -/
structure D1 (w wr : World) (h : Hn) (F Fk : Nat → Prop) (z len : Nat) (B : Ars) (r : Us × Bool) : Prop where
  ar : Ar wr h Fk B
  st : Step w F wr Fk
  l0 : wr.heap[w.heap.size]? = some (sb len)
  l1 : wr.heap[w.heap.size + 1]? = some (sb 0)
  rd : wr.heap[z]? = some (rdO r.1 r.2)
  lv : Lv wr
  n0 : ¬ Fk w.heap.size
  n1 : ¬ Fk (w.heap.size + 1)
  nz : ¬ Fk z
  ng : ¬ Fk 1
  hz : w.heap.size + 1 < z
  hg : 1 < w.heap.size
theorem D1.below {w wr w' : World} {h : Hn} {F Fk : Nat → Prop} {z len : Nat} {B : Ars} {r : Us × Bool} (d : D1 w wr h F Fk z len B r) (hB : Below wr.heap.size wr w') : D1 w w' h F Fk z len B r :=
  ⟨d.ar.below hB, d.st.trans (Step.ofBelow hB), bk hB d.l0, bk hB d.l1, bk hB d.rd, d.lv.below hB, d.n0, d.n1, d.nz, d.ng, d.hz, d.hg⟩
theorem D1.drew {w wr : World} {h : Hn} {F Fk : Nat → Prop} {z len : Nat} {B : Ars} {r : Us × Bool} (d : D1 w wr h F Fk z len B r) : D1 w wr.drew h F Fk z len B r := d.below (blw_drew (Below.refl _ _))
theorem D1.alloc {w wr : World} {h : Hn} {F Fk : Nat → Prop} {z len : Nat} {B : Ars} {r : Us × Bool} (d : D1 w wr h F Fk z len B r) (o : Obj) : D1 w (wr.alloc o) h F Fk z len B r := d.below ((Below.refl _ _).alloc (Nat.le_refl _) o)
theorem D1.step {w wr w' : World} {h : Hn} {F Fk F' : Nat → Prop} {z len : Nat} {B B' : Ars} {r : Us × Bool} (d : D1 w wr h F Fk z len B r) (a : Ar w' h F' B') (s : Step wr Fk w' F') : D1 w w' h F F' z len B' r :=
  ⟨a, d.st.trans s, s.heap d.l0 d.n0, s.heap d.l1 d.n1, s.heap d.rd d.nz, d.lv.step s d.ng, s.out d.n0 (lt_of_heap d.l0), s.out d.n1 (lt_of_heap d.l1), s.out d.nz (lt_of_heap d.rd), s.out d.ng d.lv.pos, d.hz, d.hg⟩
theorem D1.read {w wr w' : World} {h : Hn} {F Fk : Nat → Prop} {z len : Nat} {B : Ars} {r r' : Us × Bool} (d : D1 w wr h F Fk z len B r) (hr : w'.heap[z]? = some (rdO r'.1 r'.2)) (f : Fr (fun i => i = z) wr w') : D1 w w' h F Fk z len B r' :=
  have hz := d.hz
  have hg := d.hg
  ⟨d.ar.kept f (fun i hi e => d.nz (e ▸ hi)), ⟨d.st.fr.trans f (fun i hi e => by omega), d.st.sub⟩, (f.block _ (lt_of_heap d.l0) (by show ¬ w.heap.size = z; omega)).trans d.l0, (f.block _ (lt_of_heap d.l1) (by show ¬ w.heap.size + 1 = z; omega)).trans d.l1, hr,
    d.lv.fr f (by show ¬ 1 = z; omega), d.n0, d.n1, d.nz, d.ng, d.hz, d.hg⟩
theorem D1.new {w wr : World} {h : Hn} {F Fk : Nat → Prop} {z len : Nat} {B : Ars} {r : Us × Bool} (d : D1 w wr h F Fk z len B r) : ¬ Fk wr.heap.size := fun x => absurd (d.ar.lt _ x) (Nat.lt_irrefl _)
theorem D1.set {w wr : World} {h : Hn} {F Fk : Nat → Prop} {z len y i : Nat} {v : Value} {B : Ars} {r : Us × Bool} (d : D1 w wr h F Fk z len B r) (hy : z < y) (hn : ¬ Fk y) : D1 w (wr.setCell ⟨y, i, none⟩ v) h F Fk z len B r :=
  have hz := d.hz
  have hg := d.hg
  have f : Fr (fun i => i = y) wr (wr.setCell ⟨y, i, none⟩ v) := (Fr.refl _ _).setCell (p := ⟨y, i, none⟩) v (fun _ => rfl)
  ⟨d.ar.setOther _ _ hn, d.st.setNew _ _ (by show w.heap.size ≤ y; omega), (f.block _ (lt_of_heap d.l0) (by show ¬ w.heap.size = y; omega)).trans d.l0, (f.block _ (lt_of_heap d.l1) (by show ¬ w.heap.size + 1 = y; omega)).trans d.l1, (f.block _ (lt_of_heap d.rd) (by show ¬ z = y; omega)).trans d.rd,
    d.lv.fr f (by show ¬ 1 = y; omega), d.n0, d.n1, d.nz, d.ng, d.hz, d.hg⟩

/-- what stands behind some rounds of the second loop -/
structure D2 (w wr : World) (h : Hn) (F Fk : Nat → Prop) (y8 y9 : Nat) (B : Ars) (st : Bool) : Prop where
  ar : Ar wr h Fk B
  sp : Step w F wr Fk
  l1 : wr.heap[w.heap.size + 1]? = some (sb 0)
  l8 : wr.heap[y8]? = some (sb (mk (!st) : Nat))
  l9 : wr.heap[y9]? = some (sb (mk st : Nat))
  n1 : ¬ Fk (w.heap.size + 1)
  n8 : ¬ Fk y8
  n9 : ¬ Fk y9
theorem D2.below {w wr w' : World} {h : Hn} {F Fk : Nat → Prop} {y8 y9 : Nat} {B : Ars} {st : Bool} (d : D2 w wr h F Fk y8 y9 B st) (hB : Below wr.heap.size wr w') : D2 w w' h F Fk y8 y9 B st :=
  ⟨d.ar.below hB, d.sp.trans (Step.ofBelow hB), bk hB d.l1, bk hB d.l8, bk hB d.l9, d.n1, d.n8, d.n9⟩
theorem D2.drew {w wr : World} {h : Hn} {F Fk : Nat → Prop} {y8 y9 : Nat} {B : Ars} {st : Bool} (d : D2 w wr h F Fk y8 y9 B st) : D2 w wr.drew h F Fk y8 y9 B st := d.below (blw_drew (Below.refl _ _))
theorem D2.step {w wr w' : World} {h : Hn} {F Fk F' : Nat → Prop} {y8 y9 : Nat} {B B' : Ars} {st : Bool} (d : D2 w wr h F Fk y8 y9 B st) (a : Ar w' h F' B') (s : Step wr Fk w' F') : D2 w w' h F F' y8 y9 B' st :=
  ⟨a, d.sp.trans s, s.heap d.l1 d.n1, s.heap d.l8 d.n8, s.heap d.l9 d.n9, s.out d.n1 (lt_of_heap d.l1), s.out d.n8 (lt_of_heap d.l8), s.out d.n9 (lt_of_heap d.l9)⟩

set_option maxHeartbeats 6400000 in
theorem decode_yes (h : Hn) (F : Nat → Prop) (A : Ars) (L O P N len : Nat) (w : World) (a : Ar w h F A) (hlen : len < 4294967296) (hN : N ≤ 4096) (hr : Rfine A [((L : Int), (N : Int)), ((O : Int), (N : Int)), ((P : Int), (N : Int))]) (hes : A.es.length ≤ 300000000) (t : Lv w) (hnf : ¬ F 1) :
    Calls Tryd.prog 21 #[arPtr h, .int .i64 (L : Int), .int .i64 (N : Int), sec len, .int .i64 (O : Int), .int .i64 (P : Int)] w fun e w' => e = .returned (.tuple #[sec (mk (!goodS A L len N) : Nat), .bool true]) ∧ ∃ F', Ar w' h F' (dec2 A L O P len N N) ∧ Step w F w' F' := by
  have hb1 := a.ok.1
  have hb2 := a.ok.2.1
  have HR := hid hr
  obtain ⟨hfit, hpw⟩ := (rfine_of A (N : Int) [(L : Int), (O : Int), (P : Int)] (by omega)).1 hr
  have hL : L + N ≤ A.top := by have h := Ars.fits_iff.1 (hfit (L : Int) (by simp)); omega
  have hO : O + N ≤ A.top := by have h := Ars.fits_iff.1 (hfit (O : Int) (by simp)); omega
  have hK : P + N ≤ A.top := by have h := Ars.fits_iff.1 (hfit (P : Int) (by simp)); omega
  have hAP : (L + N ≤ O ∨ O + N ≤ L) ∧ (L + N ≤ P ∨ P + N ≤ L) ∧ (O + N ≤ P ∨ P + N ≤ O) := by
    simp only [List.pairwise_cons, List.mem_cons, ApartZ, List.not_mem_nil, or_false, forall_eq_or_imp, forall_eq] at hpw
    obtain ⟨⟨p1, p2⟩, p3, _⟩ := hpw
    exact ⟨by omega, by omega, by omega⟩
  have HAP := hid hAP
  have HA := hid a
  have HT := hid t
  have HNG := hid hnf
  have HES := hid hes
  have HLN := hid hlen
  have hmay : decide (0 ≤ (N : Int) ∧ (N : Int) ≤ 4096) = true := decide_eq_true (by omega)
  have H0 := hid (show (((w.alloc (sb len)).alloc (sb 0)).alloc (rw3 L O P)).heap[w.heap.size + 1 + 1]? = some (rw3 L O P) from (by simp only [hp_get, World.size_alloc]; repeat (first | rw [if_pos trivial] | rw [if_pos rfl] | rw [if_neg (by omega)])))
  have X0 := hid (show (((w.alloc (sb len)).alloc (sb 0)).alloc (rw3 L O P)).heap[w.heap.size]? = some (sb len) from (by simp only [hp_get, World.size_alloc]; repeat (first | rw [if_pos trivial] | rw [if_pos rfl] | rw [if_neg (by omega)])))
  have X1 := hid (show (((w.alloc (sb len)).alloc (sb 0)).alloc (rw3 L O P)).heap[w.heap.size + 1]? = some (sb 0) from (by simp only [hp_get, World.size_alloc]; repeat (first | rw [if_pos trivial] | rw [if_pos rfl] | rw [if_neg (by omega)])))
  have BB := hid (show Below w.heap.size w (((w.alloc (sb len)).alloc (sb 0)).alloc (rw3 L O P)) from (by repeat (first | exact Below.refl _ _ | refine blw_alloc ?_ | refine blw_drew ?_ | assumption)))
  clear hr hfit hpw hAP a t hnf hes hlen
  go_enter Tryd.func21, Tryd.ntmps21
  go_wp2_with (go_at_call 43; refine (umay_any _ _).mono ?_; rintro e w' ⟨rfl, hw⟩; subst w'; rw [hmay])
  clear hmay
  refine (of3_any N L O P (w.heap.size + 1 + 1) _ H0.out).mono ?_
  rintro e w1 ⟨rfl, hcs, hB1, hl1⟩
  simp only [World.size_alloc] at hcs hl1
  have HC := hid hcs
  have B1 := hid (belowCat BB.out hB1)
  have X01 := hid (bk hB1 X0.out)
  have X11 := hid (bk hB1 X1.out)
  clear hcs hB1
  go_wp2_with fail
  refine (apart3_any h F A (w.heap.size + 1 + 1 + 1) L O P N _ (HA.out.below B1.out) (by omega) (by omega) (by omega) hl1 HC.out).mono ?_
  rintro e w2 ⟨r, rfl, hr, hB2⟩
  have B2 := hid (belowCat B1.out hB2)
  have X02 := hid (bk hB2 X01.out)
  have X12 := hid (bk hB2 X11.out)
  have HW2 := hid (show w.heap.size + 1 < w2.heap.size from lt_of_heap X12.out)
  obtain rfl : r = true := hr.2 HR.out
  clear hr hB2 X0 X1 X01 X11 H0 HC hl1 BB B1 HR
  have D0 := hid (show D1 w (w2.alloc (.cells #[.int .u32 0, .int .u32 0, .int .u32 0, .int .u32 0, .int .u32 0] 84)) h F F w2.heap.size len A us0 from by
    have hBn := (Below.refl w2.heap.size w2).alloc (Nat.le_refl _) (.cells #[.int .u32 0, .int .u32 0, .int .u32 0, .int .u32 0, .int .u32 0] 84)
    have hB3 := belowCat B2.out hBn
    have hF : ∀ i, w.heap.size ≤ i → ¬ F i := fun i hi x => by have := HA.out.lt _ x; omega
    exact ⟨HA.out.below hB3, Step.ofBelow hB3, bk hBn X02.out, bk hBn X12.out, heap_alloc_at _ _, HT.out.below hB3, hF _ (Nat.le_refl _), hF _ (Nat.le_succ _), hF _ (by have := HW2.out; omega), HNG.out, HW2.out, HT.out.pos⟩)
  go_wp2_with fail
  generalize (w2.alloc (.cells #[.int .u32 0, .int .u32 0, .int .u32 0, .int .u32 0, .int .u32 0] 84)) = w3 at *
  obtain ⟨z, hz⟩ : ∃ z, w2.heap.size = z := ⟨_, rfl⟩
  rw [hz] at D0 HW2 ⊢
  clear hz X02 X12 B2
  go_loopw [37] (fun c wr => ∃ (k : Nat) (Fk : Nat → Prop), k ≤ N ∧ c = .int .i64 (k : Int) ∧ D1 w wr h F Fk z len (dec1 A L O P len k) (rS (fun i => A.word (L + i)) len k)) (fun c _ => N - (intOf c).toNat)
  case atStart => exact ⟨0, F, Nat.zero_le _, rfl, D0.out⟩
  case round =>
    obtain ⟨k, Fk, hk, rfl, d1k⟩ := hrel
    by_cases hlt : k < N
    · clear D0
      have DK := hid d1k
      clear d1k
      have hap := HAP.out
      have htp : (dec1 A L O P len k).top = A.top := d1_top ..
      have hwl : (dec1 A L O P len k).ws.length = A.ws.length := d1_wl ..
      have hel : (dec1 A L O P len k).es.length = A.es.length + 3 * k := d1_es ..
      have HWD := hid (show (dec1 A L O P len k).word (L + k) = A.word (L + k) from d1_word A L O P _ _ k (by omega) (by omega) _ (by omega) (by omega))
      have HEV := hid (show dec1 A L O P len (k + 1) = (((dec1 A L O P len k).loadN (L + k)).storeN (O + k) (ovS (fun i => A.word (L + i)) len k)).storeN (P + k) (mk (enS (fun i => A.word (L + i)) len k)) from rfl)
      have HX := hid (Ars.word_lt HA.out.ok (L + k))
      have HR1 := hid (show rdc (decide (k < len)) (rS (fun i => A.word (L + i)) len k) (A.word (L + k) % 256) = rS (fun i => A.word (L + i)) len (k + 1) from rfl)
      have HEN := hid (show (decide (k < len) && ((rS (fun i => A.word (L + i)) len (k + 1)).1.mo == 0)) = enS (fun i => A.word (L + i)) len k from rfl)
      have HOV := hid (show andW (mk (enS (fun i => A.word (L + i)) len k)) (rS (fun i => A.word (L + i)) len (k + 1)).1.pt = ovS (fun i => A.word (L + i)) len k from rfl)
      have HROK := hid (rS_ok (fun i => A.word (L + i)) len k)
      have HRPK := hid (rS_ok (fun i => A.word (L + i)) len (k + 1))
      have HOVL := hid (ovS_lt (fun i => A.word (L + i)) len k)
      have HKN := hid (show ∀ r, rS (fun i => A.word (L + i)) len (k + 1) = r → rS (fun i => A.word (L + i)) len (k + 1) = r from fun _ h => h)
      obtain ⟨Bk, hBk⟩ : ∃ B, dec1 A L O P len k = B := ⟨_, rfl⟩
      obtain ⟨x, hx⟩ : ∃ x, A.word (L + k) = x := ⟨_, rfl⟩
      obtain ⟨r, hr⟩ : ∃ r, rS (fun i => A.word (L + i)) len k = r := ⟨_, rfl⟩
      obtain ⟨r', hr'⟩ : ∃ r, rS (fun i => A.word (L + i)) len (k + 1) = r := ⟨_, rfl⟩
      obtain ⟨en, hen⟩ : ∃ b, enS (fun i => A.word (L + i)) len k = b := ⟨_, rfl⟩
      obtain ⟨ov, hov⟩ : ∃ b, ovS (fun i => A.word (L + i)) len k = b := ⟨_, rfl⟩
      obtain ⟨cnt, hcnt⟩ : ∃ b, decide (k < len) = b := ⟨_, rfl⟩
      have HRE := hid hr'
      have HCN := hid hcnt
      rw [hBk] at DK htp hwl hel HWD HEV
      rw [hr] at DK HR1 HROK
      rw [hr'] at HR1 HEN HOV HRPK
      rw [hen] at HEN HOV HEV
      rw [hov] at HOV HEV HOVL
      rw [hx] at HWD HX HR1
      rw [hcnt] at HR1 HEN
      clear hBk hx hr hr' hen hov hcnt HKN
      have hkt : L + k < Bk.top := by omega
      have HTO := hid (show O + k < Bk.top ∧ P + k < Bk.top from ⟨by omega, by omega⟩)
      have he4 : Bk.es.length ≤ 400000000 := by have := HES.out; omega
      have HE4 := hid he4
      obtain ⟨e1, e2⟩ := uld_at (A := Bk) (L := L) (i := k) hkt
      rw [HWD.out] at e1
      have H1 := hid e1
      have H2 := hid e2
      have HWL := hid (show IntKind.i64.wrap ((L : Int) + (k : Int)) = (L : Int) + (k : Int) by rw [IntKind.wrap_i64]; omega)
      have hkw : IntKind.u32.wrap (k : Int) = (k : Int) := by rw [IntKind.wrap_u32]; omega
      have HLT := hid (fun w' => HCN.out ▸ lt_any k len w' (by omega) HLN.out)
      have KB := hid (show ∀ w' : World, Below wr.heap.size wr w' → w'.cell? ⟨w.heap.size, 0, none⟩ = some (.int .u32 (len : Int)) from fun w' hb => cell_s1 (bk hb DK.out.l0))
      clear e1 e2 he4 htp hel hwl hap hkt HWD
      go_wp2_with fail
      refine wp_region_held_drew (S := (fun w' => w'.cell? ⟨w.heap.size, 0, none⟩ = some (.int .u32 (len : Int)))) (by kernel_rfl) (KB.out _ (blw_drew (Below.refl _ _))) (fun hHeld => ?_)
      refine tk_at (i := 0) (d := some 40) (v := ?_) rfl rfl (by kernel_rfl) (by kernel_rfl) (by kernel_rfl) (fun _ _ _ h => h) (Or.inl ⟨by rfl, ?_⟩) (by assumption) ?_
      rotate_left
      · (intro w hSw; (try dsimp only at hSw); go_simp; try (with_reducible rfl))
      simp only [Act.put, List.setIfInBounds_toArray, List.set_cons_zero, List.set_cons_succ]
      refine tk_at (i := 1) (d := some 41) (v := ?_) rfl rfl (by kernel_rfl) (by kernel_rfl) (by kernel_rfl) (fun _ _ _ h => h) (Or.inl ⟨by rfl, ?_⟩) (by assumption) ?_
      rotate_left
      · (intro w hSw; (try dsimp only at hSw); go_simp; try (with_reducible rfl))
      simp only [Act.put, List.setIfInBounds_toArray, List.set_cons_zero, List.set_cons_succ]
      refine tk_at (i := 3) (d := some 43) (v := ?_) rfl rfl (by kernel_rfl) (by kernel_rfl) (by kernel_rfl) (fun _ _ _ h => h) (Or.inl ⟨by rfl, ?_⟩) (by assumption) ?_
      rotate_left
      · (intro w hSw; (try dsimp only at hSw); go_simp; try (with_reducible rfl))
      simp only [Act.put, List.setIfInBounds_toArray, List.set_cons_zero, List.set_cons_succ]
      clear hHeld
      refine wpAnyH_inv0 (fun aC0 lsC aC wCA => ∃ (kC : Nat) (b5 b6 : Bool) (pv0 x2 x4 : Value), kC < 3 ∧ lsC = #[true, true, decide (1 ≤ kC), true, decide (2 ≤ kC), b5, b6] ∧ aC = { aC0 with tmps := (((aC0.tmps.setIfInBounds 42 x2).setIfInBounds 44 x4).setIfInBounds 16 pv0) } ∧ (1 ≤ kC → x2 = sec (k : Nat)) ∧ (2 ≤ kC → x4 = sec (mk cnt : Nat)) ∧ Below wr.heap.size wr wCA ∧ OwnV wr wCA b5 b6 pv0 #[.int .u32 0] #[.int .u32 (mk cnt : Nat)] 32 ∧ (b5 || !b6) = true ∧ True) ?_ _ _ _ (by decide +kernel) (fun aS => ⟨0, false, false, aS.tmps.getD 16 undef, aS.tmps.getD 42 undef, aS.tmps.getD 44 undef, by decide, by kernel_rfl, by simp only [set_self], fun h => absurd h (by decide), fun h => absurd h (by decide), blw_drew (Below.refl _ _), OwnV.non, rfl, trivial⟩)
      intro lsC aC wCA ⟨kC, b5, b6, pv0, x2, x4, hk, hl, ha, hx2, hx4, hBw, hw0, hc0, _⟩
      subst hl ha
      have Hhx2 := hid hx2
      have Hhx4 := hid hx4
      have HhBw := hid hBw
      have Hhw0 := hid hw0
      have Hhc0 := hid hc0
      clear hx2 hx4 hBw hw0 hc0
      simp only [List.setIfInBounds_toArray, List.set_cons_zero, List.set_cons_succ]
      refine ⟨fun hr => ?_, fun i hi => ?_⟩
      rotate_left
      · have hcase : (i = 2 ∧ kC = 0) ∨ (i = 4 ∧ kC = 1) ∨ (i = 5 ∧ b5 = false) ∨ (i = 6 ∧ b6 = false ∧ b5 = true ∧ kC = 2) := by
          refine of_decide_eq_true ((List.all_eq_true (p := fun i => decide ((i = 2 ∧ kC = 0) ∨ (i = 4 ∧ kC = 1) ∨ (i = 5 ∧ b5 = false) ∨ (i = 6 ∧ b6 = false ∧ b5 = true ∧ kC = 2)))).1 ?_ i hi)
          clear Hhx2 Hhx4 HhBw Hhw0 Hhc0 hi
          revert b5 b6
          revert kC
          decide +kernel
        clear hi
        rcases hcase with ⟨rfl, rfl⟩ | ⟨rfl, rfl⟩ | ⟨rfl, rfl⟩ | ⟨rfl, rfl, rfl, rfl⟩
        · refine wpOp_shut rfl (fun K hK => ?_)
          go_simp
          refine (of_b _ _).mono ?_
          rintro e wa ⟨rfl, hBa⟩
          have HBa := hid hBa
          clear hBa
          go_wp2_with fail
          have hB3 := belowCat HhBw.out HBa.out
          exact hK.out _ _ ⟨KB.out _ hB3, 1, b5, b6, _, _, _, by first | exact hk | decide, by kernel_rfl, rfl, fun _ => rfl, fun h => absurd h (by decide), hB3, (Hhw0.out.below HBa.out), (by first | exact Hhc0.out | rfl), trivial⟩
        · obtain rfl := Hhx2.out (by decide)
          refine wpOp_shut rfl (fun K hK => ?_)
          go_simp
          refine (HLT.out _).mono ?_
          rintro e wa ⟨rfl, hBa⟩
          have HBa := hid hBa
          clear hBa
          go_wp2_with fail
          have hB3 := belowCat HhBw.out HBa.out
          exact hK.out _ _ ⟨KB.out _ hB3, 2, b5, b6, _, _, _, by first | exact hk | decide, by kernel_rfl, rfl, fun _ => rfl, fun _ => rfl, hB3, (Hhw0.out.below HBa.out), (by first | exact Hhc0.out | rfl), trivial⟩
        · obtain rfl : b6 = false := by have := Hhc0.out; revert this; cases b6 <;> simp
          refine wpOp_shut rfl (fun K hK => ?_)
          go_simp
          go_wp2_with fail
          have hBa := (Below.refl wCA.heap.size wCA).alloc (Nat.le_refl _) (.cells #[.int .u32 0] 32 (0, 0))
          have hB3 := belowCat HhBw.out hBa
          exact hK.out _ _ ⟨KB.out _ hB3, kC, true, false, _, _, _, by first | exact hk | decide, by kernel_rfl, rfl, Hhx2.out, Hhx4.out, hB3, (OwnV.new HhBw.out), (by first | exact Hhc0.out | rfl), trivial⟩
        · obtain ⟨z, rfl, hz1, hz2⟩ := Hhw0.out rfl
          obtain rfl := Hhx2.out (by decide)
          obtain rfl := Hhx4.out (by decide)
          have c0 := cell_of_heap (i := 0) hz2 rfl
          have g0 := frozen_of_heap (i := 0) hz2
          have HZ := hid (And.intro hz1 hz2)
          clear hz1 hz2
          refine wpOp_shut rfl (fun K hK => ?_)
          go_simp
          go_wp2_with fail
          exact hK.out _ _ ⟨KB.out _ (HhBw.out.setCell (p := ⟨z, 0, none⟩) HZ.out.1 _), 2, true, true, _, _, _, by first | exact hk | decide, by kernel_rfl, rfl, fun _ => rfl, fun _ => rfl, (HhBw.out.setCell (p := ⟨z, 0, none⟩) HZ.out.1 _), (fun _ => ⟨z, rfl, HZ.out.1, vset1 HZ.out.2⟩), (by first | exact Hhc0.out | rfl), trivial⟩
      have hall : (b5 && b6 && decide (kC = 2)) = true := by
        clear Hhx2 Hhx4 HhBw Hhw0 Hhc0
        revert b5 b6
        revert kC
        decide +kernel
      simp only [Bool.and_eq_true, decide_eq_true_eq] at hall
      obtain ⟨⟨rfl, rfl⟩, rfl⟩ := hall
      obtain ⟨z0A, hpz0, hy01, hy02⟩ := Hhw0.out rfl
      subst hpz0
      have HZ0A := hid (show wr.heap.size ≤ z0A ∧ wCA.heap[z0A]? = some (.cells #[.int .u32 (mk cnt : Nat)] 32 (0, 0)) from (by first | exact And.intro hy01 hy02 | simpa using And.intro hy01 hy02))
      clear hy01 hy02
      obtain rfl := Hhx2.out (by decide)
      obtain rfl := Hhx4.out (by decide)
      have HRA := hid HhBw.out
      clear Hhx2 Hhx4 HhBw Hhw0 Hhc0 hr hk
      (try dsimp only)
      have D4 := hid (DK.out.below HRA.out)
      have D5 := hid D4.out.drew
      have CA := hid (show wCA.heap[z0A]? = some (sb (mk cnt : Nat)) from HZ0A.out.2)
      have NZA := hid (show ¬ Fk z0A ∧ z < z0A from ⟨fun x => by have := DK.out.ar.lt _ x; have := HZ0A.out.1; omega, Nat.lt_of_lt_of_le (lt_of_heap DK.out.rd) HZ0A.out.1⟩)
      clear KB HZ0A HRA DK
      go_wp2_with fail
      go_cut [17, 37] from 37 to 68 (fun c17 c37 wx => c37 = .int .i64 (k : Int) ∧ ∃ y F6, c17 = .pointer (some ⟨y, 0, none⟩) ∧ wx.heap[y]? = some (sb (mk en : Nat)) ∧ ¬ F6 y ∧ z < y ∧ D1 w wx h F F6 z len (Bk.loadN (L + k)) r')
      case first =>
        refine wp_region_held_drew (S := (fun w' => w'.cell? ⟨z0A, 0, none⟩ = some (.int .u32 (mk cnt : Nat)))) (by kernel_rfl) (cell_s1 (show wCA.drew.heap[z0A]? = some (sb (mk cnt : Nat)) from CA.out)) (fun hHeld => ?_)
        refine tk_at (i := 0) (d := some 45) (v := ?_) rfl rfl (by kernel_rfl) (by kernel_rfl) (by kernel_rfl) (fun _ _ _ h => h) (Or.inl ⟨by rfl, ?_⟩) (by assumption) ?_
        rotate_left
        · (intro w hSw; (try dsimp only at hSw); go_simp; try (with_reducible rfl))
        simp only [Act.put, List.setIfInBounds_toArray, List.set_cons_zero, List.set_cons_succ]
        refine tk_at (i := 1) (d := some 46) (v := ?_) rfl rfl (by kernel_rfl) (by kernel_rfl) (by kernel_rfl) (fun _ _ _ h => h) (Or.inl ⟨by rfl, ?_⟩) (by assumption) ?_
        rotate_left
        · (intro w hSw; (try dsimp only at hSw); go_simp; try (with_reducible rfl))
        simp only [Act.put, List.setIfInBounds_toArray, List.set_cons_zero, List.set_cons_succ]
        refine tk_at (i := 2) (d := some 47) (v := ?_) rfl rfl (by kernel_rfl) (by kernel_rfl) (by kernel_rfl) (fun _ _ _ h => h) (Or.inl ⟨by rfl, ?_⟩) (by assumption) ?_
        rotate_left
        · (intro w hSw; (try dsimp only at hSw); go_simp; try (with_reducible rfl))
        simp only [Act.put, List.setIfInBounds_toArray, List.set_cons_zero, List.set_cons_succ]
        refine tk_at (i := 3) (d := some 48) (v := ?_) rfl rfl (by kernel_rfl) (by kernel_rfl) (by kernel_rfl) (fun _ _ _ h => h) (Or.inl ⟨by rfl, ?_⟩) (by assumption) ?_
        rotate_left
        · (intro w hSw; (try dsimp only at hSw); go_simp; try (with_reducible rfl))
        simp only [Act.put, List.setIfInBounds_toArray, List.set_cons_zero, List.set_cons_succ]
        refine tk_at (i := 5) (d := some 50) (v := ?_) rfl rfl (by kernel_rfl) (by kernel_rfl) (by kernel_rfl) (fun _ _ _ h => h) (Or.inl ⟨by rfl, ?_⟩) (by assumption) ?_
        rotate_left
        · (intro w hSw; (try dsimp only at hSw); go_simp; try (with_reducible rfl))
        simp only [Act.put, List.setIfInBounds_toArray, List.set_cons_zero, List.set_cons_succ]
        refine wpAnyH_ready (rs := [4, 7]) (by kernel_rfl) (by simp) ?_
        refine AllReadyH.cons rfl (fun K hK => ?_) (AllReadyH.cons rfl (fun K hK => ?_) AllReadyH.nil)
        · go_simp
          rw [HWL.out]
          refine (ar_load h Fk Bk ((L : Int) + (k : Int)) _ D5.out.ar (by omega) (by have := HE4.out; omega)).mono ?_
          rintro e w6 ⟨rfl, F6, a6, s6⟩
          rw [H1.out]
          rw [H2.out] at a6
          have D6 := hid (D5.out.step a6 s6)
          have K6 := hid (s6.heap (show wCA.drew.heap[z0A]? = some (sb (mk cnt : Nat)) from CA.out) NZA.out.1)
          clear a6 s6
          go_wp2_with fail
          refine hK.out _ _ (cell_s1 K6.out) (fun hHeld => ?_)
          clear hK K
          try simp only [Act.put, List.setIfInBounds_toArray, List.set_cons_zero, List.set_cons_succ]
          refine wpAnyH_ready (rs := [6, 7]) (by kernel_rfl) (by simp) ?_
          refine AllReadyH.cons rfl (fun K hK => ?_) (AllReadyH.cons rfl (fun K hK => ?_) AllReadyH.nil)
          · go_simp
            refine (read_any z r.1 r.2 cnt x _ D6.out.rd HROK.out HX.out D6.out.lv).mono ?_
            rintro e w7 ⟨rfl, hr7, hf7⟩
            rw [show rdc cnt (r.1, r.2) (x % 256) = r' from HR1.out]
            rw [show rdc cnt (r.1, r.2) (x % 256) = r' from HR1.out] at hr7
            rw [HEN.out]
            have D7 := hid (D6.out.read hr7 hf7)
            have K7 := hid ((hf7.block _ (lt_of_heap K6.out) (show ¬ z0A = z from by have := NZA.out.2; omega)).trans K6.out)
            clear hr7 hf7
            go_wp2_with fail
            refine hK.out _ _ (cell_s1 K7.out) (fun hHeld => ?_)
            clear hK K
            try simp only [Act.put, List.setIfInBounds_toArray, List.set_cons_zero, List.set_cons_succ]
            refine wpAnyH_ready (rs := [7]) (by kernel_rfl) (by simp) ?_
            refine AllReadyH.cons rfl (fun K hK => ?_) AllReadyH.nil
            go_simp
            have hB8 := (Below.refl w7.heap.size w7).alloc (Nat.le_refl _) (sb 0)
            have K8 := hid (bk hB8 K7.out)
            clear hB8
            go_wp2_with fail
            refine hK.out _ _ (cell_s1 K8.out) (fun hHeld => ?_)
            clear hK K
            try simp only [Act.put, List.setIfInBounds_toArray, List.set_cons_zero, List.set_cons_succ]
            have hB9 := (Below.refl w7.heap.size w7).alloc (Nat.le_refl _) (sb (mk en : Nat))
            have K9 := hid (bk hB9 K7.out)
            have HFIN := hid (show ∃ y F6, Value.pointer (some ⟨w7.heap.size, 0, none⟩) = .pointer (some ⟨y, 0, none⟩) ∧ (w7.alloc (sb (mk en : Nat))).heap[y]? = some (sb (mk en : Nat)) ∧ ¬ F6 y ∧ z < y ∧ D1 w (w7.alloc (sb (mk en : Nat))) h F F6 z len (Bk.loadN (L + k)) r' from ⟨_, F6, rfl, heap_alloc_at _ _, D7.out.new, lt_of_heap D7.out.rd, D7.out.below hB9⟩)
            clear hB9
            refine wpAnyH_ready (rs := [8]) (by kernel_rfl) (by simp) ?_
            refine AllReadyH.cons rfl (fun K hK => ?_) AllReadyH.nil
            go_simp
            go_wp2_with fail
            refine hK.out _ _ (cell_s1 K9.out) (fun hHeld => ?_)
            clear hK K
            try simp only [Act.put, List.setIfInBounds_toArray, List.set_cons_zero, List.set_cons_succ]
            refine wpAnyH_done (by kernel_rfl) ?_ _
            clear hHeld
            go_wp2_with fail
            go_meet
            case rel => exact ⟨rfl, HFIN.out⟩
          · go_simp
            have hB8 := (Below.refl w6.heap.size w6).alloc (Nat.le_refl _) (sb 0)
            have D8 := hid (D6.out.below hB8)
            have K8 := hid (bk hB8 K6.out)
            have Y8 := hid (heap_alloc_at w6 (sb 0))
            have NY := hid (show z < w6.heap.size ∧ ¬ F6 w6.heap.size from ⟨lt_of_heap D6.out.rd, D6.out.new⟩)
            have YW := hid (show z0A ≠ w6.heap.size from Nat.ne_of_lt (lt_of_heap K6.out))
            clear hB8
            go_wp2_with fail
            refine hK.out _ _ (cell_s1 K8.out) (fun hHeld => ?_)
            clear hK K
            try simp only [Act.put, List.setIfInBounds_toArray, List.set_cons_zero, List.set_cons_succ]
            refine wpAnyH_ready (rs := [6]) (by kernel_rfl) (by simp) ?_
            refine AllReadyH.cons rfl (fun K hK => ?_) AllReadyH.nil
            go_simp
            refine (read_any z r.1 r.2 cnt x _ D8.out.rd HROK.out HX.out D8.out.lv).mono ?_
            rintro e w7 ⟨rfl, hr7, hf7⟩
            rw [show rdc cnt (r.1, r.2) (x % 256) = r' from HR1.out]
            rw [show rdc cnt (r.1, r.2) (x % 256) = r' from HR1.out] at hr7
            rw [HEN.out]
            have D7 := hid (D8.out.read hr7 hf7)
            have K7 := hid ((hf7.block _ (lt_of_heap K8.out) (show ¬ z0A = z from by have := NZA.out.2; omega)).trans K8.out)
            have Y9 := hid ((hf7.block _ (lt_of_heap Y8.out) (show ¬ w6.heap.size = z from by have := NY.out.1; omega)).trans Y8.out)
            clear hr7 hf7
            have kt := cell_s1 Y9.out
            have ft := frozen_of_heap (i := 0) Y9.out
            go_wp2_with fail
            refine hK.out _ _ (cell_s1 K7.out) (fun hHeld => ?_)
            clear hK K
            try simp only [Act.put, List.setIfInBounds_toArray, List.set_cons_zero, List.set_cons_succ]
            refine wpAnyH_ready (rs := [8]) (by kernel_rfl) (by simp) ?_
            refine AllReadyH.cons rfl (fun K hK => ?_) AllReadyH.nil
            go_simp
            go_wp2_with fail
            refine hK.out _ _ (cell_off (cell_s1 K7.out) YW.out) (fun hHeld => ?_)
            clear hK K
            try simp only [Act.put, List.setIfInBounds_toArray, List.set_cons_zero, List.set_cons_succ]
            have HFIN := hid (show ∃ y F6, Value.pointer (some ⟨w6.heap.size, 0, none⟩) = .pointer (some ⟨y, 0, none⟩) ∧ (w7.setCell ⟨w6.heap.size, 0, none⟩ (.int .u32 (mk en : Nat))).heap[y]? = some (sb (mk en : Nat)) ∧ ¬ F6 y ∧ z < y ∧ D1 w (w7.setCell ⟨w6.heap.size, 0, none⟩ (.int .u32 (mk en : Nat))) h F F6 z len (Bk.loadN (L + k)) r' from ⟨_, F6, rfl, heap_setCell_at _ _ 0 _ _ _ _ Y9.out, NY.out.2, NY.out.1, D7.out.set NY.out.1 NY.out.2⟩)
            clear kt ft
            refine wpAnyH_done (by kernel_rfl) ?_ _
            clear hHeld
            go_wp2_with fail
            go_meet
            case rel => exact ⟨rfl, HFIN.out⟩
        · go_simp
          have hB8 := (Below.refl wCA.drew.heap.size wCA.drew).alloc (Nat.le_refl _) (sb 0)
          have D8 := hid (D5.out.below hB8)
          have K8 := hid (bk hB8 (show wCA.drew.heap[z0A]? = some (sb (mk cnt : Nat)) from CA.out))
          have Y8 := hid (show (wCA.drew.alloc (sb 0)).heap[wCA.heap.size]? = some (sb 0) from heap_alloc_at wCA.drew (sb 0))
          have NY := hid (show z < wCA.heap.size ∧ ¬ Fk wCA.heap.size from ⟨lt_of_heap D5.out.rd, D5.out.new⟩)
          have YW := hid (show z0A ≠ wCA.heap.size from Nat.ne_of_lt (lt_of_heap CA.out))
          clear hB8
          go_wp2_with fail
          refine hK.out _ _ (cell_s1 K8.out) (fun hHeld => ?_)
          clear hK K
          try simp only [Act.put, List.setIfInBounds_toArray, List.set_cons_zero, List.set_cons_succ]
          refine wpAnyH_ready (rs := [4]) (by kernel_rfl) (by simp) ?_
          refine AllReadyH.cons rfl (fun K hK => ?_) AllReadyH.nil
          go_simp
          rw [HWL.out]
          refine (ar_load h Fk Bk ((L : Int) + (k : Int)) _ D8.out.ar (by omega) (by have := HE4.out; omega)).mono ?_
          rintro e w6 ⟨rfl, F6, a6, s6⟩
          rw [H1.out]
          rw [H2.out] at a6
          have D6 := hid (D8.out.step a6 s6)
          have K6 := hid (s6.heap K8.out NZA.out.1)
          have Y6 := hid (s6.heap Y8.out NY.out.2)
          have NY6 := hid (s6.out NY.out.2 (lt_of_heap Y8.out))
          clear a6 s6
          go_wp2_with fail
          refine hK.out _ _ (cell_s1 K6.out) (fun hHeld => ?_)
          clear hK K
          try simp only [Act.put, List.setIfInBounds_toArray, List.set_cons_zero, List.set_cons_succ]
          refine wpAnyH_ready (rs := [6]) (by kernel_rfl) (by simp) ?_
          refine AllReadyH.cons rfl (fun K hK => ?_) AllReadyH.nil
          go_simp
          refine (read_any z r.1 r.2 cnt x _ D6.out.rd HROK.out HX.out D6.out.lv).mono ?_
          rintro e w7 ⟨rfl, hr7, hf7⟩
          rw [show rdc cnt (r.1, r.2) (x % 256) = r' from HR1.out]
          rw [show rdc cnt (r.1, r.2) (x % 256) = r' from HR1.out] at hr7
          rw [HEN.out]
          have D7 := hid (D6.out.read hr7 hf7)
          have K7 := hid ((hf7.block _ (lt_of_heap K6.out) (show ¬ z0A = z from by have := NZA.out.2; omega)).trans K6.out)
          have Y9 := hid ((hf7.block _ (lt_of_heap Y6.out) (show ¬ wCA.heap.size = z from by have := NY.out.1; omega)).trans Y6.out)
          clear hr7 hf7
          have kt := cell_s1 Y9.out
          have ft := frozen_of_heap (i := 0) Y9.out
          go_wp2_with fail
          refine hK.out _ _ (cell_s1 K7.out) (fun hHeld => ?_)
          clear hK K
          try simp only [Act.put, List.setIfInBounds_toArray, List.set_cons_zero, List.set_cons_succ]
          refine wpAnyH_ready (rs := [8]) (by kernel_rfl) (by simp) ?_
          refine AllReadyH.cons rfl (fun K hK => ?_) AllReadyH.nil
          go_simp
          go_wp2_with fail
          refine hK.out _ _ (cell_off (cell_s1 K7.out) YW.out) (fun hHeld => ?_)
          clear hK K
          try simp only [Act.put, List.setIfInBounds_toArray, List.set_cons_zero, List.set_cons_succ]
          have HFIN := hid (show ∃ y F6, Value.pointer (some ⟨wCA.heap.size, 0, none⟩) = .pointer (some ⟨y, 0, none⟩) ∧ (w7.setCell ⟨wCA.heap.size, 0, none⟩ (.int .u32 (mk en : Nat))).heap[y]? = some (sb (mk en : Nat)) ∧ ¬ F6 y ∧ z < y ∧ D1 w (w7.setCell ⟨wCA.heap.size, 0, none⟩ (.int .u32 (mk en : Nat))) h F F6 z len (Bk.loadN (L + k)) r' from ⟨_, F6, rfl, heap_setCell_at _ _ 0 _ _ _ _ Y9.out, NY6.out, NY.out.1, D7.out.set NY.out.1 NY6.out⟩)
          clear kt ft
          refine wpAnyH_done (by kernel_rfl) ?_ _
          clear hHeld
          go_wp2_with fail
          go_meet
          case rel => exact ⟨rfl, HFIN.out⟩
      case rest =>
        obtain ⟨rfl, y, F6, rfl, hy, hny, hzy, d6⟩ := hcut
        have D6 := hid d6
        have Y6 := hid (And.intro hy (And.intro hny hzy))
        have hpt := HRPK.out.p
        have HAN := hid (fun w' => HOV.out ▸ and_b (mk en) r'.1.pt w' (mk_lt en) hpt)
        have ey := cell_s1 hy
        obtain ⟨ez, _, _, _, _⟩ := cell_rd D6.out.rd
        clear d6 hy hny hzy D5 D4 CA NZA hkw hpt
        go_wp2_with fail
        refine (HAN.out _).mono ?_
        rintro e w7 ⟨rfl, hB7⟩
        have D7 := hid (D6.out.below hB7)
        have Y7 := hid (bk hB7 Y6.out.1)
        clear hB7 ey ez
        go_wp2_with fail
        refine (ar_store h F6 (Bk.loadN (L + k)) ((O : Int) + (k : Int)) ov _ D7.out.ar (by omega) HOVL.out (by have := HE4.out; simp only [Ars.loadN, Ars.note, List.length_append, List.length_cons, List.length_nil]; omega)).mono ?_
        rintro e w8 ⟨rfl, F8, a8, s8⟩
        rw [ust_at (A := Bk.loadN (L + k)) (L := O) (i := k) HTO.out.1] at a8
        have D8 := hid (D7.out.step a8 s8)
        have Y8 := hid (s8.heap Y7.out Y6.out.2.1)
        have ey := cell_s1 Y8.out
        clear a8 s8
        go_wp2_with fail
        refine (ar_store h F8 _ ((P : Int) + (k : Int)) (mk en) _ D8.out.ar (by omega) (mk_lt en) (by have := HE4.out; simp only [Ars.loadN, Ars.note, Ars.storeN, List.length_append, List.length_cons, List.length_nil]; omega)).mono ?_
        rintro e w9 ⟨rfl, F9, a9, s9⟩
        rw [ust_at (A := (Bk.loadN (L + k)).storeN (O + k) ov) (L := P) (i := k) HTO.out.2, ← HEV.out] at a9
        have D9 := hid (D8.out.step a9 s9)
        clear a9 s9 ey
        go_wp2
        go_roundw
        case rel => exact ⟨k + 1, F9, by omega, by go_num, by rw [HRE.out]; exact D9.out⟩
        case measure => simp [intOf]; omega
    · have hkN : k = N := by omega
      subst hkN
      clear D0
      have DK := hid d1k
      clear d1k
      have HOKN := hid (rS_ok (fun i => A.word (L + i)) len k)
      have HRE := hid (show goodS A L len k = good (rS (fun i => A.word (L + i)) len k) from rfl)
      have HD2 := hid (show ∀ j, dec2 A L O P len k (j + 1) = ((((dec2 A L O P len k j).loadN (O + j)).storeN (O + j) (andW (mk (goodS A L len k)) ((dec1 A L O P len k).word (O + j)))).loadN (P + j)).storeN (P + j) (andW (mk (goodS A L len k)) ((dec1 A L O P len k).word (P + j))) from fun j => rfl)
      have HTP := hid (show (dec1 A L O P len k).top = A.top ∧ (dec1 A L O P len k).ws.length = A.ws.length ∧ (dec1 A L O P len k).es.length = A.es.length + 3 * k from ⟨d1_top .., d1_wl .., d1_es ..⟩)
      have HTQ := hid (show ∀ j, (dec2 A L O P len k j).top = (dec1 A L O P len k).top ∧ (dec2 A L O P len k j).ws.length = (dec1 A L O P len k).ws.length ∧ (dec2 A L O P len k j).es.length = (dec1 A L O P len k).es.length + 4 * j from fun j => ⟨d2_top .., d2_wl .., d2_es ..⟩)
      have HWQ := hid (show ∀ j q, O + j ≤ (dec1 A L O P len k).ws.length → P + j ≤ (dec1 A L O P len k).ws.length → (q < O ∨ O + j ≤ q) → (q < P ∨ P + j ≤ q) → (dec2 A L O P len k j).word q = (dec1 A L O P len k).word q from fun j q h1 h2 h3 h4 => d2_word _ _ _ _ _ j h1 h2 q h3 h4)
      have HD0 := hid (show dec2 A L O P len k 0 = dec1 A L O P len k from rfl)
      obtain ⟨st, hst⟩ : ∃ b, goodS A L len k = b := ⟨_, rfl⟩
      have HGS := hid hst
      rw [hst] at HRE HD2
      have HFA := hid (fun (w' : World) (hh : w'.heap[z]? = some (rdO (rS (fun i => A.word (L + i)) len k).1 (rS (fun i => A.word (L + i)) len k).2)) => failed_any z (rS (fun i => A.word (L + i)) len k).1 (rS (fun i => A.word (L + i)) len k).2 w' hh HOKN.out)
      rw [show good ((rS (fun i => A.word (L + i)) len k).1, (rS (fun i => A.word (L + i)) len k).2) = st from HRE.out.symm] at HFA
      clear hst
      go_wp2_with fail
      refine (HFA.out _ DK.out.rd).mono ?_
      rintro e w4 ⟨rfl, hB4⟩
      have D4 := hid (DK.out.below hB4)
      clear hB4 DK HFA HOKN
      go_wp2_with fail
      have D4' := hid (D4.out.alloc (sb (mk (!st) : Nat)))
      have Y84 := hid (heap_alloc_at w4 (sb (mk (!st) : Nat)))
      have N84 := hid D4.out.new
      have HNN := hid (fun w' => (Bool.not_not st) ▸ not_c (!st) w')
      refine (HNN.out _).mono ?_
      rintro e w5 ⟨rfl, hB5⟩
      have D5 := hid (D4'.out.below hB5)
      have Y85 := hid (bk hB5 Y84.out)
      clear hB5
      have E0 := hid (show D2 w (w5.alloc (sb (mk st : Nat))) h F Fk w4.heap.size w5.heap.size (dec2 A L O P len k 0) st from by
        have hB := (Below.refl w5.heap.size w5).alloc (Nat.le_refl _) (sb (mk st : Nat))
        have d := D5.out.below hB
        rw [HD0.out]
        exact ⟨d.ar, d.st, d.l1, bk hB Y85.out, heap_alloc_at _ _, d.n1, N84.out, D5.out.new⟩)
      clear D4 D4' Y84 N84 Y85 D5
      go_wp2_with fail
      generalize (w5.alloc (sb (mk st : Nat))) = w6 at *
      obtain ⟨y9, hy9⟩ : ∃ y, w5.heap.size = y := ⟨_, rfl⟩
      obtain ⟨y8, hy8⟩ : ∃ y, w4.heap.size = y := ⟨_, rfl⟩
      rw [hy8, hy9] at E0
      rw [hy8, hy9]
      clear hy8 hy9
      obtain ⟨N, hNe⟩ : ∃ N, k = N := ⟨_, rfl⟩
      subst hNe
      go_loopw [73] (fun c wr => ∃ (j : Nat) (Fj : Nat → Prop), j ≤ k ∧ c = .int .i64 (j : Int) ∧ D2 w wr h F Fj y8 y9 (dec2 A L O P len k j) st) (fun c _ => k - (intOf c).toNat)
      case atStart => exact ⟨0, Fk, Nat.zero_le _, rfl, E0.out⟩
      case round =>
        obtain ⟨j, Fj, hj, rfl, ej⟩ := hrel
        by_cases hlt : j < k
        · clear E0
          have E0 := hid ej
          clear ej
          have hap := HAP.out
          obtain ⟨q1, q2, q3⟩ := HTP.out
          obtain ⟨p1, p2, p3⟩ := HTQ.out j
          have HTO := hid (show O + j < (dec2 A L O P len k j).top ∧ P + j < (dec2 A L O P len k j).top from ⟨by omega, by omega⟩)
          have HWO := hid (show (dec2 A L O P len k j).word (O + j) = (dec1 A L O P len k).word (O + j) from HWQ.out j _ (by omega) (by omega) (by omega) (by omega))
          have HWK := hid (show (dec2 A L O P len k j).word (P + j) = (dec1 A L O P len k).word (P + j) from HWQ.out j _ (by omega) (by omega) (by omega) (by omega))
          have hwl : O + j < (dec2 A L O P len k j).ws.length := by omega
          have HEV := hid (HD2.out j)
          have he4 : (dec2 A L O P len k j).es.length ≤ 400000000 := by have := HES.out; omega
          have hne : P + j ≠ O + j := by omega
          obtain ⟨Cj, hCj⟩ : ∃ C, dec2 A L O P len k j = C := ⟨_, rfl⟩
          obtain ⟨v, hv⟩ : ∃ x, (dec1 A L O P len k).word (O + j) = x := ⟨_, rfl⟩
          obtain ⟨u, hu⟩ : ∃ x, (dec1 A L O P len k).word (P + j) = x := ⟨_, rfl⟩
          obtain ⟨fv, hfv⟩ : ∃ x, andW (mk st) v = x := ⟨_, rfl⟩
          obtain ⟨gu, hgu⟩ : ∃ x, andW (mk st) u = x := ⟨_, rfl⟩
          rw [hCj] at E0 HTO HWO HWK hwl HEV he4
          rw [hv] at HWO HEV
          rw [hu] at HWK HEV
          rw [hfv] at HEV
          rw [hgu] at HEV
          have HFV := hid hfv
          have HGU := hid hgu
          have HFL := hid (show fv < 4294967296 from hfv ▸ andW_lt (mk_lt st))
          have HGL := hid (show gu < 4294967296 from hgu ▸ andW_lt (mk_lt st))
          have HVL := hid (show v < 4294967296 from HWO.out ▸ Ars.word_lt E0.out.ar.ok (O + j))
          have HUL := hid (show u < 4294967296 from HWK.out ▸ Ars.word_lt E0.out.ar.ok (P + j))
          have HE4 := hid he4
          obtain ⟨e1, e2⟩ := uld_at (A := Cj) (L := O) (i := j) HTO.out.1
          rw [HWO.out] at e1
          have H1 := hid e1
          have H2 := hid e2
          obtain ⟨e3, e4⟩ := uld_at (A := (Cj.loadN (O + j)).storeN (O + j) fv) (L := P) (i := j) HTO.out.2
          rw [uword_st (Cj.loadN (O + j)) (O + j) fv hwl, if_neg hne, show (Cj.loadN (O + j)).word (P + j) = u from HWK.out] at e3
          have H3 := hid e3
          have H4 := hid e4
          have HSO := hid (ust_at (A := Cj.loadN (O + j)) (L := O) (i := j) (v := fv) HTO.out.1)
          have HSK := hid (show (((Cj.loadN (O + j)).storeN (O + j) fv).loadN (P + j)).store ((P : Int) + (j : Int)) gu = dec2 A L O P len k (j + 1) from (ust_at (A := ((Cj.loadN (O + j)).storeN (O + j) fv).loadN (P + j)) (L := P) (i := j) (v := gu) HTO.out.2).trans HEV.out.symm)
          have HWLO := hid (show IntKind.i64.wrap ((O : Int) + (j : Int)) = (O : Int) + (j : Int) by rw [IntKind.wrap_i64]; omega)
          have HWLK := hid (show IntKind.i64.wrap ((P : Int) + (j : Int)) = (P : Int) + (j : Int) by rw [IntKind.wrap_i64]; omega)
          clear hCj hv hu hfv hgu e1 e2 e3 e4 hap q1 q2 q3 p1 p2 p3 hwl he4 hne HWO HWK HEV HD2 HWQ HTQ HTP
          go_wp2_with fail
          refine wp_region_held_drew (S := (fun w' => w'.cell? ⟨y9, 0, none⟩ = some (.int .u32 (mk st : Nat)))) (by kernel_rfl) (cell_s1 E0.out.drew.l9) (fun hHeld => ?_)
          refine tk_at (i := 0) (d := some 76) (v := ?_) rfl rfl (by kernel_rfl) (by kernel_rfl) (by kernel_rfl) (fun _ _ _ h => h) (Or.inl ⟨by rfl, ?_⟩) (by assumption) ?_
          rotate_left
          · (intro w hSw; (try dsimp only at hSw); go_simp; try (with_reducible rfl))
          simp only [Act.put, List.setIfInBounds_toArray, List.set_cons_zero, List.set_cons_succ]
          refine tk_at (i := 1) (d := some 77) (v := ?_) rfl rfl (by kernel_rfl) (by kernel_rfl) (by kernel_rfl) (fun _ _ _ h => h) (Or.inl ⟨by rfl, ?_⟩) (by assumption) ?_
          rotate_left
          · (intro w hSw; (try dsimp only at hSw); go_simp; try (with_reducible rfl))
          simp only [Act.put, List.setIfInBounds_toArray, List.set_cons_zero, List.set_cons_succ]
          refine tk_at (i := 2) (d := some 78) (v := ?_) rfl rfl (by kernel_rfl) (by kernel_rfl) (by kernel_rfl) (fun _ _ _ h => h) (Or.inl ⟨by rfl, ?_⟩) (by assumption) ?_
          rotate_left
          · (intro w hSw; (try dsimp only at hSw); go_simp; try (with_reducible rfl))
          simp only [Act.put, List.setIfInBounds_toArray, List.set_cons_zero, List.set_cons_succ]
          refine tk_at (i := 3) (d := some 79) (v := ?_) rfl rfl (by kernel_rfl) (by kernel_rfl) (by kernel_rfl) (fun _ _ _ h => h) (Or.inl ⟨by rfl, ?_⟩) (by assumption) ?_
          rotate_left
          · (intro w hSw; (try dsimp only at hSw); go_simp; try (with_reducible rfl))
          simp only [Act.put, List.setIfInBounds_toArray, List.set_cons_zero, List.set_cons_succ]
          refine tk_at (i := 4) (d := some 80) (v := ?_) rfl rfl (by kernel_rfl) (by kernel_rfl) (by kernel_rfl) (fun _ _ _ h => h) (Or.inl ⟨by rfl, ?_⟩) (by assumption) ?_
          rotate_left
          · (intro w hSw; (try dsimp only at hSw); go_simp; try (with_reducible rfl))
          simp only [Act.put, List.setIfInBounds_toArray, List.set_cons_zero, List.set_cons_succ]
          refine tk_at (i := 5) (d := some 81) (v := ?_) rfl rfl (by kernel_rfl) (by kernel_rfl) (by kernel_rfl) (fun _ _ _ h => h) (Or.inl ⟨by rfl, ?_⟩) (by assumption) ?_
          rotate_left
          · (intro w hSw; (try dsimp only at hSw); go_simp; try (with_reducible rfl))
          simp only [Act.put, List.setIfInBounds_toArray, List.set_cons_zero, List.set_cons_succ]
          refine tk_at (i := 6) (d := some 82) (v := ?_) rfl rfl (by kernel_rfl) (by kernel_rfl) (by kernel_rfl) (fun _ _ _ h => h) (Or.inl ⟨by rfl, ?_⟩) (by assumption) ?_
          rotate_left
          · (intro w hSw; (try dsimp only at hSw); go_simp; try (with_reducible rfl))
          simp only [Act.put, List.setIfInBounds_toArray, List.set_cons_zero, List.set_cons_succ]
          refine tk_at (i := 7) (d := some 83) (v := ?_) rfl rfl (by kernel_rfl) (by kernel_rfl) (by kernel_rfl) (fun _ _ _ h => h) (Or.inl ⟨by rfl, ?_⟩) (by assumption) ?_
          rotate_left
          · (intro w hSw; (try dsimp only at hSw); go_simp; try (with_reducible rfl))
          simp only [Act.put, List.setIfInBounds_toArray, List.set_cons_zero, List.set_cons_succ]
          refine tk_at (i := 8) (d := some 84) (v := ?_) rfl rfl (by kernel_rfl) (by kernel_rfl) (by kernel_rfl) (fun _ _ _ h => h) (Or.inl ⟨by rfl, ?_⟩) (by assumption) ?_
          rotate_left
          · (intro w hSw; (try dsimp only at hSw); go_simp; try (with_reducible rfl))
          simp only [Act.put, List.setIfInBounds_toArray, List.set_cons_zero, List.set_cons_succ]
          refine wpAnyH_ready (rs := [9]) (by kernel_rfl) (by simp) ?_
          refine AllReadyH.cons rfl (fun K hK => ?_) AllReadyH.nil
          go_simp
          (try rw [HWLO.out])
          refine (ar_load h Fj Cj ((O : Int) + (j : Int)) _ E0.out.drew.ar (by omega) (by have := HE4.out; omega)).mono ?_
          rintro e w6 ⟨rfl, F6O, a6, s6⟩
          rw [H1.out]
          rw [H2.out] at a6
          have E1 := hid (E0.out.drew.step a6 s6)
          clear a6 s6
          go_wp2_with fail
          refine hK.out _ _ (cell_s1 E1.out.l9) (fun hHeld => ?_)
          clear hK K
          try simp only [Act.put, List.setIfInBounds_toArray, List.set_cons_zero, List.set_cons_succ]
          refine wpAnyH_ready (rs := [10]) (by kernel_rfl) (by simp) ?_
          refine AllReadyH.cons rfl (fun K hK => ?_) AllReadyH.nil
          go_simp
          refine (and_b (mk st) v _ (mk_lt st) HVL.out).mono ?_
          rintro e w7 ⟨rfl, hBd⟩
          rw [HFV.out]
          have E2 := hid (E1.out.below hBd)
          clear hBd
          go_wp2_with fail
          refine hK.out _ _ (cell_s1 E2.out.l9) (fun hHeld => ?_)
          clear hK K
          try simp only [Act.put, List.setIfInBounds_toArray, List.set_cons_zero, List.set_cons_succ]
          refine wpAnyH_ready (rs := [11]) (by kernel_rfl) (by simp) ?_
          refine AllReadyH.cons rfl (fun K hK => ?_) AllReadyH.nil
          go_simp
          (try rw [HWLO.out])
          refine (ar_store h F6O _ ((O : Int) + (j : Int)) fv _ E2.out.ar (by omega) HFL.out (by have := HE4.out; simp only [Ars.loadN, Ars.note, List.length_append, List.length_cons, List.length_nil]; omega)).mono ?_
          rintro e w8O ⟨rfl, F8O, a8, s8⟩
          rw [HSO.out] at a8
          have E3 := hid (E2.out.step a8 s8)
          clear a8 s8
          go_wp2_with fail
          refine hK.out _ _ (cell_s1 E3.out.l9) (fun hHeld => ?_)
          clear hK K
          try simp only [Act.put, List.setIfInBounds_toArray, List.set_cons_zero, List.set_cons_succ]
          refine wpAnyH_done (by kernel_rfl) ?_ _
          clear hHeld
          have G0 := hid E3.out
          clear E0 E1 E2
          go_wp2_with fail
          refine wp_region_held_drew (S := (fun w' => w'.cell? ⟨y9, 0, none⟩ = some (.int .u32 (mk st : Nat)))) (by kernel_rfl) (cell_s1 G0.out.drew.l9) (fun hHeld => ?_)
          refine tk_at (i := 0) (d := some 88) (v := ?_) rfl rfl (by kernel_rfl) (by kernel_rfl) (by kernel_rfl) (fun _ _ _ h => h) (Or.inl ⟨by rfl, ?_⟩) (by assumption) ?_
          rotate_left
          · (intro w hSw; (try dsimp only at hSw); go_simp; try (with_reducible rfl))
          simp only [Act.put, List.setIfInBounds_toArray, List.set_cons_zero, List.set_cons_succ]
          refine tk_at (i := 1) (d := some 89) (v := ?_) rfl rfl (by kernel_rfl) (by kernel_rfl) (by kernel_rfl) (fun _ _ _ h => h) (Or.inl ⟨by rfl, ?_⟩) (by assumption) ?_
          rotate_left
          · (intro w hSw; (try dsimp only at hSw); go_simp; try (with_reducible rfl))
          simp only [Act.put, List.setIfInBounds_toArray, List.set_cons_zero, List.set_cons_succ]
          refine tk_at (i := 2) (d := some 90) (v := ?_) rfl rfl (by kernel_rfl) (by kernel_rfl) (by kernel_rfl) (fun _ _ _ h => h) (Or.inl ⟨by rfl, ?_⟩) (by assumption) ?_
          rotate_left
          · (intro w hSw; (try dsimp only at hSw); go_simp; try (with_reducible rfl))
          simp only [Act.put, List.setIfInBounds_toArray, List.set_cons_zero, List.set_cons_succ]
          refine tk_at (i := 3) (d := some 91) (v := ?_) rfl rfl (by kernel_rfl) (by kernel_rfl) (by kernel_rfl) (fun _ _ _ h => h) (Or.inl ⟨by rfl, ?_⟩) (by assumption) ?_
          rotate_left
          · (intro w hSw; (try dsimp only at hSw); go_simp; try (with_reducible rfl))
          simp only [Act.put, List.setIfInBounds_toArray, List.set_cons_zero, List.set_cons_succ]
          refine tk_at (i := 4) (d := some 92) (v := ?_) rfl rfl (by kernel_rfl) (by kernel_rfl) (by kernel_rfl) (fun _ _ _ h => h) (Or.inl ⟨by rfl, ?_⟩) (by assumption) ?_
          rotate_left
          · (intro w hSw; (try dsimp only at hSw); go_simp; try (with_reducible rfl))
          simp only [Act.put, List.setIfInBounds_toArray, List.set_cons_zero, List.set_cons_succ]
          refine tk_at (i := 5) (d := some 93) (v := ?_) rfl rfl (by kernel_rfl) (by kernel_rfl) (by kernel_rfl) (fun _ _ _ h => h) (Or.inl ⟨by rfl, ?_⟩) (by assumption) ?_
          rotate_left
          · (intro w hSw; (try dsimp only at hSw); go_simp; try (with_reducible rfl))
          simp only [Act.put, List.setIfInBounds_toArray, List.set_cons_zero, List.set_cons_succ]
          refine tk_at (i := 6) (d := some 94) (v := ?_) rfl rfl (by kernel_rfl) (by kernel_rfl) (by kernel_rfl) (fun _ _ _ h => h) (Or.inl ⟨by rfl, ?_⟩) (by assumption) ?_
          rotate_left
          · (intro w hSw; (try dsimp only at hSw); go_simp; try (with_reducible rfl))
          simp only [Act.put, List.setIfInBounds_toArray, List.set_cons_zero, List.set_cons_succ]
          refine tk_at (i := 7) (d := some 95) (v := ?_) rfl rfl (by kernel_rfl) (by kernel_rfl) (by kernel_rfl) (fun _ _ _ h => h) (Or.inl ⟨by rfl, ?_⟩) (by assumption) ?_
          rotate_left
          · (intro w hSw; (try dsimp only at hSw); go_simp; try (with_reducible rfl))
          simp only [Act.put, List.setIfInBounds_toArray, List.set_cons_zero, List.set_cons_succ]
          refine tk_at (i := 8) (d := some 96) (v := ?_) rfl rfl (by kernel_rfl) (by kernel_rfl) (by kernel_rfl) (fun _ _ _ h => h) (Or.inl ⟨by rfl, ?_⟩) (by assumption) ?_
          rotate_left
          · (intro w hSw; (try dsimp only at hSw); go_simp; try (with_reducible rfl))
          simp only [Act.put, List.setIfInBounds_toArray, List.set_cons_zero, List.set_cons_succ]
          refine wpAnyH_ready (rs := [9]) (by kernel_rfl) (by simp) ?_
          refine AllReadyH.cons rfl (fun K hK => ?_) AllReadyH.nil
          go_simp
          (try rw [HWLK.out])
          refine (ar_load h F8O ((Cj.loadN (O + j)).storeN (O + j) fv) ((P : Int) + (j : Int)) _ G0.out.drew.ar (by omega) (by have := HE4.out; simp only [Ars.loadN, Ars.note, Ars.storeN, List.length_append, List.length_cons, List.length_nil]; omega)).mono ?_
          rintro e w6 ⟨rfl, F6K, a6, s6⟩
          rw [H3.out]
          rw [H4.out] at a6
          have G1 := hid (G0.out.drew.step a6 s6)
          clear a6 s6
          go_wp2_with fail
          refine hK.out _ _ (cell_s1 G1.out.l9) (fun hHeld => ?_)
          clear hK K
          try simp only [Act.put, List.setIfInBounds_toArray, List.set_cons_zero, List.set_cons_succ]
          refine wpAnyH_ready (rs := [10]) (by kernel_rfl) (by simp) ?_
          refine AllReadyH.cons rfl (fun K hK => ?_) AllReadyH.nil
          go_simp
          refine (and_b (mk st) u _ (mk_lt st) HUL.out).mono ?_
          rintro e w7 ⟨rfl, hBd⟩
          rw [HGU.out]
          have G2 := hid (G1.out.below hBd)
          clear hBd
          go_wp2_with fail
          refine hK.out _ _ (cell_s1 G2.out.l9) (fun hHeld => ?_)
          clear hK K
          try simp only [Act.put, List.setIfInBounds_toArray, List.set_cons_zero, List.set_cons_succ]
          refine wpAnyH_ready (rs := [11]) (by kernel_rfl) (by simp) ?_
          refine AllReadyH.cons rfl (fun K hK => ?_) AllReadyH.nil
          go_simp
          (try rw [HWLK.out])
          refine (ar_store h F6K _ ((P : Int) + (j : Int)) gu _ G2.out.ar (by omega) HGL.out (by have := HE4.out; simp only [Ars.loadN, Ars.note, Ars.storeN, List.length_append, List.length_cons, List.length_nil]; omega)).mono ?_
          rintro e w8K ⟨rfl, F8K, a8, s8⟩
          rw [HSK.out] at a8
          have G3 := hid (G2.out.step a8 s8)
          clear a8 s8
          go_wp2_with fail
          refine hK.out _ _ (cell_s1 G3.out.l9) (fun hHeld => ?_)
          clear hK K
          try simp only [Act.put, List.setIfInBounds_toArray, List.set_cons_zero, List.set_cons_succ]
          refine wpAnyH_done (by kernel_rfl) ?_ _
          clear hHeld
          clear G0 G1 G2
          go_wp2
          go_roundw
          case rel => exact ⟨j + 1, F8K, by omega, by go_num, G3.out⟩
          case measure => simp [intOf]; omega
        · have hjN : j = k := by omega
          subst hjN
          have EJ := hid ej
          have k8 := cell_s1 ej.l8
          have k1 := cell_s1 ej.l1
          have f1 := frozen_of_heap (i := 0) ej.l1
          clear ej E0
          go_wp2
          have hb9 := heap_setCell_at _ _ 0 _ _ _ (.int .u32 (mk (!st) : Nat)) EJ.out.l1
          have d0 := cell_of_heap (i := 0) hb9 rfl
          exact bodyPost_ret (v := .tuple #[sec (mk (!st) : Nat), .bool true]) (by simp only [results, Tryd.results21]; simp [go_sem, d0]) rfl ⟨by rw [HGS.out], Fj, EJ.out.ar.setOther _ _ EJ.out.n1, EJ.out.sp.setNew _ _ (Nat.le_succ _)⟩
end Go.Proofs.YtjcnkigadlmpgaaDoor
