/- The law ArenaRuns returns true at all numbers and lists of acts. -/
import Derived.Test.YtajnegonagpjgaaDsD
namespace Go.Proofs.Ytajnegonagpjgaa
open Go.RowKit
set_option linter.unusedVariables false

theorem Both2.comp {h : Hn} {r : Hr} {A B A' B' : Ars} {w wz W w2 : World} {F G F2 G2 : Nat → Prop} (x : Both2 h r A B (fun _ => False) w wz F G) (y : Both2 h r A' B' (fun i => F i ∨ G i) W w2 F2 G2) (hW : Below wz.heap.size wz W) : Both2 h r A' B' (fun _ => False) w w2 F2 G2 := by
  have hs : ∀ i, (F i ∨ G i) ∨ W.heap.size ≤ i → False ∨ w.heap.size ≤ i := by
    rintro i ((z | z) | z)
    · exact x.hf i z
    · exact x.hg i z
    · exact Or.inr (Nat.le_trans x.fr.size (Nat.le_trans hW.size z))
  refine ⟨y.p, y.q, y.d, fun i z => hs i (y.hf i z), fun i z => hs i (y.hg i z), ?_⟩
  have f1 : Fr (fun _ => False) w W := x.fr.trans (T := fun _ => False) (Fr.ofBelow hW) fun _ _ z => z
  exact f1.trans y.fr fun i hi z => (hs i (Or.inl z)).elim id fun q => by omega
def allK (l : List Nat) (k : Nat) : Bool := (l.take k).all (· == 0)
theorem allK_succ (l : List Nat) (k : Nat) (h : k < l.length) : allK l (k + 1) = (allK l k && l[k] == 0) := by
  unfold allK; rw [List.take_succ_eq_append_getElem h, List.all_append]; simp only [List.all_cons, List.all_nil, Bool.and_true]
theorem allK_all (A : Ars) : allK A.ws A.ws.length = A.blank := by unfold allK Ars.blank; rw [List.take_of_length_le (Nat.le_refl _)]
/-- a region's condition may grow under way -/
theorem wpAnyH_mono {P : Program} {md : Region.Mode} {ops : Array Oper} {Q : Exit → Go.Act → World → Prop} {S S' : World → Prop} (hS : ∀ w, S' w → S w) : ∀ (fuel : Nat) (listed : Array Bool) (a : Go.Act) (w : World), wpAnyH P md ops Q S' fuel listed a w → wpAnyH P md ops Q S fuel listed a w
  | 0, _, _, _, h => h
  | fuel + 1, _, _, _, h => ⟨h.1, fun i hi => wpOp_mono (fun a' w' h' => ⟨hS w' h'.1, wpAnyH_mono hS fuel _ a' w' h'.2⟩) (h.2 i hi)⟩
/-- the taking of an operation whose temporary is named -/
theorem take_at {P : Program} {md : Region.Mode} {ops : Array Oper} {Q : Exit → Go.Act → World → Prop} {S : World → Prop} {i : Nat} {oi : Oper} {d : Option Tmp} {v : Value} {fuel : Nat} {listed : Array Bool} {a : Go.Act} {w : World} (hi : ops[i]? = some oi) (hd : oi.dst = d)
    (hs : Region.noSelect ops = true) (hf : Region.free md ops listed i = true) (hr : (Region.ready md ops listed).contains i = true)
    (hQ : ∀ c a w, Q (.panic c) (a.put d v) w → Q (.panic c) a w) (hy : YieldsIf P ops S oi v a) (hS : S w)
    (h : wpAnyH P md ops Q S fuel (listed.setIfInBounds i true) (a.put d v) w) : wpAnyH P md ops Q S (fuel + 1) listed a w := by
  subst hd; exact wpAnyH_take hi hs hf hr hQ hy hS h
set_option maxHeartbeats 800000 in
theorem runs_far (z : Int) (ad : Option Addr) (len cap : Nat) (w : World) (hz : 100 < z) :
    Calls Try.prog 3 #[.int .i64 z, .slice ad len cap] w fun e w' => e = .returned (.bool true) ∧ Below w.heap.size w w' := by
  go_enter Try.func3, Try.ntmps3
  go_wp2_with fail
  refine (awake_any _).mono ?_
  rintro e w1 ⟨rfl, hb1⟩
  go_wp2
  go_ret
  exact ⟨rfl, hb1⟩
set_option maxHeartbeats 800000 in
theorem runs_many (z : Int) (ad : Option Addr) (cap : Nat) (l : List Act) (w : World) (hz : z ≤ 100) (h : ActsAt w ad l) (hf : fewB l = false) :
    Calls Try.prog 3 #[.int .i64 z, .slice ad l.length cap] w fun e w' => e = .returned (.bool true) ∧ Below w.heap.size w w' := by
  have HC : Hid (ActsAt w ad l) := h
  clear h
  go_enter Try.func3, Try.ntmps3
  go_wp2_with fail
  refine (awake_any _).mono ?_
  rintro e w1 ⟨rfl, hb1⟩
  go_wp2_with (go_at_call 7; refine (few_any _ _ l _ (HC.out.below hb1)).mono ?_; rintro e w2 ⟨rfl, hb2⟩)
  go_ret
  exact ⟨rfl, hb1.trans (hb2.mono hb1.size)⟩

set_option maxRecDepth 100000 in
set_option maxHeartbeats 12800000 in
theorem runs_at (z : Int) (nw : Nat) (ad : Option Addr) (cap : Nat) (l : List Act) (w : World) (hz : z ≤ 100) (hzn : z < 0 ∧ nw = 0 ∨ z = (nw : Int)) (h : ActsAt w ad l) (hf : fewB l = true) (h60 : l.length ≤ 60) (h40 : ∀ t ∈ l, t.l.length ≤ 40) :
    Calls Try.prog 3 #[.int .i64 z, .slice ad l.length cap] w fun e w' => e = .returned (.bool true) ∧ Below w.heap.size w w' := by
  have HC : Hid (ActsAt w ad l) := h
  have HZ : Hid (z < 0 ∧ nw = 0 ∨ z = (nw : Int)) := hzn
  have H40 : Hid (∀ t ∈ l, t.l.length ≤ 40) := h40
  have hnw : nw ≤ 100 := by omega
  clear h hzn h40
  go_enter Try.func3, Try.ntmps3
  go_wp2_with fail
  refine (awake_any _).mono ?_
  rintro e w1 ⟨rfl, hb1⟩
  go_wp2_with (first
    | (go_at_call 7; refine (few_any _ _ l _ (HC.out.below hb1)).mono ?_; rintro e w2 ⟨rfl, hb2⟩)
    | fail)
  refine (ar_new_at z nw _ HZ.out (by omega)).mono ?_
  rintro e w3 ⟨h, Fa, rfl, aa, hia, hb3⟩
  have HAA := hid aa
  clear aa
  go_wp2_with fail
  refine (rf_new_at z nw _ HZ.out (by omega)).mono ?_
  rintro e w4 ⟨r, Fb, rfl, ab, hib, hb4⟩
  have hbw2 : Below w.heap.size w w2 := hb1.trans (hb2.mono hb1.size)
  have hP : Both2 h r (Ars.new nw) (Ars.new nw) (fun _ => False) w w4 Fa Fb := by
    refine ⟨HAA.out.below hb4, ab, fun i x y => ?_, fun i x => ?_, fun i x => ?_, ?_⟩
    · have := HAA.out.lt i x; have := hib i y; omega
    · exact Or.inr (Nat.le_trans hbw2.size (hia i x))
    · exact Or.inr (Nat.le_trans hbw2.size (Nat.le_trans hb3.size (hib i x)))
    · exact Fr.ofBelow (hbw2.trans ((hb3.mono hbw2.size).trans (hb4.mono (Nat.le_trans hbw2.size hb3.size))))
  have HP := hid hP
  clear hP ab HAA hia hib hb3 hb4 hb1 hb2 hbw2
  go_wp2_with fail
  go_loopw [30] (fun c wr => ∃ (k : Nat) (F G : Nat → Prop) (A : Ars), k ≤ l.length ∧ c = .int .i64 k ∧ Both2 h r A A (fun _ => False) w wr F G ∧ A.es.length ≤ k * 202 ∧ A.ws.length ≤ 100) (fun c _ => l.length - (intOf c).toNat)
  case atStart => exact ⟨0, Fa, Fb, _, Nat.zero_le _, rfl, HP.out, Nat.le_refl _, by simp [Ars.new]; omega⟩
  case round =>
    obtain ⟨k, F, G, A, hk, rfl, hp, hae, haw⟩ := hrel
    obtain ⟨wz, rfl⟩ : ∃ y, y = wr := ⟨_, rfl⟩
    have HP2 := hid hp
    have hBw : Below w.heap.size w wz := hp.fr.below (Nat.le_refl _) (fun _ _ y => y)
    clear hp HP
    by_cases hlt : k < l.length
    · obtain ⟨x, rfl, hc⟩ := HC.out.2 k hlt
      obtain ⟨c0, c1, c2, c3, c4⟩ := hc.below hBw
      obtain ⟨t, ht⟩ : ∃ t, t = l[k] := ⟨_, rfl⟩
      rw [← ht] at c0 c1 c2 c3 c4
      have hmem : t ∈ l := by rw [ht]; exact List.getElem_mem hlt
      have HT := hid ht
      have OK := hid (show Act.Ok (wz.alloc (actObj t)).drew t from ((HC.out.1 t hmem).below hBw).below (by repeat (first | exact Below.refl _ _ | refine blw_alloc ?_ | refine blw_drew ?_ | assumption)))
      have ht40 : t.l.length ≤ 40 := H40.out t hmem
      have hat : A.top ≤ 100 := Nat.le_trans HP2.out.p.ok.1 haw
      have OF := hid (show Off (fun i => F i ∨ G i) t.ad t.l.length from fun q hq hpp y => by
        have h1 := (HC.out.1 t hmem).u.lt q hq hpp
        rcases y with y | y
        · have := (HP2.out.hf _ y).resolve_left (fun z => z); omega
        · have := (HP2.out.hg _ y).resolve_left (fun z => z); omega)
      have XD := hid (show Both2 h r A A (fun i => F i ∨ G i) (wz.alloc (actObj t)).drew (wz.alloc (actObj t)).drew F G from
        ⟨(HP2.out.p.alloc _).drew, (HP2.out.q.alloc _).drew, HP2.out.d, fun _ y => Or.inl (Or.inl y), fun _ y => Or.inl (Or.inr y), Fr.refl _ _⟩)
      obtain ⟨nf, ng⟩ := HP2.out.nF
      clear hc ht hmem hBw
      go_wp2_with fail
      refine wp_region_held_drew (S := (fun w' => w'.cell? ⟨wz.heap.size, 0, none⟩ = some (.int .u8 (t.kd : Int)) ∧ w'.cell? ⟨wz.heap.size, 1, none⟩ = some (.int .i64 t.at_) ∧ w'.cell? ⟨wz.heap.size, 2, none⟩ = some (.int .i64 t.n) ∧ w'.cell? ⟨wz.heap.size, 3, none⟩ = some (.int .u32 (t.v : Int)) ∧ w'.cell? ⟨wz.heap.size, 4, none⟩ = some (.slice t.ad t.l.length t.cap))) (by kernel_rfl) (box_cells (heap_alloc_at wz (actObj t))) (fun hHeld => ?_)
      refine take_at (i := 0) (d := some 34) (v := ?_) rfl rfl (by kernel_rfl) (by kernel_rfl) (by kernel_rfl) (fun _ _ _ h => h) (Or.inl ⟨by rfl, ?_⟩) (by assumption) ?_
      rotate_left
      · (intro w hSw; (try dsimp only at hSw); go_simp; try (with_reducible rfl))
      simp only [Act.put, List.setIfInBounds_toArray, List.set_cons_zero, List.set_cons_succ]
      refine take_at (i := 1) (d := some 35) (v := ?_) rfl rfl (by kernel_rfl) (by kernel_rfl) (by kernel_rfl) (fun _ _ _ h => h) (Or.inl ⟨by rfl, ?_⟩) (by assumption) ?_
      rotate_left
      · (intro w hSw; (try dsimp only at hSw); go_simp; try (with_reducible rfl))
      simp only [Act.put, List.setIfInBounds_toArray, List.set_cons_zero, List.set_cons_succ]
      refine take_at (i := 2) (d := some 36) (v := ?_) rfl rfl (by kernel_rfl) (by kernel_rfl) (by kernel_rfl) (fun _ _ _ h => h) (Or.inl ⟨by rfl, ?_⟩) (by assumption) ?_
      rotate_left
      · (intro w hSw; (try dsimp only at hSw); go_simp; try (with_reducible rfl))
      simp only [Act.put, List.setIfInBounds_toArray, List.set_cons_zero, List.set_cons_succ]
      refine wpAnyH_ready (rs := [3]) (by kernel_rfl) (by simp) ?_
      refine AllReadyH.cons rfl (fun K hK => ?_) AllReadyH.nil
      go_simp
      refine (does_any h r F G A t _ _ _ XD.out OK.out OK.out.u OF.out (by omega) (by omega) (by omega)).mono ?_
      rintro e w2 ⟨rfl, F2, G2, x2⟩
      have X2 := hid x2
      have bx2 := (x2.fr.block wz.heap.size (by simp) (fun y => y.elim nf ng)).trans (heap_alloc_at wz (actObj t))
      have BX2 := hid bx2
      clear x2 bx2
      go_wp2_with fail
      refine hK.out _ _ (box_cells BX2.out) (fun hHeld => ?_)
      clear hK K
      try simp only [Act.put, List.setIfInBounds_toArray, List.set_cons_zero, List.set_cons_succ]
      have hB2 := BX2.out
      have hK2 : (fun w' => (w'.cell? ⟨wz.heap.size, 0, none⟩ = some (.int .u8 (t.kd : Int)) ∧ w'.cell? ⟨wz.heap.size, 1, none⟩ = some (.int .i64 t.at_) ∧ w'.cell? ⟨wz.heap.size, 2, none⟩ = some (.int .i64 t.n) ∧ w'.cell? ⟨wz.heap.size, 3, none⟩ = some (.int .u32 (t.v : Int)) ∧ w'.cell? ⟨wz.heap.size, 4, none⟩ = some (.slice t.ad t.l.length t.cap)) ∧ w'.cell? ⟨r.g, 0, none⟩ = some (.slice (some ⟨r.rw, 0, none⟩) (A.act t).ws.length (A.act t).ws.length) ∧ w'.cell? ⟨r.g, 1, none⟩ = some (.int .i64 (A.act t).top)) w2 := ⟨box_cells hB2, X2.out.q.c0, X2.out.q.c1⟩
      refine wpAnyH_mono (S' := (fun w' => (w'.cell? ⟨wz.heap.size, 0, none⟩ = some (.int .u8 (t.kd : Int)) ∧ w'.cell? ⟨wz.heap.size, 1, none⟩ = some (.int .i64 t.at_) ∧ w'.cell? ⟨wz.heap.size, 2, none⟩ = some (.int .i64 t.n) ∧ w'.cell? ⟨wz.heap.size, 3, none⟩ = some (.int .u32 (t.v : Int)) ∧ w'.cell? ⟨wz.heap.size, 4, none⟩ = some (.slice t.ad t.l.length t.cap)) ∧ w'.cell? ⟨r.g, 0, none⟩ = some (.slice (some ⟨r.rw, 0, none⟩) (A.act t).ws.length (A.act t).ws.length) ∧ w'.cell? ⟨r.g, 1, none⟩ = some (.int .i64 (A.act t).top))) (fun w' hw' => hw'.1) _ _ _ _ ?_
      clear hB2 hHeld c0 c1 c2 c3 c4
      refine take_at (i := 4) (d := some 38) (v := ?_) rfl rfl (by kernel_rfl) (by kernel_rfl) (by kernel_rfl) (fun _ _ _ h => h) (Or.inl ⟨by rfl, ?_⟩) (by assumption) ?_
      rotate_left
      · (intro w hSw; (try dsimp only at hSw); go_simp; try (with_reducible rfl))
      simp only [Act.put, List.setIfInBounds_toArray, List.set_cons_zero, List.set_cons_succ]
      refine take_at (i := 5) (d := some 39) (v := ?_) rfl rfl (by kernel_rfl) (by kernel_rfl) (by kernel_rfl) (fun _ _ _ h => h) (Or.inl ⟨by rfl, ?_⟩) (by assumption) ?_
      rotate_left
      · (intro w hSw; (try dsimp only at hSw); go_simp; try (with_reducible rfl))
      simp only [Act.put, List.setIfInBounds_toArray, List.set_cons_zero, List.set_cons_succ]
      refine take_at (i := 6) (d := some 40) (v := ?_) rfl rfl (by kernel_rfl) (by kernel_rfl) (by kernel_rfl) (fun _ _ _ h => h) (Or.inl ⟨by rfl, ?_⟩) (by assumption) ?_
      rotate_left
      · (intro w hSw; (try dsimp only at hSw); go_simp; try (with_reducible rfl))
      simp only [Act.put, List.setIfInBounds_toArray, List.set_cons_zero, List.set_cons_succ]
      refine take_at (i := 8) (d := some 42) (v := ?_) rfl rfl (by kernel_rfl) (by kernel_rfl) (by kernel_rfl) (fun _ _ _ h => h) (Or.inl ⟨by rfl, ?_⟩) (by assumption) ?_
      rotate_left
      · (intro w hSw; (try dsimp only at hSw); go_simp; try (with_reducible rfl))
      simp only [Act.put, List.setIfInBounds_toArray, List.set_cons_zero, List.set_cons_succ]
      refine take_at (i := 9) (d := some 43) (v := ?_) rfl rfl (by kernel_rfl) (by kernel_rfl) (by kernel_rfl) (fun _ _ _ h => h) (Or.inl ⟨by rfl, ?_⟩) (by assumption) ?_
      rotate_left
      · (intro w hSw; (try dsimp only at hSw); go_simp; try (with_reducible rfl))
      simp only [Act.put, List.setIfInBounds_toArray, List.set_cons_zero, List.set_cons_succ]
      refine take_at (i := 10) (d := some 44) (v := ?_) rfl rfl (by kernel_rfl) (by kernel_rfl) (by kernel_rfl) (fun _ _ _ h => h) (Or.inl ⟨by rfl, ?_⟩) (by assumption) ?_
      rotate_left
      · (intro w hSw; (try dsimp only at hSw); go_simp; try (with_reducible rfl))
      simp only [Act.put, List.setIfInBounds_toArray, List.set_cons_zero, List.set_cons_succ]
      refine take_at (i := 11) (d := some 45) (v := ?_) rfl rfl (by kernel_rfl) (by kernel_rfl) (by kernel_rfl) (fun _ _ _ h => h) (Or.inl ⟨by rfl, ?_⟩) (by assumption) ?_
      rotate_left
      · (intro w hSw; (try dsimp only at hSw); go_simp; try (with_reducible rfl))
      simp only [Act.put, List.setIfInBounds_toArray, List.set_cons_zero, List.set_cons_succ]
      refine wpAnyH_ready (rs := [7]) (by kernel_rfl) (by simp) ?_
      refine AllReadyH.cons rfl (fun K hK => ?_) AllReadyH.nil
      go_simp
      refine (ar_top h F2 (A.act t) _ X2.out.p).mono ?_
      rintro e w' ⟨rfl, hw⟩
      subst w'
      go_wp2_with fail
      refine hK.out _ _ hK2 (fun hHeld => ?_)
      clear hK K
      try simp only [Act.put, List.setIfInBounds_toArray, List.set_cons_zero, List.set_cons_succ]
      refine take_at (i := 12) (d := some 46) (v := ?_) rfl rfl (by kernel_rfl) (by kernel_rfl) (by kernel_rfl) (fun _ _ _ h => h) (Or.inl ⟨by rfl, ?_⟩) (by assumption) ?_
      rotate_left
      · (intro w hSw; (try dsimp only at hSw); go_simp; try (with_reducible rfl))
      simp only [Act.put, List.setIfInBounds_toArray, List.set_cons_zero, List.set_cons_succ]
      refine take_at (i := 13) (d := some 47) (v := ?_) rfl rfl (by kernel_rfl) (by kernel_rfl) (by kernel_rfl) (fun _ _ _ h => h) (Or.inl ⟨by rfl, ?_⟩) (by assumption) ?_
      rotate_left
      · (intro w hSw; (try dsimp only at hSw); go_simp; try (with_reducible rfl))
      simp only [Act.put, List.setIfInBounds_toArray, List.set_cons_zero, List.set_cons_succ]
      refine take_at (i := 14) (d := some 48) (v := ?_) rfl rfl (by kernel_rfl) (by kernel_rfl) (by kernel_rfl) (fun _ _ _ h => h) (Or.inl ⟨by rfl, ?_⟩) (by assumption) ?_
      rotate_left
      · (intro w hSw; (try dsimp only at hSw); go_simp; try (with_reducible rfl))
      simp only [Act.put, List.setIfInBounds_toArray, List.set_cons_zero, List.set_cons_succ]
      refine take_at (i := 15) (d := some 49) (v := ?_) rfl rfl (by kernel_rfl) (by kernel_rfl) (by kernel_rfl) (fun _ _ _ h => h) (Or.inl ⟨by rfl, ?_⟩) (by assumption) ?_
      rotate_left
      · (intro w hSw; (try dsimp only at hSw); go_simp; try (with_reducible rfl))
      simp only [Act.put, List.setIfInBounds_toArray, List.set_cons_zero, List.set_cons_succ]
      refine take_at (i := 17) (d := some 51) (v := ?_) rfl rfl (by kernel_rfl) (by kernel_rfl) (by kernel_rfl) (fun _ _ _ h => h) (Or.inl ⟨by rfl, ?_⟩) (by assumption) ?_
      rotate_left
      · (intro w hSw; (try dsimp only at hSw); go_simp; try (with_reducible rfl))
      simp only [Act.put, List.setIfInBounds_toArray, List.set_cons_zero, List.set_cons_succ]
      refine take_at (i := 18) (d := some 52) (v := ?_) rfl rfl (by kernel_rfl) (by kernel_rfl) (by kernel_rfl) (fun _ _ _ h => h) (Or.inl ⟨by rfl, ?_⟩) (by assumption) ?_
      rotate_left
      · (intro w hSw; (try dsimp only at hSw); go_simp; try (with_reducible rfl))
      simp only [Act.put, List.setIfInBounds_toArray, List.set_cons_zero, List.set_cons_succ]
      refine take_at (i := 19) (d := some 53) (v := ?_) rfl rfl (by kernel_rfl) (by kernel_rfl) (by kernel_rfl) (fun _ _ _ h => h) (Or.inl ⟨by rfl, ?_⟩) (by assumption) ?_
      rotate_left
      · (intro w hSw; (try dsimp only at hSw); go_simp; try (with_reducible rfl))
      simp only [Act.put, List.setIfInBounds_toArray, List.set_cons_zero, List.set_cons_succ]
      refine take_at (i := 20) (d := some 54) (v := ?_) rfl rfl (by kernel_rfl) (by kernel_rfl) (by kernel_rfl) (fun _ _ _ h => h) (Or.inl ⟨by rfl, ?_⟩) (by assumption) ?_
      rotate_left
      · (intro w hSw; (try dsimp only at hSw); go_simp; try (with_reducible rfl))
      simp only [Act.put, List.setIfInBounds_toArray, List.set_cons_zero, List.set_cons_succ]
      refine take_at (i := 21) (d := some 55) (v := ?_) rfl rfl (by kernel_rfl) (by kernel_rfl) (by kernel_rfl) (fun _ _ _ h => h) (Or.inl ⟨by rfl, ?_⟩) (by assumption) ?_
      rotate_left
      · (intro w hSw; (try dsimp only at hSw); go_simp; try (with_reducible rfl))
      simp only [Act.put, List.setIfInBounds_toArray, List.set_cons_zero, List.set_cons_succ]
      refine wpAnyH_ready (rs := [16]) (by kernel_rfl) (by simp) ?_
      refine AllReadyH.cons rfl (fun K hK => ?_) AllReadyH.nil
      go_simp
      refine (ar_size h F2 (A.act t) _ X2.out.p).mono ?_
      rintro e w' ⟨rfl, hw⟩
      subst w'
      go_wp2_with fail
      refine hK.out _ _ hK2 (fun hHeld => ?_)
      clear hK K
      try simp only [Act.put, List.setIfInBounds_toArray, List.set_cons_zero, List.set_cons_succ]
      refine take_at (i := 22) (d := some 56) (v := ?_) rfl rfl (by kernel_rfl) (by kernel_rfl) (by kernel_rfl) (fun _ _ _ h => h) (Or.inl ⟨by rfl, ?_⟩) (by assumption) ?_
      rotate_left
      · (intro w hSw; (try dsimp only at hSw); go_simp; try (with_reducible rfl))
      simp only [Act.put, List.setIfInBounds_toArray, List.set_cons_zero, List.set_cons_succ]
      refine take_at (i := 23) (d := some 57) (v := ?_) rfl rfl (by kernel_rfl) (by kernel_rfl) (by kernel_rfl) (fun _ _ _ h => h) (Or.inl ⟨by rfl, ?_⟩) (by assumption) ?_
      rotate_left
      · (intro w hSw; (try dsimp only at hSw); go_simp; try (with_reducible rfl))
      simp only [Act.put, List.setIfInBounds_toArray, List.set_cons_zero, List.set_cons_succ]
      refine take_at (i := 24) (d := some 58) (v := ?_) rfl rfl (by kernel_rfl) (by kernel_rfl) (by kernel_rfl) (fun _ _ _ h => h) (Or.inl ⟨by rfl, ?_⟩) (by assumption) ?_
      rotate_left
      · (intro w hSw; (try dsimp only at hSw); go_simp; try (with_reducible rfl))
      simp only [Act.put, List.setIfInBounds_toArray, List.set_cons_zero, List.set_cons_succ]
      refine take_at (i := 25) (d := some 59) (v := ?_) rfl rfl (by kernel_rfl) (by kernel_rfl) (by kernel_rfl) (fun _ _ _ h => h) (Or.inl ⟨by rfl, ?_⟩) (by assumption) ?_
      rotate_left
      · (intro w hSw; (try dsimp only at hSw); go_simp; try (with_reducible rfl))
      simp only [Act.put, List.setIfInBounds_toArray, List.set_cons_zero, List.set_cons_succ]
      refine take_at (i := 26) (d := some 60) (v := ?_) rfl rfl (by kernel_rfl) (by kernel_rfl) (by kernel_rfl) (fun _ _ _ h => h) (Or.inl ⟨by rfl, ?_⟩) (by assumption) ?_
      rotate_left
      · (intro w hSw; (try dsimp only at hSw); go_simp; try (with_reducible rfl))
      simp only [Act.put, List.setIfInBounds_toArray, List.set_cons_zero, List.set_cons_succ]
      refine take_at (i := 27) (d := some 61) (v := ?_) rfl rfl (by kernel_rfl) (by kernel_rfl) (by kernel_rfl) (fun _ _ _ h => h) (Or.inl ⟨by rfl, ?_⟩) (by assumption) ?_
      rotate_left
      · (intro w hSw; (try dsimp only at hSw); go_simp; try (with_reducible rfl))
      simp only [Act.put, List.setIfInBounds_toArray, List.set_cons_zero, List.set_cons_succ]
      refine take_at (i := 28) (d := some 62) (v := ?_) rfl rfl (by kernel_rfl) (by kernel_rfl) (by kernel_rfl) (fun _ _ _ h => h) (Or.inl ⟨by rfl, ?_⟩) (by assumption) ?_
      rotate_left
      · (intro w hSw; (try dsimp only at hSw); go_simp; try (with_reducible rfl))
      simp only [Act.put, List.setIfInBounds_toArray, List.set_cons_zero, List.set_cons_succ]
      refine take_at (i := 29) (d := some 63) (v := ?_) rfl rfl (by kernel_rfl) (by kernel_rfl) (by kernel_rfl) (fun _ _ _ h => h) (Or.inl ⟨by rfl, ?_⟩) (by assumption) ?_
      rotate_left
      · (intro w hSw; (try dsimp only at hSw); go_simp; try (with_reducible rfl))
      simp only [Act.put, List.setIfInBounds_toArray, List.set_cons_zero, List.set_cons_succ]
      refine take_at (i := 31) (d := some 65) (v := ?_) rfl rfl (by kernel_rfl) (by kernel_rfl) (by kernel_rfl) (fun _ _ _ h => h) (Or.inl ⟨by rfl, ?_⟩) (by assumption) ?_
      rotate_left
      · (intro w hSw; (try dsimp only at hSw); go_simp; try (with_reducible rfl))
      simp only [Act.put, List.setIfInBounds_toArray, List.set_cons_zero, List.set_cons_succ]
      refine take_at (i := 32) (d := some 66) (v := ?_) rfl rfl (by kernel_rfl) (by kernel_rfl) (by kernel_rfl) (fun _ _ _ h => h) (Or.inl ⟨by rfl, ?_⟩) (by assumption) ?_
      rotate_left
      · (intro w hSw; (try dsimp only at hSw); go_simp; try (with_reducible rfl))
      simp only [Act.put, List.setIfInBounds_toArray, List.set_cons_zero, List.set_cons_succ]
      refine take_at (i := 33) (d := some 67) (v := ?_) rfl rfl (by kernel_rfl) (by kernel_rfl) (by kernel_rfl) (fun _ _ _ h => h) (Or.inl ⟨by rfl, ?_⟩) (by assumption) ?_
      rotate_left
      · (intro w hSw; (try dsimp only at hSw); go_simp; try (with_reducible rfl))
      simp only [Act.put, List.setIfInBounds_toArray, List.set_cons_zero, List.set_cons_succ]
      refine take_at (i := 34) (d := some 68) (v := ?_) rfl rfl (by kernel_rfl) (by kernel_rfl) (by kernel_rfl) (fun _ _ _ h => h) (Or.inl ⟨by rfl, ?_⟩) (by assumption) ?_
      rotate_left
      · (intro w hSw; (try dsimp only at hSw); go_simp; try (with_reducible rfl))
      simp only [Act.put, List.setIfInBounds_toArray, List.set_cons_zero, List.set_cons_succ]
      refine take_at (i := 35) (d := some 69) (v := ?_) rfl rfl (by kernel_rfl) (by kernel_rfl) (by kernel_rfl) (fun _ _ _ h => h) (Or.inl ⟨by rfl, ?_⟩) (by assumption) ?_
      rotate_left
      · (intro w hSw; (try dsimp only at hSw); go_simp; try (with_reducible rfl))
      simp only [Act.put, List.setIfInBounds_toArray, List.set_cons_zero, List.set_cons_succ]
      refine wpAnyH_ready (rs := [30]) (by kernel_rfl) (by simp) ?_
      refine AllReadyH.cons rfl (fun K hK => ?_) AllReadyH.nil
      go_simp
      refine (ar_fits h F2 (A.act t) _ _ _ X2.out.p OK.out.at1).mono ?_
      rintro e w' ⟨rfl, hw⟩
      subst w'
      go_wp2_with fail
      refine hK.out _ _ hK2 (fun hHeld => ?_)
      clear hK K
      try simp only [Act.put, List.setIfInBounds_toArray, List.set_cons_zero, List.set_cons_succ]
      refine wpAnyH_ready (rs := [36]) (by kernel_rfl) (by simp) ?_
      refine AllReadyH.cons rfl (fun K hK => ?_) AllReadyH.nil
      go_simp
      refine (rf_fits r G2 (A.act t) _ _ _ X2.out.q).mono ?_
      rintro e w' ⟨rfl, hw⟩
      subst w'
      go_wp2_with fail
      refine hK.out _ _ hK2 (fun hHeld => ?_)
      clear hK K
      try simp only [Act.put, List.setIfInBounds_toArray, List.set_cons_zero, List.set_cons_succ]
      refine take_at (i := 37) (d := some 71) (v := ?_) rfl rfl (by kernel_rfl) (by kernel_rfl) (by kernel_rfl) (fun _ _ _ h => h) (Or.inl ⟨by rfl, ?_⟩) (by assumption) ?_
      rotate_left
      · (intro w hSw; (try dsimp only at hSw); go_simp; try (with_reducible rfl))
      simp only [Act.put, List.setIfInBounds_toArray, List.set_cons_zero, List.set_cons_succ]
      refine take_at (i := 38) (d := some 72) (v := ?_) rfl rfl (by kernel_rfl) (by kernel_rfl) (by kernel_rfl) (fun _ _ _ h => h) (Or.inl ⟨by rfl, ?_⟩) (by assumption) ?_
      rotate_left
      · (intro w hSw; (try dsimp only at hSw); go_simp; try (with_reducible rfl))
      simp only [Act.put, List.setIfInBounds_toArray, List.set_cons_zero, List.set_cons_succ]
      refine wpAnyH_done (by kernel_rfl) ?_ _
      clear hHeld hK2
      go_wp2_with fail
      go_roundw
      case rel =>
        have h1 := act_es A t ht40 hat
        exact ⟨k + 1, F2, G2, _, by omega, by go_num, HP2.out.comp X2.out (by repeat (first | exact Below.refl _ _ | refine blw_alloc ?_ | refine blw_drew ?_ | assumption)), by omega, by rw [act_ws]; exact haw⟩
      case measure => simp [intOf]; omega
    · have hen : A.es.length ≤ 100000 := by omega
      clear HC H40 hae
      go_wp2_with fail
      refine (ar_log h F A _ HP2.out.p).mono ?_
      rintro e w' ⟨rfl, hw⟩
      subst w'
      go_wp2_with fail
      obtain ⟨oa, hLa, _⟩ := HP2.out.p.log
      refine (events_any _ _ _ _ _ hLa (ecells_one A.es) (by omega)).mono ?_
      rintro e w5 ⟨v', rfl, ho1, hb5⟩
      obtain ⟨ad1, cap1, rfl⟩ := owns_shape ho1
      have P5 := hid (HP2.out.below hb5)
      obtain ⟨ad2, cap2, ob, hg2, _, hr2, _⟩ := P5.out.q.hl
      have RP : Hid (∀ i (_ : i < A.es.length), ∃ g, ad1 = some ⟨g, 0, none⟩ ∧ ∀ j u, (ecells A.es)[j]? = some u → w5.cell? ⟨g, j, none⟩ = some u) := rowAt ho1 (Below.refl _ _)
      have RQ : Hid (∀ i (_ : i < A.es.length), ∃ g, ad2 = some ⟨g, 0, none⟩ ∧ ∀ j u, (ecells A.es)[j]? = some u → w5.cell? ⟨g, j, none⟩ = some u) := rowAt hr2 (Below.refl _ _)
      have r0 : w5.cell? ⟨r.g, 0, none⟩ = some (.slice (some ⟨r.rw, 0, none⟩) A.ws.length A.ws.length) := cell_of_heap hg2 rfl
      have r2 : w5.cell? ⟨r.g, 2, none⟩ = some (.slice ad2 A.es.length cap2) := cell_of_heap hg2 rfl
      have rlt : r.g < w5.heap.size := lt_of_heap hg2
      have R0 := hid r0
      have R2 := hid r2
      clear ho1 hLa hb5 hr2 hg2 HP2 hBw
      go_wp2_with fail
      clear r0 r2
      go_loopw [87] (fun c wq => ∃ q : Nat, q ≤ A.es.length ∧ c = .int .i64 q ∧ Below w5.heap.size w5 wq) (fun c _ => A.es.length - (intOf c).toNat)
      case atStart => exact ⟨0, Nat.zero_le _, rfl, Below.refl _ _⟩
      case round =>
        obtain ⟨q, hq, rfl, hBq⟩ := hrel
        have r0 := cell_later hBq R0.out
        have r2 := cell_later hBq R2.out
        have rlt2 : r.g < wr.heap.size := Nat.lt_of_lt_of_le rlt hBq.size
        by_cases hql : q < A.es.length
        · obtain ⟨g1, rfl, f1⟩ := RP.out q hql
          obtain ⟨g2, rfl, f2⟩ := RQ.out q hql
          have e1 := ecells_at A.es q hql
          obtain ⟨ee, hee⟩ : ∃ ee, ee = A.es[q] := ⟨_, rfl⟩
          rw [← hee] at e1
          have a0 := cell_later hBq (f1 _ _ e1.1)
          have a1 := cell_later hBq (f1 _ _ e1.2.1)
          have a2 := cell_later hBq (f1 _ _ e1.2.2)
          have b0 := cell_later hBq (f2 _ _ e1.1)
          have b1 := cell_later hBq (f2 _ _ e1.2.1)
          have b2 := cell_later hBq (f2 _ _ e1.2.2)
          have l1 := lt_of_cell a0
          have l2 := lt_of_cell b0
          have hql' : (q : Int) < (A.es.length : Int) := by omega
          clear f1 f2 e1 hee RP RQ r0
          go_wp2_with fail
          go_quiet (fail)
          go_wp2_with fail
          go_roundw
          case rel => exact ⟨q + 1, by omega, by go_num, hBq.trans ((below_drewN ((Below.refl _ _).alloc (Nat.le_refl _) _) _).mono hBq.size)⟩
          case measure => simp [intOf]; omega
        · clear RP RQ r2
          obtain ⟨wy, rfl⟩ : ∃ y, y = wr := ⟨_, rfl⟩
          have P7 := hid (P5.out.below hBq)
          have hwn := P7.out.p.ok.2.1
          go_wp2_with fail
          clear r0
          go_loopg [12, 107] A.ws.length (fun gn b c wq => ∃ m : Nat, m ≤ A.ws.length ∧ gn = A.ws.length - m ∧ c = .int .i64 m ∧ b = .bool (allK A.ws m) ∧ wq = wy)
          case atStart => exact ⟨0, Nat.zero_le _, rfl, rfl, rfl, rfl⟩
          case round =>
            obtain ⟨m, hm, hgn, rfl, rfl, hwy⟩ := hrel
            subst hwy
            have HGN := hid hgn
            clear hgn
            by_cases hml : m < A.ws.length
            · have cw := P7.out.q.cw m hml
              have HS := hid (allK_succ A.ws m hml)
              have HWD := hid (show A.word m = A.ws[m] by simp [Ars.word, List.getD_eq_getElem?_getD, List.getElem?_eq_getElem hml])
              have HZ := hid (show ((A.word m : Int) == 0) = (A.word m == 0) by rw [Bool.eq_iff_iff]; simp)
              generalize hb : allK A.ws m = b at *
              clear hb
              cases b
              · go_wp2_with fail
                go_roundg (A.ws.length - (m + 1))
                case measure => rw [HGN.out]; omega
                case rel => exact ⟨m + 1, by omega, rfl, by go_num, by rw [HS.out]; rfl, rfl⟩
              · go_wp2_with fail
                go_roundg (A.ws.length - (m + 1))
                case measure => rw [HGN.out]; omega
                case rel => exact ⟨m + 1, by omega, rfl, by go_num, by rw [HS.out, ← HWD.out, ← HZ.out]; rfl, rfl⟩
            · have hme : m = A.ws.length := by omega
              subst hme
              have HB := hid (allK_all A)
              go_wp2_with fail
              refine (ar_blank h F A _ P7.out.p).mono ?_
              rintro e w8 ⟨rfl, hb8⟩
              rw [HB.out]
              go_wp2_with fail
              go_ret
              have hBf : Below w.heap.size w wr := P7.out.fr.below (Nat.le_refl _) (fun _ _ y => y)
              exact ⟨ret_bool (by simp), hBf.trans (hb8.mono hBf.size)⟩

theorem arenaRuns_walk (z : Int) (ad : Option Addr) (len cap : Nat) (w : World) (_h1 : -9223372036854775808 ≤ z) (_h2 : z < 9223372036854775808) (h : ∃ l : List Act, l.length = len ∧ ActsAt w ad l) :
    Calls Try.prog 3 #[.int .i64 z, .slice ad len cap] w fun e w' => e = .returned (.bool true) ∧ Below w.heap.size w w' := by
  obtain ⟨l, rfl, h⟩ := h
  by_cases hz : 100 < z
  · exact runs_far z ad _ cap w hz
  · cases hf : fewB l
    · exact runs_many z ad cap l w (by omega) h hf
    · obtain ⟨f1, f2⟩ := few_is l hf
      by_cases hneg : z < 0
      · exact runs_at z 0 ad cap l w (by omega) (Or.inl ⟨hneg, rfl⟩) h hf f1 f2
      · exact runs_at z z.toNat ad cap l w (by omega) (Or.inr (by omega)) h hf f1 f2
theorem read_arenaRuns {H : Type} {enc : TypeId × Value → H} {W : World} {ad : Option Addr} {len cap : Nat} {d : DataW H} {p : List MemPlace} (h : DataW.Trod enc Try.prog W 0 (fun _ => true) true 22 (.slice ad len cap) d p) :
    ∃ l : List Act, l.length = len ∧ ActsAt W ad l := read_acts h
end Go.Proofs.Ytajnegonagpjgaa
