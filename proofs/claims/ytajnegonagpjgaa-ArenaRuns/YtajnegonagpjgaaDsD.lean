/- 'does' at acts of kind 6 (Show), over this seat's translation: both arenas go on alike. Conditions: as the law's. -/
import Derived.Test.YtajnegonagpjgaaDsC
namespace Go.Proofs.Ytajnegonagpjgaa
open Go.RowKit
set_option linter.unusedVariables false

set_option maxRecDepth 100000 in
set_option maxHeartbeats 3200000 in
theorem does_6n (h : Hn) (r : Hr) (F G : Nat → Prop) (A : Ars) (t : Act) (S : Nat → Prop) (w0 w : World) (x : Both2 h r A A S w0 w F G) (o : Act.Ok w t) (hn : A.es.length ≤ 100000000) (hr : (t.kd : Int) % 7 = 6) (hf : A.fits t.at_ t.n = false) :
    Calls Try.prog 10 #[arPtr h, rfPtr r, t.agg] w fun e w' => e = .returned (.bool true) ∧ ∃ F' G', Both2 h r (A.shown t.at_ t.n) (A.shown t.at_ t.n) S w0 w' F' G' := by
  have X := hid (x.below (w' := w.alloc (actObj t)) (by repeat (first | exact Below.refl _ _ | refine blw_alloc ?_ | refine blw_drew ?_ | assumption)))
  have hkd := o.kd
  have OK := hid o
  have HE := hid (show A.shown t.at_ t.n = A by unfold Ars.shown; rw [hf]; rfl)
  clear x o
  go_enter Try.func10, Try.ntmps10
  go_wp2_with fail
  go_loopw [14, 15] (fun s c wr => s = .slice none 0 0 ∧ c = .int .i64 0 ∧ wr = w.alloc (actObj t)) (fun _ _ _ => 0)
  case atStart => exact ⟨rfl, rfl, rfl⟩
  case round =>
    obtain ⟨rfl, rfl, hwr⟩ := hrel
    subst hwr
    go_wp2_with (first
      | (go_at_call 14; refine (rf_fits r G A _ _ _ X.out.q).mono ?_; rintro e w' ⟨rfl, hw⟩; subst w')
      | (go_at_call 21; refine (ar_show_no h F A _ _ _ X.out.p OK.out.at1 hf).mono ?_; rintro e w' ⟨rfl, hw⟩; subst w')
      | (go_at_call 37; refine (same_any none none 0 0 [] _ (fun k hk => absurd hk (Nat.not_lt_zero _)) (fun k hk => absurd hk (Nat.not_lt_zero _)) (by decide)).mono ?_; rintro e w3 ⟨rfl, hb3⟩))
    go_ret
    exact ⟨rfl, F, G, by rw [HE.out]; exact X.out.below hb3⟩

theorem row_append {h : Hn} {r : Hr} {A B : Ars} {S : Nat → Prop} {w0 w w1 : World} {F G : Nat → Prop} {v : Value} {b g2 p n size : Nat} {e : TypeId} {xs : List Value} {o ob : Obj} (x : Both2 h r A B S w0 w F G) (hown : w.ownsRow b e size v n xs) (hb : w0.heap.size ≤ b) (hF : ∀ i, F i → i < b) (hG : ∀ k, v.ownBlock = some k → ¬ G k)
    (hp : w.heap[p]? = some ob) (hpb : p < b) (hgrow : (w.alloc o).grownBy w1 v.ownBlock) (hat : v.ownBlock = some g2 ∨ g2 = w.heap.size + 1) : Both2 h r A B S w0 w1 F G ∧ w1.heap[p]? = some ob ∧ ¬ G g2 := by
  have hFr : Fr (fun i => v.ownBlock = some i) w w1 := Fr.grown ((Fr.refl _ w).alloc o) hgrow fun k hk _ => hk
  have hrb : ∀ k, v.ownBlock = some k → b ≤ k := fun k hk => (hown.lt k hk).1
  refine ⟨⟨?_, ?_, x.d, x.hf, x.hg, ?_⟩, ?_, ?_⟩
  · exact x.p.kept hFr fun i hi hk => by have := hF i hi; have := hrb i hk; omega
  · exact x.q.kept hFr fun i hi hk => hG i hk hi
  · exact x.fr.trans hFr fun i hi hk => by have := hrb i hk; omega
  · rw [hFr.block p (lt_of_heap hp) (fun hk => by have := hrb p hk; omega)]; exact hp
  · rcases hat with y | y
    · exact hG g2 y
    · intro z; have := x.q.lt _ z; omega

set_option maxRecDepth 100000 in
set_option maxHeartbeats 3200000 in
theorem does_6y (h : Hn) (r : Hr) (F G : Nat → Prop) (A : Ars) (t : Act) (i m : Nat) (S : Nat → Prop) (w0 w : World) (x : Both2 h r A A S w0 w F G) (o : Act.Ok w t) (hn : A.es.length ≤ 100000000) (ht : A.top ≤ 100000000) (hr : (t.kd : Int) % 7 = 6) (hat : t.at_ = (i : Int)) (hnm : t.n = (m : Int)) (hf : A.fits t.at_ t.n = true) :
    Calls Try.prog 10 #[arPtr h, rfPtr r, t.agg] w fun e w' => e = .returned (.bool true) ∧ ∃ F' G', Both2 h r (A.shown t.at_ t.n) (A.shown t.at_ t.n) S w0 w' F' G' := by
  have X := hid (x.below (w' := w.alloc (actObj t)) (by repeat (first | exact Below.refl _ _ | refine blw_alloc ?_ | refine blw_drew ?_ | assumption)))
  obtain ⟨nf, ng⟩ := x.nF
  have hkd := o.kd
  have hf2 := Ars.fits_iff.1 hf
  have hfi : i + m ≤ A.top := by omega
  have hwl := x.p.ok.1
  have hwm := x.p.ok.2.1
  have hw0 := x.fr.size
  have FL := hid (show ∀ j, F j → j < w.heap.size + 1 from fun j hj => Nat.lt_succ_of_lt (x.p.lt j hj))
  have HE := hid (show A.shown t.at_ t.n = A.relK i m ∧ A.showV t.at_ t.n = A.told i m by rw [Ars.shown_yes hf, Ars.showV_yes hf, hat, hnm]; simp)
  have BX := hid (show (w.alloc (actObj t)).heap[w.heap.size]? = some (actObj t) from heap_alloc_at _ _)
  obtain ⟨i0, hi, hz0, hz1, hz2⟩ := info_parts Try.infoU32
  obtain ⟨kd, z, n, v, ad, cap, l⟩ := t
  simp only at hat hnm hkd hr hf
  subst hat hnm
  clear x o hf2
  go_enter Try.func10, Try.ntmps10
  go_wp2_with fail
  go_loopw [14, 15] (fun s c wr => ∃ (j : Nat) (G1 : Nat → Prop) (sd : Option Addr) (sc : Nat), j ≤ m ∧ c = .int .i64 j ∧ s = .slice sd (A.told i j).length sc ∧ Both2 h r A (A.relK i j) S w0 wr F G1 ∧ wr.heap[w.heap.size]? = some (actObj ⟨kd, i, m, v, ad, cap, l⟩) ∧ ¬ G1 w.heap.size ∧
      wr.ownsRow (w.heap.size + 1) 29 1 (.slice sd (A.told i j).length sc) (A.told i j).length (secs (A.told i j)) ∧ ∀ k, (Value.slice sd (A.told i j).length sc).ownBlock = some k → ¬ G1 k) (fun _ c _ => m - (intOf c).toNat)
  case atStart => exact ⟨0, G, none, 0, Nat.zero_le _, rfl, rfl, X.out, BX.out, ng, World.ownsRow_nil _ _ _ _, fun k hk => by (cases hk)⟩
  case round =>
    obtain ⟨j, G1, sd, sc, hj, rfl, rfl, x1, bx, ng1, hown, hG1⟩ := hrel
    have X1 := hid x1
    obtain ⟨b0, b1, b2, b3, b4⟩ := box_cells bx
    have B1 := hid bx
    have hsz := lt_of_heap bx
    have HO := hid hown
    have HG := hid hG1
    have hfr : (A.relK i j).fits (i : Int) (m : Int) = true := by rw [Ars.fits_iff, Ars.relK_top]; omega
    have htl : (A.told i j).length ≤ 100000000 := by rw [Ars.told_len]; omega
    have HES := hid (show (A.relK i j).es.length < 1000000000 by rw [Ars.relK_eslen]; omega)
    clear x1 bx hown hG1
    by_cases hlt : j < m
    · have HS := hid (rel_step (A := A) hlt hfi)
      obtain ⟨vv, hvv⟩ : ∃ vv, vv = A.word (i + j) := ⟨_, rfl⟩
      have HVV := hid hvv
      have HT := hid (show A.told i (j + 1) = A.told i j ++ [vv] by rw [hvv, Ars.told_succ])
      have hst : (A.relK i j).loadV ((i : Int) + (j : Int)) = vv := by rw [HS.out.2, hvv]
      clear hvv
      go_wp2_with (first
        | (go_at_call 14; refine (rf_fits r G1 _ _ _ _ X1.out.q).mono ?_; rintro e w' ⟨rfl, hw⟩; subst w')
        | (go_at_call 36; refine (rf_rel r G1 _ _ _ X1.out.q HES.out).mono ?_; rintro e w2 ⟨rfl, G2, a2, s2⟩; rw [hst]; have X2 := hid (X1.out.right (HS.out.1 ▸ a2) s2); have bx2 := hid (s2.heap B1.out ng1); have ng2 := s2.out ng1 hsz; have ho2 := owns_of_blocks (w' := w2) HO.out (fun k hk => s2.fr.block k (HO.out.lt k hk).2 (HG.out k hk)); have hg2 := hid (fun k hk => s2.out (HG.out k hk) (HO.out.lt k hk).2); have HO2 := hid ho2; have HA2 := hid (ho2.alloc (.cells #[.int .u32 (vv : Int)] 29)); clear a2 s2 ho2)
        | (at_builtin; refine wpList_append_lies _ rfl (.tmp 147) (.tmp 154) 30 rfl (w.heap.size + 1) 29 i0 _ 1 4 Try.underlying30 hi hz0 hz1 hz2 rfl (by decide) (.slice sd (A.told i j).length sc) (A.told i j).length (secs (A.told i j)) rfl HA2.out ⟨w2.heap.size, 0, none⟩ 1 1 [.int .u32 (vv : Int)] rfl rfl (World.news_of_block (heap_alloc_at _ _)) (by intro u hu; simp at hu; subst hu; rfl) (by decide) (by unfold maxLen; omega) (by omega) (by simp; have := X2.out.fr.size; have := lt_of_heap bx2.out; omega) _ rfl ?_))
      intro g2 cap2 w3 hown hgrow hat hlt2
      have R := hid (row_append X2.out HO2.out (by omega) FL.out hg2.out bx2.out (by omega) hgrow (hat.imp_right (fun y => by simpa using y)))
      have H3 := hid hown
      clear hown hgrow hat hlt2
      go_wp2_with fail
      go_roundw
      case rel =>
        have e1 : (A.told i (j + 1)).length = (A.told i j).length + 1 := by rw [HT.out]; simp
        refine ⟨j + 1, G2, some ⟨g2, 0, none⟩, cap2, by omega, by go_num, by rw [e1], R.out.1, R.out.2.1, ng2, ?_, ?_⟩
        · rw [e1, HT.out, secs_snoc]; exact H3.out
        · intro k hk
          have : k = g2 := by simpa [Value.ownBlock] using hk.symm
          rw [this]; exact R.out.2.2
      case measure => simp [intOf]; omega
    · have hje : j = m := by omega
      subst hje
      obtain ⟨ru, rb⟩ := owns_u32s HO.out rfl
      have RU := hid ru
      have OFF := hid (show Off F sd (A.told i j).length from fun q hq hp z => by have := (rb q hq hp).1; have := FL.out _ z; omega)
      clear ru rb
      go_wp2_with (first
        | (go_at_call 14; refine (rf_fits r G1 _ _ _ _ X1.out.q).mono ?_; rintro e w' ⟨rfl, hw⟩; subst w'))
      refine (ar_show h F A (i : Int) (j : Int) _ X1.out.p (by omega) (fun _ => by simp only [Int.toNat_natCast]; omega)).mono ?_
      rintro e w4 ⟨vv, F4, rfl, hrow, a4, s4⟩
      rw [HE.out.2] at hrow
      rw [HE.out.1] at a4
      obtain ⟨ad2, cap2, rfl, hu4, hb4⟩ := hrow
      have X4 := hid (X1.out.left a4 s4)
      have U4 := hid hu4
      have U5 := hid (RU.out.step s4 OFF.out)
      clear hu4 hb4 a4 s4
      go_wp2_with fail
      refine (same_any ad2 sd cap2 sc (A.told i j) _ U4.out U5.out (by omega)).mono ?_
      rintro e w5 ⟨rfl, hb5⟩
      have X5 := hid (X4.out.below hb5)
      clear hb5
      go_wp2_with fail
      go_ret
      refine ⟨rfl, F4, G1, ?_⟩
      rw [HE.out.1]; exact X5.out
theorem does_any (h : Hn) (r : Hr) (F G : Nat → Prop) (A : Ars) (t : Act) (S : Nat → Prop) (w0 w : World) (x : Both2 h r A A S w0 w F G) (o : Act.Ok w t) (hu : U32s w0 t.ad t.l) (hS : Off S t.ad t.l.length) (hn : A.es.length ≤ 100000000) (ht : A.top ≤ 100000000) (hl : t.l.length ≤ 100000000) :
    Calls Try.prog 10 #[arPtr h, rfPtr r, t.agg] w fun e w' => e = .returned (.bool true) ∧ ∃ F' G', Both2 h r (A.act t) (A.act t) S w0 w' F' G' := by
  have hr : t.kd % 7 = 0 ∨ t.kd % 7 = 1 ∨ t.kd % 7 = 2 ∨ t.kd % 7 = 3 ∨ t.kd % 7 = 4 ∨ t.kd % 7 = 5 ∨ t.kd % 7 = 6 := by omega
  unfold Ars.act
  rcases hr with hr | hr | hr | hr | hr | hr | hr <;> simp only [hr]
  · exact does_0 h r F G A t S w0 w x o hu hS hn ht hl (by omega)
  · exact does_1 h r F G A t S w0 w x o hu hS hn ht hl (by omega)
  · exact does_2 h r F G A t S w0 w x o hu hS hn ht hl (by omega)
  · exact does_3 h r F G A t S w0 w x o hu hS hn ht hl (by omega)
  · exact does_4 h r F G A t S w0 w x o hu hS hn ht hl (by omega)
  · cases hf : A.fits t.at_ t.l.length
    · exact does_5n h r F G A t S w0 w x o hu hS hn ht hl (by omega) hf
    · exact does_5y h r F G A t t.at_.toNat S w0 w x o hu hS hn ht hl (by omega) (by have := Ars.fits_iff.1 hf; omega) hf
  · cases hf : A.fits t.at_ t.n
    · exact does_6n h r F G A t S w0 w x o hn (by omega) hf
    · exact does_6y h r F G A t t.at_.toNat t.n.toNat S w0 w x o hn ht (by omega) (by have := Ars.fits_iff.1 hf; omega) (by have := Ars.fits_iff.1 hf; omega) hf
end Go.Proofs.Ytajnegonagpjgaa
