/- The document's Point (layer 9), over this seat's translation. Conditions: bytes below 256; at most a million. Written by wip/genPoint.py. -/
import Derived.Test.YtjcnkigadlmpgaaDoorUfH
namespace Go.Proofs.YtjcnkigadlmpgaaDoor
open Go.RowKit
set_option linter.unusedVariables false

theorem u8_at {w : World} {ad : Option Addr} {l : List Nat} (h : U8s w ad l) (k : Nat) (hk : k < l.length) : ∃ x, ad = some x ∧ w.cell? (x.add k) = some (.int .u8 (l.getD k 0 : Nat)) := by
  obtain ⟨x, e, hc⟩ := h k hk
  exact ⟨x, e, by rw [hc]; simp [List.getD_eq_getElem?_getD, hk]⟩
theorem drop_getD {t : List Nat} {k : Nat} (h : k < t.length) : t.drop k = t.getD k 0 :: t.drop (k + 1) := by
  rw [List.drop_eq_getElem_cons h]; simp [List.getD_eq_getElem?_getD, h]
theorem getD_lt256 {t : List Nat} (h : ∀ x ∈ t, x < 256) (k : Nat) : t.getD k 0 < 256 := by
  rw [List.getD_eq_getElem?_getD]
  cases e : t[k]? with
  | none => simp
  | some y => simpa using h y (List.mem_of_getElem? e)
theorem ct_bad {k : Nat} {y lo hi v : Nat} {t : List Nat} (h : y < lo ∨ hi < y) : ctB (k + 1) (y :: t) lo hi v = none := by
  have : btw y lo hi = false := by unfold btw; rcases h with h | h <;> simp [h]
  simp [ctB, this]
theorem ct_ok {k : Nat} {y lo hi v : Nat} {t : List Nat} (h : lo ≤ y) (h' : y ≤ hi) : ctB (k + 1) (y :: t) lo hi v = ctB k t 128 191 (v * 64 + y - 128) := by
  have : btw y lo hi = true := btw_iff.2 ⟨h, h'⟩
  simp [ctB, this]
theorem dp_none {b : Nat} {t : List Nat} (h7 : ¬ b ≤ 127) (h : ctB (mrB b) t (lwB b) (hgB b) (vrB b) = none) : dpB (b :: t) = (0, 0) := by
  by_cases hm : mrB b = 0 ∨ t.length < mrB b
  · simp [dpB, h7, hm]
  · simp [dpB, h7, hm, h]
theorem dp_some {b v : Nat} {t : List Nat} (h7 : ¬ b ≤ 127) (hm : mrB b ≠ 0) (hl : mrB b ≤ t.length) (h : ctB (mrB b) t (lwB b) (hgB b) (vrB b) = some v) : dpB (b :: t) = (v, mrB b + 1) := by
  have hm' : ¬ (mrB b = 0 ∨ t.length < mrB b) := by omega
  simp [dpB, h7, hm', h]
theorem dp_short {b : Nat} {t : List Nat} (h7 : ¬ b ≤ 127) (hm : mrB b = 0 ∨ t.length < mrB b) : dpB (b :: t) = (0, 0) := by simp [dpB, h7, hm]

set_option maxHeartbeats 3200000 in
set_option maxRecDepth 20000 in
theorem rpoint_low (x : Addr) (c b : Nat) (t : List Nat) (w : World) (h1 : U8s w (some x) (b :: t)) (hl : ∀ x ∈ b :: t, x < 256) (hn : (b :: t).length ≤ 1000000) (hcl : b ≤ 127) :
    Calls Tryd.prog 41 #[.slice (some x) (b :: t).length c] w fun e w' => e = .returned (.tuple #[.int .u32 ((dpB (b :: t)).1 : Nat), .int .i64 ((dpB (b :: t)).2 : Nat)]) ∧ w' = w := by
  have hb := hl b (List.mem_cons_self ..)
  obtain ⟨y, e, hc0⟩ := h1 0 (by simp)
  cases e
  have hc0 : w.cell? x = some (.int .u8 (b : Int)) := by have h := hc0; rw [Addr.add_zero'] at h; exact h
  have hn0 : ((((b :: t).length : Nat) : Int) == 0) = false := by simp; omega
  have hn1 : (0 : Int) < (((b :: t).length : Nat) : Int) := by simp
  have hw : IntKind.u32.wrap (b : Int) = (b : Int) := by rw [IntKind.wrap_u32]; omega
  have hd : dpB (b :: t) = (b, 1) := by simp [dpB, hcl]
  rw [hd]
  have hi7 : ((b : Int) ≤ 127) = True := eq_true (by omega)
  clear hl h1 hd
  generalize (b :: t).length = n at *
  go_enter Tryd.func41, Tryd.ntmps41
  go_wp2
  exact bodyPost_ret (v := .tuple #[.int .u32 (b : Int), .int .i64 1]) (by simp [results, Tryd.results41, go_sem]) rfl ⟨rfl, rfl⟩
set_option maxHeartbeats 3200000 in
set_option maxRecDepth 20000 in
theorem rpoint_d1 (x : Addr) (c b : Nat) (t : List Nat) (w : World) (h1 : U8s w (some x) (b :: t)) (hl : ∀ x ∈ b :: t, x < 256) (hn : (b :: t).length ≤ 1000000) (hcl : 128 ≤ b ∧ b ≤ 193) :
    Calls Tryd.prog 41 #[.slice (some x) (b :: t).length c] w fun e w' => e = .returned (.tuple #[.int .u32 ((dpB (b :: t)).1 : Nat), .int .i64 ((dpB (b :: t)).2 : Nat)]) ∧ w' = w := by
  have hb := hl b (List.mem_cons_self ..)
  obtain ⟨y, e, hc0⟩ := h1 0 (by simp)
  cases e
  have hc0 : w.cell? x = some (.int .u8 (b : Int)) := by have h := hc0; rw [Addr.add_zero'] at h; exact h
  have hn0 : ((((b :: t).length : Nat) : Int) == 0) = false := by simp; omega
  have hn1 : (0 : Int) < (((b :: t).length : Nat) : Int) := by simp
  have hw : IntKind.u32.wrap (b : Int) = (b : Int) := by rw [IntKind.wrap_u32]; omega
  have f0 : ((b : Int) ≤ 127) = False := eq_false (by omega)
  have f1 : (194 ≤ (b : Int)) = False := eq_false (by omega)
  have f2 : ((b : Int) ≤ 223) = True := eq_true (by omega)
  have f3 : (224 ≤ (b : Int)) = False := eq_false (by omega)
  have f4 : ((b : Int) ≤ 239) = True := eq_true (by omega)
  have f5 : (240 ≤ (b : Int)) = False := eq_false (by omega)
  have f6 : ((b : Int) ≤ 244) = True := eq_true (by omega)
  have f7 : ((b : Int) = 224) = False := eq_false (by omega)
  have f8 : ((b : Int) = 237) = False := eq_false (by omega)
  have f9 : ((b : Int) = 240) = False := eq_false (by omega)
  have f10 : ((b : Int) = 244) = False := eq_false (by omega)
  have q7 : (((b : Nat) : Int) == 224) = false := by simp; omega
  have q8 : (((b : Nat) : Int) == 237) = false := by simp; omega
  have q9 : (((b : Nat) : Int) == 240) = false := by simp; omega
  have q10 : (((b : Nat) : Int) == 244) = false := by simp; omega
  rw [dp_short (by omega) (Or.inl (by unfold mrB; rw [if_neg (by omega), if_neg (by omega), if_neg (by omega)]))]
  clear hl h1 hcl
  generalize (b :: t).length = n at *
  go_enter Tryd.func41, Tryd.ntmps41
  go_wp2
  exact bodyPost_ret (v := .tuple #[.int .u32 0, .int .i64 0]) (by simp [results, Tryd.results41, go_sem]) rfl ⟨rfl, rfl⟩
set_option maxHeartbeats 3200000 in
set_option maxRecDepth 20000 in
theorem rpoint_d2 (x : Addr) (c b : Nat) (t : List Nat) (w : World) (h1 : U8s w (some x) (b :: t)) (hl : ∀ x ∈ b :: t, x < 256) (hn : (b :: t).length ≤ 1000000) (hcl : 245 ≤ b ∧ b ≤ 255) :
    Calls Tryd.prog 41 #[.slice (some x) (b :: t).length c] w fun e w' => e = .returned (.tuple #[.int .u32 ((dpB (b :: t)).1 : Nat), .int .i64 ((dpB (b :: t)).2 : Nat)]) ∧ w' = w := by
  have hb := hl b (List.mem_cons_self ..)
  obtain ⟨y, e, hc0⟩ := h1 0 (by simp)
  cases e
  have hc0 : w.cell? x = some (.int .u8 (b : Int)) := by have h := hc0; rw [Addr.add_zero'] at h; exact h
  have hn0 : ((((b :: t).length : Nat) : Int) == 0) = false := by simp; omega
  have hn1 : (0 : Int) < (((b :: t).length : Nat) : Int) := by simp
  have hw : IntKind.u32.wrap (b : Int) = (b : Int) := by rw [IntKind.wrap_u32]; omega
  have f0 : ((b : Int) ≤ 127) = False := eq_false (by omega)
  have f1 : (194 ≤ (b : Int)) = True := eq_true (by omega)
  have f2 : ((b : Int) ≤ 223) = False := eq_false (by omega)
  have f3 : (224 ≤ (b : Int)) = True := eq_true (by omega)
  have f4 : ((b : Int) ≤ 239) = False := eq_false (by omega)
  have f5 : (240 ≤ (b : Int)) = True := eq_true (by omega)
  have f6 : ((b : Int) ≤ 244) = False := eq_false (by omega)
  have f7 : ((b : Int) = 224) = False := eq_false (by omega)
  have f8 : ((b : Int) = 237) = False := eq_false (by omega)
  have f9 : ((b : Int) = 240) = False := eq_false (by omega)
  have f10 : ((b : Int) = 244) = False := eq_false (by omega)
  have q7 : (((b : Nat) : Int) == 224) = false := by simp; omega
  have q8 : (((b : Nat) : Int) == 237) = false := by simp; omega
  have q9 : (((b : Nat) : Int) == 240) = false := by simp; omega
  have q10 : (((b : Nat) : Int) == 244) = false := by simp; omega
  rw [dp_short (by omega) (Or.inl (by unfold mrB; rw [if_neg (by omega), if_neg (by omega), if_neg (by omega)]))]
  clear hl h1 hcl
  generalize (b :: t).length = n at *
  go_enter Tryd.func41, Tryd.ntmps41
  go_wp2
  exact bodyPost_ret (v := .tuple #[.int .u32 0, .int .i64 0]) (by simp [results, Tryd.results41, go_sem]) rfl ⟨rfl, rfl⟩
set_option maxHeartbeats 3200000 in
set_option maxRecDepth 20000 in
theorem rpoint_a (x : Addr) (c b : Nat) (t : List Nat) (w : World) (h1 : U8s w (some x) (b :: t)) (hl : ∀ x ∈ b :: t, x < 256) (hn : (b :: t).length ≤ 1000000) (hcl : 194 ≤ b ∧ b ≤ 223) :
    Calls Tryd.prog 41 #[.slice (some x) (b :: t).length c] w fun e w' => e = .returned (.tuple #[.int .u32 ((dpB (b :: t)).1 : Nat), .int .i64 ((dpB (b :: t)).2 : Nat)]) ∧ w' = w := by
  have hb := hl b (List.mem_cons_self ..)
  obtain ⟨y, e, hc0⟩ := h1 0 (by simp)
  cases e
  have hc0 : w.cell? x = some (.int .u8 (b : Int)) := by have h := hc0; rw [Addr.add_zero'] at h; exact h
  have hn0 : ((((b :: t).length : Nat) : Int) == 0) = false := by simp; omega
  have hn1 : (0 : Int) < (((b :: t).length : Nat) : Int) := by simp
  have hw : IntKind.u32.wrap (b : Int) = (b : Int) := by rw [IntKind.wrap_u32]; omega
  have f0 : ((b : Int) ≤ 127) = False := eq_false (by omega)
  have f1 : (194 ≤ (b : Int)) = True := eq_true (by omega)
  have f2 : ((b : Int) ≤ 223) = True := eq_true (by omega)
  have f3 : (224 ≤ (b : Int)) = False := eq_false (by omega)
  have f4 : ((b : Int) ≤ 239) = True := eq_true (by omega)
  have f5 : (240 ≤ (b : Int)) = False := eq_false (by omega)
  have f6 : ((b : Int) ≤ 244) = True := eq_true (by omega)
  have f7 : ((b : Int) = 224) = False := eq_false (by omega)
  have f8 : ((b : Int) = 237) = False := eq_false (by omega)
  have f9 : ((b : Int) = 240) = False := eq_false (by omega)
  have f10 : ((b : Int) = 244) = False := eq_false (by omega)
  have q7 : (((b : Nat) : Int) == 224) = false := by simp; omega
  have q8 : (((b : Nat) : Int) == 237) = false := by simp; omega
  have q9 : (((b : Nat) : Int) == 240) = false := by simp; omega
  have q10 : (((b : Nat) : Int) == 244) = false := by simp; omega
  have hmr : mrB b = 1 := by unfold mrB; rw [if_pos (by omega)]
  have hlw : lwB b = 128 := by unfold lwB; rw [if_neg (by omega), if_neg (by omega)]
  have hhg : hgB b = 191 := by unfold hgB; rw [if_neg (by omega), if_neg (by omega)]
  have hvr : vrB b = b - 192 := by unfold vrB; rw [if_pos (by omega)]
  have HL := hid (fun k => getD_lt256 (fun x hx => hl x (List.mem_cons_of_mem _ hx)) k : ∀ k, t.getD k 0 < 256)
  have H1 := hid h1
  have h7 : ¬ b ≤ 127 := by omega
  have hlen : (b :: t).length = t.length + 1 := rfl
  by_cases hsh : t.length < 1
  · rw [dp_short h7 (Or.inr (by rw [hmr]; exact hsh))]
    have hle : ((((b :: t).length : Nat) : Int) ≤ 1) = True := eq_true (by omega)
    clear hl h1 hcl hmr hlw hhg hvr
    generalize (b :: t).length = n at *
    go_enter Tryd.func41, Tryd.ntmps41
    go_wp2
    exact bodyPost_ret (v := .tuple #[.int .u32 0, .int .i64 0]) (by simp [results, Tryd.results41, go_sem]) rfl ⟨rfl, rfl⟩
  · have hle : ((((b :: t).length : Nat) : Int) ≤ 1) = False := eq_false (by omega)
    have HN := hid (dp_none (b := b) (t := t) h7)
    have HS := hid (fun v => dp_some (b := b) (t := t) (v := v) h7 (by rw [hmr]; decide) (by rw [hmr]; omega))
    rw [hmr, hlw, hhg, hvr] at HN
    rw [hmr, hlw, hhg, hvr] at HS
    have HTL := hid (show 1 ≤ t.length by omega)
    obtain ⟨r, hr⟩ : ∃ r, dpB (b :: t) = r := ⟨_, rfl⟩
    rw [hr] at HN HS ⊢
    have HPW := hid (show (b - 192 + 1) * 64 ^ 1 ≤ 67108864 by omega)
    have hbn : ((b - 192 : Nat) : Int) = (b : Int) - 192 := by omega
    have HBN := hid hbn
    clear hl h1 hmr hlw hhg hvr hr hlen hsh hbn
    obtain ⟨n, hne⟩ : ∃ n, (b :: t).length = n := ⟨_, rfl⟩
    have HNE := hid hne
    rw [hne] at hn hn0 hn1 hle ⊢
    clear hne
    go_enter Tryd.func41, Tryd.ntmps41
    go_wp2_with fail
    clear f0 f1 f2 f3 f4 f5 f6 f7 f8 f9 f10 q7 q8 q9 q10 hn0 hc0 hw hle hcl
    go_loopw [6, 7, 8, 9] (fun c6 c7 c8 c9 wr => ∃ i lo hi v : Nat, 1 ≤ i ∧ i ≤ 2 ∧ c6 = .int .u8 (lo : Int) ∧ c7 = .int .u8 (hi : Int) ∧ c8 = .int .u32 (v : Int) ∧ c9 = .int .i64 (i : Int) ∧ wr = w ∧ 128 ≤ lo ∧ hi ≤ 191 ∧ (v + 1) * 64 ^ (2 - i) ≤ 67108864 ∧ ctB (2 - i) (t.drop (i - 1)) lo hi v = ctB 1 t 128 191 (b - 192)) (fun _ _ _ c9 _ => 2 - (intOf c9).toNat)
    case atStart => exact ⟨1, 128, 191, b - 192, by decide, by decide, rfl, rfl, by first | (rw [HBN.out]; done) | (rw [HBN.out]; first | rfl | (congr 1; first | omega | (rw [IntKind.wrap_u32]; omega))), rfl, rfl, by decide, by decide, HPW.out, rfl⟩
    case round =>
      obtain ⟨i, lo, hi, v, hi1, hi2, rfl, rfl, rfl, rfl, rfl, hlo, hhi, hpw, hct⟩ := hrel
      by_cases hlt : i ≤ 1
      · obtain ⟨x', ex, hcell⟩ := u8_at H1.out i (by have := HTL.out; show i < t.length + 1; omega)
        cases ex
        have hgi : (b :: t).getD i 0 = t.getD (i - 1) 0 := by obtain ⟨k, rfl⟩ : ∃ k, i = k + 1 := ⟨i - 1, by omega⟩; rfl
        rw [hgi] at hcell
        have hyb := HL.out (i - 1)
        have hdr := drop_getD (t := t) (k := i - 1) (by have := HTL.out; omega)
        obtain ⟨y, hy⟩ : ∃ y, t.getD (i - 1) 0 = y := ⟨_, rfl⟩
        rw [hy] at hcell hyb hdr
        clear hy hgi
        have hk1 : 2 - i = (1 - i) + 1 := by omega
        have hk2 : 2 - (i + 1) = 1 - i := by omega
        have hk3 : i + 1 - 1 = i - 1 + 1 := by omega
        rw [hdr, hk1] at hct
        rw [hk1] at hpw
        have hv : v ≤ 1048575 := by
          have h1 : (v + 1) * 64 ≤ (v + 1) * 64 ^ ((1 - i) + 1) := by
            rw [Nat.pow_succ, ← Nat.mul_assoc, Nat.mul_right_comm]
            exact Nat.le_mul_of_pos_right _ (Nat.pos_of_ne_zero (by simp))
          omega
        have hin : (i : Int) < (n : Int) := by have h := HNE.out; rw [List.length_cons] at h; have := HTL.out; omega
        have hi0 : (i : Int) ≤ 1 := by omega
        by_cases hbad : y < lo ∨ hi < y
        · rw [ct_bad hbad] at hct
          have HR := hid (HN.out hct.symm)
          clear hct hpw hdr hk1 hk2 hk3
          by_cases hbl : y < lo
          · have hB1 : ((y : Int) < (lo : Int)) = True := eq_true (by omega)
            go_wp2
            exact bodyPost_ret (v := .tuple #[.int .u32 0, .int .i64 0]) (by simp [results, Tryd.results41, go_sem]) rfl ⟨by first | (rw [HR.out]; done) | (rw [HR.out]; rfl), rfl⟩
          · have hB1 : ((y : Int) < (lo : Int)) = False := eq_false (by omega)
            have hB2 : ((hi : Int) < (y : Int)) = True := eq_true (by omega)
            go_wp2
            exact bodyPost_ret (v := .tuple #[.int .u32 0, .int .i64 0]) (by simp [results, Tryd.results41, go_sem]) rfl ⟨by first | (rw [HR.out]; done) | (rw [HR.out]; rfl), rfl⟩
        · rw [ct_ok (by omega) (by omega)] at hct
          have hB1 : ((y : Int) < (lo : Int)) = False := eq_false (by omega)
          have hB2 : ((hi : Int) < (y : Int)) = False := eq_false (by omega)
          have hyw : IntKind.u32.wrap (y : Int) = (y : Int) := by rw [IntKind.wrap_u32]; omega
          have hyy : 128 ≤ y ∧ y ≤ 191 := by omega
          have HCT := hid (show ctB (2 - (i + 1)) (t.drop (i + 1 - 1)) 128 191 (v * 64 + y - 128) = ctB 1 t 128 191 (b - 192) by rw [hk2, hk3]; exact hct)
          have HPV := hid (show (v * 64 + y - 128 + 1) * 64 ^ (2 - (i + 1)) ≤ 67108864 by
            rw [hk2]
            refine Nat.le_trans ?_ hpw
            rw [Nat.pow_succ, ← Nat.mul_assoc, Nat.mul_right_comm]
            exact Nat.mul_le_mul_right _ (by omega))
          clear hct hpw hdr hk1 hk2 hk3 hbad
          go_wp2
          go_roundw
          case rel => exact ⟨i + 1, 128, 191, v * 64 + y - 128, by omega, by omega, rfl, rfl, by go_num, by go_num, by first | rfl | trivial, by decide, by decide, HPV.out, HCT.out⟩
          case measure => simp [intOf]; omega
      · have him : i = 2 := by omega
        subst him
        have hi0 : ¬ ((2 : Nat) : Int) ≤ 1 := by decide
        rw [show 2 - 2 = 0 from rfl] at hct
        have HR := hid (HS.out v hct.symm)
        clear hct hpw
        go_wp2
        exact bodyPost_ret (v := .tuple #[.int .u32 (v : Int), .int .i64 2]) (by simp [results, Tryd.results41, go_sem]) rfl ⟨by first | (rw [HR.out]; done) | (rw [HR.out]; rfl), rfl⟩
set_option maxHeartbeats 3200000 in
set_option maxRecDepth 20000 in
theorem rpoint_b1 (x : Addr) (c b : Nat) (t : List Nat) (w : World) (h1 : U8s w (some x) (b :: t)) (hl : ∀ x ∈ b :: t, x < 256) (hn : (b :: t).length ≤ 1000000) (hcl : 224 ≤ b ∧ b ≤ 224) :
    Calls Tryd.prog 41 #[.slice (some x) (b :: t).length c] w fun e w' => e = .returned (.tuple #[.int .u32 ((dpB (b :: t)).1 : Nat), .int .i64 ((dpB (b :: t)).2 : Nat)]) ∧ w' = w := by
  have hb := hl b (List.mem_cons_self ..)
  obtain ⟨y, e, hc0⟩ := h1 0 (by simp)
  cases e
  have hc0 : w.cell? x = some (.int .u8 (b : Int)) := by have h := hc0; rw [Addr.add_zero'] at h; exact h
  have hn0 : ((((b :: t).length : Nat) : Int) == 0) = false := by simp; omega
  have hn1 : (0 : Int) < (((b :: t).length : Nat) : Int) := by simp
  have hw : IntKind.u32.wrap (b : Int) = (b : Int) := by rw [IntKind.wrap_u32]; omega
  have f0 : ((b : Int) ≤ 127) = False := eq_false (by omega)
  have f1 : (194 ≤ (b : Int)) = True := eq_true (by omega)
  have f2 : ((b : Int) ≤ 223) = False := eq_false (by omega)
  have f3 : (224 ≤ (b : Int)) = True := eq_true (by omega)
  have f4 : ((b : Int) ≤ 239) = True := eq_true (by omega)
  have f5 : (240 ≤ (b : Int)) = False := eq_false (by omega)
  have f6 : ((b : Int) ≤ 244) = True := eq_true (by omega)
  have f7 : ((b : Int) = 224) = True := eq_true (by omega)
  have f8 : ((b : Int) = 237) = False := eq_false (by omega)
  have f9 : ((b : Int) = 240) = False := eq_false (by omega)
  have f10 : ((b : Int) = 244) = False := eq_false (by omega)
  have q7 : (((b : Nat) : Int) == 224) = true := by simp; omega
  have q8 : (((b : Nat) : Int) == 237) = false := by simp; omega
  have q9 : (((b : Nat) : Int) == 240) = false := by simp; omega
  have q10 : (((b : Nat) : Int) == 244) = false := by simp; omega
  have hmr : mrB b = 2 := by unfold mrB; rw [if_neg (by omega), if_pos (by omega)]
  have hlw : lwB b = 160 := by unfold lwB; rw [if_pos (by omega)]
  have hhg : hgB b = 191 := by unfold hgB; rw [if_neg (by omega), if_neg (by omega)]
  have hvr : vrB b = b - 224 := by unfold vrB; rw [if_neg (by omega), if_pos (by omega)]
  have HL := hid (fun k => getD_lt256 (fun x hx => hl x (List.mem_cons_of_mem _ hx)) k : ∀ k, t.getD k 0 < 256)
  have H1 := hid h1
  have h7 : ¬ b ≤ 127 := by omega
  have hlen : (b :: t).length = t.length + 1 := rfl
  by_cases hsh : t.length < 2
  · rw [dp_short h7 (Or.inr (by rw [hmr]; exact hsh))]
    have hle : ((((b :: t).length : Nat) : Int) ≤ 2) = True := eq_true (by omega)
    clear hl h1 hcl hmr hlw hhg hvr
    generalize (b :: t).length = n at *
    go_enter Tryd.func41, Tryd.ntmps41
    go_wp2
    exact bodyPost_ret (v := .tuple #[.int .u32 0, .int .i64 0]) (by simp [results, Tryd.results41, go_sem]) rfl ⟨rfl, rfl⟩
  · have hle : ((((b :: t).length : Nat) : Int) ≤ 2) = False := eq_false (by omega)
    have HN := hid (dp_none (b := b) (t := t) h7)
    have HS := hid (fun v => dp_some (b := b) (t := t) (v := v) h7 (by rw [hmr]; decide) (by rw [hmr]; omega))
    rw [hmr, hlw, hhg, hvr] at HN
    rw [hmr, hlw, hhg, hvr] at HS
    have HTL := hid (show 2 ≤ t.length by omega)
    obtain ⟨r, hr⟩ : ∃ r, dpB (b :: t) = r := ⟨_, rfl⟩
    rw [hr] at HN HS ⊢
    have HPW := hid (show (b - 224 + 1) * 64 ^ 2 ≤ 67108864 by omega)
    have hbn : ((b - 224 : Nat) : Int) = (b : Int) - 224 := by omega
    have HBN := hid hbn
    clear hl h1 hmr hlw hhg hvr hr hlen hsh hbn
    obtain ⟨n, hne⟩ : ∃ n, (b :: t).length = n := ⟨_, rfl⟩
    have HNE := hid hne
    rw [hne] at hn hn0 hn1 hle ⊢
    clear hne
    go_enter Tryd.func41, Tryd.ntmps41
    go_wp2_with fail
    clear f0 f1 f2 f3 f4 f5 f6 f7 f8 f9 f10 q7 q8 q9 q10 hn0 hc0 hw hle hcl
    go_loopw [6, 7, 8, 9] (fun c6 c7 c8 c9 wr => ∃ i lo hi v : Nat, 1 ≤ i ∧ i ≤ 3 ∧ c6 = .int .u8 (lo : Int) ∧ c7 = .int .u8 (hi : Int) ∧ c8 = .int .u32 (v : Int) ∧ c9 = .int .i64 (i : Int) ∧ wr = w ∧ 128 ≤ lo ∧ hi ≤ 191 ∧ (v + 1) * 64 ^ (3 - i) ≤ 67108864 ∧ ctB (3 - i) (t.drop (i - 1)) lo hi v = ctB 2 t 160 191 (b - 224)) (fun _ _ _ c9 _ => 3 - (intOf c9).toNat)
    case atStart => exact ⟨1, 160, 191, b - 224, by decide, by decide, rfl, rfl, by first | (rw [HBN.out]; done) | (rw [HBN.out]; first | rfl | (congr 1; first | omega | (rw [IntKind.wrap_u32]; omega))), rfl, rfl, by decide, by decide, HPW.out, rfl⟩
    case round =>
      obtain ⟨i, lo, hi, v, hi1, hi2, rfl, rfl, rfl, rfl, rfl, hlo, hhi, hpw, hct⟩ := hrel
      by_cases hlt : i ≤ 2
      · obtain ⟨x', ex, hcell⟩ := u8_at H1.out i (by have := HTL.out; show i < t.length + 1; omega)
        cases ex
        have hgi : (b :: t).getD i 0 = t.getD (i - 1) 0 := by obtain ⟨k, rfl⟩ : ∃ k, i = k + 1 := ⟨i - 1, by omega⟩; rfl
        rw [hgi] at hcell
        have hyb := HL.out (i - 1)
        have hdr := drop_getD (t := t) (k := i - 1) (by have := HTL.out; omega)
        obtain ⟨y, hy⟩ : ∃ y, t.getD (i - 1) 0 = y := ⟨_, rfl⟩
        rw [hy] at hcell hyb hdr
        clear hy hgi
        have hk1 : 3 - i = (2 - i) + 1 := by omega
        have hk2 : 3 - (i + 1) = 2 - i := by omega
        have hk3 : i + 1 - 1 = i - 1 + 1 := by omega
        rw [hdr, hk1] at hct
        rw [hk1] at hpw
        have hv : v ≤ 1048575 := by
          have h1 : (v + 1) * 64 ≤ (v + 1) * 64 ^ ((2 - i) + 1) := by
            rw [Nat.pow_succ, ← Nat.mul_assoc, Nat.mul_right_comm]
            exact Nat.le_mul_of_pos_right _ (Nat.pos_of_ne_zero (by simp))
          omega
        have hin : (i : Int) < (n : Int) := by have h := HNE.out; rw [List.length_cons] at h; have := HTL.out; omega
        have hi0 : (i : Int) ≤ 2 := by omega
        by_cases hbad : y < lo ∨ hi < y
        · rw [ct_bad hbad] at hct
          have HR := hid (HN.out hct.symm)
          clear hct hpw hdr hk1 hk2 hk3
          by_cases hbl : y < lo
          · have hB1 : ((y : Int) < (lo : Int)) = True := eq_true (by omega)
            go_wp2
            exact bodyPost_ret (v := .tuple #[.int .u32 0, .int .i64 0]) (by simp [results, Tryd.results41, go_sem]) rfl ⟨by first | (rw [HR.out]; done) | (rw [HR.out]; rfl), rfl⟩
          · have hB1 : ((y : Int) < (lo : Int)) = False := eq_false (by omega)
            have hB2 : ((hi : Int) < (y : Int)) = True := eq_true (by omega)
            go_wp2
            exact bodyPost_ret (v := .tuple #[.int .u32 0, .int .i64 0]) (by simp [results, Tryd.results41, go_sem]) rfl ⟨by first | (rw [HR.out]; done) | (rw [HR.out]; rfl), rfl⟩
        · rw [ct_ok (by omega) (by omega)] at hct
          have hB1 : ((y : Int) < (lo : Int)) = False := eq_false (by omega)
          have hB2 : ((hi : Int) < (y : Int)) = False := eq_false (by omega)
          have hyw : IntKind.u32.wrap (y : Int) = (y : Int) := by rw [IntKind.wrap_u32]; omega
          have hyy : 128 ≤ y ∧ y ≤ 191 := by omega
          have HCT := hid (show ctB (3 - (i + 1)) (t.drop (i + 1 - 1)) 128 191 (v * 64 + y - 128) = ctB 2 t 160 191 (b - 224) by rw [hk2, hk3]; exact hct)
          have HPV := hid (show (v * 64 + y - 128 + 1) * 64 ^ (3 - (i + 1)) ≤ 67108864 by
            rw [hk2]
            refine Nat.le_trans ?_ hpw
            rw [Nat.pow_succ, ← Nat.mul_assoc, Nat.mul_right_comm]
            exact Nat.mul_le_mul_right _ (by omega))
          clear hct hpw hdr hk1 hk2 hk3 hbad
          go_wp2
          go_roundw
          case rel => exact ⟨i + 1, 128, 191, v * 64 + y - 128, by omega, by omega, rfl, rfl, by go_num, by go_num, by first | rfl | trivial, by decide, by decide, HPV.out, HCT.out⟩
          case measure => simp [intOf]; omega
      · have him : i = 3 := by omega
        subst him
        have hi0 : ¬ ((3 : Nat) : Int) ≤ 2 := by decide
        rw [show 3 - 3 = 0 from rfl] at hct
        have HR := hid (HS.out v hct.symm)
        clear hct hpw
        go_wp2
        exact bodyPost_ret (v := .tuple #[.int .u32 (v : Int), .int .i64 3]) (by simp [results, Tryd.results41, go_sem]) rfl ⟨by first | (rw [HR.out]; done) | (rw [HR.out]; rfl), rfl⟩
set_option maxHeartbeats 3200000 in
set_option maxRecDepth 20000 in
theorem rpoint_b2 (x : Addr) (c b : Nat) (t : List Nat) (w : World) (h1 : U8s w (some x) (b :: t)) (hl : ∀ x ∈ b :: t, x < 256) (hn : (b :: t).length ≤ 1000000) (hcl : 225 ≤ b ∧ b ≤ 236) :
    Calls Tryd.prog 41 #[.slice (some x) (b :: t).length c] w fun e w' => e = .returned (.tuple #[.int .u32 ((dpB (b :: t)).1 : Nat), .int .i64 ((dpB (b :: t)).2 : Nat)]) ∧ w' = w := by
  have hb := hl b (List.mem_cons_self ..)
  obtain ⟨y, e, hc0⟩ := h1 0 (by simp)
  cases e
  have hc0 : w.cell? x = some (.int .u8 (b : Int)) := by have h := hc0; rw [Addr.add_zero'] at h; exact h
  have hn0 : ((((b :: t).length : Nat) : Int) == 0) = false := by simp; omega
  have hn1 : (0 : Int) < (((b :: t).length : Nat) : Int) := by simp
  have hw : IntKind.u32.wrap (b : Int) = (b : Int) := by rw [IntKind.wrap_u32]; omega
  have f0 : ((b : Int) ≤ 127) = False := eq_false (by omega)
  have f1 : (194 ≤ (b : Int)) = True := eq_true (by omega)
  have f2 : ((b : Int) ≤ 223) = False := eq_false (by omega)
  have f3 : (224 ≤ (b : Int)) = True := eq_true (by omega)
  have f4 : ((b : Int) ≤ 239) = True := eq_true (by omega)
  have f5 : (240 ≤ (b : Int)) = False := eq_false (by omega)
  have f6 : ((b : Int) ≤ 244) = True := eq_true (by omega)
  have f7 : ((b : Int) = 224) = False := eq_false (by omega)
  have f8 : ((b : Int) = 237) = False := eq_false (by omega)
  have f9 : ((b : Int) = 240) = False := eq_false (by omega)
  have f10 : ((b : Int) = 244) = False := eq_false (by omega)
  have q7 : (((b : Nat) : Int) == 224) = false := by simp; omega
  have q8 : (((b : Nat) : Int) == 237) = false := by simp; omega
  have q9 : (((b : Nat) : Int) == 240) = false := by simp; omega
  have q10 : (((b : Nat) : Int) == 244) = false := by simp; omega
  have hmr : mrB b = 2 := by unfold mrB; rw [if_neg (by omega), if_pos (by omega)]
  have hlw : lwB b = 128 := by unfold lwB; rw [if_neg (by omega), if_neg (by omega)]
  have hhg : hgB b = 191 := by unfold hgB; rw [if_neg (by omega), if_neg (by omega)]
  have hvr : vrB b = b - 224 := by unfold vrB; rw [if_neg (by omega), if_pos (by omega)]
  have HL := hid (fun k => getD_lt256 (fun x hx => hl x (List.mem_cons_of_mem _ hx)) k : ∀ k, t.getD k 0 < 256)
  have H1 := hid h1
  have h7 : ¬ b ≤ 127 := by omega
  have hlen : (b :: t).length = t.length + 1 := rfl
  by_cases hsh : t.length < 2
  · rw [dp_short h7 (Or.inr (by rw [hmr]; exact hsh))]
    have hle : ((((b :: t).length : Nat) : Int) ≤ 2) = True := eq_true (by omega)
    clear hl h1 hcl hmr hlw hhg hvr
    generalize (b :: t).length = n at *
    go_enter Tryd.func41, Tryd.ntmps41
    go_wp2
    exact bodyPost_ret (v := .tuple #[.int .u32 0, .int .i64 0]) (by simp [results, Tryd.results41, go_sem]) rfl ⟨rfl, rfl⟩
  · have hle : ((((b :: t).length : Nat) : Int) ≤ 2) = False := eq_false (by omega)
    have HN := hid (dp_none (b := b) (t := t) h7)
    have HS := hid (fun v => dp_some (b := b) (t := t) (v := v) h7 (by rw [hmr]; decide) (by rw [hmr]; omega))
    rw [hmr, hlw, hhg, hvr] at HN
    rw [hmr, hlw, hhg, hvr] at HS
    have HTL := hid (show 2 ≤ t.length by omega)
    obtain ⟨r, hr⟩ : ∃ r, dpB (b :: t) = r := ⟨_, rfl⟩
    rw [hr] at HN HS ⊢
    have HPW := hid (show (b - 224 + 1) * 64 ^ 2 ≤ 67108864 by omega)
    have hbn : ((b - 224 : Nat) : Int) = (b : Int) - 224 := by omega
    have HBN := hid hbn
    clear hl h1 hmr hlw hhg hvr hr hlen hsh hbn
    obtain ⟨n, hne⟩ : ∃ n, (b :: t).length = n := ⟨_, rfl⟩
    have HNE := hid hne
    rw [hne] at hn hn0 hn1 hle ⊢
    clear hne
    go_enter Tryd.func41, Tryd.ntmps41
    go_wp2_with fail
    clear f0 f1 f2 f3 f4 f5 f6 f7 f8 f9 f10 q7 q8 q9 q10 hn0 hc0 hw hle hcl
    go_loopw [6, 7, 8, 9] (fun c6 c7 c8 c9 wr => ∃ i lo hi v : Nat, 1 ≤ i ∧ i ≤ 3 ∧ c6 = .int .u8 (lo : Int) ∧ c7 = .int .u8 (hi : Int) ∧ c8 = .int .u32 (v : Int) ∧ c9 = .int .i64 (i : Int) ∧ wr = w ∧ 128 ≤ lo ∧ hi ≤ 191 ∧ (v + 1) * 64 ^ (3 - i) ≤ 67108864 ∧ ctB (3 - i) (t.drop (i - 1)) lo hi v = ctB 2 t 128 191 (b - 224)) (fun _ _ _ c9 _ => 3 - (intOf c9).toNat)
    case atStart => exact ⟨1, 128, 191, b - 224, by decide, by decide, rfl, rfl, by first | (rw [HBN.out]; done) | (rw [HBN.out]; first | rfl | (congr 1; first | omega | (rw [IntKind.wrap_u32]; omega))), rfl, rfl, by decide, by decide, HPW.out, rfl⟩
    case round =>
      obtain ⟨i, lo, hi, v, hi1, hi2, rfl, rfl, rfl, rfl, rfl, hlo, hhi, hpw, hct⟩ := hrel
      by_cases hlt : i ≤ 2
      · obtain ⟨x', ex, hcell⟩ := u8_at H1.out i (by have := HTL.out; show i < t.length + 1; omega)
        cases ex
        have hgi : (b :: t).getD i 0 = t.getD (i - 1) 0 := by obtain ⟨k, rfl⟩ : ∃ k, i = k + 1 := ⟨i - 1, by omega⟩; rfl
        rw [hgi] at hcell
        have hyb := HL.out (i - 1)
        have hdr := drop_getD (t := t) (k := i - 1) (by have := HTL.out; omega)
        obtain ⟨y, hy⟩ : ∃ y, t.getD (i - 1) 0 = y := ⟨_, rfl⟩
        rw [hy] at hcell hyb hdr
        clear hy hgi
        have hk1 : 3 - i = (2 - i) + 1 := by omega
        have hk2 : 3 - (i + 1) = 2 - i := by omega
        have hk3 : i + 1 - 1 = i - 1 + 1 := by omega
        rw [hdr, hk1] at hct
        rw [hk1] at hpw
        have hv : v ≤ 1048575 := by
          have h1 : (v + 1) * 64 ≤ (v + 1) * 64 ^ ((2 - i) + 1) := by
            rw [Nat.pow_succ, ← Nat.mul_assoc, Nat.mul_right_comm]
            exact Nat.le_mul_of_pos_right _ (Nat.pos_of_ne_zero (by simp))
          omega
        have hin : (i : Int) < (n : Int) := by have h := HNE.out; rw [List.length_cons] at h; have := HTL.out; omega
        have hi0 : (i : Int) ≤ 2 := by omega
        by_cases hbad : y < lo ∨ hi < y
        · rw [ct_bad hbad] at hct
          have HR := hid (HN.out hct.symm)
          clear hct hpw hdr hk1 hk2 hk3
          by_cases hbl : y < lo
          · have hB1 : ((y : Int) < (lo : Int)) = True := eq_true (by omega)
            go_wp2
            exact bodyPost_ret (v := .tuple #[.int .u32 0, .int .i64 0]) (by simp [results, Tryd.results41, go_sem]) rfl ⟨by first | (rw [HR.out]; done) | (rw [HR.out]; rfl), rfl⟩
          · have hB1 : ((y : Int) < (lo : Int)) = False := eq_false (by omega)
            have hB2 : ((hi : Int) < (y : Int)) = True := eq_true (by omega)
            go_wp2
            exact bodyPost_ret (v := .tuple #[.int .u32 0, .int .i64 0]) (by simp [results, Tryd.results41, go_sem]) rfl ⟨by first | (rw [HR.out]; done) | (rw [HR.out]; rfl), rfl⟩
        · rw [ct_ok (by omega) (by omega)] at hct
          have hB1 : ((y : Int) < (lo : Int)) = False := eq_false (by omega)
          have hB2 : ((hi : Int) < (y : Int)) = False := eq_false (by omega)
          have hyw : IntKind.u32.wrap (y : Int) = (y : Int) := by rw [IntKind.wrap_u32]; omega
          have hyy : 128 ≤ y ∧ y ≤ 191 := by omega
          have HCT := hid (show ctB (3 - (i + 1)) (t.drop (i + 1 - 1)) 128 191 (v * 64 + y - 128) = ctB 2 t 128 191 (b - 224) by rw [hk2, hk3]; exact hct)
          have HPV := hid (show (v * 64 + y - 128 + 1) * 64 ^ (3 - (i + 1)) ≤ 67108864 by
            rw [hk2]
            refine Nat.le_trans ?_ hpw
            rw [Nat.pow_succ, ← Nat.mul_assoc, Nat.mul_right_comm]
            exact Nat.mul_le_mul_right _ (by omega))
          clear hct hpw hdr hk1 hk2 hk3 hbad
          go_wp2
          go_roundw
          case rel => exact ⟨i + 1, 128, 191, v * 64 + y - 128, by omega, by omega, rfl, rfl, by go_num, by go_num, by first | rfl | trivial, by decide, by decide, HPV.out, HCT.out⟩
          case measure => simp [intOf]; omega
      · have him : i = 3 := by omega
        subst him
        have hi0 : ¬ ((3 : Nat) : Int) ≤ 2 := by decide
        rw [show 3 - 3 = 0 from rfl] at hct
        have HR := hid (HS.out v hct.symm)
        clear hct hpw
        go_wp2
        exact bodyPost_ret (v := .tuple #[.int .u32 (v : Int), .int .i64 3]) (by simp [results, Tryd.results41, go_sem]) rfl ⟨by first | (rw [HR.out]; done) | (rw [HR.out]; rfl), rfl⟩
set_option maxHeartbeats 3200000 in
set_option maxRecDepth 20000 in
theorem rpoint_b3 (x : Addr) (c b : Nat) (t : List Nat) (w : World) (h1 : U8s w (some x) (b :: t)) (hl : ∀ x ∈ b :: t, x < 256) (hn : (b :: t).length ≤ 1000000) (hcl : 237 ≤ b ∧ b ≤ 237) :
    Calls Tryd.prog 41 #[.slice (some x) (b :: t).length c] w fun e w' => e = .returned (.tuple #[.int .u32 ((dpB (b :: t)).1 : Nat), .int .i64 ((dpB (b :: t)).2 : Nat)]) ∧ w' = w := by
  have hb := hl b (List.mem_cons_self ..)
  obtain ⟨y, e, hc0⟩ := h1 0 (by simp)
  cases e
  have hc0 : w.cell? x = some (.int .u8 (b : Int)) := by have h := hc0; rw [Addr.add_zero'] at h; exact h
  have hn0 : ((((b :: t).length : Nat) : Int) == 0) = false := by simp; omega
  have hn1 : (0 : Int) < (((b :: t).length : Nat) : Int) := by simp
  have hw : IntKind.u32.wrap (b : Int) = (b : Int) := by rw [IntKind.wrap_u32]; omega
  have f0 : ((b : Int) ≤ 127) = False := eq_false (by omega)
  have f1 : (194 ≤ (b : Int)) = True := eq_true (by omega)
  have f2 : ((b : Int) ≤ 223) = False := eq_false (by omega)
  have f3 : (224 ≤ (b : Int)) = True := eq_true (by omega)
  have f4 : ((b : Int) ≤ 239) = True := eq_true (by omega)
  have f5 : (240 ≤ (b : Int)) = False := eq_false (by omega)
  have f6 : ((b : Int) ≤ 244) = True := eq_true (by omega)
  have f7 : ((b : Int) = 224) = False := eq_false (by omega)
  have f8 : ((b : Int) = 237) = True := eq_true (by omega)
  have f9 : ((b : Int) = 240) = False := eq_false (by omega)
  have f10 : ((b : Int) = 244) = False := eq_false (by omega)
  have q7 : (((b : Nat) : Int) == 224) = false := by simp; omega
  have q8 : (((b : Nat) : Int) == 237) = true := by simp; omega
  have q9 : (((b : Nat) : Int) == 240) = false := by simp; omega
  have q10 : (((b : Nat) : Int) == 244) = false := by simp; omega
  have hmr : mrB b = 2 := by unfold mrB; rw [if_neg (by omega), if_pos (by omega)]
  have hlw : lwB b = 128 := by unfold lwB; rw [if_neg (by omega), if_neg (by omega)]
  have hhg : hgB b = 159 := by unfold hgB; rw [if_pos (by omega)]
  have hvr : vrB b = b - 224 := by unfold vrB; rw [if_neg (by omega), if_pos (by omega)]
  have HL := hid (fun k => getD_lt256 (fun x hx => hl x (List.mem_cons_of_mem _ hx)) k : ∀ k, t.getD k 0 < 256)
  have H1 := hid h1
  have h7 : ¬ b ≤ 127 := by omega
  have hlen : (b :: t).length = t.length + 1 := rfl
  by_cases hsh : t.length < 2
  · rw [dp_short h7 (Or.inr (by rw [hmr]; exact hsh))]
    have hle : ((((b :: t).length : Nat) : Int) ≤ 2) = True := eq_true (by omega)
    clear hl h1 hcl hmr hlw hhg hvr
    generalize (b :: t).length = n at *
    go_enter Tryd.func41, Tryd.ntmps41
    go_wp2
    exact bodyPost_ret (v := .tuple #[.int .u32 0, .int .i64 0]) (by simp [results, Tryd.results41, go_sem]) rfl ⟨rfl, rfl⟩
  · have hle : ((((b :: t).length : Nat) : Int) ≤ 2) = False := eq_false (by omega)
    have HN := hid (dp_none (b := b) (t := t) h7)
    have HS := hid (fun v => dp_some (b := b) (t := t) (v := v) h7 (by rw [hmr]; decide) (by rw [hmr]; omega))
    rw [hmr, hlw, hhg, hvr] at HN
    rw [hmr, hlw, hhg, hvr] at HS
    have HTL := hid (show 2 ≤ t.length by omega)
    obtain ⟨r, hr⟩ : ∃ r, dpB (b :: t) = r := ⟨_, rfl⟩
    rw [hr] at HN HS ⊢
    have HPW := hid (show (b - 224 + 1) * 64 ^ 2 ≤ 67108864 by omega)
    have hbn : ((b - 224 : Nat) : Int) = (b : Int) - 224 := by omega
    have HBN := hid hbn
    clear hl h1 hmr hlw hhg hvr hr hlen hsh hbn
    obtain ⟨n, hne⟩ : ∃ n, (b :: t).length = n := ⟨_, rfl⟩
    have HNE := hid hne
    rw [hne] at hn hn0 hn1 hle ⊢
    clear hne
    go_enter Tryd.func41, Tryd.ntmps41
    go_wp2_with fail
    clear f0 f1 f2 f3 f4 f5 f6 f7 f8 f9 f10 q7 q8 q9 q10 hn0 hc0 hw hle hcl
    go_loopw [6, 7, 8, 9] (fun c6 c7 c8 c9 wr => ∃ i lo hi v : Nat, 1 ≤ i ∧ i ≤ 3 ∧ c6 = .int .u8 (lo : Int) ∧ c7 = .int .u8 (hi : Int) ∧ c8 = .int .u32 (v : Int) ∧ c9 = .int .i64 (i : Int) ∧ wr = w ∧ 128 ≤ lo ∧ hi ≤ 191 ∧ (v + 1) * 64 ^ (3 - i) ≤ 67108864 ∧ ctB (3 - i) (t.drop (i - 1)) lo hi v = ctB 2 t 128 159 (b - 224)) (fun _ _ _ c9 _ => 3 - (intOf c9).toNat)
    case atStart => exact ⟨1, 128, 159, b - 224, by decide, by decide, rfl, rfl, by first | (rw [HBN.out]; done) | (rw [HBN.out]; first | rfl | (congr 1; first | omega | (rw [IntKind.wrap_u32]; omega))), rfl, rfl, by decide, by decide, HPW.out, rfl⟩
    case round =>
      obtain ⟨i, lo, hi, v, hi1, hi2, rfl, rfl, rfl, rfl, rfl, hlo, hhi, hpw, hct⟩ := hrel
      by_cases hlt : i ≤ 2
      · obtain ⟨x', ex, hcell⟩ := u8_at H1.out i (by have := HTL.out; show i < t.length + 1; omega)
        cases ex
        have hgi : (b :: t).getD i 0 = t.getD (i - 1) 0 := by obtain ⟨k, rfl⟩ : ∃ k, i = k + 1 := ⟨i - 1, by omega⟩; rfl
        rw [hgi] at hcell
        have hyb := HL.out (i - 1)
        have hdr := drop_getD (t := t) (k := i - 1) (by have := HTL.out; omega)
        obtain ⟨y, hy⟩ : ∃ y, t.getD (i - 1) 0 = y := ⟨_, rfl⟩
        rw [hy] at hcell hyb hdr
        clear hy hgi
        have hk1 : 3 - i = (2 - i) + 1 := by omega
        have hk2 : 3 - (i + 1) = 2 - i := by omega
        have hk3 : i + 1 - 1 = i - 1 + 1 := by omega
        rw [hdr, hk1] at hct
        rw [hk1] at hpw
        have hv : v ≤ 1048575 := by
          have h1 : (v + 1) * 64 ≤ (v + 1) * 64 ^ ((2 - i) + 1) := by
            rw [Nat.pow_succ, ← Nat.mul_assoc, Nat.mul_right_comm]
            exact Nat.le_mul_of_pos_right _ (Nat.pos_of_ne_zero (by simp))
          omega
        have hin : (i : Int) < (n : Int) := by have h := HNE.out; rw [List.length_cons] at h; have := HTL.out; omega
        have hi0 : (i : Int) ≤ 2 := by omega
        by_cases hbad : y < lo ∨ hi < y
        · rw [ct_bad hbad] at hct
          have HR := hid (HN.out hct.symm)
          clear hct hpw hdr hk1 hk2 hk3
          by_cases hbl : y < lo
          · have hB1 : ((y : Int) < (lo : Int)) = True := eq_true (by omega)
            go_wp2
            exact bodyPost_ret (v := .tuple #[.int .u32 0, .int .i64 0]) (by simp [results, Tryd.results41, go_sem]) rfl ⟨by first | (rw [HR.out]; done) | (rw [HR.out]; rfl), rfl⟩
          · have hB1 : ((y : Int) < (lo : Int)) = False := eq_false (by omega)
            have hB2 : ((hi : Int) < (y : Int)) = True := eq_true (by omega)
            go_wp2
            exact bodyPost_ret (v := .tuple #[.int .u32 0, .int .i64 0]) (by simp [results, Tryd.results41, go_sem]) rfl ⟨by first | (rw [HR.out]; done) | (rw [HR.out]; rfl), rfl⟩
        · rw [ct_ok (by omega) (by omega)] at hct
          have hB1 : ((y : Int) < (lo : Int)) = False := eq_false (by omega)
          have hB2 : ((hi : Int) < (y : Int)) = False := eq_false (by omega)
          have hyw : IntKind.u32.wrap (y : Int) = (y : Int) := by rw [IntKind.wrap_u32]; omega
          have hyy : 128 ≤ y ∧ y ≤ 191 := by omega
          have HCT := hid (show ctB (3 - (i + 1)) (t.drop (i + 1 - 1)) 128 191 (v * 64 + y - 128) = ctB 2 t 128 159 (b - 224) by rw [hk2, hk3]; exact hct)
          have HPV := hid (show (v * 64 + y - 128 + 1) * 64 ^ (3 - (i + 1)) ≤ 67108864 by
            rw [hk2]
            refine Nat.le_trans ?_ hpw
            rw [Nat.pow_succ, ← Nat.mul_assoc, Nat.mul_right_comm]
            exact Nat.mul_le_mul_right _ (by omega))
          clear hct hpw hdr hk1 hk2 hk3 hbad
          go_wp2
          go_roundw
          case rel => exact ⟨i + 1, 128, 191, v * 64 + y - 128, by omega, by omega, rfl, rfl, by go_num, by go_num, by first | rfl | trivial, by decide, by decide, HPV.out, HCT.out⟩
          case measure => simp [intOf]; omega
      · have him : i = 3 := by omega
        subst him
        have hi0 : ¬ ((3 : Nat) : Int) ≤ 2 := by decide
        rw [show 3 - 3 = 0 from rfl] at hct
        have HR := hid (HS.out v hct.symm)
        clear hct hpw
        go_wp2
        exact bodyPost_ret (v := .tuple #[.int .u32 (v : Int), .int .i64 3]) (by simp [results, Tryd.results41, go_sem]) rfl ⟨by first | (rw [HR.out]; done) | (rw [HR.out]; rfl), rfl⟩
set_option maxHeartbeats 3200000 in
set_option maxRecDepth 20000 in
theorem rpoint_b4 (x : Addr) (c b : Nat) (t : List Nat) (w : World) (h1 : U8s w (some x) (b :: t)) (hl : ∀ x ∈ b :: t, x < 256) (hn : (b :: t).length ≤ 1000000) (hcl : 238 ≤ b ∧ b ≤ 239) :
    Calls Tryd.prog 41 #[.slice (some x) (b :: t).length c] w fun e w' => e = .returned (.tuple #[.int .u32 ((dpB (b :: t)).1 : Nat), .int .i64 ((dpB (b :: t)).2 : Nat)]) ∧ w' = w := by
  have hb := hl b (List.mem_cons_self ..)
  obtain ⟨y, e, hc0⟩ := h1 0 (by simp)
  cases e
  have hc0 : w.cell? x = some (.int .u8 (b : Int)) := by have h := hc0; rw [Addr.add_zero'] at h; exact h
  have hn0 : ((((b :: t).length : Nat) : Int) == 0) = false := by simp; omega
  have hn1 : (0 : Int) < (((b :: t).length : Nat) : Int) := by simp
  have hw : IntKind.u32.wrap (b : Int) = (b : Int) := by rw [IntKind.wrap_u32]; omega
  have f0 : ((b : Int) ≤ 127) = False := eq_false (by omega)
  have f1 : (194 ≤ (b : Int)) = True := eq_true (by omega)
  have f2 : ((b : Int) ≤ 223) = False := eq_false (by omega)
  have f3 : (224 ≤ (b : Int)) = True := eq_true (by omega)
  have f4 : ((b : Int) ≤ 239) = True := eq_true (by omega)
  have f5 : (240 ≤ (b : Int)) = False := eq_false (by omega)
  have f6 : ((b : Int) ≤ 244) = True := eq_true (by omega)
  have f7 : ((b : Int) = 224) = False := eq_false (by omega)
  have f8 : ((b : Int) = 237) = False := eq_false (by omega)
  have f9 : ((b : Int) = 240) = False := eq_false (by omega)
  have f10 : ((b : Int) = 244) = False := eq_false (by omega)
  have q7 : (((b : Nat) : Int) == 224) = false := by simp; omega
  have q8 : (((b : Nat) : Int) == 237) = false := by simp; omega
  have q9 : (((b : Nat) : Int) == 240) = false := by simp; omega
  have q10 : (((b : Nat) : Int) == 244) = false := by simp; omega
  have hmr : mrB b = 2 := by unfold mrB; rw [if_neg (by omega), if_pos (by omega)]
  have hlw : lwB b = 128 := by unfold lwB; rw [if_neg (by omega), if_neg (by omega)]
  have hhg : hgB b = 191 := by unfold hgB; rw [if_neg (by omega), if_neg (by omega)]
  have hvr : vrB b = b - 224 := by unfold vrB; rw [if_neg (by omega), if_pos (by omega)]
  have HL := hid (fun k => getD_lt256 (fun x hx => hl x (List.mem_cons_of_mem _ hx)) k : ∀ k, t.getD k 0 < 256)
  have H1 := hid h1
  have h7 : ¬ b ≤ 127 := by omega
  have hlen : (b :: t).length = t.length + 1 := rfl
  by_cases hsh : t.length < 2
  · rw [dp_short h7 (Or.inr (by rw [hmr]; exact hsh))]
    have hle : ((((b :: t).length : Nat) : Int) ≤ 2) = True := eq_true (by omega)
    clear hl h1 hcl hmr hlw hhg hvr
    generalize (b :: t).length = n at *
    go_enter Tryd.func41, Tryd.ntmps41
    go_wp2
    exact bodyPost_ret (v := .tuple #[.int .u32 0, .int .i64 0]) (by simp [results, Tryd.results41, go_sem]) rfl ⟨rfl, rfl⟩
  · have hle : ((((b :: t).length : Nat) : Int) ≤ 2) = False := eq_false (by omega)
    have HN := hid (dp_none (b := b) (t := t) h7)
    have HS := hid (fun v => dp_some (b := b) (t := t) (v := v) h7 (by rw [hmr]; decide) (by rw [hmr]; omega))
    rw [hmr, hlw, hhg, hvr] at HN
    rw [hmr, hlw, hhg, hvr] at HS
    have HTL := hid (show 2 ≤ t.length by omega)
    obtain ⟨r, hr⟩ : ∃ r, dpB (b :: t) = r := ⟨_, rfl⟩
    rw [hr] at HN HS ⊢
    have HPW := hid (show (b - 224 + 1) * 64 ^ 2 ≤ 67108864 by omega)
    have hbn : ((b - 224 : Nat) : Int) = (b : Int) - 224 := by omega
    have HBN := hid hbn
    clear hl h1 hmr hlw hhg hvr hr hlen hsh hbn
    obtain ⟨n, hne⟩ : ∃ n, (b :: t).length = n := ⟨_, rfl⟩
    have HNE := hid hne
    rw [hne] at hn hn0 hn1 hle ⊢
    clear hne
    go_enter Tryd.func41, Tryd.ntmps41
    go_wp2_with fail
    clear f0 f1 f2 f3 f4 f5 f6 f7 f8 f9 f10 q7 q8 q9 q10 hn0 hc0 hw hle hcl
    go_loopw [6, 7, 8, 9] (fun c6 c7 c8 c9 wr => ∃ i lo hi v : Nat, 1 ≤ i ∧ i ≤ 3 ∧ c6 = .int .u8 (lo : Int) ∧ c7 = .int .u8 (hi : Int) ∧ c8 = .int .u32 (v : Int) ∧ c9 = .int .i64 (i : Int) ∧ wr = w ∧ 128 ≤ lo ∧ hi ≤ 191 ∧ (v + 1) * 64 ^ (3 - i) ≤ 67108864 ∧ ctB (3 - i) (t.drop (i - 1)) lo hi v = ctB 2 t 128 191 (b - 224)) (fun _ _ _ c9 _ => 3 - (intOf c9).toNat)
    case atStart => exact ⟨1, 128, 191, b - 224, by decide, by decide, rfl, rfl, by first | (rw [HBN.out]; done) | (rw [HBN.out]; first | rfl | (congr 1; first | omega | (rw [IntKind.wrap_u32]; omega))), rfl, rfl, by decide, by decide, HPW.out, rfl⟩
    case round =>
      obtain ⟨i, lo, hi, v, hi1, hi2, rfl, rfl, rfl, rfl, rfl, hlo, hhi, hpw, hct⟩ := hrel
      by_cases hlt : i ≤ 2
      · obtain ⟨x', ex, hcell⟩ := u8_at H1.out i (by have := HTL.out; show i < t.length + 1; omega)
        cases ex
        have hgi : (b :: t).getD i 0 = t.getD (i - 1) 0 := by obtain ⟨k, rfl⟩ : ∃ k, i = k + 1 := ⟨i - 1, by omega⟩; rfl
        rw [hgi] at hcell
        have hyb := HL.out (i - 1)
        have hdr := drop_getD (t := t) (k := i - 1) (by have := HTL.out; omega)
        obtain ⟨y, hy⟩ : ∃ y, t.getD (i - 1) 0 = y := ⟨_, rfl⟩
        rw [hy] at hcell hyb hdr
        clear hy hgi
        have hk1 : 3 - i = (2 - i) + 1 := by omega
        have hk2 : 3 - (i + 1) = 2 - i := by omega
        have hk3 : i + 1 - 1 = i - 1 + 1 := by omega
        rw [hdr, hk1] at hct
        rw [hk1] at hpw
        have hv : v ≤ 1048575 := by
          have h1 : (v + 1) * 64 ≤ (v + 1) * 64 ^ ((2 - i) + 1) := by
            rw [Nat.pow_succ, ← Nat.mul_assoc, Nat.mul_right_comm]
            exact Nat.le_mul_of_pos_right _ (Nat.pos_of_ne_zero (by simp))
          omega
        have hin : (i : Int) < (n : Int) := by have h := HNE.out; rw [List.length_cons] at h; have := HTL.out; omega
        have hi0 : (i : Int) ≤ 2 := by omega
        by_cases hbad : y < lo ∨ hi < y
        · rw [ct_bad hbad] at hct
          have HR := hid (HN.out hct.symm)
          clear hct hpw hdr hk1 hk2 hk3
          by_cases hbl : y < lo
          · have hB1 : ((y : Int) < (lo : Int)) = True := eq_true (by omega)
            go_wp2
            exact bodyPost_ret (v := .tuple #[.int .u32 0, .int .i64 0]) (by simp [results, Tryd.results41, go_sem]) rfl ⟨by first | (rw [HR.out]; done) | (rw [HR.out]; rfl), rfl⟩
          · have hB1 : ((y : Int) < (lo : Int)) = False := eq_false (by omega)
            have hB2 : ((hi : Int) < (y : Int)) = True := eq_true (by omega)
            go_wp2
            exact bodyPost_ret (v := .tuple #[.int .u32 0, .int .i64 0]) (by simp [results, Tryd.results41, go_sem]) rfl ⟨by first | (rw [HR.out]; done) | (rw [HR.out]; rfl), rfl⟩
        · rw [ct_ok (by omega) (by omega)] at hct
          have hB1 : ((y : Int) < (lo : Int)) = False := eq_false (by omega)
          have hB2 : ((hi : Int) < (y : Int)) = False := eq_false (by omega)
          have hyw : IntKind.u32.wrap (y : Int) = (y : Int) := by rw [IntKind.wrap_u32]; omega
          have hyy : 128 ≤ y ∧ y ≤ 191 := by omega
          have HCT := hid (show ctB (3 - (i + 1)) (t.drop (i + 1 - 1)) 128 191 (v * 64 + y - 128) = ctB 2 t 128 191 (b - 224) by rw [hk2, hk3]; exact hct)
          have HPV := hid (show (v * 64 + y - 128 + 1) * 64 ^ (3 - (i + 1)) ≤ 67108864 by
            rw [hk2]
            refine Nat.le_trans ?_ hpw
            rw [Nat.pow_succ, ← Nat.mul_assoc, Nat.mul_right_comm]
            exact Nat.mul_le_mul_right _ (by omega))
          clear hct hpw hdr hk1 hk2 hk3 hbad
          go_wp2
          go_roundw
          case rel => exact ⟨i + 1, 128, 191, v * 64 + y - 128, by omega, by omega, rfl, rfl, by go_num, by go_num, by first | rfl | trivial, by decide, by decide, HPV.out, HCT.out⟩
          case measure => simp [intOf]; omega
      · have him : i = 3 := by omega
        subst him
        have hi0 : ¬ ((3 : Nat) : Int) ≤ 2 := by decide
        rw [show 3 - 3 = 0 from rfl] at hct
        have HR := hid (HS.out v hct.symm)
        clear hct hpw
        go_wp2
        exact bodyPost_ret (v := .tuple #[.int .u32 (v : Int), .int .i64 3]) (by simp [results, Tryd.results41, go_sem]) rfl ⟨by first | (rw [HR.out]; done) | (rw [HR.out]; rfl), rfl⟩
set_option maxHeartbeats 3200000 in
set_option maxRecDepth 20000 in
theorem rpoint_c1 (x : Addr) (c b : Nat) (t : List Nat) (w : World) (h1 : U8s w (some x) (b :: t)) (hl : ∀ x ∈ b :: t, x < 256) (hn : (b :: t).length ≤ 1000000) (hcl : 240 ≤ b ∧ b ≤ 240) :
    Calls Tryd.prog 41 #[.slice (some x) (b :: t).length c] w fun e w' => e = .returned (.tuple #[.int .u32 ((dpB (b :: t)).1 : Nat), .int .i64 ((dpB (b :: t)).2 : Nat)]) ∧ w' = w := by
  have hb := hl b (List.mem_cons_self ..)
  obtain ⟨y, e, hc0⟩ := h1 0 (by simp)
  cases e
  have hc0 : w.cell? x = some (.int .u8 (b : Int)) := by have h := hc0; rw [Addr.add_zero'] at h; exact h
  have hn0 : ((((b :: t).length : Nat) : Int) == 0) = false := by simp; omega
  have hn1 : (0 : Int) < (((b :: t).length : Nat) : Int) := by simp
  have hw : IntKind.u32.wrap (b : Int) = (b : Int) := by rw [IntKind.wrap_u32]; omega
  have f0 : ((b : Int) ≤ 127) = False := eq_false (by omega)
  have f1 : (194 ≤ (b : Int)) = True := eq_true (by omega)
  have f2 : ((b : Int) ≤ 223) = False := eq_false (by omega)
  have f3 : (224 ≤ (b : Int)) = True := eq_true (by omega)
  have f4 : ((b : Int) ≤ 239) = False := eq_false (by omega)
  have f5 : (240 ≤ (b : Int)) = True := eq_true (by omega)
  have f6 : ((b : Int) ≤ 244) = True := eq_true (by omega)
  have f7 : ((b : Int) = 224) = False := eq_false (by omega)
  have f8 : ((b : Int) = 237) = False := eq_false (by omega)
  have f9 : ((b : Int) = 240) = True := eq_true (by omega)
  have f10 : ((b : Int) = 244) = False := eq_false (by omega)
  have q7 : (((b : Nat) : Int) == 224) = false := by simp; omega
  have q8 : (((b : Nat) : Int) == 237) = false := by simp; omega
  have q9 : (((b : Nat) : Int) == 240) = true := by simp; omega
  have q10 : (((b : Nat) : Int) == 244) = false := by simp; omega
  have hmr : mrB b = 3 := by unfold mrB; rw [if_neg (by omega), if_neg (by omega), if_pos (by omega)]
  have hlw : lwB b = 144 := by unfold lwB; rw [if_neg (by omega), if_pos (by omega)]
  have hhg : hgB b = 191 := by unfold hgB; rw [if_neg (by omega), if_neg (by omega)]
  have hvr : vrB b = b - 240 := by unfold vrB; rw [if_neg (by omega), if_neg (by omega), if_pos (by omega)]
  have HL := hid (fun k => getD_lt256 (fun x hx => hl x (List.mem_cons_of_mem _ hx)) k : ∀ k, t.getD k 0 < 256)
  have H1 := hid h1
  have h7 : ¬ b ≤ 127 := by omega
  have hlen : (b :: t).length = t.length + 1 := rfl
  by_cases hsh : t.length < 3
  · rw [dp_short h7 (Or.inr (by rw [hmr]; exact hsh))]
    have hle : ((((b :: t).length : Nat) : Int) ≤ 3) = True := eq_true (by omega)
    clear hl h1 hcl hmr hlw hhg hvr
    generalize (b :: t).length = n at *
    go_enter Tryd.func41, Tryd.ntmps41
    go_wp2
    exact bodyPost_ret (v := .tuple #[.int .u32 0, .int .i64 0]) (by simp [results, Tryd.results41, go_sem]) rfl ⟨rfl, rfl⟩
  · have hle : ((((b :: t).length : Nat) : Int) ≤ 3) = False := eq_false (by omega)
    have HN := hid (dp_none (b := b) (t := t) h7)
    have HS := hid (fun v => dp_some (b := b) (t := t) (v := v) h7 (by rw [hmr]; decide) (by rw [hmr]; omega))
    rw [hmr, hlw, hhg, hvr] at HN
    rw [hmr, hlw, hhg, hvr] at HS
    have HTL := hid (show 3 ≤ t.length by omega)
    obtain ⟨r, hr⟩ : ∃ r, dpB (b :: t) = r := ⟨_, rfl⟩
    rw [hr] at HN HS ⊢
    have HPW := hid (show (b - 240 + 1) * 64 ^ 3 ≤ 67108864 by omega)
    have hbn : ((b - 240 : Nat) : Int) = (b : Int) - 240 := by omega
    have HBN := hid hbn
    clear hl h1 hmr hlw hhg hvr hr hlen hsh hbn
    obtain ⟨n, hne⟩ : ∃ n, (b :: t).length = n := ⟨_, rfl⟩
    have HNE := hid hne
    rw [hne] at hn hn0 hn1 hle ⊢
    clear hne
    go_enter Tryd.func41, Tryd.ntmps41
    go_wp2_with fail
    clear f0 f1 f2 f3 f4 f5 f6 f7 f8 f9 f10 q7 q8 q9 q10 hn0 hc0 hw hle hcl
    go_loopw [6, 7, 8, 9] (fun c6 c7 c8 c9 wr => ∃ i lo hi v : Nat, 1 ≤ i ∧ i ≤ 4 ∧ c6 = .int .u8 (lo : Int) ∧ c7 = .int .u8 (hi : Int) ∧ c8 = .int .u32 (v : Int) ∧ c9 = .int .i64 (i : Int) ∧ wr = w ∧ 128 ≤ lo ∧ hi ≤ 191 ∧ (v + 1) * 64 ^ (4 - i) ≤ 67108864 ∧ ctB (4 - i) (t.drop (i - 1)) lo hi v = ctB 3 t 144 191 (b - 240)) (fun _ _ _ c9 _ => 4 - (intOf c9).toNat)
    case atStart => exact ⟨1, 144, 191, b - 240, by decide, by decide, rfl, rfl, by first | (rw [HBN.out]; done) | (rw [HBN.out]; first | rfl | (congr 1; first | omega | (rw [IntKind.wrap_u32]; omega))), rfl, rfl, by decide, by decide, HPW.out, rfl⟩
    case round =>
      obtain ⟨i, lo, hi, v, hi1, hi2, rfl, rfl, rfl, rfl, rfl, hlo, hhi, hpw, hct⟩ := hrel
      by_cases hlt : i ≤ 3
      · obtain ⟨x', ex, hcell⟩ := u8_at H1.out i (by have := HTL.out; show i < t.length + 1; omega)
        cases ex
        have hgi : (b :: t).getD i 0 = t.getD (i - 1) 0 := by obtain ⟨k, rfl⟩ : ∃ k, i = k + 1 := ⟨i - 1, by omega⟩; rfl
        rw [hgi] at hcell
        have hyb := HL.out (i - 1)
        have hdr := drop_getD (t := t) (k := i - 1) (by have := HTL.out; omega)
        obtain ⟨y, hy⟩ : ∃ y, t.getD (i - 1) 0 = y := ⟨_, rfl⟩
        rw [hy] at hcell hyb hdr
        clear hy hgi
        have hk1 : 4 - i = (3 - i) + 1 := by omega
        have hk2 : 4 - (i + 1) = 3 - i := by omega
        have hk3 : i + 1 - 1 = i - 1 + 1 := by omega
        rw [hdr, hk1] at hct
        rw [hk1] at hpw
        have hv : v ≤ 1048575 := by
          have h1 : (v + 1) * 64 ≤ (v + 1) * 64 ^ ((3 - i) + 1) := by
            rw [Nat.pow_succ, ← Nat.mul_assoc, Nat.mul_right_comm]
            exact Nat.le_mul_of_pos_right _ (Nat.pos_of_ne_zero (by simp))
          omega
        have hin : (i : Int) < (n : Int) := by have h := HNE.out; rw [List.length_cons] at h; have := HTL.out; omega
        have hi0 : (i : Int) ≤ 3 := by omega
        by_cases hbad : y < lo ∨ hi < y
        · rw [ct_bad hbad] at hct
          have HR := hid (HN.out hct.symm)
          clear hct hpw hdr hk1 hk2 hk3
          by_cases hbl : y < lo
          · have hB1 : ((y : Int) < (lo : Int)) = True := eq_true (by omega)
            go_wp2
            exact bodyPost_ret (v := .tuple #[.int .u32 0, .int .i64 0]) (by simp [results, Tryd.results41, go_sem]) rfl ⟨by first | (rw [HR.out]; done) | (rw [HR.out]; rfl), rfl⟩
          · have hB1 : ((y : Int) < (lo : Int)) = False := eq_false (by omega)
            have hB2 : ((hi : Int) < (y : Int)) = True := eq_true (by omega)
            go_wp2
            exact bodyPost_ret (v := .tuple #[.int .u32 0, .int .i64 0]) (by simp [results, Tryd.results41, go_sem]) rfl ⟨by first | (rw [HR.out]; done) | (rw [HR.out]; rfl), rfl⟩
        · rw [ct_ok (by omega) (by omega)] at hct
          have hB1 : ((y : Int) < (lo : Int)) = False := eq_false (by omega)
          have hB2 : ((hi : Int) < (y : Int)) = False := eq_false (by omega)
          have hyw : IntKind.u32.wrap (y : Int) = (y : Int) := by rw [IntKind.wrap_u32]; omega
          have hyy : 128 ≤ y ∧ y ≤ 191 := by omega
          have HCT := hid (show ctB (4 - (i + 1)) (t.drop (i + 1 - 1)) 128 191 (v * 64 + y - 128) = ctB 3 t 144 191 (b - 240) by rw [hk2, hk3]; exact hct)
          have HPV := hid (show (v * 64 + y - 128 + 1) * 64 ^ (4 - (i + 1)) ≤ 67108864 by
            rw [hk2]
            refine Nat.le_trans ?_ hpw
            rw [Nat.pow_succ, ← Nat.mul_assoc, Nat.mul_right_comm]
            exact Nat.mul_le_mul_right _ (by omega))
          clear hct hpw hdr hk1 hk2 hk3 hbad
          go_wp2
          go_roundw
          case rel => exact ⟨i + 1, 128, 191, v * 64 + y - 128, by omega, by omega, rfl, rfl, by go_num, by go_num, by first | rfl | trivial, by decide, by decide, HPV.out, HCT.out⟩
          case measure => simp [intOf]; omega
      · have him : i = 4 := by omega
        subst him
        have hi0 : ¬ ((4 : Nat) : Int) ≤ 3 := by decide
        rw [show 4 - 4 = 0 from rfl] at hct
        have HR := hid (HS.out v hct.symm)
        clear hct hpw
        go_wp2
        exact bodyPost_ret (v := .tuple #[.int .u32 (v : Int), .int .i64 4]) (by simp [results, Tryd.results41, go_sem]) rfl ⟨by first | (rw [HR.out]; done) | (rw [HR.out]; rfl), rfl⟩
set_option maxHeartbeats 3200000 in
set_option maxRecDepth 20000 in
theorem rpoint_c2 (x : Addr) (c b : Nat) (t : List Nat) (w : World) (h1 : U8s w (some x) (b :: t)) (hl : ∀ x ∈ b :: t, x < 256) (hn : (b :: t).length ≤ 1000000) (hcl : 241 ≤ b ∧ b ≤ 243) :
    Calls Tryd.prog 41 #[.slice (some x) (b :: t).length c] w fun e w' => e = .returned (.tuple #[.int .u32 ((dpB (b :: t)).1 : Nat), .int .i64 ((dpB (b :: t)).2 : Nat)]) ∧ w' = w := by
  have hb := hl b (List.mem_cons_self ..)
  obtain ⟨y, e, hc0⟩ := h1 0 (by simp)
  cases e
  have hc0 : w.cell? x = some (.int .u8 (b : Int)) := by have h := hc0; rw [Addr.add_zero'] at h; exact h
  have hn0 : ((((b :: t).length : Nat) : Int) == 0) = false := by simp; omega
  have hn1 : (0 : Int) < (((b :: t).length : Nat) : Int) := by simp
  have hw : IntKind.u32.wrap (b : Int) = (b : Int) := by rw [IntKind.wrap_u32]; omega
  have f0 : ((b : Int) ≤ 127) = False := eq_false (by omega)
  have f1 : (194 ≤ (b : Int)) = True := eq_true (by omega)
  have f2 : ((b : Int) ≤ 223) = False := eq_false (by omega)
  have f3 : (224 ≤ (b : Int)) = True := eq_true (by omega)
  have f4 : ((b : Int) ≤ 239) = False := eq_false (by omega)
  have f5 : (240 ≤ (b : Int)) = True := eq_true (by omega)
  have f6 : ((b : Int) ≤ 244) = True := eq_true (by omega)
  have f7 : ((b : Int) = 224) = False := eq_false (by omega)
  have f8 : ((b : Int) = 237) = False := eq_false (by omega)
  have f9 : ((b : Int) = 240) = False := eq_false (by omega)
  have f10 : ((b : Int) = 244) = False := eq_false (by omega)
  have q7 : (((b : Nat) : Int) == 224) = false := by simp; omega
  have q8 : (((b : Nat) : Int) == 237) = false := by simp; omega
  have q9 : (((b : Nat) : Int) == 240) = false := by simp; omega
  have q10 : (((b : Nat) : Int) == 244) = false := by simp; omega
  have hmr : mrB b = 3 := by unfold mrB; rw [if_neg (by omega), if_neg (by omega), if_pos (by omega)]
  have hlw : lwB b = 128 := by unfold lwB; rw [if_neg (by omega), if_neg (by omega)]
  have hhg : hgB b = 191 := by unfold hgB; rw [if_neg (by omega), if_neg (by omega)]
  have hvr : vrB b = b - 240 := by unfold vrB; rw [if_neg (by omega), if_neg (by omega), if_pos (by omega)]
  have HL := hid (fun k => getD_lt256 (fun x hx => hl x (List.mem_cons_of_mem _ hx)) k : ∀ k, t.getD k 0 < 256)
  have H1 := hid h1
  have h7 : ¬ b ≤ 127 := by omega
  have hlen : (b :: t).length = t.length + 1 := rfl
  by_cases hsh : t.length < 3
  · rw [dp_short h7 (Or.inr (by rw [hmr]; exact hsh))]
    have hle : ((((b :: t).length : Nat) : Int) ≤ 3) = True := eq_true (by omega)
    clear hl h1 hcl hmr hlw hhg hvr
    generalize (b :: t).length = n at *
    go_enter Tryd.func41, Tryd.ntmps41
    go_wp2
    exact bodyPost_ret (v := .tuple #[.int .u32 0, .int .i64 0]) (by simp [results, Tryd.results41, go_sem]) rfl ⟨rfl, rfl⟩
  · have hle : ((((b :: t).length : Nat) : Int) ≤ 3) = False := eq_false (by omega)
    have HN := hid (dp_none (b := b) (t := t) h7)
    have HS := hid (fun v => dp_some (b := b) (t := t) (v := v) h7 (by rw [hmr]; decide) (by rw [hmr]; omega))
    rw [hmr, hlw, hhg, hvr] at HN
    rw [hmr, hlw, hhg, hvr] at HS
    have HTL := hid (show 3 ≤ t.length by omega)
    obtain ⟨r, hr⟩ : ∃ r, dpB (b :: t) = r := ⟨_, rfl⟩
    rw [hr] at HN HS ⊢
    have HPW := hid (show (b - 240 + 1) * 64 ^ 3 ≤ 67108864 by omega)
    have hbn : ((b - 240 : Nat) : Int) = (b : Int) - 240 := by omega
    have HBN := hid hbn
    clear hl h1 hmr hlw hhg hvr hr hlen hsh hbn
    obtain ⟨n, hne⟩ : ∃ n, (b :: t).length = n := ⟨_, rfl⟩
    have HNE := hid hne
    rw [hne] at hn hn0 hn1 hle ⊢
    clear hne
    go_enter Tryd.func41, Tryd.ntmps41
    go_wp2_with fail
    clear f0 f1 f2 f3 f4 f5 f6 f7 f8 f9 f10 q7 q8 q9 q10 hn0 hc0 hw hle hcl
    go_loopw [6, 7, 8, 9] (fun c6 c7 c8 c9 wr => ∃ i lo hi v : Nat, 1 ≤ i ∧ i ≤ 4 ∧ c6 = .int .u8 (lo : Int) ∧ c7 = .int .u8 (hi : Int) ∧ c8 = .int .u32 (v : Int) ∧ c9 = .int .i64 (i : Int) ∧ wr = w ∧ 128 ≤ lo ∧ hi ≤ 191 ∧ (v + 1) * 64 ^ (4 - i) ≤ 67108864 ∧ ctB (4 - i) (t.drop (i - 1)) lo hi v = ctB 3 t 128 191 (b - 240)) (fun _ _ _ c9 _ => 4 - (intOf c9).toNat)
    case atStart => exact ⟨1, 128, 191, b - 240, by decide, by decide, rfl, rfl, by first | (rw [HBN.out]; done) | (rw [HBN.out]; first | rfl | (congr 1; first | omega | (rw [IntKind.wrap_u32]; omega))), rfl, rfl, by decide, by decide, HPW.out, rfl⟩
    case round =>
      obtain ⟨i, lo, hi, v, hi1, hi2, rfl, rfl, rfl, rfl, rfl, hlo, hhi, hpw, hct⟩ := hrel
      by_cases hlt : i ≤ 3
      · obtain ⟨x', ex, hcell⟩ := u8_at H1.out i (by have := HTL.out; show i < t.length + 1; omega)
        cases ex
        have hgi : (b :: t).getD i 0 = t.getD (i - 1) 0 := by obtain ⟨k, rfl⟩ : ∃ k, i = k + 1 := ⟨i - 1, by omega⟩; rfl
        rw [hgi] at hcell
        have hyb := HL.out (i - 1)
        have hdr := drop_getD (t := t) (k := i - 1) (by have := HTL.out; omega)
        obtain ⟨y, hy⟩ : ∃ y, t.getD (i - 1) 0 = y := ⟨_, rfl⟩
        rw [hy] at hcell hyb hdr
        clear hy hgi
        have hk1 : 4 - i = (3 - i) + 1 := by omega
        have hk2 : 4 - (i + 1) = 3 - i := by omega
        have hk3 : i + 1 - 1 = i - 1 + 1 := by omega
        rw [hdr, hk1] at hct
        rw [hk1] at hpw
        have hv : v ≤ 1048575 := by
          have h1 : (v + 1) * 64 ≤ (v + 1) * 64 ^ ((3 - i) + 1) := by
            rw [Nat.pow_succ, ← Nat.mul_assoc, Nat.mul_right_comm]
            exact Nat.le_mul_of_pos_right _ (Nat.pos_of_ne_zero (by simp))
          omega
        have hin : (i : Int) < (n : Int) := by have h := HNE.out; rw [List.length_cons] at h; have := HTL.out; omega
        have hi0 : (i : Int) ≤ 3 := by omega
        by_cases hbad : y < lo ∨ hi < y
        · rw [ct_bad hbad] at hct
          have HR := hid (HN.out hct.symm)
          clear hct hpw hdr hk1 hk2 hk3
          by_cases hbl : y < lo
          · have hB1 : ((y : Int) < (lo : Int)) = True := eq_true (by omega)
            go_wp2
            exact bodyPost_ret (v := .tuple #[.int .u32 0, .int .i64 0]) (by simp [results, Tryd.results41, go_sem]) rfl ⟨by first | (rw [HR.out]; done) | (rw [HR.out]; rfl), rfl⟩
          · have hB1 : ((y : Int) < (lo : Int)) = False := eq_false (by omega)
            have hB2 : ((hi : Int) < (y : Int)) = True := eq_true (by omega)
            go_wp2
            exact bodyPost_ret (v := .tuple #[.int .u32 0, .int .i64 0]) (by simp [results, Tryd.results41, go_sem]) rfl ⟨by first | (rw [HR.out]; done) | (rw [HR.out]; rfl), rfl⟩
        · rw [ct_ok (by omega) (by omega)] at hct
          have hB1 : ((y : Int) < (lo : Int)) = False := eq_false (by omega)
          have hB2 : ((hi : Int) < (y : Int)) = False := eq_false (by omega)
          have hyw : IntKind.u32.wrap (y : Int) = (y : Int) := by rw [IntKind.wrap_u32]; omega
          have hyy : 128 ≤ y ∧ y ≤ 191 := by omega
          have HCT := hid (show ctB (4 - (i + 1)) (t.drop (i + 1 - 1)) 128 191 (v * 64 + y - 128) = ctB 3 t 128 191 (b - 240) by rw [hk2, hk3]; exact hct)
          have HPV := hid (show (v * 64 + y - 128 + 1) * 64 ^ (4 - (i + 1)) ≤ 67108864 by
            rw [hk2]
            refine Nat.le_trans ?_ hpw
            rw [Nat.pow_succ, ← Nat.mul_assoc, Nat.mul_right_comm]
            exact Nat.mul_le_mul_right _ (by omega))
          clear hct hpw hdr hk1 hk2 hk3 hbad
          go_wp2
          go_roundw
          case rel => exact ⟨i + 1, 128, 191, v * 64 + y - 128, by omega, by omega, rfl, rfl, by go_num, by go_num, by first | rfl | trivial, by decide, by decide, HPV.out, HCT.out⟩
          case measure => simp [intOf]; omega
      · have him : i = 4 := by omega
        subst him
        have hi0 : ¬ ((4 : Nat) : Int) ≤ 3 := by decide
        rw [show 4 - 4 = 0 from rfl] at hct
        have HR := hid (HS.out v hct.symm)
        clear hct hpw
        go_wp2
        exact bodyPost_ret (v := .tuple #[.int .u32 (v : Int), .int .i64 4]) (by simp [results, Tryd.results41, go_sem]) rfl ⟨by first | (rw [HR.out]; done) | (rw [HR.out]; rfl), rfl⟩
set_option maxHeartbeats 3200000 in
set_option maxRecDepth 20000 in
theorem rpoint_c3 (x : Addr) (c b : Nat) (t : List Nat) (w : World) (h1 : U8s w (some x) (b :: t)) (hl : ∀ x ∈ b :: t, x < 256) (hn : (b :: t).length ≤ 1000000) (hcl : 244 ≤ b ∧ b ≤ 244) :
    Calls Tryd.prog 41 #[.slice (some x) (b :: t).length c] w fun e w' => e = .returned (.tuple #[.int .u32 ((dpB (b :: t)).1 : Nat), .int .i64 ((dpB (b :: t)).2 : Nat)]) ∧ w' = w := by
  have hb := hl b (List.mem_cons_self ..)
  obtain ⟨y, e, hc0⟩ := h1 0 (by simp)
  cases e
  have hc0 : w.cell? x = some (.int .u8 (b : Int)) := by have h := hc0; rw [Addr.add_zero'] at h; exact h
  have hn0 : ((((b :: t).length : Nat) : Int) == 0) = false := by simp; omega
  have hn1 : (0 : Int) < (((b :: t).length : Nat) : Int) := by simp
  have hw : IntKind.u32.wrap (b : Int) = (b : Int) := by rw [IntKind.wrap_u32]; omega
  have f0 : ((b : Int) ≤ 127) = False := eq_false (by omega)
  have f1 : (194 ≤ (b : Int)) = True := eq_true (by omega)
  have f2 : ((b : Int) ≤ 223) = False := eq_false (by omega)
  have f3 : (224 ≤ (b : Int)) = True := eq_true (by omega)
  have f4 : ((b : Int) ≤ 239) = False := eq_false (by omega)
  have f5 : (240 ≤ (b : Int)) = True := eq_true (by omega)
  have f6 : ((b : Int) ≤ 244) = True := eq_true (by omega)
  have f7 : ((b : Int) = 224) = False := eq_false (by omega)
  have f8 : ((b : Int) = 237) = False := eq_false (by omega)
  have f9 : ((b : Int) = 240) = False := eq_false (by omega)
  have f10 : ((b : Int) = 244) = True := eq_true (by omega)
  have q7 : (((b : Nat) : Int) == 224) = false := by simp; omega
  have q8 : (((b : Nat) : Int) == 237) = false := by simp; omega
  have q9 : (((b : Nat) : Int) == 240) = false := by simp; omega
  have q10 : (((b : Nat) : Int) == 244) = true := by simp; omega
  have hmr : mrB b = 3 := by unfold mrB; rw [if_neg (by omega), if_neg (by omega), if_pos (by omega)]
  have hlw : lwB b = 128 := by unfold lwB; rw [if_neg (by omega), if_neg (by omega)]
  have hhg : hgB b = 143 := by unfold hgB; rw [if_neg (by omega), if_pos (by omega)]
  have hvr : vrB b = b - 240 := by unfold vrB; rw [if_neg (by omega), if_neg (by omega), if_pos (by omega)]
  have HL := hid (fun k => getD_lt256 (fun x hx => hl x (List.mem_cons_of_mem _ hx)) k : ∀ k, t.getD k 0 < 256)
  have H1 := hid h1
  have h7 : ¬ b ≤ 127 := by omega
  have hlen : (b :: t).length = t.length + 1 := rfl
  by_cases hsh : t.length < 3
  · rw [dp_short h7 (Or.inr (by rw [hmr]; exact hsh))]
    have hle : ((((b :: t).length : Nat) : Int) ≤ 3) = True := eq_true (by omega)
    clear hl h1 hcl hmr hlw hhg hvr
    generalize (b :: t).length = n at *
    go_enter Tryd.func41, Tryd.ntmps41
    go_wp2
    exact bodyPost_ret (v := .tuple #[.int .u32 0, .int .i64 0]) (by simp [results, Tryd.results41, go_sem]) rfl ⟨rfl, rfl⟩
  · have hle : ((((b :: t).length : Nat) : Int) ≤ 3) = False := eq_false (by omega)
    have HN := hid (dp_none (b := b) (t := t) h7)
    have HS := hid (fun v => dp_some (b := b) (t := t) (v := v) h7 (by rw [hmr]; decide) (by rw [hmr]; omega))
    rw [hmr, hlw, hhg, hvr] at HN
    rw [hmr, hlw, hhg, hvr] at HS
    have HTL := hid (show 3 ≤ t.length by omega)
    obtain ⟨r, hr⟩ : ∃ r, dpB (b :: t) = r := ⟨_, rfl⟩
    rw [hr] at HN HS ⊢
    have HPW := hid (show (b - 240 + 1) * 64 ^ 3 ≤ 67108864 by omega)
    have hbn : ((b - 240 : Nat) : Int) = (b : Int) - 240 := by omega
    have HBN := hid hbn
    clear hl h1 hmr hlw hhg hvr hr hlen hsh hbn
    obtain ⟨n, hne⟩ : ∃ n, (b :: t).length = n := ⟨_, rfl⟩
    have HNE := hid hne
    rw [hne] at hn hn0 hn1 hle ⊢
    clear hne
    go_enter Tryd.func41, Tryd.ntmps41
    go_wp2_with fail
    clear f0 f1 f2 f3 f4 f5 f6 f7 f8 f9 f10 q7 q8 q9 q10 hn0 hc0 hw hle hcl
    go_loopw [6, 7, 8, 9] (fun c6 c7 c8 c9 wr => ∃ i lo hi v : Nat, 1 ≤ i ∧ i ≤ 4 ∧ c6 = .int .u8 (lo : Int) ∧ c7 = .int .u8 (hi : Int) ∧ c8 = .int .u32 (v : Int) ∧ c9 = .int .i64 (i : Int) ∧ wr = w ∧ 128 ≤ lo ∧ hi ≤ 191 ∧ (v + 1) * 64 ^ (4 - i) ≤ 67108864 ∧ ctB (4 - i) (t.drop (i - 1)) lo hi v = ctB 3 t 128 143 (b - 240)) (fun _ _ _ c9 _ => 4 - (intOf c9).toNat)
    case atStart => exact ⟨1, 128, 143, b - 240, by decide, by decide, rfl, rfl, by first | (rw [HBN.out]; done) | (rw [HBN.out]; first | rfl | (congr 1; first | omega | (rw [IntKind.wrap_u32]; omega))), rfl, rfl, by decide, by decide, HPW.out, rfl⟩
    case round =>
      obtain ⟨i, lo, hi, v, hi1, hi2, rfl, rfl, rfl, rfl, rfl, hlo, hhi, hpw, hct⟩ := hrel
      by_cases hlt : i ≤ 3
      · obtain ⟨x', ex, hcell⟩ := u8_at H1.out i (by have := HTL.out; show i < t.length + 1; omega)
        cases ex
        have hgi : (b :: t).getD i 0 = t.getD (i - 1) 0 := by obtain ⟨k, rfl⟩ : ∃ k, i = k + 1 := ⟨i - 1, by omega⟩; rfl
        rw [hgi] at hcell
        have hyb := HL.out (i - 1)
        have hdr := drop_getD (t := t) (k := i - 1) (by have := HTL.out; omega)
        obtain ⟨y, hy⟩ : ∃ y, t.getD (i - 1) 0 = y := ⟨_, rfl⟩
        rw [hy] at hcell hyb hdr
        clear hy hgi
        have hk1 : 4 - i = (3 - i) + 1 := by omega
        have hk2 : 4 - (i + 1) = 3 - i := by omega
        have hk3 : i + 1 - 1 = i - 1 + 1 := by omega
        rw [hdr, hk1] at hct
        rw [hk1] at hpw
        have hv : v ≤ 1048575 := by
          have h1 : (v + 1) * 64 ≤ (v + 1) * 64 ^ ((3 - i) + 1) := by
            rw [Nat.pow_succ, ← Nat.mul_assoc, Nat.mul_right_comm]
            exact Nat.le_mul_of_pos_right _ (Nat.pos_of_ne_zero (by simp))
          omega
        have hin : (i : Int) < (n : Int) := by have h := HNE.out; rw [List.length_cons] at h; have := HTL.out; omega
        have hi0 : (i : Int) ≤ 3 := by omega
        by_cases hbad : y < lo ∨ hi < y
        · rw [ct_bad hbad] at hct
          have HR := hid (HN.out hct.symm)
          clear hct hpw hdr hk1 hk2 hk3
          by_cases hbl : y < lo
          · have hB1 : ((y : Int) < (lo : Int)) = True := eq_true (by omega)
            go_wp2
            exact bodyPost_ret (v := .tuple #[.int .u32 0, .int .i64 0]) (by simp [results, Tryd.results41, go_sem]) rfl ⟨by first | (rw [HR.out]; done) | (rw [HR.out]; rfl), rfl⟩
          · have hB1 : ((y : Int) < (lo : Int)) = False := eq_false (by omega)
            have hB2 : ((hi : Int) < (y : Int)) = True := eq_true (by omega)
            go_wp2
            exact bodyPost_ret (v := .tuple #[.int .u32 0, .int .i64 0]) (by simp [results, Tryd.results41, go_sem]) rfl ⟨by first | (rw [HR.out]; done) | (rw [HR.out]; rfl), rfl⟩
        · rw [ct_ok (by omega) (by omega)] at hct
          have hB1 : ((y : Int) < (lo : Int)) = False := eq_false (by omega)
          have hB2 : ((hi : Int) < (y : Int)) = False := eq_false (by omega)
          have hyw : IntKind.u32.wrap (y : Int) = (y : Int) := by rw [IntKind.wrap_u32]; omega
          have hyy : 128 ≤ y ∧ y ≤ 191 := by omega
          have HCT := hid (show ctB (4 - (i + 1)) (t.drop (i + 1 - 1)) 128 191 (v * 64 + y - 128) = ctB 3 t 128 143 (b - 240) by rw [hk2, hk3]; exact hct)
          have HPV := hid (show (v * 64 + y - 128 + 1) * 64 ^ (4 - (i + 1)) ≤ 67108864 by
            rw [hk2]
            refine Nat.le_trans ?_ hpw
            rw [Nat.pow_succ, ← Nat.mul_assoc, Nat.mul_right_comm]
            exact Nat.mul_le_mul_right _ (by omega))
          clear hct hpw hdr hk1 hk2 hk3 hbad
          go_wp2
          go_roundw
          case rel => exact ⟨i + 1, 128, 191, v * 64 + y - 128, by omega, by omega, rfl, rfl, by go_num, by go_num, by first | rfl | trivial, by decide, by decide, HPV.out, HCT.out⟩
          case measure => simp [intOf]; omega
      · have him : i = 4 := by omega
        subst him
        have hi0 : ¬ ((4 : Nat) : Int) ≤ 3 := by decide
        rw [show 4 - 4 = 0 from rfl] at hct
        have HR := hid (HS.out v hct.symm)
        clear hct hpw
        go_wp2
        exact bodyPost_ret (v := .tuple #[.int .u32 (v : Int), .int .i64 4]) (by simp [results, Tryd.results41, go_sem]) rfl ⟨by first | (rw [HR.out]; done) | (rw [HR.out]; rfl), rfl⟩
theorem rpoint_any (ad : Option Addr) (c : Nat) (l : List Nat) (w : World) (h1 : U8s w ad l) (hl : ∀ x ∈ l, x < 256) (hn : l.length ≤ 1000000) (h0 : l ≠ []) :
    Calls Tryd.prog 41 #[.slice ad l.length c] w fun e w' => e = .returned (.tuple #[.int .u32 ((dpB l).1 : Nat), .int .i64 ((dpB l).2 : Nat)]) ∧ w' = w := by
  cases l with
  | nil => exact absurd rfl h0
  | cons b t =>
    have hb := hl b (List.mem_cons_self ..)
    obtain ⟨x, rfl, _⟩ := h1 0 (by simp)
    have hc : b ≤ 127 ∨ (128 ≤ b ∧ b ≤ 193) ∨ (245 ≤ b ∧ b ≤ 255) ∨ (194 ≤ b ∧ b ≤ 223) ∨ (224 ≤ b ∧ b ≤ 224) ∨ (225 ≤ b ∧ b ≤ 236) ∨ (237 ≤ b ∧ b ≤ 237) ∨ (238 ≤ b ∧ b ≤ 239) ∨ (240 ≤ b ∧ b ≤ 240) ∨ (241 ≤ b ∧ b ≤ 243) ∨ (244 ≤ b ∧ b ≤ 244) := by omega
    rcases hc with h | h | h | h | h | h | h | h | h | h | h
    · exact rpoint_low x c b t w h1 hl hn h
    · exact rpoint_d1 x c b t w h1 hl hn h
    · exact rpoint_d2 x c b t w h1 hl hn h
    · exact rpoint_a x c b t w h1 hl hn h
    · exact rpoint_b1 x c b t w h1 hl hn h
    · exact rpoint_b2 x c b t w h1 hl hn h
    · exact rpoint_b3 x c b t w h1 hl hn h
    · exact rpoint_b4 x c b t w h1 hl hn h
    · exact rpoint_c1 x c b t w h1 hl hn h
    · exact rpoint_c2 x c b t w h1 hl hn h
    · exact rpoint_c3 x c b t w h1 hl hn h
end Go.Proofs.YtjcnkigadlmpgaaDoor
