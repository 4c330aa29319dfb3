/- The document's Map, over this seat's translation. Conditions: the words' bounds; at most a thousand million runs. -/
import Derived.Test.YtajkjlnhongjfaaSkL
namespace Go.Proofs.Ytajkjlnhongjfaa
open Go.RowKit

theorem map_w (t f x : Nat) (ht : t < 4294967296) (hf : f < 4294967296) : ((t : Int) + (((x : Int) - (f : Int)) % 4294967296)) % 4294967296 = ((addW x (subW t f) : Nat) : Int) := by
  unfold addW subW; omega
set_option maxHeartbeats 1600000 in
theorem rmap_any (x cap : Nat) (ad : Option Addr) (l : List Rn) (w : World) (hl : RnsAt w ad l) (hn : l.length ≤ 1000000000) :
    Calls Try.prog 13 #[.slice ad l.length cap, u32 x] w fun e w' => e = .returned (.tuple #[u32 (mpT l x l.length : Nat), .bool (mpM l x l.length)]) ∧ Below w.heap.size w w' := by
  have HL := hid hl
  clear hl
  obtain ⟨T, hT⟩ : ∃ T, mpT l x l.length = T := ⟨_, rfl⟩
  obtain ⟨M, hM⟩ : ∃ M, mpM l x l.length = M := ⟨_, rfl⟩
  have HTE := hid hT
  have HME := hid hM
  rw [hT, hM]
  clear hT hM
  go_enter Try.func13, Try.ntmps13
  go_wp2_with fail
  go_loopw [6] (fun c wr => ∃ k : Nat, k ≤ l.length ∧ c = .int .i64 ((k : Int) - 1) ∧ mpT l x k = T ∧ mpM l x k = M ∧ Below w.heap.size w wr) (fun c _ => (intOf c + 1).toNat)
  case atStart => exact ⟨l.length, Nat.le_refl _, by go_num, HTE.out, HME.out, Below.refl _ _⟩
  case round =>
    obtain ⟨k, hk, rfl, ht, hm, hB⟩ := hrel
    have HB := hid hB
    rcases Nat.eq_zero_or_pos k with h0 | h0
    · subst h0
      have HT0 := hid (show (x : Nat) = T from ht)
      have HM0 := hid (show false = M from hm)
      clear ht hm hB
      go_wp2
      exact bodyPost_ret (v := .tuple #[.int .u32 (T : Int), .bool M]) (by simp [results, Try.results13, go_sem, ← HT0.out, ← HM0.out]) rfl ⟨rfl, HB.out⟩
    · obtain ⟨j, rfl⟩ : ∃ j, k = j + 1 := ⟨k - 1, by omega⟩
      have hlt : j < l.length := by omega
      obtain ⟨y, rfl, hp⟩ := (HL.out.below hB).2 j hlt
      have HOK := hid (HL.out.1 _ (List.getElem_mem hlt))
      have HMS := hid (mpM_succ l x j hlt)
      have HTS := hid (mpT_succ l x j hlt)
      rw [ht] at HTS
      rw [hm] at HMS
      obtain ⟨r, hre⟩ : ∃ r, l[j] = r := ⟨_, rfl⟩
      rw [hre] at hp HOK HMS HTS
      obtain ⟨c0, c1, c2⟩ := hp
      have HS := hid (fun w => has_any r.s x w)
      obtain ⟨b, hb⟩ : ∃ b, r.s.has x = b := ⟨_, rfl⟩
      rw [hb] at HMS HTS HS
      have HJ := hid (show (((j + 1 : Nat) : Int) - 1) = (j : Int) by omega)
      rw [HJ.out]
      clear hB hre hb ht hm h0
      go_wp2_with fail
      refine (HS.out _).mono ?_
      rintro e w1 ⟨rfl, rfl⟩
      cases b
      · go_wp2
        go_roundw
        case rel => exact ⟨j, by omega, by go_num, HTS.out.symm, by have := HMS.out; simp at this; exact this.symm, blw_alloc HB.out⟩
        case measure => simp [intOf]
      · have hbl := (Below.refl wr.heap.size wr).alloc (Nat.le_refl _) (spO r.s)
        have k0 := blw_cell hbl c0
        have k2 := blw_cell hbl c2
        have KS := hid (show ∀ w' : World, Below (wr.alloc (spO r.s)).heap.size (wr.alloc (spO r.s)) w' → w'.cell? (y.add (j * 3)) = some (.int .u32 (r.s.f : Int)) ∧ w'.cell? ⟨(y.add (j * 3)).block, (y.add (j * 3)).off + 2, none⟩ = some (.int .u32 (r.t : Int)) from fun w' hb => ⟨blw_cell hb k0, blw_cell hb k2⟩)
        have HB2 := hid (blw_alloc (o := spO r.s) HB.out)
        have HV := hid (map_w r.t r.s.f x HOK.out.2 HOK.out.1.1)
        clear c0 c1 c2 hbl
        go_wp2_with fail
        refine wp_region_held_drew (S := (fun w' => w'.cell? (y.add (j * 3)) = some (.int .u32 (r.s.f : Int)) ∧ w'.cell? ⟨(y.add (j * 3)).block, (y.add (j * 3)).off + 2, none⟩ = some (.int .u32 (r.t : Int)))) (by kernel_rfl) (KS.out _ (blw_drew (Below.refl _ _))) (fun hHeld => ?_)
        refine tk_at (i := 0) (d := some 21) (v := ?_) rfl rfl (by kernel_rfl) (by kernel_rfl) (by kernel_rfl) (fun _ _ _ h => h) (Or.inl ⟨by rfl, ?_⟩) (by assumption) ?_
        rotate_left
        · (intro w hSw; (try dsimp only at hSw); go_simp; try (with_reducible rfl))
        simp only [Act.put, List.setIfInBounds_toArray, List.set_cons_zero, List.set_cons_succ]
        refine tk_at (i := 1) (d := some 22) (v := ?_) rfl rfl (by kernel_rfl) (by kernel_rfl) (by kernel_rfl) (fun _ _ _ h => h) (Or.inl ⟨by rfl, ?_⟩) (by assumption) ?_
        rotate_left
        · (intro w hSw; (try dsimp only at hSw); go_simp; try (with_reducible rfl))
        simp only [Act.put, List.setIfInBounds_toArray, List.set_cons_zero, List.set_cons_succ]
        refine tk_at (i := 2) (d := some 23) (v := ?_) rfl rfl (by kernel_rfl) (by kernel_rfl) (by kernel_rfl) (fun _ _ _ h => h) (Or.inl ⟨by rfl, ?_⟩) (by assumption) ?_
        rotate_left
        · (intro w hSw; (try dsimp only at hSw); go_simp; try (with_reducible rfl))
        simp only [Act.put, List.setIfInBounds_toArray, List.set_cons_zero, List.set_cons_succ]
        refine tk_at (i := 3) (d := some 24) (v := ?_) rfl rfl (by kernel_rfl) (by kernel_rfl) (by kernel_rfl) (fun _ _ _ h => h) (Or.inl ⟨by rfl, ?_⟩) (by assumption) ?_
        rotate_left
        · (intro w hSw; (try dsimp only at hSw); go_simp; try (with_reducible rfl))
        simp only [Act.put, List.setIfInBounds_toArray, List.set_cons_zero, List.set_cons_succ]
        refine tk_at (i := 4) (d := some 25) (v := ?_) rfl rfl (by kernel_rfl) (by kernel_rfl) (by kernel_rfl) (fun _ _ _ h => h) (Or.inl ⟨by rfl, ?_⟩) (by assumption) ?_
        rotate_left
        · (intro w hSw; (try dsimp only at hSw); go_simp; try (with_reducible rfl))
        simp only [Act.put, List.setIfInBounds_toArray, List.set_cons_zero, List.set_cons_succ]
        refine tk_at (i := 5) (d := some 26) (v := ?_) rfl rfl (by kernel_rfl) (by kernel_rfl) (by kernel_rfl) (fun _ _ _ h => h) (Or.inl ⟨by rfl, ?_⟩) (by assumption) ?_
        rotate_left
        · (intro w hSw; (try dsimp only at hSw); go_simp; try (with_reducible rfl))
        simp only [Act.put, List.setIfInBounds_toArray, List.set_cons_zero, List.set_cons_succ]
        refine tk_at (i := 6) (d := some 27) (v := ?_) rfl rfl (by kernel_rfl) (by kernel_rfl) (by kernel_rfl) (fun _ _ _ h => h) (Or.inl ⟨by rfl, ?_⟩) (by assumption) ?_
        rotate_left
        · (intro w hSw; (try dsimp only at hSw); go_simp; try (with_reducible rfl))
        simp only [Act.put, List.setIfInBounds_toArray, List.set_cons_zero, List.set_cons_succ]
        refine tk_at (i := 7) (d := some 28) (v := ?_) rfl rfl (by kernel_rfl) (by kernel_rfl) (by kernel_rfl) (fun _ _ _ h => h) (Or.inl ⟨by rfl, ?_⟩) (by assumption) ?_
        rotate_left
        · (intro w hSw; (try dsimp only at hSw); go_simp; try (with_reducible rfl))
        simp only [Act.put, List.setIfInBounds_toArray, List.set_cons_zero, List.set_cons_succ]
        refine tk_at (i := 8) (d := some 29) (v := ?_) rfl rfl (by kernel_rfl) (by kernel_rfl) (by kernel_rfl) (fun _ _ _ h => h) (Or.inl ⟨by rfl, ?_⟩) (by assumption) ?_
        rotate_left
        · (intro w hSw; (try dsimp only at hSw); go_simp; try (with_reducible rfl))
        simp only [Act.put, List.setIfInBounds_toArray, List.set_cons_zero, List.set_cons_succ]
        refine tk_at (i := 9) (d := some 30) (v := ?_) rfl rfl (by kernel_rfl) (by kernel_rfl) (by kernel_rfl) (fun _ _ _ h => h) (Or.inl ⟨by rfl, ?_⟩) (by assumption) ?_
        rotate_left
        · (intro w hSw; (try dsimp only at hSw); go_simp; try (with_reducible rfl))
        simp only [Act.put, List.setIfInBounds_toArray, List.set_cons_zero, List.set_cons_succ]
        refine tk_at (i := 10) (d := some 31) (v := ?_) rfl rfl (by kernel_rfl) (by kernel_rfl) (by kernel_rfl) (fun _ _ _ h => h) (Or.inl ⟨by rfl, ?_⟩) (by assumption) ?_
        rotate_left
        · (intro w hSw; (try dsimp only at hSw); go_simp; try (with_reducible rfl))
        simp only [Act.put, List.setIfInBounds_toArray, List.set_cons_zero, List.set_cons_succ]
        refine tk_at (i := 11) (d := some 32) (v := ?_) rfl rfl (by kernel_rfl) (by kernel_rfl) (by kernel_rfl) (fun _ _ _ h => h) (Or.inl ⟨by rfl, ?_⟩) (by assumption) ?_
        rotate_left
        · (intro w hSw; (try dsimp only at hSw); go_simp; try (with_reducible rfl))
        simp only [Act.put, List.setIfInBounds_toArray, List.set_cons_zero, List.set_cons_succ]
        refine tk_at (i := 12) (d := some 33) (v := ?_) rfl rfl (by kernel_rfl) (by kernel_rfl) (by kernel_rfl) (fun _ _ _ h => h) (Or.inl ⟨by rfl, ?_⟩) (by assumption) ?_
        rotate_left
        · (intro w hSw; (try dsimp only at hSw); go_simp; try (with_reducible rfl))
        simp only [Act.put, List.setIfInBounds_toArray, List.set_cons_zero, List.set_cons_succ]
        refine tk_at (i := 13) (d := some 34) (v := ?_) rfl rfl (by kernel_rfl) (by kernel_rfl) (by kernel_rfl) (fun _ _ _ h => h) (Or.inl ⟨by rfl, ?_⟩) (by assumption) ?_
        rotate_left
        · (intro w hSw; (try dsimp only at hSw); go_simp; try (with_reducible rfl))
        simp only [Act.put, List.setIfInBounds_toArray, List.set_cons_zero, List.set_cons_succ]
        refine tk_at (i := 14) (d := some 4) (v := ?_) rfl rfl (by kernel_rfl) (by kernel_rfl) (by kernel_rfl) (fun _ _ _ h => h) (Or.inl ⟨by rfl, ?_⟩) (by assumption) ?_
        rotate_left
        · (intro w hSw; (try dsimp only at hSw); go_simp; try (with_reducible rfl))
        simp only [Act.put, List.setIfInBounds_toArray, List.set_cons_zero, List.set_cons_succ]
        refine tk_at (i := 15) (d := some 5) (v := ?_) rfl rfl (by kernel_rfl) (by kernel_rfl) (by kernel_rfl) (fun _ _ _ h => h) (Or.inl ⟨by rfl, ?_⟩) (by assumption) ?_
        rotate_left
        · (intro w hSw; (try dsimp only at hSw); go_simp; try (with_reducible rfl))
        simp only [Act.put, List.setIfInBounds_toArray, List.set_cons_zero, List.set_cons_succ]
        refine wpAnyH_done (by kernel_rfl) ?_ _
        clear hHeld
        go_wp2
        have e0 : T = addW x (subW r.t r.s.f) := HTS.out.trans (if_pos trivial)
        have e1 : IntKind.u32.wrap ((r.t : Int) + IntKind.u32.wrap ((x : Int) - (r.s.f : Int))) = ((T : Nat) : Int) := by
          rw [IntKind.wrap_u32, IntKind.wrap_u32, HV.out, e0]
        have e2 : true = M := by rw [HMS.out]; simp
        rw [e1, ← e2]
        exact bodyPost_ret (v := .tuple #[.int .u32 (T : Int), .bool true]) (by simp [results, Try.results13, go_sem]) rfl ⟨rfl, blw_drew HB2.out⟩
end Go.Proofs.Ytajkjlnhongjfaa
