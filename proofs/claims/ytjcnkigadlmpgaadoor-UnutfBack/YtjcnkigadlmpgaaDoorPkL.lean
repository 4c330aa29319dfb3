/- The laws' told (layer 4), over this seat's translation. No conditions. The laws' first lines (awake, layer 4) return true, over this seat's translation. No conditions. Contracts of the laws' word and same, and of package pack's Cost (layer 4), over this seat's translation. Conditions: Cost: at most 60 tuples, 4 lanes; same: logs that are the same, of at most a million events. The contract of the laws' lay (layer 4), over this seat's translation. Conditions: at most 60 tuples of at most 4 words. -/
import Derived.Test.YtjcnkigadlmpgaaDoorPkH
import Derived.Test.YtjcnkigadlmpgaaDoorArQ
import Derived.Deep.RegionWith
namespace Go.Proofs.YtjcnkigadlmpgaaDoor
open Go.RowKit

theorem noted_below {g : Nat} {ob : Option Nat} {n B : Nat} {xs e : List Value} {w w' : World} (h : Noted g ob n xs e w w') (hB : B ≤ w.heap.size) (hg : B ≤ g) (hob : ∀ k, ob = some k → B ≤ k) : Below B w w' := by
  obtain ⟨k, _, _, h3⟩ := h
  exact h3.below hB (fun i hi x => x.elim (fun x => by omega) (fun x => by have := hob _ x; omega))
theorem log_new_at (W : World) : LogAt (W.alloc (.cells #[.slice none 0 0] 63)) W.heap.size none 0 [] := ⟨_, heap_alloc_at _ _, rfl, ⟨rfl, Or.inl ⟨rfl, rfl⟩⟩⟩
theorem u32s_new (w : World) (l : List Nat) : U32s (w.alloc (.cells (secs l).toArray 30 (0, 0))) (some ⟨w.heap.size, 0, none⟩) l := fun k hk =>
  ⟨_, rfl, by rw [add_plain]; exact cell_of_heap (heap_alloc_at _ _) (by simp [secs, hk])⟩
theorem lz_new (w : World) (F : Nat → Prop) (z : Int) (h : ¬ F w.heap.size) : Lz (w.alloc (.cells #[.int .i64 z] 3 (0, 0))) F (some ⟨w.heap.size, 0, none⟩) 1 [z] :=
  Or.inr ⟨_, rfl, by simp, h, fun j hj => by
    have : j = 0 := by simpa using hj
    subst this; exact cell_of_heap (heap_alloc_at _ _) rfl⟩
theorem freshF {w : World} {h : Hn} {F : Nat → Prop} {A : Ars} (a : Ar w h F A) : ¬ F w.heap.size := fun x => by have := a.lt _ x; omega
/-- rows of words that came in -/
def Grid (w : World) (ad : Option Addr) (L : List (List Nat)) : Prop := ∀ i (h : i < L.length), ∃ x, ad = some x ∧ ∃ ra rc, w.cell? (x.add i) = some (.slice ra (L[i]).length rc) ∧ U32s w ra L[i]
theorem U32s.belowG {w w' : World} {ad : Option Addr} {l : List Nat} (h : U32s w ad l) (hB : Below w.heap.size w w') : U32s w' ad l := fun k hk => by
  obtain ⟨x, h1, h2⟩ := h k hk
  exact ⟨x, h1, cell_below hB h2 (cell_blk h2)⟩
theorem Grid.below {w w' : World} {ad : Option Addr} {L : List (List Nat)} (g : Grid w ad L) (hB : Below w.heap.size w w') : Grid w' ad L := fun i hi => by
  obtain ⟨x, h1, ra, rc, h2, h3⟩ := g i hi
  exact ⟨x, h1, ra, rc, cell_below hB h2 (cell_blk h2), h3.belowG hB⟩
/-- a word of them; 0 -/
def wd (L : List (List Nat)) (i k : Nat) : Nat := (L.getD i []).getD k 0
/-- how many events Pack notes, by a formula -/
def pc (n l : Nat) : Nat := 2 + n + 2 * n * (1 + l) + (3 * n * stp n - (2 ^ stp n - 1)) * (1 + l) + n
theorem evFull_len (t keep n : Nat) (ls : List Nat) (hn : n ≤ 49152) : (evFull t keep n ls).length = pc n ls.length := by
  obtain ⟨h1, h2, h3⟩ := stp_facts n hn
  have hm := evMvss_len n (stp n) (t :: ls) h3
  have hs : (upTo (evSf keep t ls) n).length = n * (2 + 2 * ls.length) := upTo_len _ n _ (fun i _ => evSf_len ..)
  have hk : (upTo (fun i => [evSt (keep + i)]) n).length = n * 1 := upTo_len _ n _ (fun i _ => rfl)
  unfold evFull evPack pc
  rw [List.length_cons, List.length_append, List.length_append, List.length_append, hs, hk, evGv_len]
  rw [List.length_cons] at hm
  have e : (upTo (fun s => upTo (evMv n s (t :: ls)) n) (stp n)).length = (3 * n * stp n - (2 ^ stp n - 1)) * (1 + ls.length) := by
    rw [Nat.sub_mul, Nat.add_comm 1 ls.length]; omega
  rw [e]
  have e2 : n * (2 + 2 * ls.length) = 2 * n * (1 + ls.length) := by rw [show 2 + 2 * ls.length = 2 * (1 + ls.length) by omega, ← Nat.mul_assoc, Nat.mul_comm n 2]
  rw [e2]
  omega
theorem rowAt {w w' : World} {base : Nat} {e : TypeId} {size n cap : Nat} {ad : Option Addr} {xs : List Value} (h : w.ownsRow base e size (.slice ad n cap) n xs) (hb : Below w.heap.size w w') : ∀ i (_ : i < n), ∃ g, ad = some ⟨g, 0, none⟩ ∧ ∀ j u, xs[j]? = some u → w'.cell? ⟨g, j, none⟩ = some u := fun i hi => by
  obtain ⟨g, h1, _, h2, h3⟩ := owns_cell h (by omega)
  exact ⟨g, h1, fun j u hj => cell_below hb (h3 j u hj) h2⟩
theorem pc_wraps : ∀ (n : Fin 61) (l : Fin 5), wrap64 (wrap64 (wrap64 (1 + (n.val : Int) + 1 + wrap64 (2 * (n.val : Int) * (1 + (l.val : Int)))) + wrap64 (wrap64 (wrap64 (3 * (n.val : Int) * (stp n.val : Int)) - wrap64 (wrap64 (2 ^ stp n.val) - 1)) * (1 + (l.val : Int)))) + (n.val : Int)) = (pc n.val l.val : Int) := by decide +kernel
set_option maxHeartbeats 800000 in
theorem pcost_any (n l : Nat) (hn : n ≤ 60) (hl : l ≤ 4) (w : World) :
    Calls Tryd.prog 35 #[.int .i64 (n : Int), .int .i64 (l : Int)] w fun e w' => e = .returned (.int .i64 (pc n l : Nat)) ∧ w' = w := by
  have hmay : decide (0 ≤ (l : Int) ∧ 0 ≤ (n : Int) ∧ (n : Int) ≤ 49152) = true := decide_eq_true (by omega)
  obtain ⟨S, hS⟩ : ∃ S, stp n = S := ⟨_, rfl⟩
  have HS := hid hS
  have hS16 : S ≤ 16 := by rw [← hS]; exact (stp_facts n (by omega)).2.1
  clear hS
  go_enter Tryd.func35, Tryd.ntmps35
  go_wp2_with (first | (go_at_call 51; refine (pmay_any _ _ _).mono ?_; rintro e w' ⟨rfl, hw⟩; subst w'; rw [hmay]) | (go_at_call 53; refine (steps_any n (by omega) _).mono ?_; rintro e w' ⟨rfl, hw⟩; subst w'; rw [HS.out]))
  go_ret
  refine ⟨retI ?_, rfl⟩
  have := pc_wraps ⟨n, by omega⟩ ⟨l, by omega⟩
  simp only [HS.out] at this
  exact this

abbrev lanesI (n k : Nat) : List Int := (List.range k).map fun j => ((n * (j + 1) : Nat) : Int)
structure Laid (A : Ars) (n W : Nat) (tg : Nat → Nat) (c : Nat) : Prop where
  top : A.top = n * (W + 1)
  wl : A.ws.length = n * (W + 2)
  es : A.es = ⟨4, 0, cnt ((n * (W + 1) : Nat) : Int)⟩ :: (List.range c).map evSt
  wd : ∀ x, x < c → A.word x = tg x
structure LayS (w wr : World) (h : Hn) (n W : Nat) (tg : Nat → Nat) (k c : Nat) (F : Nat → Prop) (A : Ars) (v : Value) : Prop where
  ar : Ar wr h F A
  bel : Below w.heap.size w wr
  far : ∀ i, F i → w.heap.size ≤ i
  own : wr.ownsRow w.heap.size 3 1 v k (ints (lanesI n k))
  off : ∀ q, v.ownBlock = some q → ¬ F q
  laid : Laid A n W tg c
section
variable {w wr w2 : World} {h : Hn} {n W k c : Nat} {tg : Nat → Nat} {F F' : Nat → Prop} {A : Ars} {v : Value}
theorem Laid.put (l : Laid A n W tg c) (hc : c < n * (W + 1)) : Laid (A.storeN c (tg c)) n W tg (c + 1) := by
  have hw : c < A.ws.length := by rw [l.wl]; exact Nat.lt_of_lt_of_le hc (Nat.mul_le_mul_left _ (by omega))
  refine ⟨l.top, by rw [← l.wl]; simp [Ars.storeN], ?_, fun x hx => ?_⟩
  · show A.es ++ [evSt c] = _
    rw [l.es, List.range_succ, List.map_append]; rfl
  · rw [word_st _ _ _ hw]
    by_cases e : x = c
    · simp [e]
    · simp [e]; exact l.wd x (by omega)
theorem LayS.put (l : LayS w wr h n W tg k c F A v) (s : Step wr F w2 F') (a : Ar w2 h F' (A.storeN c (tg c))) (hc : c < n * (W + 1)) : LayS w w2 h n W tg k (c + 1) F' (A.storeN c (tg c)) v :=
  ⟨a, l.bel.trans (s.below l.bel.size l.far), fun i hi => (s.sub i hi).elim (l.far i) fun x => Nat.le_trans l.bel.size x,
    owns_of_blocks l.own fun q hq => s.fr.block q (l.own.lt q hq).2 (l.off q hq), fun q hq => s.out (l.off q hq) (l.own.lt q hq).2, l.laid.put hc⟩
theorem LayS.alloc (l : LayS w wr h n W tg k c F A v) (o : Obj) : LayS w (wr.alloc o) h n W tg k c F A v :=
  ⟨l.ar.alloc o, l.bel.alloc l.bel.size o, l.far, l.own.alloc o, l.off, l.laid⟩
theorem LayS.grown {g cap : Nat} (l : LayS w wr h n W tg k c F A v) (ho : w2.ownsRow w.heap.size 3 1 (.slice (some ⟨g, 0, none⟩) (k + 1) cap) (k + 1) (ints (lanesI n (k + 1)))) (hg : wr.grownBy w2 v.ownBlock) (hat : v.ownBlock = some g ∨ g = wr.heap.size) : LayS w w2 h n W tg (k + 1) c F A (.slice (some ⟨g, 0, none⟩) (k + 1) cap) := by
  refine ⟨l.ar.kept (G := fun q => some q = v.ownBlock) ⟨hg.os, hg.tape, hg.output, hg.size, fun k hk hn => hg.block k hk hn⟩ (fun i hi e => l.off i e.symm hi), l.bel.grown hg l.bel.size (fun q hq => (l.own.lt q hq).1), l.far, ho, fun q hq => ?_, l.laid⟩
  have : g = q := by simpa [Value.ownBlock] using hq
  subst this
  rcases hat with hat | hat
  · exact l.off g hat
  · intro x; have := l.ar.lt _ x; omega
end
theorem lanesI_succ (n k : Nat) : ints (lanesI n (k + 1)) = ints (lanesI n k) ++ [.int .i64 ((n * (k + 1) : Nat) : Int)] := by simp [ints, lanesI, List.range_succ]
def tgF (kl : List Nat) (L : List (List Nat)) (n x : Nat) : Nat := if x < n then kl.getD x 0 else wd L (x % n) (x / n - 1)
theorem tgF_at (kl : List Nat) (L : List (List Nat)) (n k i : Nat) (hi : i < n) : tgF kl L n (n * (k + 1) + i) = wd L i k := by
  have h1 : ¬ n * (k + 1) + i < n := by rw [Nat.mul_succ]; omega
  unfold tgF
  rw [if_neg h1, Nat.mul_add_mod, Nat.mod_eq_of_lt hi, Nat.mul_add_div (by omega), Nat.div_eq_of_lt hi]
  rfl
theorem put1 (A : Ars) (x v : Nat) (h : x < A.top) : A.put (x : Int) [v] = A.storeN x v := by
  have hf : A.fits (x : Int) (([v] : List Nat).length : Nat) = true := by rw [Ars.fits_iff]; simp; omega
  rw [Ars.put_yes hf]
  simp [Ars.putK]
theorem putK_es (A : Ars) (i : Nat) (l : List Nat) (k : Nat) : (A.putK i l k).es = A.es ++ (List.range k).map fun j => evSt (i + j) := by
  induction k with
  | zero => simp [Ars.putK]
  | succ k ih => simp only [Ars.putK, Ars.storeN]; rw [ih, List.range_succ, List.map_append, List.append_assoc]; rfl
theorem laid0 (kl : List Nat) (L : List (List Nat)) (W : Nat) : Laid (((Ars.new ((kl.length * (W + 2) : Nat) : Int)).take ((kl.length * (W + 1) : Nat) : Int)).put 0 kl) kl.length W (tgF kl L kl.length) kl.length := by
  have hle : kl.length * (W + 1) ≤ kl.length * (W + 2) := Nat.mul_le_mul_left _ (by omega)
  have hc : (Ars.new ((kl.length * (W + 2) : Nat) : Int)).canTake ((kl.length * (W + 1) : Nat) : Int) = true := decide_eq_true (by simp only [Ars.new, List.length_replicate]; omega)
  have h1 : kl.length ≤ kl.length * (W + 1) := Nat.le_mul_of_pos_right _ (by omega)
  obtain ⟨B, hB⟩ : ∃ B, (Ars.new ((kl.length * (W + 2) : Nat) : Int)).take ((kl.length * (W + 1) : Nat) : Int) = B := ⟨_, rfl⟩
  have hBt : B.top = kl.length * (W + 1) ∧ B.ws.length = kl.length * (W + 2) ∧ B.es = [⟨4, 0, cnt ((kl.length * (W + 1) : Nat) : Int)⟩] := by
    rw [← hB]; unfold Ars.take; rw [if_pos hc]
    refine ⟨?_, ?_, rfl⟩
    · show 0 + ((kl.length * (W + 1) : Nat) : Int).toNat = _; omega
    · simp only [Ars.new, List.length_replicate]; omega
  rw [hB]
  have hf : B.fits 0 kl.length = true := by rw [Ars.fits_iff, hBt.1]; omega
  rw [Ars.put_yes hf]
  refine ⟨by rw [Ars.putK_top]; exact hBt.1, by rw [Ars.putK_wslen]; exact hBt.2.1, ?_, fun x hx => ?_⟩
  · rw [putK_es, hBt.2.2]
    simp
  · rw [Ars.putK_word _ _ _ _ (Nat.le_refl _) (by rw [hBt.2.1]; simp; omega), if_pos (by simp; exact hx)]
    unfold tgF; rw [if_pos hx]; simp
end Go.Proofs.YtjcnkigadlmpgaaDoor
