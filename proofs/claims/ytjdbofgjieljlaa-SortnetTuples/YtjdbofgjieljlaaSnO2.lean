/- Plain facts for the tail of the law SortnetTuples: the tuples that came in as 'tuples' wants them; a lane that is put elsewhere. -/
import Derived.Test.YtjdbofgjieljlaaSnN2
namespace Go.Proofs.Ytjdbofgjieljlaa
open Go.RowKit

theorem grid_tls {w : World} {ad : Option Addr} {L : List (List Nat)} (g : Grid w ad L) : ∃ ts : List Tl, ts.map Tl.l = L ∧ TLs w.heap.size w ad ts := by
  have key : ∀ i, ∃ t : Tl, ∀ (h : i < L.length), t.l = L[i] ∧ ∃ x, ad = some x ∧ x.block < w.heap.size ∧ w.cell? (x.add i) = some (.slice t.ad t.l.length t.cap) ∧ ∀ m (hm : m < t.l.length), ∃ y, t.ad = some y ∧ y.block < w.heap.size ∧ w.cell? (y.add m) = some (.int .u32 (t.l[m] : Int)) := fun i => by
    by_cases h : i < L.length
    · obtain ⟨x, h1, ra, rc, h2, h3⟩ := g i h
      refine ⟨⟨ra, rc, L[i]⟩, fun _ => ⟨rfl, x, h1, by have := cell_blk h2; rw [add_block] at this; exact this, h2, fun m hm => ?_⟩⟩
      obtain ⟨y, k1, k2⟩ := h3 m hm
      exact ⟨y, k1, by have := cell_blk k2; rw [add_block] at this; exact this, k2⟩
    · exact ⟨⟨none, 0, []⟩, fun q => absurd q h⟩
  obtain ⟨f, hf⟩ := Classical.axiomOfChoice key
  refine ⟨(List.range L.length).map f, ?_, fun k hk => ?_⟩
  · apply List.ext_getElem (by simp)
    intro i h1 h2
    simp only [List.getElem_map, List.getElem_range]
    exact (hf i h2).1
  · have hk' : k < L.length := by simpa using hk
    have e : ((List.range L.length).map f)[k] = f k := by simp
    rw [e]; exact (hf k hk').2
theorem key_le {α : Type} (key : α → Nat) (l : List α) : ∃ M, ∀ a ∈ l, key a ≤ M := by
  induction l with
  | nil => exact ⟨0, by simp⟩
  | cons a l ih =>
    obtain ⟨M, hM⟩ := ih
    refine ⟨max (key a) M, fun b hb => ?_⟩
    rcases List.mem_cons.1 hb with rfl | h
    · omega
    · have := hM b h; omega
theorem tuples_law (h : Hn) (F : Nat → Prop) (A B : Ars) (ad : Option Addr) (cap n W : Nat) (L : List (List Nat)) (w0 w : World) (g : Grid w0 ad L) (hB : Below w0.heap.size w0 w) (a : Ar w h F B) (hF : ∀ i, F i → w0.heap.size ≤ i) (hL : ∀ l ∈ L, ∀ x ∈ l, x < 4294967296) (hn : L.length = n) (hn60 : n ≤ 60) (hw2 : 2 ≤ W) (hw5 : W ≤ 5) (htop : B.top = n * W) (hes : B.es.length ≤ 700000000)
    (hA : ∀ k i, k < W → i < n → A.word (k * n + i) = wd L i k) (hd : tups B.word (lanesOf n W) n = thru tkey (tups A.word (lanesOf n W) n) (netOf n)) :
    Calls Try.prog 18 #[arPtr h, .slice ad n cap, .int .i64 (n : Int), .int .i64 (W : Int)] w fun e w' => e = .returned (.bool true) ∧ Below w0.heap.size w w' := by
  obtain ⟨ts, hts, hT⟩ := grid_tls g
  have hlen : ts.length = n := by rw [← hn, ← hts]; simp
  have hin : tups A.word (lanesOf n W) n = inRows ts W := by
    apply List.ext_getElem (by simp [tups, inRows, hlen])
    intro i h1 h2
    have hi : i < n := by simpa [tups_len] using h1
    have hi2 : i < ts.length := by omega
    rw [tups_at]
    simp only [inRows, List.getElem_map]
    unfold tup lanesOf
    rw [List.map_map]
    apply List.map_congr_left
    intro k hk
    have hk' : k < W := by simpa using hk
    have e := hA k i hk' hi
    simp only [Function.comp]
    rw [e, ← hts]
    unfold wd
    simp [hi2]
  have hk : (tups A.word (lanesOf n W) n).length = n := tups_len ..
  obtain ⟨M, hM⟩ := key_le tkey (tups A.word (lanesOf n W) n)
  refine tuples_any h F B ad cap ts n W w0.heap.size w a hF hB.size (hT.below hB) hlen hn60 hw2 hw5 htop hes (fun t ht x hx => hL t.l (by rw [← hts]; exact List.mem_map.2 ⟨t, ht, rfl⟩) x hx) ?_ ?_ (fun x => Ars.word_lt a.ok x)
  · rw [hd]
    exact (thru_perm tkey _ _).trans (by rw [hin])
  · intro j hj
    rw [hd]
    have hl : (thru tkey (tups A.word (lanesOf n W) n) (netOf n)).length = n := by rw [thru_len, hk]
    have hs := thru_sorted tkey M (tups A.word (lanesOf n W) n) (by rw [hk]; omega) hM j (by rw [thru_len, hk]; exact hj)
    have hs' : tkey ((thru tkey (tups A.word (lanesOf n W) n) (netOf (tups A.word (lanesOf n W) n).length)).getD j []) ≤ tkey ((thru tkey (tups A.word (lanesOf n W) n) (netOf (tups A.word (lanesOf n W) n).length)).getD (j + 1) []) := by
      rw [getD_at _ _ _ (by rw [thru_len, hk]; omega), getD_at _ _ _ (by rw [thru_len, hk]; omega)]; exact hs
    rw [hk] at hs'
    exact hs'

/-- is a place within, and apart from the first k lanes? -/
def apB (n T : Nat) (place : Int) (k : Nat) : Bool := decide (0 ≤ place ∧ place ≤ (T : Int) - (n : Int)) && (List.range k).all fun j => decide ((n : Int) ≤ place - ((j * n : Nat) : Int) ∨ (n : Int) ≤ ((j * n : Nat) : Int) - place)
theorem apB_succ (n T : Nat) (place : Int) (k : Nat) : apB n T place (k + 1) = (apB n T place k && decide ((n : Int) ≤ place - ((k * n : Nat) : Int) ∨ (n : Int) ≤ ((k * n : Nat) : Int) - place)) := by
  unfold apB; rw [List.range_succ, List.all_append]; simp [Bool.and_assoc]
theorem apB_in {n T : Nat} {place : Int} {k : Nat} (h : apB n T place k = true) : 0 ≤ place ∧ place ≤ (T : Int) - (n : Int) := by
  unfold apB at h; rw [Bool.and_eq_true] at h; exact of_decide_eq_true h.1
theorem fine_odd (A : Ars) (n W : Nat) (place : Int) (htop : A.top = n * W) (hW : 2 ≤ W) : Fine A n (lanesK n (W - 1) ++ [place]) ↔ apB n (n * W) place (W - 1) = true := by
  have hm : n * (W - 1) ≤ n * W := Nat.mul_le_mul_left _ (by omega)
  have hz : ∀ z ∈ lanesK n (W - 1), A.fits z n = true := fun z hz => by
    obtain ⟨L, rfl, hL⟩ := lanesOf_in n (W - 1) z hz
    rw [Ars.fits_iff, htop]; omega
  have hp : A.fits place n = true ↔ (0 ≤ place ∧ place ≤ ((n * W : Nat) : Int) - (n : Int)) := by
    rw [Ars.fits_iff, htop]; omega
  unfold Fine apB
  rw [List.pairwise_append, Bool.and_eq_true, decide_eq_true_eq, List.all_eq_true, ← hp]
  constructor
  · rintro ⟨_, h2, _, _, h3⟩
    refine ⟨h2 place (by simp), fun j hj => ?_⟩
    have := h3 ((j * n : Nat) : Int) (by simp only [lanesK, List.mem_map]; exact ⟨j, hj, rfl⟩) place (by simp)
    unfold ApartZ at this
    rw [decide_eq_true_eq]; omega
  · rintro ⟨h1, h2⟩
    refine ⟨by simp [lanesK]; omega, fun z hz' => ?_, lanesOf_pw n (W - 1), by simp, fun z hz' y hy => ?_⟩
    · rcases List.mem_append.1 hz' with q | q
      · exact hz z q
      · rw [List.mem_singleton.1 q]; exact h1
    · simp only [lanesK, List.mem_map] at hz'
      obtain ⟨j, hj, rfl⟩ := hz'
      have := of_decide_eq_true (h2 j hj)
      rw [List.mem_singleton.1 hy]
      unfold ApartZ; omega
/-- Sort of the law's lanes, the last one put elsewhere -/
theorem sort_odd (h : Hn) (F : Nat → Prop) (A : Ars) (n W g cap : Nat) (place : Int) (w : World) (a : Ar w h F A) (hn : n ≤ 60) (hW2 : 2 ≤ W) (hW : W ≤ 5) (htop : A.top = n * W) (hes : A.es.length ≤ 600000000) (hp1 : place < 9223372036854775808) (hcap : W ≤ cap) (hcap2 : cap ≤ maxLen)
    (hg : g < w.heap.size) (hgF : ¬ F g) (hlast : w.cell? ⟨g, W - 1, none⟩ = some (.int .i64 place)) (hcs : ∀ j, j < W - 1 → w.cell? ⟨g, j, none⟩ = some (.int .i64 ((j * n : Nat) : Int))) :
    Calls Try.prog 15 #[arPtr h, .int .i64 (n : Int), .slice (some ⟨g, 0, none⟩) W cap] w fun e w' => e = .returned (.bool (apB n (n * W) place (W - 1))) ∧ ∃ F', Step w F w' F' := by
  have hl : (lanesK n (W - 1) ++ [place]).length = W := by simp [lanesK]; omega
  have hnet : (netOf n).length ≤ 2408448 := by rw [net_len]; exact cnt_small _
  have hc := sort_any h F A n g cap (lanesK n (W - 1) ++ [place]) w a (by omega) (by rw [hl]; exact hW2) (by rw [hl]; omega) (by rw [hl]; exact hcap) (by unfold maxLen at hcap2; omega) (fun z hz => by
    rcases List.mem_append.1 hz with q | q
    · obtain ⟨L, rfl, hL⟩ := lanesOf_in n (W - 1) z q
      have : n * (W - 1) ≤ 60 * 5 := Nat.mul_le_mul hn (by omega)
      omega
    · rw [List.mem_singleton.1 q]; exact hp1) hg hgF (fun j hj => by
    rw [hl] at hj
    by_cases e : j = W - 1
    · rw [e, hlast]
      rw [List.getElem?_append_right (by simp [lanesK])]; simp [lanesK]
    · rw [hcs j (by omega), List.getElem?_append_left (by simp [lanesK]; omega)]
      have : j < W - 1 := by omega
      simp [lanesK, this]) (by
    rw [hl]
    have : (netOf n).length * (4 * W) ≤ 2408448 * 20 := Nat.mul_le_mul hnet (by omega)
    omega)
  rw [hl] at hc
  refine hc.mono ?_
  rintro e w' ⟨r, rfl, F', A', a', s', hd⟩
  refine ⟨?_, F', s'⟩
  have hf := fine_odd A n W place htop hW2
  rcases hd with ⟨rfl, hnf, _⟩ | ⟨rfl, hy, _⟩
  · rw [hf] at hnf; rw [Bool.eq_false_iff.2 hnf]
  · rw [hf.1 hy]
/-- the lanes, copied; the last one put elsewhere -/
structure OddRow (wr w12 : World) (g cap W n V : Nat) (place : Int) : Prop where
  capW : W ≤ cap
  capM : cap ≤ maxLen
  ge : wr.heap.size ≤ g
  bel : Below wr.heap.size wr (w12.setCell ⟨g, V, none⟩ (.int .i64 place))
  lt : g < (w12.setCell ⟨g, V, none⟩ (.int .i64 place)).heap.size
  last : (w12.setCell ⟨g, V, none⟩ (.int .i64 place)).cell? ⟨g, V, none⟩ = some (.int .i64 place)
  cells : ∀ j, j < V → (w12.setCell ⟨g, V, none⟩ (.int .i64 place)).cell? ⟨g, j, none⟩ = some (.int .i64 ((j * n : Nat) : Int))
theorem odd_row {wr w12 : World} {g cap W n V : Nat} (place : Int) (hV : W = V + 1) (hown : w12.ownsRow wr.heap.size 3 1 (.slice (some ⟨g, 0, none⟩) (0 + W) cap) (0 + W) ([] ++ ints (lanesK n W))) (hgrow : (wr.alloc (.cells #[] 3)).grownBy w12 (some wr.heap.size)) :
    w12.frozen? ⟨g, V, none⟩ = false ∧ w12.cell? ⟨g, V, none⟩ = some (.int .i64 ((V * n : Nat) : Int)) ∧ OddRow wr w12 g cap W n V place := by
  rw [Nat.zero_add, List.nil_append] at hown
  rcases hown.2 with ⟨h3, h4⟩ | ⟨g', cap', cur, hv, hb, hg, k1, k2, k3, k4⟩
  · omega
  · cases hv
    have hat : ∀ j, j < W → cur[j]? = some (.int .i64 ((j * n : Nat) : Int)) := fun j hj => by
      have e : (cur.toList.take (W * 1))[j]? = some (.int .i64 ((j * n : Nat) : Int)) := by
        rw [k4]; simp [ints, lanesK, hj]
      rw [List.getElem?_take] at e
      simp only [Nat.mul_one, hj, if_true] at e
      simpa using e
    have hs := heap_setCell_at w12 g V _ _ _ (.int .i64 place) hg
    have hsz : V < cur.size := by rw [k3]; omega
    have hB : Below wr.heap.size wr w12 := ((Below.refl _ _).alloc (Nat.le_refl _) _).grown hgrow (by simp) (by intro k hk; cases hk; exact Nat.le_refl _)
    refine ⟨frozen_of_heap hg, cell_of_heap hg (hat V (by omega)), k1, k2, hb, hB.setCell hb _, lt_of_heap hs, ?_, fun j hj => ?_⟩
    · exact cell_of_heap hs (by simp [hsz])
    · refine cell_of_heap hs ?_
      rw [Array.getElem?_setIfInBounds_ne (by omega)]
      exact hat j (by omega)
theorem apB_no {n T : Nat} {place : Int} (k : Nat) (h : ¬ (0 ≤ place ∧ place ≤ (T : Int) - (n : Int))) : apB n T place k = false := by
  unfold apB; rw [decide_eq_false h]; rfl
theorem apB_yes {n T : Nat} {place : Int} (h : 0 ≤ place ∧ place ≤ (T : Int) - (n : Int)) : apB n T place 0 = true := by
  unfold apB; rw [decide_eq_true h]; rfl
end Go.Proofs.Ytjdbofgjieljlaa
