/- What the variable places holds, out of a row's first world. No conditions. -/
import Derived.Test.YtjcnkigadlmpgaaDoorUnB
import Derived.Test.YtjcnkigadlmpgaaDoorUfV
namespace Go.Proofs.YtjcnkigadlmpgaaDoor
open Go.RowKit
set_option linter.unusedVariables false

/-- a struct of numbers of some kinds, as it is read -/
theorem kind_cells {P : Program} {w : World} {T : TypeId} {fs : Array Field} {cs : List Value} {kn : List (IntKind × Int)} {fuel : Nat} {p : List MemPlace} {spare : Nat → Bool} {held : Bool} {base : Nat} (hT : P.underlying T = some (.struct fs)) (hc : P.cellsOf T = kn.length)
    (hf : ∀ j (hj : j < kn.length), ∃ f : Field, fs[j]? = some f ∧ f.offset = j ∧ P.underlying f.type = some (.int kn[j].1) ∧ P.cellsOf f.type = 1)
    (h : DataW.trod (fun _ => ()) P w base spare held fuel T cs = some (.agg (kn.map fun x => DataW.lit (.int x.1 x.2)), p)) : cs = kn.map fun x => Value.int x.1 x.2 := by
  obtain ⟨xs, m, _, ex, hl, hxl, hel⟩ := DataW.trod_struct hT h
  have e3 := (DataW.agg.inj (Prod.mk.inj ex).1).symm
  have hlen : cs.length = kn.length := by rw [hl, hc]
  apply List.ext_getElem?
  intro j
  rcases Nat.lt_or_ge j kn.length with hj | hj
  · obtain ⟨f, hfs, ho, hU, h1⟩ := hf j hj
    have hE := hel j f hfs
    rw [ho, h1] at hE
    have hxj : j < xs.length := by
      have : (xs.map (·.1)).length = kn.length := by rw [e3]; simp
      simpa using (by rw [List.length_map] at this; omega : j < xs.length)
    rw [List.getElem?_eq_getElem hxj] at hE
    obtain ⟨z, e1, e2, _⟩ := DataW.trod_int hU hE
    have e4 : (xs.map (·.1))[j]? = some (DataW.lit (.int kn[j].1 kn[j].2)) := by rw [e3]; simp [hj]
    rw [List.getElem?_map, List.getElem?_eq_getElem hxj, e2] at e4
    have hz : z = kn[j].2 := by simpa using e4
    have e5 : ((cs.drop j).take 1)[0]? = some (.int kn[j].1 z) := by rw [e1]; rfl
    have e6 : cs[j]? = some (.int kn[j].1 z) := by simpa using e5
    rw [e6, hz]
    simp [hj]
  · rw [List.getElem?_eq_none (by omega), List.getElem?_eq_none (by simp; omega)]
def plI (p : Pl) : List (IntKind × Int) := [(.u32, p.f), (.u32, p.n), (.i64, p.s), (.u32, p.l)]
set_option maxRecDepth 100000 in
theorem pv_of {W : World} {L : List (String × DataW Unit)} (hL : laidMetH Tryd.prog L W) (hp : (L.all fun x => x.2.handleName?.isNone) = true) (hx : ("sabretache/unutf.places", Rows.laid_sabretache_unutf_places) ∈ L) : Pv W := by
  rw [MakeChecks.laidMetH_plain _ _ _ hp] at hL
  obtain ⟨ps, hv, _, _⟩ := hL
  obtain ⟨g, t, cs, fuel, p, h1, h2, h3, h4⟩ := laid_mem hv hx
  obtain rfl := Option.some.inj ((show Tryd.prog.globalNamed "sabretache/unutf.places" = some 0 by kernel_rfl).symm.trans h1)
  obtain rfl := Option.some.inj ((show (Tryd.prog.globals[0]?).map (·.type) = some 90 by kernel_rfl).symm.trans h2)
  obtain ⟨xs, m, _, ex, _, hl, hel⟩ := DataW.trod_array Tryd.underlying90 h4
  have c4 : Tryd.prog.cellsOf 89 = 4 := by kernel_rfl
  have c1 : Tryd.prog.cellsOf 30 = 1 := by kernel_rfl
  have c2 : Tryd.prog.cellsOf 3 = 1 := by kernel_rfl
  have e3 : xs.map (·.1) = pls.map fun d => DataW.agg ((plI d).map fun x => DataW.lit (.int x.1 x.2)) := (DataW.agg.inj (Prod.mk.inj ex).1).symm.trans rfl
  have key : ∀ a, a < 4 → (cs.toList.drop (a * 4)).take 4 = (plI (plA a)).map fun x => Value.int x.1 x.2 := fun a ha => by
    have hE := hel a ha
    rw [c4, List.getElem?_eq_getElem (by omega)] at hE
    have e4 : (xs.map (·.1))[a]? = some (DataW.agg ((plI (plA a)).map fun x => DataW.lit (.int x.1 x.2))) := by
      rw [e3, List.getElem?_map]
      have : a = 0 ∨ a = 1 ∨ a = 2 ∨ a = 3 := by omega
      rcases this with rfl | rfl | rfl | rfl <;> rfl
    rw [List.getElem?_map, List.getElem?_eq_getElem (by omega)] at e4
    have e5 : (xs[a]'(by omega)).1 = DataW.agg ((plI (plA a)).map fun x => DataW.lit (.int x.1 x.2)) := by simpa using e4
    have e6 : (xs[a]'(by omega)) = (DataW.agg ((plI (plA a)).map fun x => DataW.lit (.int x.1 x.2)), (xs[a]'(by omega)).2) := by rw [← e5]
    rw [e6] at hE
    exact kind_cells Tryd.underlying89 c4 (fun j hj => by
      have hj4 : j < 4 := hj
      have : j = 0 ∨ j = 1 ∨ j = 2 ∨ j = 3 := by omega
      rcases this with rfl | rfl | rfl | rfl
      · exact ⟨_, rfl, rfl, Tryd.underlying30, c1⟩
      · exact ⟨_, rfl, rfl, Tryd.underlying30, c1⟩
      · exact ⟨_, rfl, rfl, Tryd.underlying3, c2⟩
      · exact ⟨_, rfl, rfl, Tryd.underlying30, c1⟩) hE
  intro i hi
  have hi16 : i < 16 := by rw [pls_len] at hi; exact hi
  rw [World.var?_cell (show Tryd.prog.globalNamed "sabretache/unutf.places" = some 0 by kernel_rfl) h3 i]
  have ha : i / 4 < 4 := by omega
  have hb : i % 4 < 4 := Nat.mod_lt _ (by decide)
  have hs : i / 4 * 4 + i % 4 = i := by omega
  have q1 : ((cs.toList.drop (i / 4 * 4)).take 4)[i % 4]? = cs.toList[i]? := by rw [List.getElem?_take, if_pos hb, List.getElem?_drop, hs]
  have q2 : ((plsL.drop (i / 4 * 4)).take 4)[i % 4]? = plsL[i]? := by rw [List.getElem?_take, if_pos hb, List.getElem?_drop, hs]
  rw [key _ ha] at q1
  rw [pls_part _ ha] at q2
  rw [← Array.getElem?_toList, ← q1, ← List.getElem?_eq_getElem hi, ← q2]
  rfl
end Go.Proofs.YtjcnkigadlmpgaaDoor
