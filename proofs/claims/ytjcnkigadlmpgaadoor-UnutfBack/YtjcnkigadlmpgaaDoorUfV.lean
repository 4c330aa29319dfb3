/- What the variable leads holds, out of a row's first world; the laws' walks as the rows take them. No conditions. -/
import Derived.Test.YtjcnkigadlmpgaaDoorUfC
import Derived.Test.YtjcnkigadlmpgaaDoorRows
import Derived.LaidLaws
import Derived.LaidMore
import Derived.MakeChecks
import Derived.HandedShaped
import Derived.Handed
import Derived.OpenShut
namespace Go.Proofs.YtjcnkigadlmpgaaDoor
open Go.RowKit
set_option linter.unusedVariables false

theorem laid_mem {P : Program} {w : World} {n : String} {d : DataW Unit} : ∀ {l : List (String × DataW Unit)} {ps : List MemPlace}, DataW.LaidVars P w l ps → (n, d) ∈ l → ∃ g t cs fuel p, P.globalNamed n = some g ∧ (P.globals[g]?).map (·.type) = some t ∧ w.var? P n = some cs ∧ DataW.trod (fun _ => ()) P w 0 (fun _ => true) false fuel t cs.toList = some (d, p)
  | [], _, _, hx => by cases hx
  | (m, c) :: r, ps, h, hx => by
    obtain ⟨g, t, cs, fuel, p, q, h1, h2, h3, h4, h5, _⟩ := h
    rcases List.mem_cons.1 hx with e | e
    · cases e; exact ⟨g, t, cs, fuel, p, h1, h2, h3, h4⟩
    · exact laid_mem h5 e
def ldI (d : Ld) : List Int := [d.a, d.z, d.m, d.o, d.l, d.h]
/-- a struct of six words, as it is read -/
theorem six_cells {P : Program} {w : World} {T U : TypeId} {fs : Array Field} {cs : List Value} {ns : List Int} {fuel : Nat} {p : List MemPlace} {spare : Nat → Bool} {held : Bool} {base : Nat} (hT : P.underlying T = some (.struct fs)) (hU : P.underlying U = some (.int .u32)) (hc : P.cellsOf T = 6) (h1 : P.cellsOf U = 1) (hf : ∀ j, j < 6 → ∃ f : Field, fs[j]? = some f ∧ f.offset = j ∧ f.type = U) (hn : ns.length = 6)
    (h : DataW.trod (fun _ => ()) P w base spare held fuel T cs = some (.agg (ns.map fun n => DataW.lit (.int .u32 n)), p)) : cs = ns.map fun n => Value.int .u32 n := by
  obtain ⟨xs, m, _, ex, hl, hxl, hel⟩ := DataW.trod_struct hT h
  have e3 := (DataW.agg.inj (Prod.mk.inj ex).1).symm
  apply List.ext_getElem?
  intro j
  rcases Nat.lt_or_ge j 6 with hj | hj
  · obtain ⟨f, hfs, ho, ht⟩ := hf j hj
    have hE := hel j f hfs
    rw [ho, ht, h1] at hE
    have hxj : j < xs.length := by
      have : (xs.map (·.1)).length = 6 := by rw [e3]; simp [hn]
      simpa using (by rw [List.length_map] at this; omega : j < xs.length)
    rw [List.getElem?_eq_getElem hxj] at hE
    obtain ⟨z, e1, e2, _⟩ := DataW.trod_int hU hE
    have e4 : (xs.map (·.1))[j]? = some (DataW.lit (.int .u32 ns[j])) := by rw [e3]; simp [hn, hj]
    rw [List.getElem?_map, List.getElem?_eq_getElem hxj, e2] at e4
    have hz : z = ns[j] := by simpa using e4
    have e5 : ((cs.drop j).take 1)[0]? = some (.int .u32 z) := by rw [e1]; rfl
    have e6 : cs[j]? = some (.int .u32 z) := by simpa using e5
    rw [e6, hz]
    simp [hn, hj]
  · rw [List.getElem?_eq_none (by omega), List.getElem?_eq_none (by simp; omega)]
set_option maxRecDepth 100000 in
theorem lv_of {W : World} {L : List (String × DataW Unit)} (hL : laidMetH Tryd.prog L W) (hp : (L.all fun x => x.2.handleName?.isNone) = true) (hx : ("sabretache/utf.leads", Rows.laid_sabretache_utf_leads) ∈ L) : Lv W := by
  rw [MakeChecks.laidMetH_plain _ _ _ hp] at hL
  obtain ⟨ps, hv, _, _⟩ := hL
  obtain ⟨g, t, cs, fuel, p, h1, h2, h3, h4⟩ := laid_mem hv hx
  obtain rfl := Option.some.inj ((show Tryd.prog.globalNamed "sabretache/utf.leads" = some 1 by kernel_rfl).symm.trans h1)
  obtain rfl := Option.some.inj ((show (Tryd.prog.globals[1]?).map (·.type) = some 119 by kernel_rfl).symm.trans h2)
  obtain ⟨xs, m, _, ex, _, hl, hel⟩ := DataW.trod_array Tryd.underlying119 h4
  have c6 : Tryd.prog.cellsOf 118 = 6 := by kernel_rfl
  have c1 : Tryd.prog.cellsOf 30 = 1 := by kernel_rfl
  have e3 : xs.map (·.1) = lds.map fun d => DataW.agg ((ldI d).map fun n => DataW.lit (.int .u32 n)) := (DataW.agg.inj (Prod.mk.inj ex).1).symm.trans rfl
  have key : ∀ a, a < 9 → (cs.toList.drop (a * 6)).take 6 = ldC (ldA a) := fun a ha => by
    have hE := hel a ha
    rw [c6, List.getElem?_eq_getElem (by omega)] at hE
    have e4 : (xs.map (·.1))[a]? = some (DataW.agg ((ldI (ldA a)).map fun n => DataW.lit (.int .u32 n))) := by
      rw [e3, List.getElem?_map]
      have : a = 0 ∨ a = 1 ∨ a = 2 ∨ a = 3 ∨ a = 4 ∨ a = 5 ∨ a = 6 ∨ a = 7 ∨ a = 8 := by omega
      rcases this with rfl | rfl | rfl | rfl | rfl | rfl | rfl | rfl | rfl <;> rfl
    rw [List.getElem?_map, List.getElem?_eq_getElem (by omega)] at e4
    have e5 : (xs[a]'(by omega)).1 = DataW.agg ((ldI (ldA a)).map fun n => DataW.lit (.int .u32 n)) := by simpa using e4
    have e6 : (xs[a]'(by omega)) = (DataW.agg ((ldI (ldA a)).map fun n => DataW.lit (.int .u32 n)), (xs[a]'(by omega)).2) := by rw [← e5]
    rw [e6] at hE
    exact six_cells Tryd.underlying118 Tryd.underlying30 c6 c1 (fun j hj => by
      have : j = 0 ∨ j = 1 ∨ j = 2 ∨ j = 3 ∨ j = 4 ∨ j = 5 := by omega
      rcases this with rfl | rfl | rfl | rfl | rfl | rfl <;> exact ⟨_, rfl, rfl, rfl⟩) rfl hE
  intro i hi
  have hi54 : i < 54 := by rw [leads_len] at hi; exact hi
  rw [World.var?_cell (show Tryd.prog.globalNamed "sabretache/utf.leads" = some 1 by kernel_rfl) h3 i]
  have ha : i / 6 < 9 := by omega
  have hb : i % 6 < 6 := Nat.mod_lt _ (by decide)
  have hs : i / 6 * 6 + i % 6 = i := by omega
  have q1 : ((cs.toList.drop (i / 6 * 6)).take 6)[i % 6]? = cs.toList[i]? := by rw [List.getElem?_take, if_pos hb, List.getElem?_drop, hs]
  have q2 : ((leadsL.drop (i / 6 * 6)).take 6)[i % 6]? = leadsL[i]? := by rw [List.getElem?_take, if_pos hb, List.getElem?_drop, hs]
  rw [key _ ha] at q1
  rw [leads_part _ ha] at q2
  rw [← Array.getElem?_toList, ← q1, q2, List.getElem?_eq_getElem hi]
/-- a row's wrap that hands on both: the world's shape, and what its variables hold -/
theorem shaped_and {H : Type} {enc : TypeId × Value → H} {C : Checked} {os : Os} {f : FuncId} {fn : Func} {s : ChangeSpec} {X : World → Array Value → Prop}
    (hX : ∀ (w w' : World) (args : Array Value), w.heap = w'.heap → X w args → X w' args) (own : ownKnob C.prog.godebug = none) (started : os.Started) (noInit : C.prog.inits.idxOf? f = none) (hfn : C.prog.funcs[f]? = some fn)
    (witness : ∃ (w : World) (tape : Tape) (i : Input), w.os = os ∧ (w.forCall tape i).Shaped C.prog ∧ i.vars = [] ∧ Input.okWide C.prog (w.forCall tape i) .any w.heap.size f i ∧
      ((s.pre enc C.prog fn [] false (w.forCall tape i).memory i.args ∧ X (w.forCall tape i).memory i.args) ∧ sizedMet enc C.prog fn (OpenSpec.ofChange s) false (w.forCall tape i).memory i.args) ∧ ({} : Assume).holds C.prog (lone (Frame.enter C.prog f i.args .normal) [] (w.forCall tape i)))
    (law : ∀ (W : World) (base : Nat) (args : Array Value) (ds gs : List (DataW H)) (before : List MemPlace), (∀ (j : Nat) t v, fn.params[j]? = some t → args[j]? = some v → Value.okWide C.prog W .any base t v) →
      DataW.Whole enc C.prog fn.params.toList s.vars false W args.toList ds gs before → W.ShapedOpen C.prog → X W args → Calls C.prog f args W fun e W' => ∃ v, e = .returned v ∧ s.post enc C.prog fn false true false false W args v W') :
    ReturnsInHanded {} C os f .any (fun w args => (s.pre enc C.prog fn [] false w args ∧ X w args) ∧ sizedMet enc C.prog fn (OpenSpec.ofChange s) false w args) (s.post enc C.prog fn false true false false) := by
  refine returnsInHanded_of_calls own started noInit witness ?_
  intro w tape i _ hshape _ hfits hmet _
  obtain ⟨_, _, _, g, hg, _, _, _, _, hvals⟩ := hfits
  obtain rfl : g = fn := Option.some.inj (hg.symm.trans hfn)
  obtain ⟨⟨⟨ds, gs, before, hread, _⟩, hx⟩, _⟩ := hmet
  refine (law (w.forCall tape i) w.heap.size i.args ds gs before hvals (DataW.Whole.of_heap (w' := w.forCall tape i) (by rfl) hread) hshape (hX _ _ _ (by rfl) hx)).mono fun e W' ⟨v, he, h⟩ => ?_
  subst he
  exact ChangeSpec.post_blind h
end Go.Proofs.YtjcnkigadlmpgaaDoor
