/-
  NARROWER THAN 'FOR EVERY INPUT', by the rows' own cells (each row's printed sentence says how): UnutfEncodes: laid · UnutfBack: laid · UnutfRefuses: laid.
  DERIVED. THE GIVEN ROWS OF THIS SEAT. 3 by the template 'for every input the law returns true; each argument reads behind the call as it read before'; 0 by the template 'total and deterministic' (their statements: YtjcnkigadlmpgaaDoorTotals.lean).
  GIVEN WITH THE SEED: the statements are not yours to turn. If you find one false, say at which input.
  Laid BY PROGRAM, IN A SANDBOX (cutbox-rows.mjs): the forced cells as the released guide's own fill.sh prints them over the translation 1d97af920ccdba25… (all of the seat's roots in one cut). By AI agents, Wed Nov 11 2026. No macro, syntax, notation, axiom, sorry.
-/
import Derived.Test.YtjcnkigadlmpgaaDoorChecked
import GoSem.Claim
import GoSem.ClaimJoined
import GoSem.ClaimMapViews
import Derived.JoinedTies
import Derived.KernelRfl
namespace Go.Proofs.YtjcnkigadlmpgaaDoor
/- THE CELL 'sum', in the pinned program and in every row, IS THE sha256 OF THE DUMP (.gsa) THAT YtjcnkigadlmpgaaDoorProg.lean LOADS. Nothing in Lean hashes anything: it is a label: what it is worth is what the hold of that sum in a sandbox is worth. -/
noncomputable def Tryd.pinned : Pinned := { name := "ytjcnkigadlmpgaadoor", sum := "1d97af920ccdba2504c20010fb00d9e154ee0d6344e917a5714b3adc8e67083c", checked := Tryd.checked }
namespace Rows
def none {H : Type} : Left H := { results := [], args := [] }

/- WHAT THE LISTED PACKAGE-LEVEL VARIABLES READ AS WHEN THE CALL BEGINS. Each datum BY PROGRAM (the guide's laid-datum.mjs) off the statement by which the dump's own 'gosem.cut.vars' lays the variable. In a bare row this is a premise. The card (YtjcnkigadlmpgaaDoorCards.lean) ties it to the program's text. -/
def laid_sabretache_unutf_places {H : Type} : DataW H := .agg [.agg [.lit (.int .u32 65536), .lit (.int .u32 2097152), .lit (.int .i64 18), .lit (.int .u32 240)], .agg [.lit (.int .u32 2048), .lit (.int .u32 65536), .lit (.int .i64 12), .lit (.int .u32 224)], .agg [.lit (.int .u32 128), .lit (.int .u32 2048), .lit (.int .i64 6), .lit (.int .u32 192)], .agg [.lit (.int .u32 0), .lit (.int .u32 128), .lit (.int .i64 0), .lit (.int .u32 0)]]
def laid_sabretache_utf_leads {H : Type} : DataW H := .agg [.agg [.lit (.int .u32 0), .lit (.int .u32 127), .lit (.int .u32 127), .lit (.int .u32 0), .lit (.int .u32 0), .lit (.int .u32 0)], .agg [.lit (.int .u32 194), .lit (.int .u32 223), .lit (.int .u32 31), .lit (.int .u32 1), .lit (.int .u32 128), .lit (.int .u32 191)], .agg [.lit (.int .u32 224), .lit (.int .u32 224), .lit (.int .u32 15), .lit (.int .u32 2), .lit (.int .u32 160), .lit (.int .u32 191)], .agg [.lit (.int .u32 225), .lit (.int .u32 236), .lit (.int .u32 15), .lit (.int .u32 2), .lit (.int .u32 128), .lit (.int .u32 191)], .agg [.lit (.int .u32 237), .lit (.int .u32 237), .lit (.int .u32 15), .lit (.int .u32 2), .lit (.int .u32 128), .lit (.int .u32 159)], .agg [.lit (.int .u32 238), .lit (.int .u32 239), .lit (.int .u32 15), .lit (.int .u32 2), .lit (.int .u32 128), .lit (.int .u32 191)], .agg [.lit (.int .u32 240), .lit (.int .u32 240), .lit (.int .u32 7), .lit (.int .u32 3), .lit (.int .u32 144), .lit (.int .u32 191)], .agg [.lit (.int .u32 241), .lit (.int .u32 243), .lit (.int .u32 7), .lit (.int .u32 3), .lit (.int .u32 128), .lit (.int .u32 191)], .agg [.lit (.int .u32 244), .lit (.int .u32 244), .lit (.int .u32 7), .lit (.int .u32 3), .lit (.int .u32 128), .lit (.int .u32 143)]]

/-- 'sabretachelaw10.UnutfEncodes': WHATEVER THE INPUT: true; the input reads as it did. -/
def unutfEncodesSpec : ChangeSpec := { name := "unutfEncodes", fn := fun _ => fun
  | [d1, d2, d3] => { results := [.lit (.bool true)], args := [d1, d2, d3] }
  | _ => none }
def unutfEncodesRow : OpenClaim := { program := "ytjcnkigadlmpgaadoor", sum := "1d97af920ccdba2504c20010fb00d9e154ee0d6344e917a5714b3adc8e67083c", func := "sabretache/sabretachelaw10.UnutfEncodes", spec := "unutfEncodes", unfollowed := true, recurses := true, named := ["sabretache/unutf.places"], apart := false, laid := [("sabretache/unutf.places", laid_sabretache_unutf_places)] }
def UnutfEncodesSaid : Prop := unutfEncodesRow.holds Tryd.pinned (OpenSpec.ofChange unutfEncodesSpec)

/-- ITS FALSE NEIGHBOUR: 'it returns false'. Refute it at one input. -/
def unutfEncodesWrong : ChangeSpec := { name := "unutfEncodes", fn := fun _ => fun
  | [d1, d2, d3] => { results := [.lit (.bool false)], args := [d1, d2, d3] }
  | _ => none }
def UnutfEncodesWrongFalsely : Prop := unutfEncodesRow.holds Tryd.pinned (OpenSpec.ofChange unutfEncodesWrong)

/-- 'sabretachelaw10.UnutfBack': WHATEVER THE INPUT: true; the input reads as it did. -/
def unutfBackSpec : ChangeSpec := { name := "unutfBack", fn := fun _ => fun
  | [d] => { results := [.lit (.bool true)], args := [d] }
  | _ => none }
def unutfBackRow : OpenClaim := { program := "ytjcnkigadlmpgaadoor", sum := "1d97af920ccdba2504c20010fb00d9e154ee0d6344e917a5714b3adc8e67083c", func := "sabretache/sabretachelaw10.UnutfBack", spec := "unutfBack", unfollowed := true, recurses := true, named := ["sabretache/unutf.places", "sabretache/utf.leads"], apart := false, laid := [("sabretache/unutf.places", laid_sabretache_unutf_places), ("sabretache/utf.leads", laid_sabretache_utf_leads)] }
def UnutfBackSaid : Prop := unutfBackRow.holds Tryd.pinned (OpenSpec.ofChange unutfBackSpec)

/-- ITS FALSE NEIGHBOUR: 'it returns false'. Refute it at one input. -/
def unutfBackWrong : ChangeSpec := { name := "unutfBack", fn := fun _ => fun
  | [d] => { results := [.lit (.bool false)], args := [d] }
  | _ => none }
def UnutfBackWrongFalsely : Prop := unutfBackRow.holds Tryd.pinned (OpenSpec.ofChange unutfBackWrong)

/-- 'sabretachelaw10.UnutfRefuses': WHATEVER THE INPUT: true; the input reads as it did. -/
def unutfRefusesSpec : ChangeSpec := { name := "unutfRefuses", fn := fun _ => fun
  | [d1, d2, d3] => { results := [.lit (.bool true)], args := [d1, d2, d3] }
  | _ => none }
def unutfRefusesRow : OpenClaim := { program := "ytjcnkigadlmpgaadoor", sum := "1d97af920ccdba2504c20010fb00d9e154ee0d6344e917a5714b3adc8e67083c", func := "sabretache/sabretachelaw10.UnutfRefuses", spec := "unutfRefuses", unfollowed := true, recurses := true, named := ["sabretache/unutf.places"], apart := false, laid := [("sabretache/unutf.places", laid_sabretache_unutf_places)] }
def UnutfRefusesSaid : Prop := unutfRefusesRow.holds Tryd.pinned (OpenSpec.ofChange unutfRefusesSpec)

/-- ITS FALSE NEIGHBOUR: 'it returns false'. Refute it at one input. -/
def unutfRefusesWrong : ChangeSpec := { name := "unutfRefuses", fn := fun _ => fun
  | [d1, d2, d3] => { results := [.lit (.bool false)], args := [d1, d2, d3] }
  | _ => none }
def UnutfRefusesWrongFalsely : Prop := unutfRefusesRow.holds Tryd.pinned (OpenSpec.ofChange unutfRefusesWrong)

/- THE SECOND FORM. 'bulk': how many values and letters a reading holds, each counted each time it is reached (what is shared counts as often as it is met; a slice's spare places count too). A statement '..UptoSaid' is the law's where the arguments, and the package variables that the reading takes, are together of bulk at most 1048576: NARROWER than '..Said'. Prove '..Said' where nothing that the law and all that it calls make is longer than what came in: it says more and counts as full. Else prove '..UptoSaid'. A law counts once. -/
mutual
def uptoBulk {H : Type} : DataW H → Nat
  | .lit (.string bytes) => bytes.length + 1
  | .lit _ => 1
  | .nil => 1
  | .ptr d => uptoBulk d + 1
  | .slice elems spare => uptoBulkAll elems + uptoBulkAll spare + 1
  | .agg parts => uptoBulkAll parts + 1
  | .iface _ d => uptoBulk d + 1
  | .map entries => uptoBulkEntries entries + 1
  | .held _ => 1
def uptoBulkAll {H : Type} : List (DataW H) → Nat
  | [] => 0
  | d :: r => uptoBulk d + uptoBulkAll r
def uptoBulkEntries {H : Type} : List (Lit × DataW H) → Nat
  | [] => 0
  | x :: r => uptoBulkEntry x + uptoBulkEntries r
def uptoBulkEntry {H : Type} : Lit × DataW H → Nat
  | (.string bytes, d) => bytes.length + uptoBulk d + 1
  | (_, d) => uptoBulk d + 1
 end
def uptoSmall : (H : Type) → List (DataW H) → Bool := fun _ ds => decide (uptoBulkAll ds ≤ 1048576)
def OpenSpec.upto (s : _root_.Go.ChangeSpec) : _root_.Go.OpenSpec := { _root_.Go.OpenSpec.ofChange s with cond := some uptoSmall }

/-- 'sabretachelaw10.UnutfEncodes', WHERE WHAT IT READS IS OF BULK AT MOST 1048576: true; the input reads as it did. -/
def unutfEncodesUptoRow : OpenClaim := { program := "ytjcnkigadlmpgaadoor", sum := "1d97af920ccdba2504c20010fb00d9e154ee0d6344e917a5714b3adc8e67083c", func := "sabretache/sabretachelaw10.UnutfEncodes", spec := "unutfEncodes", unfollowed := true, recurses := true, named := ["sabretache/unutf.places"], apart := false, laid := [("sabretache/unutf.places", laid_sabretache_unutf_places)], narrowed := true }
def UnutfEncodesUptoSaid : Prop := unutfEncodesUptoRow.holds Tryd.pinned (OpenSpec.upto unutfEncodesSpec)

/-- 'sabretachelaw10.UnutfBack', WHERE WHAT IT READS IS OF BULK AT MOST 1048576: true; the input reads as it did. -/
def unutfBackUptoRow : OpenClaim := { program := "ytjcnkigadlmpgaadoor", sum := "1d97af920ccdba2504c20010fb00d9e154ee0d6344e917a5714b3adc8e67083c", func := "sabretache/sabretachelaw10.UnutfBack", spec := "unutfBack", unfollowed := true, recurses := true, named := ["sabretache/unutf.places", "sabretache/utf.leads"], apart := false, laid := [("sabretache/unutf.places", laid_sabretache_unutf_places), ("sabretache/utf.leads", laid_sabretache_utf_leads)], narrowed := true }
def UnutfBackUptoSaid : Prop := unutfBackUptoRow.holds Tryd.pinned (OpenSpec.upto unutfBackSpec)

/-- 'sabretachelaw10.UnutfRefuses', WHERE WHAT IT READS IS OF BULK AT MOST 1048576: true; the input reads as it did. -/
def unutfRefusesUptoRow : OpenClaim := { program := "ytjcnkigadlmpgaadoor", sum := "1d97af920ccdba2504c20010fb00d9e154ee0d6344e917a5714b3adc8e67083c", func := "sabretache/sabretachelaw10.UnutfRefuses", spec := "unutfRefuses", unfollowed := true, recurses := true, named := ["sabretache/unutf.places"], apart := false, laid := [("sabretache/unutf.places", laid_sabretache_unutf_places)], narrowed := true }
def UnutfRefusesUptoSaid : Prop := unutfRefusesUptoRow.holds Tryd.pinned (OpenSpec.upto unutfRefusesSpec)

end Rows
end Go.Proofs.YtjcnkigadlmpgaaDoor
