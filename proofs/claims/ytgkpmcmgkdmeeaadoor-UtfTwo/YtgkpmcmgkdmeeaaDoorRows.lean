/-
  NARROWER THAN 'FOR EVERY INPUT', by the rows' own cells (each row's printed sentence says how): UtfDecodes: laid · UtfBlind: laid · UtfTwo: laid · UtfRefuses: laid.
  DERIVED. THE GIVEN ROWS OF THIS SEAT. 4 by the template 'for every input the law returns true; each argument reads behind the call as it read before'; 0 by the template 'total and deterministic' (their statements: YtgkpmcmgkdmeeaaDoorTotals.lean).
  GIVEN WITH THE SEED: the statements are not yours to turn. If you find one false, say at which input.
  Laid BY PROGRAM, IN A SANDBOX (cutbox-rows.mjs): the forced cells as the released guide's own fill.sh prints them over the translation 35c6aadefa7bfc53… (all of the seat's roots in one cut). By AI agents, Wed Nov 11 2026. No macro, syntax, notation, axiom, sorry.
-/
import Derived.Test.YtgkpmcmgkdmeeaaDoorChecked
import GoSem.Claim
import GoSem.ClaimJoined
import GoSem.ClaimMapViews
import Derived.JoinedTies
import Derived.KernelRfl
namespace Go.Proofs.YtgkpmcmgkdmeeaaDoor
/- THE CELL 'sum', in the pinned program and in every row, IS THE sha256 OF THE DUMP (.gsa) THAT YtgkpmcmgkdmeeaaDoorProg.lean LOADS. Nothing in Lean hashes anything: it is a label: what it is worth is what the hold of that sum in a sandbox is worth. -/
noncomputable def Tryd.pinned : Pinned := { name := "ytgkpmcmgkdmeeaadoor", sum := "35c6aadefa7bfc53dca62e613cd4ecc23b85cc6e62251153057f715517d27f89", checked := Tryd.checked }
namespace Rows
def none {H : Type} : Left H := { results := [], args := [] }

/- WHAT THE LISTED PACKAGE-LEVEL VARIABLES READ AS WHEN THE CALL BEGINS. Each datum BY PROGRAM (the guide's laid-datum.mjs) off the statement by which the dump's own 'gosem.cut.vars' lays the variable. In a bare row this is a premise. The card (YtgkpmcmgkdmeeaaDoorCards.lean) ties it to the program's text. -/
def laid_sabretache_utf_leads {H : Type} : DataW H := .agg [.agg [.lit (.int .u32 0), .lit (.int .u32 127), .lit (.int .u32 127), .lit (.int .u32 0), .lit (.int .u32 0), .lit (.int .u32 0)], .agg [.lit (.int .u32 194), .lit (.int .u32 223), .lit (.int .u32 31), .lit (.int .u32 1), .lit (.int .u32 128), .lit (.int .u32 191)], .agg [.lit (.int .u32 224), .lit (.int .u32 224), .lit (.int .u32 15), .lit (.int .u32 2), .lit (.int .u32 160), .lit (.int .u32 191)], .agg [.lit (.int .u32 225), .lit (.int .u32 236), .lit (.int .u32 15), .lit (.int .u32 2), .lit (.int .u32 128), .lit (.int .u32 191)], .agg [.lit (.int .u32 237), .lit (.int .u32 237), .lit (.int .u32 15), .lit (.int .u32 2), .lit (.int .u32 128), .lit (.int .u32 159)], .agg [.lit (.int .u32 238), .lit (.int .u32 239), .lit (.int .u32 15), .lit (.int .u32 2), .lit (.int .u32 128), .lit (.int .u32 191)], .agg [.lit (.int .u32 240), .lit (.int .u32 240), .lit (.int .u32 7), .lit (.int .u32 3), .lit (.int .u32 144), .lit (.int .u32 191)], .agg [.lit (.int .u32 241), .lit (.int .u32 243), .lit (.int .u32 7), .lit (.int .u32 3), .lit (.int .u32 128), .lit (.int .u32 191)], .agg [.lit (.int .u32 244), .lit (.int .u32 244), .lit (.int .u32 7), .lit (.int .u32 3), .lit (.int .u32 128), .lit (.int .u32 143)]]

/-- 'sabretachelaw09.UtfDecodes': WHATEVER THE INPUT: true; the input reads as it did. -/
def utfDecodesSpec : ChangeSpec := { name := "utfDecodes", fn := fun _ => fun
  | [d1, d2, d3] => { results := [.lit (.bool true)], args := [d1, d2, d3] }
  | _ => none }
def utfDecodesRow : OpenClaim := { program := "ytgkpmcmgkdmeeaadoor", sum := "35c6aadefa7bfc53dca62e613cd4ecc23b85cc6e62251153057f715517d27f89", func := "sabretache/sabretachelaw09.UtfDecodes", spec := "utfDecodes", unfollowed := true, recurses := true, named := ["sabretache/utf.leads"], apart := false, laid := [("sabretache/utf.leads", laid_sabretache_utf_leads)] }
def UtfDecodesSaid : Prop := utfDecodesRow.holds Tryd.pinned (OpenSpec.ofChange utfDecodesSpec)

/-- ITS FALSE NEIGHBOUR: 'it returns false'. Refute it at one input. -/
def utfDecodesWrong : ChangeSpec := { name := "utfDecodes", fn := fun _ => fun
  | [d1, d2, d3] => { results := [.lit (.bool false)], args := [d1, d2, d3] }
  | _ => none }
def UtfDecodesWrongFalsely : Prop := utfDecodesRow.holds Tryd.pinned (OpenSpec.ofChange utfDecodesWrong)

/-- 'sabretachelaw09.UtfBlind': WHATEVER THE INPUT: true; the input reads as it did. -/
def utfBlindSpec : ChangeSpec := { name := "utfBlind", fn := fun _ => fun
  | [d1, d2] => { results := [.lit (.bool true)], args := [d1, d2] }
  | _ => none }
def utfBlindRow : OpenClaim := { program := "ytgkpmcmgkdmeeaadoor", sum := "35c6aadefa7bfc53dca62e613cd4ecc23b85cc6e62251153057f715517d27f89", func := "sabretache/sabretachelaw09.UtfBlind", spec := "utfBlind", unfollowed := true, recurses := true, named := ["sabretache/utf.leads"], apart := false, laid := [("sabretache/utf.leads", laid_sabretache_utf_leads)] }
def UtfBlindSaid : Prop := utfBlindRow.holds Tryd.pinned (OpenSpec.ofChange utfBlindSpec)

/-- ITS FALSE NEIGHBOUR: 'it returns false'. Refute it at one input. -/
def utfBlindWrong : ChangeSpec := { name := "utfBlind", fn := fun _ => fun
  | [d1, d2] => { results := [.lit (.bool false)], args := [d1, d2] }
  | _ => none }
def UtfBlindWrongFalsely : Prop := utfBlindRow.holds Tryd.pinned (OpenSpec.ofChange utfBlindWrong)

/-- 'sabretachelaw09.UtfTwo': WHATEVER THE INPUT: true; the input reads as it did. -/
def utfTwoSpec : ChangeSpec := { name := "utfTwo", fn := fun _ => fun
  | [d1, d2] => { results := [.lit (.bool true)], args := [d1, d2] }
  | _ => none }
def utfTwoRow : OpenClaim := { program := "ytgkpmcmgkdmeeaadoor", sum := "35c6aadefa7bfc53dca62e613cd4ecc23b85cc6e62251153057f715517d27f89", func := "sabretache/sabretachelaw09.UtfTwo", spec := "utfTwo", unfollowed := true, recurses := true, named := ["sabretache/utf.leads"], apart := false, laid := [("sabretache/utf.leads", laid_sabretache_utf_leads)] }
def UtfTwoSaid : Prop := utfTwoRow.holds Tryd.pinned (OpenSpec.ofChange utfTwoSpec)

/-- ITS FALSE NEIGHBOUR: 'it returns false'. Refute it at one input. -/
def utfTwoWrong : ChangeSpec := { name := "utfTwo", fn := fun _ => fun
  | [d1, d2] => { results := [.lit (.bool false)], args := [d1, d2] }
  | _ => none }
def UtfTwoWrongFalsely : Prop := utfTwoRow.holds Tryd.pinned (OpenSpec.ofChange utfTwoWrong)

/-- 'sabretachelaw09.UtfRefuses': WHATEVER THE INPUT: true; the input reads as it did. -/
def utfRefusesSpec : ChangeSpec := { name := "utfRefuses", fn := fun _ => fun
  | [d1, d2] => { results := [.lit (.bool true)], args := [d1, d2] }
  | _ => none }
def utfRefusesRow : OpenClaim := { program := "ytgkpmcmgkdmeeaadoor", sum := "35c6aadefa7bfc53dca62e613cd4ecc23b85cc6e62251153057f715517d27f89", func := "sabretache/sabretachelaw09.UtfRefuses", spec := "utfRefuses", unfollowed := true, recurses := true, named := ["sabretache/utf.leads"], apart := false, laid := [("sabretache/utf.leads", laid_sabretache_utf_leads)] }
def UtfRefusesSaid : Prop := utfRefusesRow.holds Tryd.pinned (OpenSpec.ofChange utfRefusesSpec)

/-- ITS FALSE NEIGHBOUR: 'it returns false'. Refute it at one input. -/
def utfRefusesWrong : ChangeSpec := { name := "utfRefuses", fn := fun _ => fun
  | [d1, d2] => { results := [.lit (.bool false)], args := [d1, d2] }
  | _ => none }
def UtfRefusesWrongFalsely : Prop := utfRefusesRow.holds Tryd.pinned (OpenSpec.ofChange utfRefusesWrong)

/- THE SECOND FORM. 'bulk': how many values and letters a reading holds, each counted each time it is reached (what is shared counts as often as it is met; a slice's spare places count too). A statement '..UptoSaid' is the law's where the arguments, and the package variables that the reading takes, are together of bulk at most 1048576: NARROWER than '..Said'. Prove '..Said' where nothing that the law and all that it calls make is longer than what came in: it says more and counts as full. Else prove '..UptoSaid'. A law counts once. -/
mutual
def uptoBulk {H : Type} : DataW H → Nat
  | .lit (.string bytes) => bytes.length + 1
  | .lit _ => 1
  | .nil => 1
  | .ptr d => uptoBulk d + 1
  | .slice elems spare => uptoBulkAll elems + uptoBulkAll spare + 1
  | .agg parts => uptoBulkAll parts + 1
  | .iface _ d => uptoBulk d + 1
  | .map entries => uptoBulkEntries entries + 1
  | .held _ => 1
def uptoBulkAll {H : Type} : List (DataW H) → Nat
  | [] => 0
  | d :: r => uptoBulk d + uptoBulkAll r
def uptoBulkEntries {H : Type} : List (Lit × DataW H) → Nat
  | [] => 0
  | x :: r => uptoBulkEntry x + uptoBulkEntries r
def uptoBulkEntry {H : Type} : Lit × DataW H → Nat
  | (.string bytes, d) => bytes.length + uptoBulk d + 1
  | (_, d) => uptoBulk d + 1
 end
def uptoSmall : (H : Type) → List (DataW H) → Bool := fun _ ds => decide (uptoBulkAll ds ≤ 1048576)
def OpenSpec.upto (s : _root_.Go.ChangeSpec) : _root_.Go.OpenSpec := { _root_.Go.OpenSpec.ofChange s with cond := some uptoSmall }

/-- 'sabretachelaw09.UtfDecodes', WHERE WHAT IT READS IS OF BULK AT MOST 1048576: true; the input reads as it did. -/
def utfDecodesUptoRow : OpenClaim := { program := "ytgkpmcmgkdmeeaadoor", sum := "35c6aadefa7bfc53dca62e613cd4ecc23b85cc6e62251153057f715517d27f89", func := "sabretache/sabretachelaw09.UtfDecodes", spec := "utfDecodes", unfollowed := true, recurses := true, named := ["sabretache/utf.leads"], apart := false, laid := [("sabretache/utf.leads", laid_sabretache_utf_leads)], narrowed := true }
def UtfDecodesUptoSaid : Prop := utfDecodesUptoRow.holds Tryd.pinned (OpenSpec.upto utfDecodesSpec)

/-- 'sabretachelaw09.UtfBlind', WHERE WHAT IT READS IS OF BULK AT MOST 1048576: true; the input reads as it did. -/
def utfBlindUptoRow : OpenClaim := { program := "ytgkpmcmgkdmeeaadoor", sum := "35c6aadefa7bfc53dca62e613cd4ecc23b85cc6e62251153057f715517d27f89", func := "sabretache/sabretachelaw09.UtfBlind", spec := "utfBlind", unfollowed := true, recurses := true, named := ["sabretache/utf.leads"], apart := false, laid := [("sabretache/utf.leads", laid_sabretache_utf_leads)], narrowed := true }
def UtfBlindUptoSaid : Prop := utfBlindUptoRow.holds Tryd.pinned (OpenSpec.upto utfBlindSpec)

/-- 'sabretachelaw09.UtfTwo', WHERE WHAT IT READS IS OF BULK AT MOST 1048576: true; the input reads as it did. -/
def utfTwoUptoRow : OpenClaim := { program := "ytgkpmcmgkdmeeaadoor", sum := "35c6aadefa7bfc53dca62e613cd4ecc23b85cc6e62251153057f715517d27f89", func := "sabretache/sabretachelaw09.UtfTwo", spec := "utfTwo", unfollowed := true, recurses := true, named := ["sabretache/utf.leads"], apart := false, laid := [("sabretache/utf.leads", laid_sabretache_utf_leads)], narrowed := true }
def UtfTwoUptoSaid : Prop := utfTwoUptoRow.holds Tryd.pinned (OpenSpec.upto utfTwoSpec)

/-- 'sabretachelaw09.UtfRefuses', WHERE WHAT IT READS IS OF BULK AT MOST 1048576: true; the input reads as it did. -/
def utfRefusesUptoRow : OpenClaim := { program := "ytgkpmcmgkdmeeaadoor", sum := "35c6aadefa7bfc53dca62e613cd4ecc23b85cc6e62251153057f715517d27f89", func := "sabretache/sabretachelaw09.UtfRefuses", spec := "utfRefuses", unfollowed := true, recurses := true, named := ["sabretache/utf.leads"], apart := false, laid := [("sabretache/utf.leads", laid_sabretache_utf_leads)], narrowed := true }
def UtfRefusesUptoSaid : Prop := utfRefusesUptoRow.holds Tryd.pinned (OpenSpec.upto utfRefusesSpec)

end Rows
end Go.Proofs.YtgkpmcmgkdmeeaaDoor
