/-
  No cell of these rows narrows 'for every input' (looked for: loops, veiled, ifaces, maps, wideKeys, modest, calm, conditions, laid).
  DERIVED. THE GIVEN ROWS OF THIS SEAT. 3 by the template 'for every input the law returns true; each argument reads behind the call as it read before'; 0 by the template 'total and deterministic' (their statements: YtnnmaegpiddnbaaTotals.lean).
  GIVEN WITH THE SEED: the statements are not yours to turn. If you find one false, say at which input.
  Laid BY PROGRAM, IN A SANDBOX (cutbox-rows.mjs): the forced cells as the released guide's own fill.sh prints them over the translation f1f9e80678834ad7… (all of the seat's roots in one cut). By AI agents, Wed Nov 11 2026. No macro, syntax, notation, axiom, sorry.
-/
import Derived.Test.YtnnmaegpiddnbaaChecked
import GoSem.Claim
import GoSem.ClaimJoined
import GoSem.ClaimMapViews
import Derived.JoinedTies
import Derived.KernelRfl
namespace Go.Proofs.Ytnnmaegpiddnbaa
/- THE CELL 'sum', in the pinned program and in every row, IS THE sha256 OF THE DUMP (.gsa) THAT YtnnmaegpiddnbaaProg.lean LOADS. Nothing in Lean hashes anything: it is a label: what it is worth is what the hold of that sum in a sandbox is worth. -/
noncomputable def Try.pinned : Pinned := { name := "ytnnmaegpiddnbaa", sum := "f1f9e80678834ad7f59ceffa9b56359f229e96a6f9f3fe41fb89a4f299f9f73a", checked := Try.checked }
namespace Rows
def none {H : Type} : Left H := { results := [], args := [] }

/-- 'sabretachelaw05.ScanRuns': WHATEVER THE INPUT: true; the input reads as it did. -/
def scanRunsSpec : ChangeSpec := { name := "scanRuns", fn := fun _ => fun
  | [d1, d2] => { results := [.lit (.bool true)], args := [d1, d2] }
  | _ => none }
def scanRunsRow : OpenClaim := { program := "ytnnmaegpiddnbaa", sum := "f1f9e80678834ad7f59ceffa9b56359f229e96a6f9f3fe41fb89a4f299f9f73a", func := "sabretache/sabretachelaw05.ScanRuns", spec := "scanRuns", apart := false }
def ScanRunsSaid : Prop := scanRunsRow.holds Try.pinned (OpenSpec.ofChange scanRunsSpec)

/-- ITS FALSE NEIGHBOUR: 'it returns false'. Refute it at one input. -/
def scanRunsWrong : ChangeSpec := { name := "scanRuns", fn := fun _ => fun
  | [d1, d2] => { results := [.lit (.bool false)], args := [d1, d2] }
  | _ => none }
def ScanRunsWrongFalsely : Prop := scanRunsRow.holds Try.pinned (OpenSpec.ofChange scanRunsWrong)

/-- 'sabretachelaw05.ScanCarries': WHATEVER THE INPUT: true; the input reads as it did. -/
def scanCarriesSpec : ChangeSpec := { name := "scanCarries", fn := fun _ => fun
  | [d1, d2, d3] => { results := [.lit (.bool true)], args := [d1, d2, d3] }
  | _ => none }
def scanCarriesRow : OpenClaim := { program := "ytnnmaegpiddnbaa", sum := "f1f9e80678834ad7f59ceffa9b56359f229e96a6f9f3fe41fb89a4f299f9f73a", func := "sabretache/sabretachelaw05.ScanCarries", spec := "scanCarries", unfollowed := true, recurses := true, apart := false }
def ScanCarriesSaid : Prop := scanCarriesRow.holds Try.pinned (OpenSpec.ofChange scanCarriesSpec)

/-- ITS FALSE NEIGHBOUR: 'it returns false'. Refute it at one input. -/
def scanCarriesWrong : ChangeSpec := { name := "scanCarries", fn := fun _ => fun
  | [d1, d2, d3] => { results := [.lit (.bool false)], args := [d1, d2, d3] }
  | _ => none }
def ScanCarriesWrongFalsely : Prop := scanCarriesRow.holds Try.pinned (OpenSpec.ofChange scanCarriesWrong)

/-- 'sabretachelaw05.ScanRefuses': WHATEVER THE INPUT: true; the input reads as it did. -/
def scanRefusesSpec : ChangeSpec := { name := "scanRefuses", fn := fun _ => fun
  | [d1, d2, d3] => { results := [.lit (.bool true)], args := [d1, d2, d3] }
  | _ => none }
def scanRefusesRow : OpenClaim := { program := "ytnnmaegpiddnbaa", sum := "f1f9e80678834ad7f59ceffa9b56359f229e96a6f9f3fe41fb89a4f299f9f73a", func := "sabretache/sabretachelaw05.ScanRefuses", spec := "scanRefuses", unfollowed := true, recurses := true, apart := false }
def ScanRefusesSaid : Prop := scanRefusesRow.holds Try.pinned (OpenSpec.ofChange scanRefusesSpec)

/-- ITS FALSE NEIGHBOUR: 'it returns false'. Refute it at one input. -/
def scanRefusesWrong : ChangeSpec := { name := "scanRefuses", fn := fun _ => fun
  | [d1, d2, d3] => { results := [.lit (.bool false)], args := [d1, d2, d3] }
  | _ => none }
def ScanRefusesWrongFalsely : Prop := scanRefusesRow.holds Try.pinned (OpenSpec.ofChange scanRefusesWrong)

/- THE SECOND FORM. 'bulk': how many values and letters a reading holds, each counted each time it is reached (what is shared counts as often as it is met; a slice's spare places count too). A statement '..UptoSaid' is the law's where the arguments, and the package variables that the reading takes, are together of bulk at most 1048576: NARROWER than '..Said'. Prove '..Said' where nothing that the law and all that it calls make is longer than what came in: it says more and counts as full. Else prove '..UptoSaid'. A law counts once. -/
mutual
def uptoBulk {H : Type} : DataW H → Nat
  | .lit (.string bytes) => bytes.length + 1
  | .lit _ => 1
  | .nil => 1
  | .ptr d => uptoBulk d + 1
  | .slice elems spare => uptoBulkAll elems + uptoBulkAll spare + 1
  | .agg parts => uptoBulkAll parts + 1
  | .iface _ d => uptoBulk d + 1
  | .map entries => uptoBulkEntries entries + 1
  | .held _ => 1
def uptoBulkAll {H : Type} : List (DataW H) → Nat
  | [] => 0
  | d :: r => uptoBulk d + uptoBulkAll r
def uptoBulkEntries {H : Type} : List (Lit × DataW H) → Nat
  | [] => 0
  | x :: r => uptoBulkEntry x + uptoBulkEntries r
def uptoBulkEntry {H : Type} : Lit × DataW H → Nat
  | (.string bytes, d) => bytes.length + uptoBulk d + 1
  | (_, d) => uptoBulk d + 1
 end
def uptoSmall : (H : Type) → List (DataW H) → Bool := fun _ ds => decide (uptoBulkAll ds ≤ 1048576)
def OpenSpec.upto (s : _root_.Go.ChangeSpec) : _root_.Go.OpenSpec := { _root_.Go.OpenSpec.ofChange s with cond := some uptoSmall }

/-- 'sabretachelaw05.ScanRuns', WHERE WHAT IT READS IS OF BULK AT MOST 1048576: true; the input reads as it did. -/
def scanRunsUptoRow : OpenClaim := { program := "ytnnmaegpiddnbaa", sum := "f1f9e80678834ad7f59ceffa9b56359f229e96a6f9f3fe41fb89a4f299f9f73a", func := "sabretache/sabretachelaw05.ScanRuns", spec := "scanRuns", apart := false, narrowed := true }
def ScanRunsUptoSaid : Prop := scanRunsUptoRow.holds Try.pinned (OpenSpec.upto scanRunsSpec)

/-- 'sabretachelaw05.ScanCarries', WHERE WHAT IT READS IS OF BULK AT MOST 1048576: true; the input reads as it did. -/
def scanCarriesUptoRow : OpenClaim := { program := "ytnnmaegpiddnbaa", sum := "f1f9e80678834ad7f59ceffa9b56359f229e96a6f9f3fe41fb89a4f299f9f73a", func := "sabretache/sabretachelaw05.ScanCarries", spec := "scanCarries", unfollowed := true, recurses := true, apart := false, narrowed := true }
def ScanCarriesUptoSaid : Prop := scanCarriesUptoRow.holds Try.pinned (OpenSpec.upto scanCarriesSpec)

/-- 'sabretachelaw05.ScanRefuses', WHERE WHAT IT READS IS OF BULK AT MOST 1048576: true; the input reads as it did. -/
def scanRefusesUptoRow : OpenClaim := { program := "ytnnmaegpiddnbaa", sum := "f1f9e80678834ad7f59ceffa9b56359f229e96a6f9f3fe41fb89a4f299f9f73a", func := "sabretache/sabretachelaw05.ScanRefuses", spec := "scanRefuses", unfollowed := true, recurses := true, apart := false, narrowed := true }
def ScanRefusesUptoSaid : Prop := scanRefusesUptoRow.holds Try.pinned (OpenSpec.upto scanRefusesSpec)

end Rows
end Go.Proofs.Ytnnmaegpiddnbaa
