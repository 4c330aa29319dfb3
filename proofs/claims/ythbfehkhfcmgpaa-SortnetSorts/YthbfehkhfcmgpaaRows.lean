/-
  No cell of these rows narrows 'for every input' (looked for: loops, veiled, ifaces, maps, wideKeys, modest, calm, conditions, laid).
  DERIVED. THE GIVEN ROWS OF THIS SEAT. 4 by the template 'for every input the law returns true; each argument reads behind the call as it read before'; 0 by the template 'total and deterministic' (their statements: YthbfehkhfcmgpaaTotals.lean).
  GIVEN WITH THE SEED: the statements are not yours to turn. If you find one false, say at which input.
  Laid BY PROGRAM, IN A SANDBOX (cutbox-rows.mjs): the forced cells as the released guide's own fill.sh prints them over the translation 784ac72d920f530f… (all of the seat's roots in one cut). By AI agents, Wed Nov 11 2026. No macro, syntax, notation, axiom, sorry.
-/
import Derived.Test.YthbfehkhfcmgpaaChecked
import GoSem.Claim
import GoSem.ClaimJoined
import GoSem.ClaimMapViews
import Derived.JoinedTies
import Derived.KernelRfl
namespace Go.Proofs.Ythbfehkhfcmgpaa
/- THE CELL 'sum', in the pinned program and in every row, IS THE sha256 OF THE DUMP (.gsa) THAT YthbfehkhfcmgpaaProg.lean LOADS. Nothing in Lean hashes anything: it is a label: what it is worth is what the hold of that sum in a sandbox is worth. -/
noncomputable def Try.pinned : Pinned := { name := "ythbfehkhfcmgpaa", sum := "784ac72d920f530f2491f1f03f199f590b7990616d77892fc457b971f181cd0d", checked := Try.checked }
namespace Rows
def none {H : Type} : Left H := { results := [], args := [] }

/-- 'sabretachelaw03.SortnetSorts': WHATEVER THE INPUT: true; the input reads as it did. -/
def sortnetSortsSpec : ChangeSpec := { name := "sortnetSorts", fn := fun _ => fun
  | [d] => { results := [.lit (.bool true)], args := [d] }
  | _ => none }
def sortnetSortsRow : OpenClaim := { program := "ythbfehkhfcmgpaa", sum := "784ac72d920f530f2491f1f03f199f590b7990616d77892fc457b971f181cd0d", func := "sabretache/sabretachelaw03.SortnetSorts", spec := "sortnetSorts", apart := false }
def SortnetSortsSaid : Prop := sortnetSortsRow.holds Try.pinned (OpenSpec.ofChange sortnetSortsSpec)

/-- ITS FALSE NEIGHBOUR: 'it returns false'. Refute it at one input. -/
def sortnetSortsWrong : ChangeSpec := { name := "sortnetSorts", fn := fun _ => fun
  | [d] => { results := [.lit (.bool false)], args := [d] }
  | _ => none }
def SortnetSortsWrongFalsely : Prop := sortnetSortsRow.holds Try.pinned (OpenSpec.ofChange sortnetSortsWrong)

/-- 'sabretachelaw03.SortnetApplies': WHATEVER THE INPUT: true; the input reads as it did. -/
def sortnetAppliesSpec : ChangeSpec := { name := "sortnetApplies", fn := fun _ => fun
  | [d1, d2] => { results := [.lit (.bool true)], args := [d1, d2] }
  | _ => none }
def sortnetAppliesRow : OpenClaim := { program := "ythbfehkhfcmgpaa", sum := "784ac72d920f530f2491f1f03f199f590b7990616d77892fc457b971f181cd0d", func := "sabretache/sabretachelaw03.SortnetApplies", spec := "sortnetApplies", apart := false }
def SortnetAppliesSaid : Prop := sortnetAppliesRow.holds Try.pinned (OpenSpec.ofChange sortnetAppliesSpec)

/-- ITS FALSE NEIGHBOUR: 'it returns false'. Refute it at one input. -/
def sortnetAppliesWrong : ChangeSpec := { name := "sortnetApplies", fn := fun _ => fun
  | [d1, d2] => { results := [.lit (.bool false)], args := [d1, d2] }
  | _ => none }
def SortnetAppliesWrongFalsely : Prop := sortnetAppliesRow.holds Try.pinned (OpenSpec.ofChange sortnetAppliesWrong)

/-- 'sabretachelaw03.SortnetCounts': WHATEVER THE INPUT: true; the input reads as it did. -/
def sortnetCountsSpec : ChangeSpec := { name := "sortnetCounts", fn := fun _ => fun
  | [d1, d2] => { results := [.lit (.bool true)], args := [d1, d2] }
  | _ => none }
def sortnetCountsRow : OpenClaim := { program := "ythbfehkhfcmgpaa", sum := "784ac72d920f530f2491f1f03f199f590b7990616d77892fc457b971f181cd0d", func := "sabretache/sabretachelaw03.SortnetCounts", spec := "sortnetCounts", apart := false }
def SortnetCountsSaid : Prop := sortnetCountsRow.holds Try.pinned (OpenSpec.ofChange sortnetCountsSpec)

/-- ITS FALSE NEIGHBOUR: 'it returns false'. Refute it at one input. -/
def sortnetCountsWrong : ChangeSpec := { name := "sortnetCounts", fn := fun _ => fun
  | [d1, d2] => { results := [.lit (.bool false)], args := [d1, d2] }
  | _ => none }
def SortnetCountsWrongFalsely : Prop := sortnetCountsRow.holds Try.pinned (OpenSpec.ofChange sortnetCountsWrong)

/-- 'sabretachelaw03.SortnetTuples': WHATEVER THE INPUT: true; the input reads as it did. -/
def sortnetTuplesSpec : ChangeSpec := { name := "sortnetTuples", fn := fun _ => fun
  | [d1, d2, d3] => { results := [.lit (.bool true)], args := [d1, d2, d3] }
  | _ => none }
def sortnetTuplesRow : OpenClaim := { program := "ythbfehkhfcmgpaa", sum := "784ac72d920f530f2491f1f03f199f590b7990616d77892fc457b971f181cd0d", func := "sabretache/sabretachelaw03.SortnetTuples", spec := "sortnetTuples", unfollowed := true, recurses := true, apart := false }
def SortnetTuplesSaid : Prop := sortnetTuplesRow.holds Try.pinned (OpenSpec.ofChange sortnetTuplesSpec)

/-- ITS FALSE NEIGHBOUR: 'it returns false'. Refute it at one input. -/
def sortnetTuplesWrong : ChangeSpec := { name := "sortnetTuples", fn := fun _ => fun
  | [d1, d2, d3] => { results := [.lit (.bool false)], args := [d1, d2, d3] }
  | _ => none }
def SortnetTuplesWrongFalsely : Prop := sortnetTuplesRow.holds Try.pinned (OpenSpec.ofChange sortnetTuplesWrong)

/- THE SECOND FORM. 'bulk': how many values and letters a reading holds, each counted each time it is reached (what is shared counts as often as it is met; a slice's spare places count too). A statement '..UptoSaid' is the law's where the arguments, and the package variables that the reading takes, are together of bulk at most 1048576: NARROWER than '..Said'. Prove '..Said' where nothing that the law and all that it calls make is longer than what came in: it says more and counts as full. Else prove '..UptoSaid'. A law counts once. -/
mutual
def uptoBulk {H : Type} : DataW H → Nat
  | .lit (.string bytes) => bytes.length + 1
  | .lit _ => 1
  | .nil => 1
  | .ptr d => uptoBulk d + 1
  | .slice elems spare => uptoBulkAll elems + uptoBulkAll spare + 1
  | .agg parts => uptoBulkAll parts + 1
  | .iface _ d => uptoBulk d + 1
  | .map entries => uptoBulkEntries entries + 1
  | .held _ => 1
def uptoBulkAll {H : Type} : List (DataW H) → Nat
  | [] => 0
  | d :: r => uptoBulk d + uptoBulkAll r
def uptoBulkEntries {H : Type} : List (Lit × DataW H) → Nat
  | [] => 0
  | x :: r => uptoBulkEntry x + uptoBulkEntries r
def uptoBulkEntry {H : Type} : Lit × DataW H → Nat
  | (.string bytes, d) => bytes.length + uptoBulk d + 1
  | (_, d) => uptoBulk d + 1
 end
def uptoSmall : (H : Type) → List (DataW H) → Bool := fun _ ds => decide (uptoBulkAll ds ≤ 1048576)
def OpenSpec.upto (s : _root_.Go.ChangeSpec) : _root_.Go.OpenSpec := { _root_.Go.OpenSpec.ofChange s with cond := some uptoSmall }

/-- 'sabretachelaw03.SortnetSorts', WHERE WHAT IT READS IS OF BULK AT MOST 1048576: true; the input reads as it did. -/
def sortnetSortsUptoRow : OpenClaim := { program := "ythbfehkhfcmgpaa", sum := "784ac72d920f530f2491f1f03f199f590b7990616d77892fc457b971f181cd0d", func := "sabretache/sabretachelaw03.SortnetSorts", spec := "sortnetSorts", apart := false, narrowed := true }
def SortnetSortsUptoSaid : Prop := sortnetSortsUptoRow.holds Try.pinned (OpenSpec.upto sortnetSortsSpec)

/-- 'sabretachelaw03.SortnetApplies', WHERE WHAT IT READS IS OF BULK AT MOST 1048576: true; the input reads as it did. -/
def sortnetAppliesUptoRow : OpenClaim := { program := "ythbfehkhfcmgpaa", sum := "784ac72d920f530f2491f1f03f199f590b7990616d77892fc457b971f181cd0d", func := "sabretache/sabretachelaw03.SortnetApplies", spec := "sortnetApplies", apart := false, narrowed := true }
def SortnetAppliesUptoSaid : Prop := sortnetAppliesUptoRow.holds Try.pinned (OpenSpec.upto sortnetAppliesSpec)

/-- 'sabretachelaw03.SortnetCounts', WHERE WHAT IT READS IS OF BULK AT MOST 1048576: true; the input reads as it did. -/
def sortnetCountsUptoRow : OpenClaim := { program := "ythbfehkhfcmgpaa", sum := "784ac72d920f530f2491f1f03f199f590b7990616d77892fc457b971f181cd0d", func := "sabretache/sabretachelaw03.SortnetCounts", spec := "sortnetCounts", apart := false, narrowed := true }
def SortnetCountsUptoSaid : Prop := sortnetCountsUptoRow.holds Try.pinned (OpenSpec.upto sortnetCountsSpec)

/-- 'sabretachelaw03.SortnetTuples', WHERE WHAT IT READS IS OF BULK AT MOST 1048576: true; the input reads as it did. -/
def sortnetTuplesUptoRow : OpenClaim := { program := "ythbfehkhfcmgpaa", sum := "784ac72d920f530f2491f1f03f199f590b7990616d77892fc457b971f181cd0d", func := "sabretache/sabretachelaw03.SortnetTuples", spec := "sortnetTuples", unfollowed := true, recurses := true, apart := false, narrowed := true }
def SortnetTuplesUptoSaid : Prop := sortnetTuplesUptoRow.holds Try.pinned (OpenSpec.upto sortnetTuplesSpec)

end Rows
end Go.Proofs.Ythbfehkhfcmgpaa
