/-
  DERIVED. GIVEN WITH THE SEED: THE CARDS: each row of YtiekffkeagcaiaaGreatDoorRows.lean that lists a variable, with what it lists TIED to the program's text (the seventh form; the later family's looks); each row that meets fmt, with fmt's text TOLD by the authors' own Lean function (tested against real Go, not proved from fmt's source: count such statements apart). THE CARD IS WHAT COUNTS. Prove the row's statement (the work); the ties are given (YtiekffkeagcaiaaGreatDoorTie.lean); close each card by the builder's one call (the guide's Derived/Test/ToyasCard.lean, 'card_holds'). Laid BY PROGRAM, IN A SANDBOX (cutbox-door.mjs). By AI agents, Wed Nov 11 2026. No macro, syntax, notation, axiom, sorry.
-/
import Derived.Test.YtiekffkeagcaiaaGreatDoorRows
import GoSem.ClaimSeven
namespace Go.Proofs.YtiekffkeagcaiaaGreatDoor
namespace Rows

/-- THE TIED CARD OF 'sabretachelaw07.ChartRanges'. -/
def chartRangesCard : Claim7 := { stood := { row := chartRangesRow, standIns := [], harness := (true, "1f69be90e76efba1087188c7b2510797e0c0acc07cf45b5215c6d0c96fb9037c"), looks := true }, kinds := [], alts := [], laidByText := true, laidKinds := [.data, .data, .data, .data, .sentinel, .sentinel, .pinned, .pinned], laidTests := true, laidLooks := .later }
def ChartRangesCardSaid : Prop := Claim7.holds Tryz.pinned (.plain (OpenSpec.ofChange chartRangesSpec)) chartRangesCard

/-- THE TIED CARD OF 'sabretachelaw07.ChartClasses'. -/
def chartClassesCard : Claim7 := { stood := { row := chartClassesRow, standIns := [], harness := (true, "1f69be90e76efba1087188c7b2510797e0c0acc07cf45b5215c6d0c96fb9037c"), looks := true }, kinds := [], alts := [], laidByText := true, laidKinds := [.data, .data, .data, .data, .sentinel, .sentinel, .pinned, .pinned], laidTests := true, laidLooks := .later }
def ChartClassesCardSaid : Prop := Claim7.holds Tryz.pinned (.plain (OpenSpec.ofChange chartClassesSpec)) chartClassesCard

/-- THE TIED CARD OF 'sabretachelaw07.ChartDecomps'. -/
def chartDecompsCard : Claim7 := { stood := { row := chartDecompsRow, standIns := [], harness := (true, "1f69be90e76efba1087188c7b2510797e0c0acc07cf45b5215c6d0c96fb9037c"), looks := true }, kinds := [], alts := [], laidByText := true, laidKinds := [.data, .data, .data, .data, .sentinel, .sentinel, .pinned, .pinned], laidTests := true, laidLooks := .later }
def ChartDecompsCardSaid : Prop := Claim7.holds Tryz.pinned (.plain (OpenSpec.ofChange chartDecompsSpec)) chartDecompsCard

/-- THE TIED CARD OF 'sabretachelaw07.ChartGiven'. -/
def chartGivenCard : Claim7 := { stood := { row := chartGivenRow, standIns := [], harness := (true, "1f69be90e76efba1087188c7b2510797e0c0acc07cf45b5215c6d0c96fb9037c"), looks := true }, kinds := [], alts := [], laidByText := true, laidKinds := [.data, .data, .data, .data, .sentinel, .sentinel, .pinned, .pinned], laidTests := true, laidLooks := .later }
def ChartGivenCardSaid : Prop := Claim7.holds Tryz.pinned (.plain (OpenSpec.ofChange chartGivenSpec)) chartGivenCard

/-- THE SECOND FORM's CARD OF 'sabretachelaw07.ChartRanges'. -/
def chartRangesUptoCard : Claim7 := { stood := { row := chartRangesUptoRow, standIns := [], harness := (true, "1f69be90e76efba1087188c7b2510797e0c0acc07cf45b5215c6d0c96fb9037c"), looks := true }, kinds := [], alts := [], laidByText := true, laidKinds := [.data, .data, .data, .data, .sentinel, .sentinel, .pinned, .pinned], laidTests := true, laidLooks := .later }
def ChartRangesUptoCardSaid : Prop := Claim7.holds Tryz.pinned (.plain (OpenSpec.upto chartRangesSpec)) chartRangesUptoCard

/-- THE SECOND FORM's CARD OF 'sabretachelaw07.ChartClasses'. -/
def chartClassesUptoCard : Claim7 := { stood := { row := chartClassesUptoRow, standIns := [], harness := (true, "1f69be90e76efba1087188c7b2510797e0c0acc07cf45b5215c6d0c96fb9037c"), looks := true }, kinds := [], alts := [], laidByText := true, laidKinds := [.data, .data, .data, .data, .sentinel, .sentinel, .pinned, .pinned], laidTests := true, laidLooks := .later }
def ChartClassesUptoCardSaid : Prop := Claim7.holds Tryz.pinned (.plain (OpenSpec.upto chartClassesSpec)) chartClassesUptoCard

/-- THE SECOND FORM's CARD OF 'sabretachelaw07.ChartDecomps'. -/
def chartDecompsUptoCard : Claim7 := { stood := { row := chartDecompsUptoRow, standIns := [], harness := (true, "1f69be90e76efba1087188c7b2510797e0c0acc07cf45b5215c6d0c96fb9037c"), looks := true }, kinds := [], alts := [], laidByText := true, laidKinds := [.data, .data, .data, .data, .sentinel, .sentinel, .pinned, .pinned], laidTests := true, laidLooks := .later }
def ChartDecompsUptoCardSaid : Prop := Claim7.holds Tryz.pinned (.plain (OpenSpec.upto chartDecompsSpec)) chartDecompsUptoCard

/-- THE SECOND FORM's CARD OF 'sabretachelaw07.ChartGiven'. -/
def chartGivenUptoCard : Claim7 := { stood := { row := chartGivenUptoRow, standIns := [], harness := (true, "1f69be90e76efba1087188c7b2510797e0c0acc07cf45b5215c6d0c96fb9037c"), looks := true }, kinds := [], alts := [], laidByText := true, laidKinds := [.data, .data, .data, .data, .sentinel, .sentinel, .pinned, .pinned], laidTests := true, laidLooks := .later }
def ChartGivenUptoCardSaid : Prop := Claim7.holds Tryz.pinned (.plain (OpenSpec.upto chartGivenSpec)) chartGivenUptoCard
end Rows
end Go.Proofs.YtiekffkeagcaiaaGreatDoor
