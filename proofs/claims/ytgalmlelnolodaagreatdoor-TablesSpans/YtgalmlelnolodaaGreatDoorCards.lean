/-
  DERIVED. GIVEN WITH THE SEED: THE CARDS: each row of YtgalmlelnolodaaGreatDoorRows.lean that lists a variable, with what it lists TIED to the program's text (the seventh form; the later family's looks); each row that meets fmt, with fmt's text TOLD by the authors' own Lean function (tested against real Go, not proved from fmt's source: count such statements apart). THE CARD IS WHAT COUNTS. Prove the row's statement (the work); the ties are given (YtgalmlelnolodaaGreatDoorTie.lean); close each card by the builder's one call (the guide's Derived/Test/ToyasCard.lean, 'card_holds'). Laid BY PROGRAM, IN A SANDBOX (cutbox-door.mjs). By AI agents, Wed Nov 11 2026. No macro, syntax, notation, axiom, sorry.
-/
import Derived.Test.YtgalmlelnolodaaGreatDoorRows
import GoSem.ClaimSeven
namespace Go.Proofs.YtgalmlelnolodaaGreatDoor
namespace Rows

/-- THE TIED CARD OF 'sabretachelaw08.TablesPairs'. -/
def tablesPairsCard : Claim7 := { stood := { row := tablesPairsRow, standIns := [], harness := (true, "a87cd78c220a3f32e44b00e90c4db4a88386266367ef5a3b01aa0dbfbdd33fcb"), looks := true }, kinds := [], alts := [], laidByText := true, laidKinds := [.data, .data, .data, .data, .sentinel, .sentinel, .pinned], laidTests := true, laidLooks := .later }
def TablesPairsCardSaid : Prop := Claim7.holds Tryz.pinned (.plain (OpenSpec.ofChange tablesPairsSpec)) tablesPairsCard

/-- THE TIED CARD OF 'sabretachelaw08.TablesSpans'. -/
def tablesSpansCard : Claim7 := { stood := { row := tablesSpansRow, standIns := [], harness := (true, "a87cd78c220a3f32e44b00e90c4db4a88386266367ef5a3b01aa0dbfbdd33fcb"), looks := true }, kinds := [], alts := [], laidByText := true, laidKinds := [.data, .data, .data, .data, .sentinel, .sentinel, .pinned], laidTests := true, laidLooks := .later }
def TablesSpansCardSaid : Prop := Claim7.holds Tryz.pinned (.plain (OpenSpec.ofChange tablesSpansSpec)) tablesSpansCard

/-- THE SECOND FORM's CARD OF 'sabretachelaw08.TablesPairs'. -/
def tablesPairsUptoCard : Claim7 := { stood := { row := tablesPairsUptoRow, standIns := [], harness := (true, "a87cd78c220a3f32e44b00e90c4db4a88386266367ef5a3b01aa0dbfbdd33fcb"), looks := true }, kinds := [], alts := [], laidByText := true, laidKinds := [.data, .data, .data, .data, .sentinel, .sentinel, .pinned], laidTests := true, laidLooks := .later }
def TablesPairsUptoCardSaid : Prop := Claim7.holds Tryz.pinned (.plain (OpenSpec.upto tablesPairsSpec)) tablesPairsUptoCard

/-- THE SECOND FORM's CARD OF 'sabretachelaw08.TablesSpans'. -/
def tablesSpansUptoCard : Claim7 := { stood := { row := tablesSpansUptoRow, standIns := [], harness := (true, "a87cd78c220a3f32e44b00e90c4db4a88386266367ef5a3b01aa0dbfbdd33fcb"), looks := true }, kinds := [], alts := [], laidByText := true, laidKinds := [.data, .data, .data, .data, .sentinel, .sentinel, .pinned], laidTests := true, laidLooks := .later }
def TablesSpansUptoCardSaid : Prop := Claim7.holds Tryz.pinned (.plain (OpenSpec.upto tablesSpansSpec)) tablesSpansUptoCard
end Rows
end Go.Proofs.YtgalmlelnolodaaGreatDoor
