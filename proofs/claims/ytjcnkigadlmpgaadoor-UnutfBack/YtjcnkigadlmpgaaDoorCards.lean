/-
  DERIVED. GIVEN WITH THE SEED: THE CARDS: each row of YtjcnkigadlmpgaaDoorRows.lean that lists a variable, with what it lists TIED to the program's text (the seventh form; the later family's looks); each row that meets fmt, with fmt's text TOLD by the authors' own Lean function (tested against real Go, not proved from fmt's source: count such statements apart). THE CARD IS WHAT COUNTS. Prove the row's statement (the work); the ties are given (YtjcnkigadlmpgaaDoorTie.lean); close each card by the builder's one call (the guide's Derived/Test/ToyasCard.lean, 'card_holds'). Laid BY PROGRAM, IN A SANDBOX (cutbox-door.mjs). By AI agents, Wed Nov 11 2026. No macro, syntax, notation, axiom, sorry.
-/
import Derived.Test.YtjcnkigadlmpgaaDoorRows
import GoSem.ClaimSeven
namespace Go.Proofs.YtjcnkigadlmpgaaDoor
namespace Rows

/-- THE TIED CARD OF 'sabretachelaw10.UnutfEncodes'. -/
def unutfEncodesCard : Claim7 := { stood := { row := unutfEncodesRow, standIns := [], harness := (true, "6476136c8dcca3a7eab903d0eed60a132db1273e2e3855480e535cf7942f4aa8"), looks := false }, kinds := [], alts := [], laidByText := true, laidKinds := [.data], laidTests := true, laidLooks := .later }
def UnutfEncodesCardSaid : Prop := Claim7.holds Tryd.pinned (.plain (OpenSpec.ofChange unutfEncodesSpec)) unutfEncodesCard

/-- THE TIED CARD OF 'sabretachelaw10.UnutfBack'. -/
def unutfBackCard : Claim7 := { stood := { row := unutfBackRow, standIns := [], harness := (true, "6476136c8dcca3a7eab903d0eed60a132db1273e2e3855480e535cf7942f4aa8"), looks := false }, kinds := [], alts := [], laidByText := true, laidKinds := [.data, .data], laidTests := true, laidLooks := .later }
def UnutfBackCardSaid : Prop := Claim7.holds Tryd.pinned (.plain (OpenSpec.ofChange unutfBackSpec)) unutfBackCard

/-- THE TIED CARD OF 'sabretachelaw10.UnutfRefuses'. -/
def unutfRefusesCard : Claim7 := { stood := { row := unutfRefusesRow, standIns := [], harness := (true, "6476136c8dcca3a7eab903d0eed60a132db1273e2e3855480e535cf7942f4aa8"), looks := false }, kinds := [], alts := [], laidByText := true, laidKinds := [.data], laidTests := true, laidLooks := .later }
def UnutfRefusesCardSaid : Prop := Claim7.holds Tryd.pinned (.plain (OpenSpec.ofChange unutfRefusesSpec)) unutfRefusesCard

/-- THE SECOND FORM's CARD OF 'sabretachelaw10.UnutfEncodes'. -/
def unutfEncodesUptoCard : Claim7 := { stood := { row := unutfEncodesUptoRow, standIns := [], harness := (true, "6476136c8dcca3a7eab903d0eed60a132db1273e2e3855480e535cf7942f4aa8"), looks := false }, kinds := [], alts := [], laidByText := true, laidKinds := [.data], laidTests := true, laidLooks := .later }
def UnutfEncodesUptoCardSaid : Prop := Claim7.holds Tryd.pinned (.plain (OpenSpec.upto unutfEncodesSpec)) unutfEncodesUptoCard

/-- THE SECOND FORM's CARD OF 'sabretachelaw10.UnutfBack'. -/
def unutfBackUptoCard : Claim7 := { stood := { row := unutfBackUptoRow, standIns := [], harness := (true, "6476136c8dcca3a7eab903d0eed60a132db1273e2e3855480e535cf7942f4aa8"), looks := false }, kinds := [], alts := [], laidByText := true, laidKinds := [.data, .data], laidTests := true, laidLooks := .later }
def UnutfBackUptoCardSaid : Prop := Claim7.holds Tryd.pinned (.plain (OpenSpec.upto unutfBackSpec)) unutfBackUptoCard

/-- THE SECOND FORM's CARD OF 'sabretachelaw10.UnutfRefuses'. -/
def unutfRefusesUptoCard : Claim7 := { stood := { row := unutfRefusesUptoRow, standIns := [], harness := (true, "6476136c8dcca3a7eab903d0eed60a132db1273e2e3855480e535cf7942f4aa8"), looks := false }, kinds := [], alts := [], laidByText := true, laidKinds := [.data], laidTests := true, laidLooks := .later }
def UnutfRefusesUptoCardSaid : Prop := Claim7.holds Tryd.pinned (.plain (OpenSpec.upto unutfRefusesSpec)) unutfRefusesUptoCard
end Rows
end Go.Proofs.YtjcnkigadlmpgaaDoor
