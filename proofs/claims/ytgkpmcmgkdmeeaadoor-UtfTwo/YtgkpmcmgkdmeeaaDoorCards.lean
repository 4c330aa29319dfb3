/-
  DERIVED. GIVEN WITH THE SEED: THE CARDS: each row of YtgkpmcmgkdmeeaaDoorRows.lean that lists a variable, with what it lists TIED to the program's text (the seventh form; the later family's looks); each row that meets fmt, with fmt's text TOLD by the authors' own Lean function (tested against real Go, not proved from fmt's source: count such statements apart). THE CARD IS WHAT COUNTS. Prove the row's statement (the work); the ties are given (YtgkpmcmgkdmeeaaDoorTie.lean); close each card by the builder's one call (the guide's Derived/Test/ToyasCard.lean, 'card_holds'). Laid BY PROGRAM, IN A SANDBOX (cutbox-door.mjs). By AI agents, Wed Nov 11 2026. No macro, syntax, notation, axiom, sorry.
-/
import Derived.Test.YtgkpmcmgkdmeeaaDoorRows
import GoSem.ClaimSeven
namespace Go.Proofs.YtgkpmcmgkdmeeaaDoor
namespace Rows

/-- THE TIED CARD OF 'sabretachelaw09.UtfDecodes'. -/
def utfDecodesCard : Claim7 := { stood := { row := utfDecodesRow, standIns := [], harness := (true, "49c2e6144fba67a5ff21f019855d7828252f6a152823bd296a0e2c774702075f"), looks := false }, kinds := [], alts := [], laidByText := true, laidKinds := [.data], laidTests := true, laidLooks := .later }
def UtfDecodesCardSaid : Prop := Claim7.holds Tryd.pinned (.plain (OpenSpec.ofChange utfDecodesSpec)) utfDecodesCard

/-- THE TIED CARD OF 'sabretachelaw09.UtfBlind'. -/
def utfBlindCard : Claim7 := { stood := { row := utfBlindRow, standIns := [], harness := (true, "49c2e6144fba67a5ff21f019855d7828252f6a152823bd296a0e2c774702075f"), looks := false }, kinds := [], alts := [], laidByText := true, laidKinds := [.data], laidTests := true, laidLooks := .later }
def UtfBlindCardSaid : Prop := Claim7.holds Tryd.pinned (.plain (OpenSpec.ofChange utfBlindSpec)) utfBlindCard

/-- THE TIED CARD OF 'sabretachelaw09.UtfTwo'. -/
def utfTwoCard : Claim7 := { stood := { row := utfTwoRow, standIns := [], harness := (true, "49c2e6144fba67a5ff21f019855d7828252f6a152823bd296a0e2c774702075f"), looks := false }, kinds := [], alts := [], laidByText := true, laidKinds := [.data], laidTests := true, laidLooks := .later }
def UtfTwoCardSaid : Prop := Claim7.holds Tryd.pinned (.plain (OpenSpec.ofChange utfTwoSpec)) utfTwoCard

/-- THE TIED CARD OF 'sabretachelaw09.UtfRefuses'. -/
def utfRefusesCard : Claim7 := { stood := { row := utfRefusesRow, standIns := [], harness := (true, "49c2e6144fba67a5ff21f019855d7828252f6a152823bd296a0e2c774702075f"), looks := false }, kinds := [], alts := [], laidByText := true, laidKinds := [.data], laidTests := true, laidLooks := .later }
def UtfRefusesCardSaid : Prop := Claim7.holds Tryd.pinned (.plain (OpenSpec.ofChange utfRefusesSpec)) utfRefusesCard

/-- THE SECOND FORM's CARD OF 'sabretachelaw09.UtfDecodes'. -/
def utfDecodesUptoCard : Claim7 := { stood := { row := utfDecodesUptoRow, standIns := [], harness := (true, "49c2e6144fba67a5ff21f019855d7828252f6a152823bd296a0e2c774702075f"), looks := false }, kinds := [], alts := [], laidByText := true, laidKinds := [.data], laidTests := true, laidLooks := .later }
def UtfDecodesUptoCardSaid : Prop := Claim7.holds Tryd.pinned (.plain (OpenSpec.upto utfDecodesSpec)) utfDecodesUptoCard

/-- THE SECOND FORM's CARD OF 'sabretachelaw09.UtfBlind'. -/
def utfBlindUptoCard : Claim7 := { stood := { row := utfBlindUptoRow, standIns := [], harness := (true, "49c2e6144fba67a5ff21f019855d7828252f6a152823bd296a0e2c774702075f"), looks := false }, kinds := [], alts := [], laidByText := true, laidKinds := [.data], laidTests := true, laidLooks := .later }
def UtfBlindUptoCardSaid : Prop := Claim7.holds Tryd.pinned (.plain (OpenSpec.upto utfBlindSpec)) utfBlindUptoCard

/-- THE SECOND FORM's CARD OF 'sabretachelaw09.UtfTwo'. -/
def utfTwoUptoCard : Claim7 := { stood := { row := utfTwoUptoRow, standIns := [], harness := (true, "49c2e6144fba67a5ff21f019855d7828252f6a152823bd296a0e2c774702075f"), looks := false }, kinds := [], alts := [], laidByText := true, laidKinds := [.data], laidTests := true, laidLooks := .later }
def UtfTwoUptoCardSaid : Prop := Claim7.holds Tryd.pinned (.plain (OpenSpec.upto utfTwoSpec)) utfTwoUptoCard

/-- THE SECOND FORM's CARD OF 'sabretachelaw09.UtfRefuses'. -/
def utfRefusesUptoCard : Claim7 := { stood := { row := utfRefusesUptoRow, standIns := [], harness := (true, "49c2e6144fba67a5ff21f019855d7828252f6a152823bd296a0e2c774702075f"), looks := false }, kinds := [], alts := [], laidByText := true, laidKinds := [.data], laidTests := true, laidLooks := .later }
def UtfRefusesUptoCardSaid : Prop := Claim7.holds Tryd.pinned (.plain (OpenSpec.upto utfRefusesSpec)) utfRefusesUptoCard
end Rows
end Go.Proofs.YtgkpmcmgkdmeeaaDoor
