/-
  DERIVED. GIVEN WITH THE SEED: THE PROGRAM's TIES (one call each: nine closed facts by the kernel) AND EACH ROW's TIE, after the 31st guide's Derived/Test/Toyas{Tie, Card}.lean. No idea stands in it: it is a product of the set-up. Laid BY PROGRAM, IN A SANDBOX (cutbox-door.mjs). By AI agents, Wed Nov 11 2026. No macro, syntax, notation, axiom, sorry.
-/
import Derived.Test.YtjcnkigadlmpgaaDoorRows
import Derived.LaidByTextLater
import Derived.SevenTiedAt
import Derived.LaidSub
import Derived.LaidOnce
namespace Go.Proofs.YtjcnkigadlmpgaaDoor
open Go
set_option maxRecDepth 100000
theorem seatTie1 : Tryd.prog.laidByTextLater [("sabretache/unutf.places", Rows.laid_sabretache_unutf_places), ("sabretache/utf.leads", Rows.laid_sabretache_utf_leads)] [.data, .data] true :=
  Program.laidByTextLater_by_one 32 8 55 (by kernel_rfl) (by kernel_rfl) (by kernel_rfl) (by kernel_rfl) (by kernel_rfl) (by kernel_rfl) (fun _ _ => by kernel_rfl)
theorem noOwnUnsafe : Tryd.pinned.checked.prog.headLifts.contains "ownunsafe" = false := by kernel_rfl
theorem tie : Tryd.prog.laidByTextLater [("sabretache/unutf.places", Rows.laid_sabretache_unutf_places)] [.data] true :=
  Program.laidByTextLater.sub seatTie1 ["sabretache/unutf.places"] (by kernel_rfl) (by kernel_rfl)
theorem unutfEncodes_row_tie : Rows.unutfEncodesRow.laidByTextAt .later Tryd.pinned [.data] true :=
  OpenClaim.laidByTextAt_later rfl rfl tie noOwnUnsafe
theorem unutfRefuses_row_tie : Rows.unutfRefusesRow.laidByTextAt .later Tryd.pinned [.data] true :=
  OpenClaim.laidByTextAt_later rfl rfl tie noOwnUnsafe
theorem tie2 : Tryd.prog.laidByTextLater [("sabretache/unutf.places", Rows.laid_sabretache_unutf_places), ("sabretache/utf.leads", Rows.laid_sabretache_utf_leads)] [.data, .data] true :=
  Program.laidByTextLater.sub seatTie1 ["sabretache/unutf.places", "sabretache/utf.leads"] (by kernel_rfl) (by kernel_rfl)
theorem unutfBack_row_tie : Rows.unutfBackRow.laidByTextAt .later Tryd.pinned [.data, .data] true :=
  OpenClaim.laidByTextAt_later rfl rfl tie2 noOwnUnsafe
theorem unutfEncodesUpto_row_tie : Rows.unutfEncodesUptoRow.laidByTextAt .later Tryd.pinned [.data] true :=
  OpenClaim.laidByTextAt_later rfl rfl tie noOwnUnsafe
theorem unutfBackUpto_row_tie : Rows.unutfBackUptoRow.laidByTextAt .later Tryd.pinned [.data, .data] true :=
  OpenClaim.laidByTextAt_later rfl rfl tie2 noOwnUnsafe
theorem unutfRefusesUpto_row_tie : Rows.unutfRefusesUptoRow.laidByTextAt .later Tryd.pinned [.data] true :=
  OpenClaim.laidByTextAt_later rfl rfl tie noOwnUnsafe
end Go.Proofs.YtjcnkigadlmpgaaDoor
