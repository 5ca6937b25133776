/-
  DERIVED. GIVEN WITH THE SEED: THE CARDS: each row of YtchffaohmeaccaaGreatDoorRows.lean that lists a variable, with what it lists TIED to the program's text (the seventh form; the later family's looks); each row that meets fmt, with fmt's text TOLD by the authors' own Lean function (tested against real Go, not proved from fmt's source: count such statements apart). THE CARD IS WHAT COUNTS. Prove the row's statement (the work); the ties are given (YtchffaohmeaccaaGreatDoorTie.lean); close each card by the builder's one call (the guide's Derived/Test/ToyasCard.lean, 'card_holds'). Laid BY PROGRAM, IN A SANDBOX (cutbox-door.mjs). By AI agents, Wed Nov 11 2026. No macro, syntax, notation, axiom, sorry.
-/
import Derived.Test.YtchffaohmeaccaaGreatDoorRows
import GoSem.ClaimSeven
namespace Go.Proofs.YtchffaohmeaccaaGreatDoor
namespace Rows

/-- THE TIED CARD OF 'laws.FnSummonses'. -/
def fnSummonsesCard : Claim7 := { stood := { row := fnSummonsesRow, standIns := [], harness := (true, "f855e0810dc64410295955e401ac3d80f885e00807e5a3d4e73e146952825bd1"), looks := true }, kinds := [], alts := [], laidByText := true, laidKinds := [.handle], laidTests := true, laidLooks := .later }
def FnSummonsesCardSaid : Prop := Claim7.holds Tryz.pinned (.plain (OpenSpec.ofChange fnSummonsesSpec)) fnSummonsesCard

/-- THE SECOND FORM's CARD OF 'laws.FnSummonses'. -/
def fnSummonsesUptoCard : Claim7 := { stood := { row := fnSummonsesUptoRow, standIns := [], harness := (true, "f855e0810dc64410295955e401ac3d80f885e00807e5a3d4e73e146952825bd1"), looks := true }, kinds := [], alts := [], laidByText := true, laidKinds := [.handle], laidTests := true, laidLooks := .later }
def FnSummonsesUptoCardSaid : Prop := Claim7.holds Tryz.pinned (.plain (OpenSpec.upto fnSummonsesSpec)) fnSummonsesUptoCard
end Rows
end Go.Proofs.YtchffaohmeaccaaGreatDoor
