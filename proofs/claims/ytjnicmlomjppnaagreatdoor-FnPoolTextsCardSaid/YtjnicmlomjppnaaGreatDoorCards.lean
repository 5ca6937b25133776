/-
  DERIVED. GIVEN WITH THE SEED: THE CARDS: each row of YtjnicmlomjppnaaGreatDoorRows.lean that lists a variable, with what it lists TIED to the program's text (the seventh form; the later family's looks); each row that meets fmt, with fmt's text TOLD by the authors' own Lean function (tested against real Go, not proved from fmt's source: count such statements apart). THE CARD IS WHAT COUNTS. Prove the row's statement (the work); the ties are given (YtjnicmlomjppnaaGreatDoorTie.lean); close each card by the builder's one call (the guide's Derived/Test/ToyasCard.lean, 'card_holds'). Laid BY PROGRAM, IN A SANDBOX (cutbox-door.mjs). By AI agents, Wed Nov 11 2026. No macro, syntax, notation, axiom, sorry.
-/
import Derived.Test.YtjnicmlomjppnaaGreatDoorRows
import GoSem.ClaimSeven
namespace Go.Proofs.YtjnicmlomjppnaaGreatDoor
namespace Rows

/-- THE TIED CARD OF 'laws.FnPoolTexts'. -/
def fnPoolTextsCard : Claim7 := { stood := { row := fnPoolTextsRow, standIns := [], harness := (true, "74c4a7ba50b1700a6457f1d9e0f21cc67fb1db3d6fb5fe0b60cb584d268998ed"), looks := true }, kinds := [], alts := [], laidByText := true, laidKinds := [.data, .data, .data, .data, .sentinel, .sentinel, .pinned], laidTests := true, laidLooks := .later }
def FnPoolTextsCardSaid : Prop := Claim7.holds Tryz.pinned (.plain (OpenSpec.ofChange fnPoolTextsSpec)) fnPoolTextsCard

/-- THE SECOND FORM's CARD OF 'laws.FnPoolTexts'. -/
def fnPoolTextsUptoCard : Claim7 := { stood := { row := fnPoolTextsUptoRow, standIns := [], harness := (true, "74c4a7ba50b1700a6457f1d9e0f21cc67fb1db3d6fb5fe0b60cb584d268998ed"), looks := true }, kinds := [], alts := [], laidByText := true, laidKinds := [.data, .data, .data, .data, .sentinel, .sentinel, .pinned], laidTests := true, laidLooks := .later }
def FnPoolTextsUptoCardSaid : Prop := Claim7.holds Tryz.pinned (.plain (OpenSpec.upto fnPoolTextsSpec)) fnPoolTextsUptoCard
end Rows
end Go.Proofs.YtjnicmlomjppnaaGreatDoor
