/-
  DERIVED. GIVEN WITH THE SEED: THE CARDS: each row of YtmpopfcnjgcncaaGreatDoorRows.lean that lists a variable, with what it lists TIED to the program's text (the seventh form; the later family's looks); each row that meets fmt, with fmt's text TOLD by the authors' own Lean function (tested against real Go, not proved from fmt's source: count such statements apart). THE CARD IS WHAT COUNTS. Prove the row's statement (the work); the ties are given (YtmpopfcnjgcncaaGreatDoorTie.lean); close each card by the builder's one call (the guide's Derived/Test/ToyasCard.lean, 'card_holds'). Laid BY PROGRAM, IN A SANDBOX (cutbox-door.mjs). By AI agents, Wed Nov 11 2026. No macro, syntax, notation, axiom, sorry.
-/
import Derived.Test.YtmpopfcnjgcncaaGreatDoorRows
import GoSem.ClaimSeven
namespace Go.Proofs.YtmpopfcnjgcncaaGreatDoor
namespace Rows

/-- THE TIED CARD OF 'laws.FnPoolTexts'. -/
def fnPoolTextsCard : Claim7 := { stood := { row := fnPoolTextsRow, standIns := [], harness := (true, "b288abd506c93a6f2b644fec432db033e843a578cadff3d7e4984e07d6213114"), looks := true }, kinds := [], alts := [], laidByText := true, laidKinds := [.data, .data, .data, .data, .sentinel, .sentinel, .pinned], laidTests := true, laidLooks := .later }
def FnPoolTextsCardSaid : Prop := Claim7.holds Tryz.pinned (.plain (OpenSpec.ofChange fnPoolTextsSpec)) fnPoolTextsCard

/-- THE TIED CARD OF 'laws.FnExactReadPool'. -/
def fnExactReadPoolCard : Claim7 := { stood := { row := fnExactReadPoolRow, standIns := [], harness := (true, "b288abd506c93a6f2b644fec432db033e843a578cadff3d7e4984e07d6213114"), looks := true }, kinds := [], alts := [], laidByText := true, laidKinds := [.data, .data, .data, .data, .sentinel, .sentinel, .pinned], laidTests := true, laidLooks := .later }
def FnExactReadPoolCardSaid : Prop := Claim7.holds Tryz.pinned (.plain (OpenSpec.ofChange fnExactReadPoolSpec)) fnExactReadPoolCard

/-- THE SECOND FORM's CARD OF 'laws.FnPoolTexts'. -/
def fnPoolTextsUptoCard : Claim7 := { stood := { row := fnPoolTextsUptoRow, standIns := [], harness := (true, "b288abd506c93a6f2b644fec432db033e843a578cadff3d7e4984e07d6213114"), looks := true }, kinds := [], alts := [], laidByText := true, laidKinds := [.data, .data, .data, .data, .sentinel, .sentinel, .pinned], laidTests := true, laidLooks := .later }
def FnPoolTextsUptoCardSaid : Prop := Claim7.holds Tryz.pinned (.plain (OpenSpec.upto fnPoolTextsSpec)) fnPoolTextsUptoCard

/-- THE SECOND FORM's CARD OF 'laws.FnExactReadPool'. -/
def fnExactReadPoolUptoCard : Claim7 := { stood := { row := fnExactReadPoolUptoRow, standIns := [], harness := (true, "b288abd506c93a6f2b644fec432db033e843a578cadff3d7e4984e07d6213114"), looks := true }, kinds := [], alts := [], laidByText := true, laidKinds := [.data, .data, .data, .data, .sentinel, .sentinel, .pinned], laidTests := true, laidLooks := .later }
def FnExactReadPoolUptoCardSaid : Prop := Claim7.holds Tryz.pinned (.plain (OpenSpec.upto fnExactReadPoolSpec)) fnExactReadPoolUptoCard
end Rows
end Go.Proofs.YtmpopfcnjgcncaaGreatDoor
