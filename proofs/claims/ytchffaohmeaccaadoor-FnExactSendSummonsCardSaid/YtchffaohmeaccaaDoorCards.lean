/-
  DERIVED. GIVEN WITH THE SEED: THE CARDS: each row of YtchffaohmeaccaaDoorRows.lean that lists a variable, with what it lists TIED to the program's text (the seventh form; the later family's looks); each row that meets fmt, with fmt's text TOLD by the authors' own Lean function (tested against real Go, not proved from fmt's source: count such statements apart). THE CARD IS WHAT COUNTS. Prove the row's statement (the work); the ties are given (YtchffaohmeaccaaDoorTie.lean); close each card by the builder's one call (the guide's Derived/Test/ToyasCard.lean, 'card_holds'). Laid BY PROGRAM, IN A SANDBOX (cutbox-door.mjs). By AI agents, Wed Nov 11 2026. No macro, syntax, notation, axiom, sorry.
-/
import Derived.Test.YtchffaohmeaccaaDoorRows
import GoSem.ClaimSeven
namespace Go.Proofs.YtchffaohmeaccaaDoor
namespace Rows

/-- THE TIED CARD OF 'laws.FnReminders'. -/
def fnRemindersCard : Claim7 := { stood := { row := fnRemindersRow, standIns := [], harness := (true, "8a2b98feeae94c5aad01c5ae40832f4ef14f161f6b3f88f4d2981b131065f82e"), looks := true }, kinds := [], alts := [], laidByText := true, laidKinds := [.handle], laidTests := true, laidLooks := .later }
def FnRemindersCardSaid : Prop := Claim7.holds Tryd.pinned (.plain (OpenSpec.ofChange fnRemindersSpec)) fnRemindersCard

/-- THE TIED CARD OF 'laws.FnExactSendSummons'. -/
def fnExactSendSummonsCard : Claim7 := { stood := { row := fnExactSendSummonsRow, standIns := [], harness := (true, "8a2b98feeae94c5aad01c5ae40832f4ef14f161f6b3f88f4d2981b131065f82e"), looks := true }, kinds := [], alts := [], laidByText := true, laidKinds := [.handle], laidTests := true, laidLooks := .later }
def FnExactSendSummonsCardSaid : Prop := Claim7.holds Tryd.pinned (.plain (OpenSpec.ofChange fnExactSendSummonsSpec)) fnExactSendSummonsCard

/-- THE TIED CARD OF 'laws.FnExactAnswerSummons'. -/
def fnExactAnswerSummonsCard : Claim7 := { stood := { row := fnExactAnswerSummonsRow, standIns := [], harness := (true, "8a2b98feeae94c5aad01c5ae40832f4ef14f161f6b3f88f4d2981b131065f82e"), looks := true }, kinds := [], alts := [], laidByText := true, laidKinds := [.handle], laidTests := true, laidLooks := .later }
def FnExactAnswerSummonsCardSaid : Prop := Claim7.holds Tryd.pinned (.plain (OpenSpec.ofChange fnExactAnswerSummonsSpec)) fnExactAnswerSummonsCard

/-- THE TIED CARD OF 'laws.FnExactOpenOn'. -/
def fnExactOpenOnCard : Claim7 := { stood := { row := fnExactOpenOnRow, standIns := [], harness := (true, "8a2b98feeae94c5aad01c5ae40832f4ef14f161f6b3f88f4d2981b131065f82e"), looks := true }, kinds := [], alts := [], laidByText := true, laidKinds := [.handle], laidTests := true, laidLooks := .later }
def FnExactOpenOnCardSaid : Prop := Claim7.holds Tryd.pinned (.plain (OpenSpec.ofChange fnExactOpenOnSpec)) fnExactOpenOnCard

/-- THE TIED CARD OF 'laws.FnExactOverdueOn'. -/
def fnExactOverdueOnCard : Claim7 := { stood := { row := fnExactOverdueOnRow, standIns := [], harness := (true, "8a2b98feeae94c5aad01c5ae40832f4ef14f161f6b3f88f4d2981b131065f82e"), looks := true }, kinds := [], alts := [], laidByText := true, laidKinds := [.handle], laidTests := true, laidLooks := .later }
def FnExactOverdueOnCardSaid : Prop := Claim7.holds Tryd.pinned (.plain (OpenSpec.ofChange fnExactOverdueOnSpec)) fnExactOverdueOnCard

/-- THE TIED CARD OF 'laws.FnExactRemindersOn'. -/
def fnExactRemindersOnCard : Claim7 := { stood := { row := fnExactRemindersOnRow, standIns := [], harness := (true, "8a2b98feeae94c5aad01c5ae40832f4ef14f161f6b3f88f4d2981b131065f82e"), looks := true }, kinds := [], alts := [], laidByText := true, laidKinds := [.handle], laidTests := true, laidLooks := .later }
def FnExactRemindersOnCardSaid : Prop := Claim7.holds Tryd.pinned (.plain (OpenSpec.ofChange fnExactRemindersOnSpec)) fnExactRemindersOnCard

/-- THE TIED CARD OF 'laws.FnExactCountAnswers'. -/
def fnExactCountAnswersCard : Claim7 := { stood := { row := fnExactCountAnswersRow, standIns := [], harness := (true, "8a2b98feeae94c5aad01c5ae40832f4ef14f161f6b3f88f4d2981b131065f82e"), looks := true }, kinds := [], alts := [], laidByText := true, laidKinds := [.handle], laidTests := true, laidLooks := .later }
def FnExactCountAnswersCardSaid : Prop := Claim7.holds Tryd.pinned (.plain (OpenSpec.ofChange fnExactCountAnswersSpec)) fnExactCountAnswersCard

/-- THE TIED CARD OF 'laws.FnExactNextReminder'. -/
def fnExactNextReminderCard : Claim7 := { stood := { row := fnExactNextReminderRow, standIns := [], harness := (true, "8a2b98feeae94c5aad01c5ae40832f4ef14f161f6b3f88f4d2981b131065f82e"), looks := true }, kinds := [], alts := [], laidByText := true, laidKinds := [.handle], laidTests := true, laidLooks := .later }
def FnExactNextReminderCardSaid : Prop := Claim7.holds Tryd.pinned (.plain (OpenSpec.ofChange fnExactNextReminderSpec)) fnExactNextReminderCard

/-- THE SECOND FORM's CARD OF 'laws.FnReminders'. -/
def fnRemindersUptoCard : Claim7 := { stood := { row := fnRemindersUptoRow, standIns := [], harness := (true, "8a2b98feeae94c5aad01c5ae40832f4ef14f161f6b3f88f4d2981b131065f82e"), looks := true }, kinds := [], alts := [], laidByText := true, laidKinds := [.handle], laidTests := true, laidLooks := .later }
def FnRemindersUptoCardSaid : Prop := Claim7.holds Tryd.pinned (.plain (OpenSpec.upto fnRemindersSpec)) fnRemindersUptoCard

/-- THE SECOND FORM's CARD OF 'laws.FnExactSendSummons'. -/
def fnExactSendSummonsUptoCard : Claim7 := { stood := { row := fnExactSendSummonsUptoRow, standIns := [], harness := (true, "8a2b98feeae94c5aad01c5ae40832f4ef14f161f6b3f88f4d2981b131065f82e"), looks := true }, kinds := [], alts := [], laidByText := true, laidKinds := [.handle], laidTests := true, laidLooks := .later }
def FnExactSendSummonsUptoCardSaid : Prop := Claim7.holds Tryd.pinned (.plain (OpenSpec.upto fnExactSendSummonsSpec)) fnExactSendSummonsUptoCard

/-- THE SECOND FORM's CARD OF 'laws.FnExactAnswerSummons'. -/
def fnExactAnswerSummonsUptoCard : Claim7 := { stood := { row := fnExactAnswerSummonsUptoRow, standIns := [], harness := (true, "8a2b98feeae94c5aad01c5ae40832f4ef14f161f6b3f88f4d2981b131065f82e"), looks := true }, kinds := [], alts := [], laidByText := true, laidKinds := [.handle], laidTests := true, laidLooks := .later }
def FnExactAnswerSummonsUptoCardSaid : Prop := Claim7.holds Tryd.pinned (.plain (OpenSpec.upto fnExactAnswerSummonsSpec)) fnExactAnswerSummonsUptoCard

/-- THE SECOND FORM's CARD OF 'laws.FnExactOpenOn'. -/
def fnExactOpenOnUptoCard : Claim7 := { stood := { row := fnExactOpenOnUptoRow, standIns := [], harness := (true, "8a2b98feeae94c5aad01c5ae40832f4ef14f161f6b3f88f4d2981b131065f82e"), looks := true }, kinds := [], alts := [], laidByText := true, laidKinds := [.handle], laidTests := true, laidLooks := .later }
def FnExactOpenOnUptoCardSaid : Prop := Claim7.holds Tryd.pinned (.plain (OpenSpec.upto fnExactOpenOnSpec)) fnExactOpenOnUptoCard

/-- THE SECOND FORM's CARD OF 'laws.FnExactOverdueOn'. -/
def fnExactOverdueOnUptoCard : Claim7 := { stood := { row := fnExactOverdueOnUptoRow, standIns := [], harness := (true, "8a2b98feeae94c5aad01c5ae40832f4ef14f161f6b3f88f4d2981b131065f82e"), looks := true }, kinds := [], alts := [], laidByText := true, laidKinds := [.handle], laidTests := true, laidLooks := .later }
def FnExactOverdueOnUptoCardSaid : Prop := Claim7.holds Tryd.pinned (.plain (OpenSpec.upto fnExactOverdueOnSpec)) fnExactOverdueOnUptoCard

/-- THE SECOND FORM's CARD OF 'laws.FnExactRemindersOn'. -/
def fnExactRemindersOnUptoCard : Claim7 := { stood := { row := fnExactRemindersOnUptoRow, standIns := [], harness := (true, "8a2b98feeae94c5aad01c5ae40832f4ef14f161f6b3f88f4d2981b131065f82e"), looks := true }, kinds := [], alts := [], laidByText := true, laidKinds := [.handle], laidTests := true, laidLooks := .later }
def FnExactRemindersOnUptoCardSaid : Prop := Claim7.holds Tryd.pinned (.plain (OpenSpec.upto fnExactRemindersOnSpec)) fnExactRemindersOnUptoCard

/-- THE SECOND FORM's CARD OF 'laws.FnExactCountAnswers'. -/
def fnExactCountAnswersUptoCard : Claim7 := { stood := { row := fnExactCountAnswersUptoRow, standIns := [], harness := (true, "8a2b98feeae94c5aad01c5ae40832f4ef14f161f6b3f88f4d2981b131065f82e"), looks := true }, kinds := [], alts := [], laidByText := true, laidKinds := [.handle], laidTests := true, laidLooks := .later }
def FnExactCountAnswersUptoCardSaid : Prop := Claim7.holds Tryd.pinned (.plain (OpenSpec.upto fnExactCountAnswersSpec)) fnExactCountAnswersUptoCard

/-- THE SECOND FORM's CARD OF 'laws.FnExactNextReminder'. -/
def fnExactNextReminderUptoCard : Claim7 := { stood := { row := fnExactNextReminderUptoRow, standIns := [], harness := (true, "8a2b98feeae94c5aad01c5ae40832f4ef14f161f6b3f88f4d2981b131065f82e"), looks := true }, kinds := [], alts := [], laidByText := true, laidKinds := [.handle], laidTests := true, laidLooks := .later }
def FnExactNextReminderUptoCardSaid : Prop := Claim7.holds Tryd.pinned (.plain (OpenSpec.upto fnExactNextReminderSpec)) fnExactNextReminderUptoCard
end Rows
end Go.Proofs.YtchffaohmeaccaaDoor
