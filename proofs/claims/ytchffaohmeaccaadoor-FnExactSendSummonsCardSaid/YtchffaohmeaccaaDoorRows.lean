/-
  NARROWER THAN 'FOR EVERY INPUT', by the rows' own cells (each row's printed sentence says how): FnReminders: laid · FnExactSendSummons: laid · FnExactAnswerSummons: laid · FnExactOpenOn: laid · FnExactOverdueOn: laid · FnExactRemindersOn: laid · FnExactCountAnswers: laid · FnExactNextReminder: laid.
  DERIVED. THE GIVEN ROWS OF THIS SEAT. 8 by the template 'for every input the law returns true; each argument reads behind the call as it read before'; 0 by the template 'total and deterministic' (their statements: YtchffaohmeaccaaDoorTotals.lean).
  GIVEN WITH THE SEED: the statements are not yours to turn. If you find one false, say at which input.
  Laid BY PROGRAM, IN A SANDBOX (cutbox-rows.mjs): the forced cells as the released guide's own fill.sh prints them over the translation 0857d73d337f311b… (all of the seat's roots in one cut). By AI agents, Wed Nov 11 2026. No macro, syntax, notation, axiom, sorry.
-/
import Derived.Test.YtchffaohmeaccaaDoorChecked
import GoSem.Claim
import GoSem.ClaimJoined
import GoSem.ClaimMapViews
import Derived.JoinedTies
import Derived.KernelRfl
namespace Go.Proofs.YtchffaohmeaccaaDoor
/- THE CELL 'sum', in the pinned program and in every row, IS THE sha256 OF THE DUMP (.gsa) THAT YtchffaohmeaccaaDoorProg.lean LOADS. Nothing in Lean hashes anything: it is a label: what it is worth is what the hold of that sum in a sandbox is worth. -/
noncomputable def Tryd.pinned : Pinned := { name := "ytchffaohmeaccaadoor", sum := "0857d73d337f311bcc60dabd14c65fd33bbf663424d3717a826be8ee4f80951b", checked := Tryd.checked }
namespace Rows
def none {H : Type} : Left H := { results := [], args := [] }

/- WHAT THE LISTED PACKAGE-LEVEL VARIABLES READ AS WHEN THE CALL BEGINS. Each datum BY PROGRAM (the guide's laid-datum.mjs) off the statement by which the dump's own 'gosem.cut.vars' lays the variable. In a bare row this is a premise. The card (YtchffaohmeaccaaDoorCards.lean) ties it to the program's text. -/
def laid_errors_errorType {H : Type} : DataW H := .iface "internal/reflectlite.rtype" (.agg [.ptr (.lit (.string [101, 114, 114, 111, 114]))])

/-- 'laws.FnReminders': WHATEVER THE INPUT: true; the input reads as it did. -/
def fnRemindersSpec : ChangeSpec := { name := "fnReminders", fn := fun _ => fun
  | [d] => { results := [.lit (.bool true)], args := [d] }
  | _ => none }
def fnRemindersRow : OpenClaim := { program := "ytchffaohmeaccaadoor", sum := "0857d73d337f311bcc60dabd14c65fd33bbf663424d3717a826be8ee4f80951b", func := "loop.example/g01027/laws.FnReminders", spec := "fnReminders", inPlace := ["internal/reflectlite.ValueOf", "(internal/reflectlite.Value).Type", "(internal/reflectlite.Value).IsNil", "internal/reflectlite.TypeOf", "(internal/reflectlite.Value).Elem", "(internal/reflectlite.Value).Set"], unfollowed := true, recurses := true, named := ["errors.errorType"], apart := false, laid := [("errors.errorType", laid_errors_errorType)] }
def FnRemindersSaid : Prop := fnRemindersRow.holds Tryd.pinned (OpenSpec.ofChange fnRemindersSpec)

/-- ITS FALSE NEIGHBOUR: 'it returns false'. Refute it at one input. -/
def fnRemindersWrong : ChangeSpec := { name := "fnReminders", fn := fun _ => fun
  | [d] => { results := [.lit (.bool false)], args := [d] }
  | _ => none }
def FnRemindersWrongFalsely : Prop := fnRemindersRow.holds Tryd.pinned (OpenSpec.ofChange fnRemindersWrong)

/-- 'laws.FnExactSendSummons': WHATEVER THE INPUT: true; the input reads as it did. -/
def fnExactSendSummonsSpec : ChangeSpec := { name := "fnExactSendSummons", fn := fun _ => fun
  | [d1, d2, d3, d4, d5] => { results := [.lit (.bool true)], args := [d1, d2, d3, d4, d5] }
  | _ => none }
def fnExactSendSummonsRow : OpenClaim := { program := "ytchffaohmeaccaadoor", sum := "0857d73d337f311bcc60dabd14c65fd33bbf663424d3717a826be8ee4f80951b", func := "loop.example/g01027/laws.FnExactSendSummons", spec := "fnExactSendSummons", inPlace := ["slices.overlaps[loop.example/g01027/impl.Summons]", "internal/reflectlite.ValueOf", "(internal/reflectlite.Value).Type", "(internal/reflectlite.Value).IsNil", "internal/reflectlite.TypeOf", "(internal/reflectlite.Value).Elem", "(internal/reflectlite.Value).Set"], unfollowed := true, recurses := true, named := ["errors.errorType"], apart := false, laid := [("errors.errorType", laid_errors_errorType)] }
def FnExactSendSummonsSaid : Prop := fnExactSendSummonsRow.holds Tryd.pinned (OpenSpec.ofChange fnExactSendSummonsSpec)

/-- ITS FALSE NEIGHBOUR: 'it returns false'. Refute it at one input. -/
def fnExactSendSummonsWrong : ChangeSpec := { name := "fnExactSendSummons", fn := fun _ => fun
  | [d1, d2, d3, d4, d5] => { results := [.lit (.bool false)], args := [d1, d2, d3, d4, d5] }
  | _ => none }
def FnExactSendSummonsWrongFalsely : Prop := fnExactSendSummonsRow.holds Tryd.pinned (OpenSpec.ofChange fnExactSendSummonsWrong)

/-- 'laws.FnExactAnswerSummons': WHATEVER THE INPUT: true; the input reads as it did. -/
def fnExactAnswerSummonsSpec : ChangeSpec := { name := "fnExactAnswerSummons", fn := fun _ => fun
  | [d1, d2, d3, d4] => { results := [.lit (.bool true)], args := [d1, d2, d3, d4] }
  | _ => none }
def fnExactAnswerSummonsRow : OpenClaim := { program := "ytchffaohmeaccaadoor", sum := "0857d73d337f311bcc60dabd14c65fd33bbf663424d3717a826be8ee4f80951b", func := "loop.example/g01027/laws.FnExactAnswerSummons", spec := "fnExactAnswerSummons", inPlace := ["internal/reflectlite.ValueOf", "(internal/reflectlite.Value).Type", "(internal/reflectlite.Value).IsNil", "internal/reflectlite.TypeOf", "(internal/reflectlite.Value).Elem", "(internal/reflectlite.Value).Set"], unfollowed := true, recurses := true, named := ["errors.errorType"], apart := false, laid := [("errors.errorType", laid_errors_errorType)] }
def FnExactAnswerSummonsSaid : Prop := fnExactAnswerSummonsRow.holds Tryd.pinned (OpenSpec.ofChange fnExactAnswerSummonsSpec)

/-- ITS FALSE NEIGHBOUR: 'it returns false'. Refute it at one input. -/
def fnExactAnswerSummonsWrong : ChangeSpec := { name := "fnExactAnswerSummons", fn := fun _ => fun
  | [d1, d2, d3, d4] => { results := [.lit (.bool false)], args := [d1, d2, d3, d4] }
  | _ => none }
def FnExactAnswerSummonsWrongFalsely : Prop := fnExactAnswerSummonsRow.holds Tryd.pinned (OpenSpec.ofChange fnExactAnswerSummonsWrong)

/-- 'laws.FnExactOpenOn': WHATEVER THE INPUT: true; the input reads as it did. -/
def fnExactOpenOnSpec : ChangeSpec := { name := "fnExactOpenOn", fn := fun _ => fun
  | [d1, d2] => { results := [.lit (.bool true)], args := [d1, d2] }
  | _ => none }
def fnExactOpenOnRow : OpenClaim := { program := "ytchffaohmeaccaadoor", sum := "0857d73d337f311bcc60dabd14c65fd33bbf663424d3717a826be8ee4f80951b", func := "loop.example/g01027/laws.FnExactOpenOn", spec := "fnExactOpenOn", inPlace := ["internal/reflectlite.ValueOf", "(internal/reflectlite.Value).Type", "(internal/reflectlite.Value).IsNil", "internal/reflectlite.TypeOf", "(internal/reflectlite.Value).Elem", "(internal/reflectlite.Value).Set"], unfollowed := true, recurses := true, named := ["errors.errorType"], apart := false, laid := [("errors.errorType", laid_errors_errorType)] }
def FnExactOpenOnSaid : Prop := fnExactOpenOnRow.holds Tryd.pinned (OpenSpec.ofChange fnExactOpenOnSpec)

/-- ITS FALSE NEIGHBOUR: 'it returns false'. Refute it at one input. -/
def fnExactOpenOnWrong : ChangeSpec := { name := "fnExactOpenOn", fn := fun _ => fun
  | [d1, d2] => { results := [.lit (.bool false)], args := [d1, d2] }
  | _ => none }
def FnExactOpenOnWrongFalsely : Prop := fnExactOpenOnRow.holds Tryd.pinned (OpenSpec.ofChange fnExactOpenOnWrong)

/-- 'laws.FnExactOverdueOn': WHATEVER THE INPUT: true; the input reads as it did. -/
def fnExactOverdueOnSpec : ChangeSpec := { name := "fnExactOverdueOn", fn := fun _ => fun
  | [d1, d2] => { results := [.lit (.bool true)], args := [d1, d2] }
  | _ => none }
def fnExactOverdueOnRow : OpenClaim := { program := "ytchffaohmeaccaadoor", sum := "0857d73d337f311bcc60dabd14c65fd33bbf663424d3717a826be8ee4f80951b", func := "loop.example/g01027/laws.FnExactOverdueOn", spec := "fnExactOverdueOn", inPlace := ["internal/reflectlite.ValueOf", "(internal/reflectlite.Value).Type", "(internal/reflectlite.Value).IsNil", "internal/reflectlite.TypeOf", "(internal/reflectlite.Value).Elem", "(internal/reflectlite.Value).Set"], unfollowed := true, recurses := true, named := ["errors.errorType"], apart := false, laid := [("errors.errorType", laid_errors_errorType)] }
def FnExactOverdueOnSaid : Prop := fnExactOverdueOnRow.holds Tryd.pinned (OpenSpec.ofChange fnExactOverdueOnSpec)

/-- ITS FALSE NEIGHBOUR: 'it returns false'. Refute it at one input. -/
def fnExactOverdueOnWrong : ChangeSpec := { name := "fnExactOverdueOn", fn := fun _ => fun
  | [d1, d2] => { results := [.lit (.bool false)], args := [d1, d2] }
  | _ => none }
def FnExactOverdueOnWrongFalsely : Prop := fnExactOverdueOnRow.holds Tryd.pinned (OpenSpec.ofChange fnExactOverdueOnWrong)

/-- 'laws.FnExactRemindersOn': WHATEVER THE INPUT: true; the input reads as it did. -/
def fnExactRemindersOnSpec : ChangeSpec := { name := "fnExactRemindersOn", fn := fun _ => fun
  | [d1, d2] => { results := [.lit (.bool true)], args := [d1, d2] }
  | _ => none }
def fnExactRemindersOnRow : OpenClaim := { program := "ytchffaohmeaccaadoor", sum := "0857d73d337f311bcc60dabd14c65fd33bbf663424d3717a826be8ee4f80951b", func := "loop.example/g01027/laws.FnExactRemindersOn", spec := "fnExactRemindersOn", inPlace := ["internal/reflectlite.ValueOf", "(internal/reflectlite.Value).Type", "(internal/reflectlite.Value).IsNil", "internal/reflectlite.TypeOf", "(internal/reflectlite.Value).Elem", "(internal/reflectlite.Value).Set"], unfollowed := true, recurses := true, named := ["errors.errorType"], apart := false, laid := [("errors.errorType", laid_errors_errorType)] }
def FnExactRemindersOnSaid : Prop := fnExactRemindersOnRow.holds Tryd.pinned (OpenSpec.ofChange fnExactRemindersOnSpec)

/-- ITS FALSE NEIGHBOUR: 'it returns false'. Refute it at one input. -/
def fnExactRemindersOnWrong : ChangeSpec := { name := "fnExactRemindersOn", fn := fun _ => fun
  | [d1, d2] => { results := [.lit (.bool false)], args := [d1, d2] }
  | _ => none }
def FnExactRemindersOnWrongFalsely : Prop := fnExactRemindersOnRow.holds Tryd.pinned (OpenSpec.ofChange fnExactRemindersOnWrong)

/-- 'laws.FnExactCountAnswers': WHATEVER THE INPUT: true; the input reads as it did. -/
def fnExactCountAnswersSpec : ChangeSpec := { name := "fnExactCountAnswers", fn := fun _ => fun
  | [d1, d2] => { results := [.lit (.bool true)], args := [d1, d2] }
  | _ => none }
def fnExactCountAnswersRow : OpenClaim := { program := "ytchffaohmeaccaadoor", sum := "0857d73d337f311bcc60dabd14c65fd33bbf663424d3717a826be8ee4f80951b", func := "loop.example/g01027/laws.FnExactCountAnswers", spec := "fnExactCountAnswers", inPlace := ["internal/reflectlite.ValueOf", "(internal/reflectlite.Value).Type", "(internal/reflectlite.Value).IsNil", "internal/reflectlite.TypeOf", "(internal/reflectlite.Value).Elem", "(internal/reflectlite.Value).Set"], unfollowed := true, recurses := true, named := ["errors.errorType"], apart := false, laid := [("errors.errorType", laid_errors_errorType)] }
def FnExactCountAnswersSaid : Prop := fnExactCountAnswersRow.holds Tryd.pinned (OpenSpec.ofChange fnExactCountAnswersSpec)

/-- ITS FALSE NEIGHBOUR: 'it returns false'. Refute it at one input. -/
def fnExactCountAnswersWrong : ChangeSpec := { name := "fnExactCountAnswers", fn := fun _ => fun
  | [d1, d2] => { results := [.lit (.bool false)], args := [d1, d2] }
  | _ => none }
def FnExactCountAnswersWrongFalsely : Prop := fnExactCountAnswersRow.holds Tryd.pinned (OpenSpec.ofChange fnExactCountAnswersWrong)

/-- 'laws.FnExactNextReminder': WHATEVER THE INPUT: true; the input reads as it did. -/
def fnExactNextReminderSpec : ChangeSpec := { name := "fnExactNextReminder", fn := fun _ => fun
  | [d1, d2] => { results := [.lit (.bool true)], args := [d1, d2] }
  | _ => none }
def fnExactNextReminderRow : OpenClaim := { program := "ytchffaohmeaccaadoor", sum := "0857d73d337f311bcc60dabd14c65fd33bbf663424d3717a826be8ee4f80951b", func := "loop.example/g01027/laws.FnExactNextReminder", spec := "fnExactNextReminder", inPlace := ["internal/reflectlite.ValueOf", "(internal/reflectlite.Value).Type", "(internal/reflectlite.Value).IsNil", "internal/reflectlite.TypeOf", "(internal/reflectlite.Value).Elem", "(internal/reflectlite.Value).Set"], unfollowed := true, recurses := true, named := ["errors.errorType"], apart := false, laid := [("errors.errorType", laid_errors_errorType)] }
def FnExactNextReminderSaid : Prop := fnExactNextReminderRow.holds Tryd.pinned (OpenSpec.ofChange fnExactNextReminderSpec)

/-- ITS FALSE NEIGHBOUR: 'it returns false'. Refute it at one input. -/
def fnExactNextReminderWrong : ChangeSpec := { name := "fnExactNextReminder", fn := fun _ => fun
  | [d1, d2] => { results := [.lit (.bool false)], args := [d1, d2] }
  | _ => none }
def FnExactNextReminderWrongFalsely : Prop := fnExactNextReminderRow.holds Tryd.pinned (OpenSpec.ofChange fnExactNextReminderWrong)

/- THE SECOND FORM. 'bulk': how many values and letters a reading holds, each counted each time it is reached (what is shared counts as often as it is met; a slice's spare places count too). A statement '..UptoSaid' is the law's where the arguments, and the package variables that the reading takes, are together of bulk at most 1048576: NARROWER than '..Said'. Prove '..Said' where nothing that the law and all that it calls make is longer than what came in: it says more and counts as full. Else prove '..UptoSaid'. A law counts once. -/
mutual
def uptoBulk {H : Type} : DataW H → Nat
  | .lit (.string bytes) => bytes.length + 1
  | .lit _ => 1
  | .nil => 1
  | .ptr d => uptoBulk d + 1
  | .slice elems spare => uptoBulkAll elems + uptoBulkAll spare + 1
  | .agg parts => uptoBulkAll parts + 1
  | .iface _ d => uptoBulk d + 1
  | .map entries => uptoBulkEntries entries + 1
  | .held _ => 1
def uptoBulkAll {H : Type} : List (DataW H) → Nat
  | [] => 0
  | d :: r => uptoBulk d + uptoBulkAll r
def uptoBulkEntries {H : Type} : List (Lit × DataW H) → Nat
  | [] => 0
  | x :: r => uptoBulkEntry x + uptoBulkEntries r
def uptoBulkEntry {H : Type} : Lit × DataW H → Nat
  | (.string bytes, d) => bytes.length + uptoBulk d + 1
  | (_, d) => uptoBulk d + 1
 end
def uptoSmall : (H : Type) → List (DataW H) → Bool := fun _ ds => decide (uptoBulkAll ds ≤ 1048576)
def OpenSpec.upto (s : _root_.Go.ChangeSpec) : _root_.Go.OpenSpec := { _root_.Go.OpenSpec.ofChange s with cond := some uptoSmall }

/-- 'laws.FnReminders', WHERE WHAT IT READS IS OF BULK AT MOST 1048576: true; the input reads as it did. -/
def fnRemindersUptoRow : OpenClaim := { program := "ytchffaohmeaccaadoor", sum := "0857d73d337f311bcc60dabd14c65fd33bbf663424d3717a826be8ee4f80951b", func := "loop.example/g01027/laws.FnReminders", spec := "fnReminders", inPlace := ["internal/reflectlite.ValueOf", "(internal/reflectlite.Value).Type", "(internal/reflectlite.Value).IsNil", "internal/reflectlite.TypeOf", "(internal/reflectlite.Value).Elem", "(internal/reflectlite.Value).Set"], unfollowed := true, recurses := true, named := ["errors.errorType"], apart := false, laid := [("errors.errorType", laid_errors_errorType)], narrowed := true }
def FnRemindersUptoSaid : Prop := fnRemindersUptoRow.holds Tryd.pinned (OpenSpec.upto fnRemindersSpec)

/-- 'laws.FnExactSendSummons', WHERE WHAT IT READS IS OF BULK AT MOST 1048576: true; the input reads as it did. -/
def fnExactSendSummonsUptoRow : OpenClaim := { program := "ytchffaohmeaccaadoor", sum := "0857d73d337f311bcc60dabd14c65fd33bbf663424d3717a826be8ee4f80951b", func := "loop.example/g01027/laws.FnExactSendSummons", spec := "fnExactSendSummons", inPlace := ["slices.overlaps[loop.example/g01027/impl.Summons]", "internal/reflectlite.ValueOf", "(internal/reflectlite.Value).Type", "(internal/reflectlite.Value).IsNil", "internal/reflectlite.TypeOf", "(internal/reflectlite.Value).Elem", "(internal/reflectlite.Value).Set"], unfollowed := true, recurses := true, named := ["errors.errorType"], apart := false, laid := [("errors.errorType", laid_errors_errorType)], narrowed := true }
def FnExactSendSummonsUptoSaid : Prop := fnExactSendSummonsUptoRow.holds Tryd.pinned (OpenSpec.upto fnExactSendSummonsSpec)

/-- 'laws.FnExactAnswerSummons', WHERE WHAT IT READS IS OF BULK AT MOST 1048576: true; the input reads as it did. -/
def fnExactAnswerSummonsUptoRow : OpenClaim := { program := "ytchffaohmeaccaadoor", sum := "0857d73d337f311bcc60dabd14c65fd33bbf663424d3717a826be8ee4f80951b", func := "loop.example/g01027/laws.FnExactAnswerSummons", spec := "fnExactAnswerSummons", inPlace := ["internal/reflectlite.ValueOf", "(internal/reflectlite.Value).Type", "(internal/reflectlite.Value).IsNil", "internal/reflectlite.TypeOf", "(internal/reflectlite.Value).Elem", "(internal/reflectlite.Value).Set"], unfollowed := true, recurses := true, named := ["errors.errorType"], apart := false, laid := [("errors.errorType", laid_errors_errorType)], narrowed := true }
def FnExactAnswerSummonsUptoSaid : Prop := fnExactAnswerSummonsUptoRow.holds Tryd.pinned (OpenSpec.upto fnExactAnswerSummonsSpec)

/-- 'laws.FnExactOpenOn', WHERE WHAT IT READS IS OF BULK AT MOST 1048576: true; the input reads as it did. -/
def fnExactOpenOnUptoRow : OpenClaim := { program := "ytchffaohmeaccaadoor", sum := "0857d73d337f311bcc60dabd14c65fd33bbf663424d3717a826be8ee4f80951b", func := "loop.example/g01027/laws.FnExactOpenOn", spec := "fnExactOpenOn", inPlace := ["internal/reflectlite.ValueOf", "(internal/reflectlite.Value).Type", "(internal/reflectlite.Value).IsNil", "internal/reflectlite.TypeOf", "(internal/reflectlite.Value).Elem", "(internal/reflectlite.Value).Set"], unfollowed := true, recurses := true, named := ["errors.errorType"], apart := false, laid := [("errors.errorType", laid_errors_errorType)], narrowed := true }
def FnExactOpenOnUptoSaid : Prop := fnExactOpenOnUptoRow.holds Tryd.pinned (OpenSpec.upto fnExactOpenOnSpec)

/-- 'laws.FnExactOverdueOn', WHERE WHAT IT READS IS OF BULK AT MOST 1048576: true; the input reads as it did. -/
def fnExactOverdueOnUptoRow : OpenClaim := { program := "ytchffaohmeaccaadoor", sum := "0857d73d337f311bcc60dabd14c65fd33bbf663424d3717a826be8ee4f80951b", func := "loop.example/g01027/laws.FnExactOverdueOn", spec := "fnExactOverdueOn", inPlace := ["internal/reflectlite.ValueOf", "(internal/reflectlite.Value).Type", "(internal/reflectlite.Value).IsNil", "internal/reflectlite.TypeOf", "(internal/reflectlite.Value).Elem", "(internal/reflectlite.Value).Set"], unfollowed := true, recurses := true, named := ["errors.errorType"], apart := false, laid := [("errors.errorType", laid_errors_errorType)], narrowed := true }
def FnExactOverdueOnUptoSaid : Prop := fnExactOverdueOnUptoRow.holds Tryd.pinned (OpenSpec.upto fnExactOverdueOnSpec)

/-- 'laws.FnExactRemindersOn', WHERE WHAT IT READS IS OF BULK AT MOST 1048576: true; the input reads as it did. -/
def fnExactRemindersOnUptoRow : OpenClaim := { program := "ytchffaohmeaccaadoor", sum := "0857d73d337f311bcc60dabd14c65fd33bbf663424d3717a826be8ee4f80951b", func := "loop.example/g01027/laws.FnExactRemindersOn", spec := "fnExactRemindersOn", inPlace := ["internal/reflectlite.ValueOf", "(internal/reflectlite.Value).Type", "(internal/reflectlite.Value).IsNil", "internal/reflectlite.TypeOf", "(internal/reflectlite.Value).Elem", "(internal/reflectlite.Value).Set"], unfollowed := true, recurses := true, named := ["errors.errorType"], apart := false, laid := [("errors.errorType", laid_errors_errorType)], narrowed := true }
def FnExactRemindersOnUptoSaid : Prop := fnExactRemindersOnUptoRow.holds Tryd.pinned (OpenSpec.upto fnExactRemindersOnSpec)

/-- 'laws.FnExactCountAnswers', WHERE WHAT IT READS IS OF BULK AT MOST 1048576: true; the input reads as it did. -/
def fnExactCountAnswersUptoRow : OpenClaim := { program := "ytchffaohmeaccaadoor", sum := "0857d73d337f311bcc60dabd14c65fd33bbf663424d3717a826be8ee4f80951b", func := "loop.example/g01027/laws.FnExactCountAnswers", spec := "fnExactCountAnswers", inPlace := ["internal/reflectlite.ValueOf", "(internal/reflectlite.Value).Type", "(internal/reflectlite.Value).IsNil", "internal/reflectlite.TypeOf", "(internal/reflectlite.Value).Elem", "(internal/reflectlite.Value).Set"], unfollowed := true, recurses := true, named := ["errors.errorType"], apart := false, laid := [("errors.errorType", laid_errors_errorType)], narrowed := true }
def FnExactCountAnswersUptoSaid : Prop := fnExactCountAnswersUptoRow.holds Tryd.pinned (OpenSpec.upto fnExactCountAnswersSpec)

/-- 'laws.FnExactNextReminder', WHERE WHAT IT READS IS OF BULK AT MOST 1048576: true; the input reads as it did. -/
def fnExactNextReminderUptoRow : OpenClaim := { program := "ytchffaohmeaccaadoor", sum := "0857d73d337f311bcc60dabd14c65fd33bbf663424d3717a826be8ee4f80951b", func := "loop.example/g01027/laws.FnExactNextReminder", spec := "fnExactNextReminder", inPlace := ["internal/reflectlite.ValueOf", "(internal/reflectlite.Value).Type", "(internal/reflectlite.Value).IsNil", "internal/reflectlite.TypeOf", "(internal/reflectlite.Value).Elem", "(internal/reflectlite.Value).Set"], unfollowed := true, recurses := true, named := ["errors.errorType"], apart := false, laid := [("errors.errorType", laid_errors_errorType)], narrowed := true }
def FnExactNextReminderUptoSaid : Prop := fnExactNextReminderUptoRow.holds Tryd.pinned (OpenSpec.upto fnExactNextReminderSpec)

end Rows
end Go.Proofs.YtchffaohmeaccaaDoor
