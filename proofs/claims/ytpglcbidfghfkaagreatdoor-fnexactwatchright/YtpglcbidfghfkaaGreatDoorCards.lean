/-
  DERIVED. GIVEN WITH THE SEED: THE CARDS: each row of YtpglcbidfghfkaaGreatDoorRows.lean that lists a variable, with what it lists TIED to the program's text (the seventh form; the later family's looks); each row that meets fmt, with fmt's text TOLD by the authors' own Lean function (tested against real Go, not proved from fmt's source: count such statements apart). THE CARD IS WHAT COUNTS. Prove the row's statement (the work); the ties are given (YtpglcbidfghfkaaGreatDoorTie.lean); close each card by the builder's one call (the guide's Derived/Test/ToyasCard.lean, 'card_holds'). Laid BY PROGRAM, IN A SANDBOX (cutbox-door.mjs). By AI agents, Wed Nov 11 2026. No macro, syntax, notation, axiom, sorry.
-/
import Derived.Test.YtpglcbidfghfkaaGreatDoorRows
import GoSem.ClaimSeven
namespace Go.Proofs.YtpglcbidfghfkaaGreatDoor
namespace Rows

/-- THE TIED CARD OF 'laws.FnHead'. -/
def fnHeadCard : Claim7 := { stood := { row := fnHeadRow, standIns := [], harness := (true, "3b982fd023fe4e998a797a7934285cc8c81ef324ed9d4e1fad713ddbfd9d7808"), looks := true }, kinds := [], alts := [], laidByText := true, laidKinds := [.data], laidTests := true, laidLooks := .later }
def FnHeadCardSaid : Prop := Claim7.holds Tryz.pinned (.plain (OpenSpec.ofChange fnHeadSpec)) fnHeadCard

/-- THE TIED CARD OF 'laws.FnJudge'. -/
def fnJudgeCard : Claim7 := { stood := { row := fnJudgeRow, standIns := [], harness := (true, "3b982fd023fe4e998a797a7934285cc8c81ef324ed9d4e1fad713ddbfd9d7808"), looks := true }, kinds := [], alts := [], laidByText := true, laidKinds := [.data, .sentinel], laidTests := true, laidLooks := .later }
def FnJudgeCardSaid : Prop := Claim7.holds Tryz.pinned (.plain (OpenSpec.ofChange fnJudgeSpec)) fnJudgeCard

/-- THE TIED CARD OF 'laws.FnWatch'. -/
def fnWatchCard : Claim7 := { stood := { row := fnWatchRow, standIns := [], harness := (true, "3b982fd023fe4e998a797a7934285cc8c81ef324ed9d4e1fad713ddbfd9d7808"), looks := true }, kinds := [], alts := [], laidByText := true, laidKinds := [.data, .sentinel], laidTests := true, laidLooks := .later }
def FnWatchCardSaid : Prop := Claim7.holds Tryz.pinned (.plain (OpenSpec.ofChange fnWatchSpec)) fnWatchCard

/-- THE TIED CARD OF 'laws.FnExactWatchRight'. -/
def fnExactWatchRightCard : Claim7 := { stood := { row := fnExactWatchRightRow, standIns := [], harness := (true, "3b982fd023fe4e998a797a7934285cc8c81ef324ed9d4e1fad713ddbfd9d7808"), looks := true }, kinds := [], alts := [], laidByText := true, laidKinds := [.data, .sentinel], laidTests := true, laidLooks := .later }
def FnExactWatchRightCardSaid : Prop := Claim7.holds Tryz.pinned (.plain (OpenSpec.ofChange fnExactWatchRightSpec)) fnExactWatchRightCard

/-- THE SECOND FORM's CARD OF 'laws.FnHead'. -/
def fnHeadUptoCard : Claim7 := { stood := { row := fnHeadUptoRow, standIns := [], harness := (true, "3b982fd023fe4e998a797a7934285cc8c81ef324ed9d4e1fad713ddbfd9d7808"), looks := true }, kinds := [], alts := [], laidByText := true, laidKinds := [.data], laidTests := true, laidLooks := .later }
def FnHeadUptoCardSaid : Prop := Claim7.holds Tryz.pinned (.plain (OpenSpec.upto fnHeadSpec)) fnHeadUptoCard

/-- THE SECOND FORM's CARD OF 'laws.FnJudge'. -/
def fnJudgeUptoCard : Claim7 := { stood := { row := fnJudgeUptoRow, standIns := [], harness := (true, "3b982fd023fe4e998a797a7934285cc8c81ef324ed9d4e1fad713ddbfd9d7808"), looks := true }, kinds := [], alts := [], laidByText := true, laidKinds := [.data, .sentinel], laidTests := true, laidLooks := .later }
def FnJudgeUptoCardSaid : Prop := Claim7.holds Tryz.pinned (.plain (OpenSpec.upto fnJudgeSpec)) fnJudgeUptoCard

/-- THE SECOND FORM's CARD OF 'laws.FnWatch'. -/
def fnWatchUptoCard : Claim7 := { stood := { row := fnWatchUptoRow, standIns := [], harness := (true, "3b982fd023fe4e998a797a7934285cc8c81ef324ed9d4e1fad713ddbfd9d7808"), looks := true }, kinds := [], alts := [], laidByText := true, laidKinds := [.data, .sentinel], laidTests := true, laidLooks := .later }
def FnWatchUptoCardSaid : Prop := Claim7.holds Tryz.pinned (.plain (OpenSpec.upto fnWatchSpec)) fnWatchUptoCard

/-- THE SECOND FORM's CARD OF 'laws.FnExactWatchRight'. -/
def fnExactWatchRightUptoCard : Claim7 := { stood := { row := fnExactWatchRightUptoRow, standIns := [], harness := (true, "3b982fd023fe4e998a797a7934285cc8c81ef324ed9d4e1fad713ddbfd9d7808"), looks := true }, kinds := [], alts := [], laidByText := true, laidKinds := [.data, .sentinel], laidTests := true, laidLooks := .later }
def FnExactWatchRightUptoCardSaid : Prop := Claim7.holds Tryz.pinned (.plain (OpenSpec.upto fnExactWatchRightSpec)) fnExactWatchRightUptoCard
end Rows
end Go.Proofs.YtpglcbidfghfkaaGreatDoor
