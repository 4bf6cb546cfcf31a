/-
  DERIVED. GIVEN WITH THE SEED: THE CARDS: each row of YtpglcbidfghfkabGreatDoorRows.lean that lists a variable, with what it lists TIED to the program's text (the seventh form; the later family's looks); each row that meets fmt, with fmt's text TOLD by the authors' own Lean function (tested against real Go, not proved from fmt's source: count such statements apart). THE CARD IS WHAT COUNTS. Prove the row's statement (the work); the ties are given (YtpglcbidfghfkabGreatDoorTie.lean); close each card by the builder's one call (the guide's Derived/Test/ToyasCard.lean, 'card_holds'). Laid BY PROGRAM, IN A SANDBOX (cutbox-door.mjs). By AI agents, Wed Nov 11 2026. No macro, syntax, notation, axiom, sorry.
-/
import Derived.Test.YtpglcbidfghfkabGreatDoorRows
import GoSem.ClaimSeven
namespace Go.Proofs.YtpglcbidfghfkabGreatDoor
namespace Rows

/-- THE TIED CARD OF 'laws.FnExactHear'. -/
def fnExactHearCard : Claim7 := { stood := { row := fnExactHearRow, standIns := [], harness := (true, "29547778c6c1a7aa929347f2f41342291d4aa17193f2e0c8ac73eb75c7a14f6e"), looks := true }, kinds := [], alts := [], laidByText := true, laidKinds := [.data, .sentinel], laidTests := true, laidLooks := .later }
def FnExactHearCardSaid : Prop := Claim7.holds Tryz.pinned (.plain (OpenSpec.ofChange fnExactHearSpec)) fnExactHearCard

/-- THE TIED CARD OF 'laws.FnExactFetch'. -/
def fnExactFetchCard : Claim7 := { stood := { row := fnExactFetchRow, standIns := [], harness := (true, "29547778c6c1a7aa929347f2f41342291d4aa17193f2e0c8ac73eb75c7a14f6e"), looks := true }, kinds := [], alts := [], laidByText := true, laidKinds := [.data, .sentinel], laidTests := true, laidLooks := .later }
def FnExactFetchCardSaid : Prop := Claim7.holds Tryz.pinned (.plain (OpenSpec.ofChange fnExactFetchSpec)) fnExactFetchCard

/-- THE TIED CARD OF 'laws.FnExactWants'. -/
def fnExactWantsCard : Claim7 := { stood := { row := fnExactWantsRow, standIns := [], harness := (true, "29547778c6c1a7aa929347f2f41342291d4aa17193f2e0c8ac73eb75c7a14f6e"), looks := true }, kinds := [], alts := [], laidByText := true, laidKinds := [.data, .sentinel], laidTests := true, laidLooks := .later }
def FnExactWantsCardSaid : Prop := Claim7.holds Tryz.pinned (.plain (OpenSpec.ofChange fnExactWantsSpec)) fnExactWantsCard

/-- THE TIED CARD OF 'laws.FnExactShares'. -/
def fnExactSharesCard : Claim7 := { stood := { row := fnExactSharesRow, standIns := [], harness := (true, "29547778c6c1a7aa929347f2f41342291d4aa17193f2e0c8ac73eb75c7a14f6e"), looks := true }, kinds := [], alts := [], laidByText := true, laidKinds := [.data, .sentinel], laidTests := true, laidLooks := .later }
def FnExactSharesCardSaid : Prop := Claim7.holds Tryz.pinned (.plain (OpenSpec.ofChange fnExactSharesSpec)) fnExactSharesCard

/-- THE TIED CARD OF 'laws.FnExactMeet'. -/
def fnExactMeetCard : Claim7 := { stood := { row := fnExactMeetRow, standIns := [], harness := (true, "29547778c6c1a7aa929347f2f41342291d4aa17193f2e0c8ac73eb75c7a14f6e"), looks := true }, kinds := [], alts := [], laidByText := true, laidKinds := [.data, .sentinel], laidTests := true, laidLooks := .later }
def FnExactMeetCardSaid : Prop := Claim7.holds Tryz.pinned (.plain (OpenSpec.ofChange fnExactMeetSpec)) fnExactMeetCard

/-- THE SECOND FORM's CARD OF 'laws.FnExactHear'. -/
def fnExactHearUptoCard : Claim7 := { stood := { row := fnExactHearUptoRow, standIns := [], harness := (true, "29547778c6c1a7aa929347f2f41342291d4aa17193f2e0c8ac73eb75c7a14f6e"), looks := true }, kinds := [], alts := [], laidByText := true, laidKinds := [.data, .sentinel], laidTests := true, laidLooks := .later }
def FnExactHearUptoCardSaid : Prop := Claim7.holds Tryz.pinned (.plain (OpenSpec.upto fnExactHearSpec)) fnExactHearUptoCard

/-- THE SECOND FORM's CARD OF 'laws.FnExactFetch'. -/
def fnExactFetchUptoCard : Claim7 := { stood := { row := fnExactFetchUptoRow, standIns := [], harness := (true, "29547778c6c1a7aa929347f2f41342291d4aa17193f2e0c8ac73eb75c7a14f6e"), looks := true }, kinds := [], alts := [], laidByText := true, laidKinds := [.data, .sentinel], laidTests := true, laidLooks := .later }
def FnExactFetchUptoCardSaid : Prop := Claim7.holds Tryz.pinned (.plain (OpenSpec.upto fnExactFetchSpec)) fnExactFetchUptoCard

/-- THE SECOND FORM's CARD OF 'laws.FnExactWants'. -/
def fnExactWantsUptoCard : Claim7 := { stood := { row := fnExactWantsUptoRow, standIns := [], harness := (true, "29547778c6c1a7aa929347f2f41342291d4aa17193f2e0c8ac73eb75c7a14f6e"), looks := true }, kinds := [], alts := [], laidByText := true, laidKinds := [.data, .sentinel], laidTests := true, laidLooks := .later }
def FnExactWantsUptoCardSaid : Prop := Claim7.holds Tryz.pinned (.plain (OpenSpec.upto fnExactWantsSpec)) fnExactWantsUptoCard

/-- THE SECOND FORM's CARD OF 'laws.FnExactShares'. -/
def fnExactSharesUptoCard : Claim7 := { stood := { row := fnExactSharesUptoRow, standIns := [], harness := (true, "29547778c6c1a7aa929347f2f41342291d4aa17193f2e0c8ac73eb75c7a14f6e"), looks := true }, kinds := [], alts := [], laidByText := true, laidKinds := [.data, .sentinel], laidTests := true, laidLooks := .later }
def FnExactSharesUptoCardSaid : Prop := Claim7.holds Tryz.pinned (.plain (OpenSpec.upto fnExactSharesSpec)) fnExactSharesUptoCard

/-- THE SECOND FORM's CARD OF 'laws.FnExactMeet'. -/
def fnExactMeetUptoCard : Claim7 := { stood := { row := fnExactMeetUptoRow, standIns := [], harness := (true, "29547778c6c1a7aa929347f2f41342291d4aa17193f2e0c8ac73eb75c7a14f6e"), looks := true }, kinds := [], alts := [], laidByText := true, laidKinds := [.data, .sentinel], laidTests := true, laidLooks := .later }
def FnExactMeetUptoCardSaid : Prop := Claim7.holds Tryz.pinned (.plain (OpenSpec.upto fnExactMeetSpec)) fnExactMeetUptoCard
end Rows
end Go.Proofs.YtpglcbidfghfkabGreatDoor
