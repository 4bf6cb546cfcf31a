/-
  DERIVED. GIVEN WITH THE SEED: THE CARDS: each row of YtcenlgfopmahcaaGreatDoorRows.lean that lists a variable, with what it lists TIED to the program's text (the seventh form; the later family's looks); each row that meets fmt, with fmt's text TOLD by the authors' own Lean function (tested against real Go, not proved from fmt's source: count such statements apart). THE CARD IS WHAT COUNTS. Prove the row's statement (the work); the ties are given (YtcenlgfopmahcaaGreatDoorTie.lean); close each card by the builder's one call (the guide's Derived/Test/ToyasCard.lean, 'card_holds'). Laid BY PROGRAM, IN A SANDBOX (cutbox-door.mjs). By AI agents, Wed Nov 11 2026. No macro, syntax, notation, axiom, sorry.
-/
import Derived.Test.YtcenlgfopmahcaaGreatDoorRows
import GoSem.ClaimSeven
namespace Go.Proofs.YtcenlgfopmahcaaGreatDoor
namespace Rows

/-- THE TIED CARD OF 'laws.FnExactShares'. -/
def fnExactSharesCard : Claim7 := { stood := { row := fnExactSharesRow, standIns := [], harness := (true, "7a4287ab7af517f6fb5f1122922b470f9096c70df39f423bdd4b0771d90c4784"), looks := true }, kinds := [], alts := [], laidByText := true, laidKinds := [.data, .sentinel], laidTests := true, laidLooks := .later }
def FnExactSharesCardSaid : Prop := Claim7.holds Tryz.pinned (.plain (OpenSpec.ofChange fnExactSharesSpec)) fnExactSharesCard

/-- THE SECOND FORM's CARD OF 'laws.FnExactShares'. -/
def fnExactSharesUptoCard : Claim7 := { stood := { row := fnExactSharesUptoRow, standIns := [], harness := (true, "7a4287ab7af517f6fb5f1122922b470f9096c70df39f423bdd4b0771d90c4784"), looks := true }, kinds := [], alts := [], laidByText := true, laidKinds := [.data, .sentinel], laidTests := true, laidLooks := .later }
def FnExactSharesUptoCardSaid : Prop := Claim7.holds Tryz.pinned (.plain (OpenSpec.upto fnExactSharesSpec)) fnExactSharesUptoCard
end Rows
end Go.Proofs.YtcenlgfopmahcaaGreatDoor
