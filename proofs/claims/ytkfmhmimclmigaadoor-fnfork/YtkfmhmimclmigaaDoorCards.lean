/-
  DERIVED. GIVEN WITH THE SEED: THE CARDS: each row of YtkfmhmimclmigaaDoorRows.lean that lists a variable, with what it lists TIED to the program's text (the seventh form; the later family's looks); each row that meets fmt, with fmt's text TOLD by the authors' own Lean function (tested against real Go, not proved from fmt's source: count such statements apart). THE CARD IS WHAT COUNTS. Prove the row's statement (the work); the ties are given (YtkfmhmimclmigaaDoorTie.lean); close each card by the builder's one call (the guide's Derived/Test/ToyasCard.lean, 'card_holds'). Laid BY PROGRAM, IN A SANDBOX (cutbox-door.mjs). By AI agents, Wed Nov 11 2026. No macro, syntax, notation, axiom, sorry.
-/
import Derived.Test.YtkfmhmimclmigaaDoorRows
import GoSem.ClaimSeven
namespace Go.Proofs.YtkfmhmimclmigaaDoor
namespace Rows

/-- THE TIED CARD OF 'laws.FnFork'. -/
def fnForkCard : Claim7 := { stood := { row := fnForkRow, standIns := [], harness := (true, "97e4d6358db4c3ca6320c33012cd9ffed691675931b5878522017416e28fb7ad"), looks := false }, kinds := [], alts := [], laidByText := true, laidKinds := [.data, .data, .data], laidTests := true, laidLooks := .later }
def FnForkCardSaid : Prop := Claim7.holds Tryd.pinned (.plain (OpenSpec.ofChange fnForkSpec)) fnForkCard

/-- THE TIED CARD OF 'laws.FnExactBranch'. -/
def fnExactBranchCard : Claim7 := { stood := { row := fnExactBranchRow, standIns := [], harness := (true, "97e4d6358db4c3ca6320c33012cd9ffed691675931b5878522017416e28fb7ad"), looks := false }, kinds := [], alts := [], laidByText := true, laidKinds := [.data, .data, .data], laidTests := true, laidLooks := .later }
def FnExactBranchCardSaid : Prop := Claim7.holds Tryd.pinned (.plain (OpenSpec.ofChange fnExactBranchSpec)) fnExactBranchCard

/-- THE SECOND FORM's CARD OF 'laws.FnFork'. -/
def fnForkUptoCard : Claim7 := { stood := { row := fnForkUptoRow, standIns := [], harness := (true, "97e4d6358db4c3ca6320c33012cd9ffed691675931b5878522017416e28fb7ad"), looks := false }, kinds := [], alts := [], laidByText := true, laidKinds := [.data, .data, .data], laidTests := true, laidLooks := .later }
def FnForkUptoCardSaid : Prop := Claim7.holds Tryd.pinned (.plain (OpenSpec.upto fnForkSpec)) fnForkUptoCard

/-- THE SECOND FORM's CARD OF 'laws.FnExactBranch'. -/
def fnExactBranchUptoCard : Claim7 := { stood := { row := fnExactBranchUptoRow, standIns := [], harness := (true, "97e4d6358db4c3ca6320c33012cd9ffed691675931b5878522017416e28fb7ad"), looks := false }, kinds := [], alts := [], laidByText := true, laidKinds := [.data, .data, .data], laidTests := true, laidLooks := .later }
def FnExactBranchUptoCardSaid : Prop := Claim7.holds Tryd.pinned (.plain (OpenSpec.upto fnExactBranchSpec)) fnExactBranchUptoCard
end Rows
end Go.Proofs.YtkfmhmimclmigaaDoor
