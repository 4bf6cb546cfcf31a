/-
  DERIVED. GIVEN WITH THE SEED: THE CARDS: each row of YtbfejeeebfknjaaDoorRows.lean that lists a variable, with what it lists TIED to the program's text (the seventh form; the later family's looks); each row that meets fmt, with fmt's text TOLD by the authors' own Lean function (tested against real Go, not proved from fmt's source: count such statements apart). THE CARD IS WHAT COUNTS. Prove the row's statement (the work); the ties are given (YtbfejeeebfknjaaDoorTie.lean); close each card by the builder's one call (the guide's Derived/Test/ToyasCard.lean, 'card_holds'). Laid BY PROGRAM, IN A SANDBOX (cutbox-door.mjs). By AI agents, Wed Nov 11 2026. No macro, syntax, notation, axiom, sorry.
-/
import Derived.Test.YtbfejeeebfknjaaDoorRows
import GoSem.ClaimSeven
namespace Go.Proofs.YtbfejeeebfknjaaDoor
namespace Rows

/-- THE TIED CARD OF 'laws.FnExactRangeAdd'. -/
def fnExactRangeAddCard : Claim7 := { stood := { row := fnExactRangeAddRow, standIns := [], harness := (true, "fc5923475ac88d3f966c0c8d102d3e07b8c5507eba3080133a38921d4221ab31"), looks := false }, kinds := [], alts := [], laidByText := true, laidKinds := [.data, .data], laidTests := true, laidLooks := .later }
def FnExactRangeAddCardSaid : Prop := Claim7.holds Tryd.pinned (.plain (OpenSpec.ofChange fnExactRangeAddSpec)) fnExactRangeAddCard

/-- THE TIED CARD OF 'laws.FnExactHeadSign'. -/
def fnExactHeadSignCard : Claim7 := { stood := { row := fnExactHeadSignRow, standIns := [], harness := (true, "fc5923475ac88d3f966c0c8d102d3e07b8c5507eba3080133a38921d4221ab31"), looks := false }, kinds := [], alts := [], laidByText := true, laidKinds := [.data], laidTests := true, laidLooks := .later }
def FnExactHeadSignCardSaid : Prop := Claim7.holds Tryd.pinned (.plain (OpenSpec.ofChange fnExactHeadSignSpec)) fnExactHeadSignCard

/-- THE TIED CARD OF 'laws.FnExactHeadGood'. -/
def fnExactHeadGoodCard : Claim7 := { stood := { row := fnExactHeadGoodRow, standIns := [], harness := (true, "fc5923475ac88d3f966c0c8d102d3e07b8c5507eba3080133a38921d4221ab31"), looks := false }, kinds := [], alts := [], laidByText := true, laidKinds := [.data], laidTests := true, laidLooks := .later }
def FnExactHeadGoodCardSaid : Prop := Claim7.holds Tryd.pinned (.plain (OpenSpec.ofChange fnExactHeadGoodSpec)) fnExactHeadGoodCard

/-- THE SECOND FORM's CARD OF 'laws.FnExactRangeAdd'. -/
def fnExactRangeAddUptoCard : Claim7 := { stood := { row := fnExactRangeAddUptoRow, standIns := [], harness := (true, "fc5923475ac88d3f966c0c8d102d3e07b8c5507eba3080133a38921d4221ab31"), looks := false }, kinds := [], alts := [], laidByText := true, laidKinds := [.data, .data], laidTests := true, laidLooks := .later }
def FnExactRangeAddUptoCardSaid : Prop := Claim7.holds Tryd.pinned (.plain (OpenSpec.upto fnExactRangeAddSpec)) fnExactRangeAddUptoCard

/-- THE SECOND FORM's CARD OF 'laws.FnExactHeadSign'. -/
def fnExactHeadSignUptoCard : Claim7 := { stood := { row := fnExactHeadSignUptoRow, standIns := [], harness := (true, "fc5923475ac88d3f966c0c8d102d3e07b8c5507eba3080133a38921d4221ab31"), looks := false }, kinds := [], alts := [], laidByText := true, laidKinds := [.data], laidTests := true, laidLooks := .later }
def FnExactHeadSignUptoCardSaid : Prop := Claim7.holds Tryd.pinned (.plain (OpenSpec.upto fnExactHeadSignSpec)) fnExactHeadSignUptoCard

/-- THE SECOND FORM's CARD OF 'laws.FnExactHeadGood'. -/
def fnExactHeadGoodUptoCard : Claim7 := { stood := { row := fnExactHeadGoodUptoRow, standIns := [], harness := (true, "fc5923475ac88d3f966c0c8d102d3e07b8c5507eba3080133a38921d4221ab31"), looks := false }, kinds := [], alts := [], laidByText := true, laidKinds := [.data], laidTests := true, laidLooks := .later }
def FnExactHeadGoodUptoCardSaid : Prop := Claim7.holds Tryd.pinned (.plain (OpenSpec.upto fnExactHeadGoodSpec)) fnExactHeadGoodUptoCard
end Rows
end Go.Proofs.YtbfejeeebfknjaaDoor
