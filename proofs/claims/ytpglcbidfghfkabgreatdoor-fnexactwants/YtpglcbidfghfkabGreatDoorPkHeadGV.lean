/-
  What HeadGood answers.
-/
import Derived.Test.YtpglcbidfghfkabGreatDoorPkPutNum
import Derived.Test.YtpglcbidfghfkabGreatDoorPkSignV
namespace Go.Proofs.YtpglcbidfghfkabGreatDoor
open Go.RowKit Go.Lib
set_option linter.unusedVariables false
set_option linter.unusedSimpArgs false

/-- What HeadGood answers. -/
def headGB (r log : ByteArray) (size : Int) (root : ByteArray) (time k : Int) (el pl : List ByteArray) : Bool := headRB log size root time k el pl && verB r (headT log size root time) k el pl
end Go.Proofs.YtpglcbidfghfkabGreatDoor
