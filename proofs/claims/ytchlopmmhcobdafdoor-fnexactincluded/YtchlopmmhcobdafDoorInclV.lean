/-
  What Included answers.
-/
import Derived.Test.YtchlopmmhcobdafDoorTexts
import Derived.Test.YtchlopmmhcobdafDoorTreeB
namespace Go.Proofs.YtchlopmmhcobdafDoor
open Go.RowKit Go.Lib
set_option linter.unusedVariables false

/-- What the end of a run says. -/
def inclEnd (root : ByteArray) : Option (Nat × Nat × ByteArray) → Bool
  | none => false
  | some (_, b, h) => decide (b = 0) && (h.toList == root.toList)
/-- What Included answers. -/
def inclB (leaf : ByteArray) (i n : Int) (path : List ByteArray) (root : ByteArray) : Bool :=
  if 63 < (path.length : Int) ∨ wideB path = false ∨ ¬ (leaf.size : Int) = 32 ∨ ¬ (root.size : Int) = 32 ∨ i < 0 ∨ n ≤ i then false else inclEnd root (inclRun nodeB (some (i.toNat, (n - 1).toNat, leaf)) path)
end Go.Proofs.YtchlopmmhcobdafDoor
