/-
  The digest of nothing; the tree of entries.
-/
import Derived.Test.YthlifmmmeanbaafDoorTreeB
namespace Go.Proofs.YthlifmmmeanbaafDoor
set_option linter.unusedVariables false

/-- The digest of nothing. -/
def noneB : ByteArray := shaB ByteArray.empty
/-- The tree of entries. -/
def treeB (l : List ByteArray) : ByteArray := treeD nodeB noneB (l.map leafB)
end Go.Proofs.YthlifmmmeanbaafDoor
