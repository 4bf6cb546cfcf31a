/-
  What KeyRoot answers.
-/
import Derived.Test.YtchlopmmhcobdagDoorSignV
import Derived.Test.YtchlopmmhcobdagDoorTreeV
import Derived.Test.YtchlopmmhcobdagDoorRight
namespace Go.Proofs.YtchlopmmhcobdagDoor
open Go.RowKit Go.Lib
set_option linter.unusedVariables false
set_option linter.unusedSimpArgs false

def keyV (s : ByteArray) : ByteArray := if seedB s then treeB (pubsB s) else ByteArray.empty
theorem pubs_right (s : ByteArray) : rightB (pubsB s) = true := by
  rw [rightB_short (by rw [pubsB_len]; omega)]
  exact smallB_yes fun j hj => by
    have := pubsB_size s j hj
    omega
theorem treeV_pubs (s : ByteArray) : treeV (pubsB s) = treeB (pubsB s) := by unfold treeV; rw [if_pos (pubs_right s)]
end Go.Proofs.YtchlopmmhcobdagDoor
