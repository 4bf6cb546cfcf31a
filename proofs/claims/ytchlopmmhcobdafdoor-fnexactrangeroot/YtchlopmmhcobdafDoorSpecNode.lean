/-
  The document's node.
-/
import Derived.Test.YtchlopmmhcobdafDoorSpecAll
import Derived.Test.YtchlopmmhcobdafDoorTreeB
import Derived.Laws.Concat
namespace Go.Proofs.YtchlopmmhcobdafDoor
open Go.RowKit Go.Lib
set_option linter.unusedVariables false

set_option maxHeartbeats 400000 in
set_option maxRecDepth 10000 in
theorem node_any (l r : ByteArray) (w : World) (hl : l.size ≤ 10000) (hr : r.size ≤ 10000) :
    Calls Tryd.prog 29 #[.string l, .string r] w fun e w' => e = .returned (.string (nodeB l r)) ∧ Below w.heap.size w w' := by
  have E : Hid (∀ w, Calls Tryd.prog 46 #[.string ((oneB ++ l) ++ r)] w fun e w' => e = .returned (.string (nodeB l r)) ∧ Below w.heap.size w w') := fun w => all_any ((oneB ++ l) ++ r) w (by rw [ByteArray.size_append, ByteArray.size_append]; show 1 + l.size + r.size ≤ 50000; omega)
  generalize nodeB l r = v at *
  unfold oneB at E
  go_enter Tryd.func29, Tryd.ntmps29
  go_wp2_with fail
  refine (E.out _).mono ?_
  rintro e w1 ⟨rfl, hb⟩
  have HB : Hid (Below w.heap.size w w1) := hb
  clear hb
  go_wp2
  go_ret
  exact ⟨rfl, HB.out⟩
end Go.Proofs.YtchlopmmhcobdafDoor
