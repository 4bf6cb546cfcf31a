/-
  The document's leaf.
-/
import Derived.Test.YtchlopmmhcobdagDoorSpecAll
import Derived.Test.YtchlopmmhcobdagDoorTreeB
import Derived.Laws.Concat
namespace Go.Proofs.YtchlopmmhcobdagDoor
open Go.RowKit Go.Lib
set_option linter.unusedVariables false

set_option maxHeartbeats 400000 in
set_option maxRecDepth 10000 in
theorem leaf_any (t : ByteArray) (w : World) (ht : t.size ≤ 30000) :
    Calls Tryd.prog 40 #[.string t] w fun e w' => e = .returned (.string (leafB t)) ∧ Below w.heap.size w w' := by
  have E : Hid (∀ w, Calls Tryd.prog 41 #[.string (zeroB ++ t)] w fun e w' => e = .returned (.string (leafB t)) ∧ Below w.heap.size w w') := fun w => all_any (zeroB ++ t) w (by rw [ByteArray.size_append]; show 1 + t.size ≤ 50000; omega)
  generalize leafB t = v at *
  unfold zeroB at E
  go_enter Tryd.func40, Tryd.ntmps40
  go_wp2_with fail
  refine (E.out _).mono ?_
  rintro e w1 ⟨rfl, hb⟩
  have HB : Hid (Below w.heap.size w w1) := hb
  clear hb
  go_wp2
  go_ret
  exact ⟨rfl, HB.out⟩
end Go.Proofs.YtchlopmmhcobdagDoor
