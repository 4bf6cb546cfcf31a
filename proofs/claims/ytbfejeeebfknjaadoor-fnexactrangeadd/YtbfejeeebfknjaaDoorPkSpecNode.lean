/-
  The document's node.
-/
import Derived.Test.YtbfejeeebfknjaaDoorPkSpecAll
import Derived.Test.YtbfejeeebfknjaaDoorPkCells
import Derived.Laws.Concat
namespace Go.Proofs.YtbfejeeebfknjaaDoor
open Go.RowKit Go.Lib
set_option linter.unusedVariables false

set_option maxHeartbeats 400000 in
set_option maxRecDepth 10000 in
theorem node_any (l r : ByteArray) (w : World) (hl : l.size ≤ 10000) (hr : r.size ≤ 10000) :
    Calls Tryd.prog 28 #[.string l, .string r] w fun e w' => e = .returned (.string (nodeB l r)) ∧ Below w.heap.size w w' := by
  have E : Hid (∀ w, Calls Tryd.prog 63 #[.string ((oneB ++ l) ++ r)] w fun e w' => e = .returned (.string (nodeB l r)) ∧ Below w.heap.size w w') := fun w => all_any ((oneB ++ l) ++ r) w (by rw [ByteArray.size_append, ByteArray.size_append]; show 1 + l.size + r.size ≤ 50000; omega)
  generalize nodeB l r = v at *
  unfold oneB at E
  go_enter Tryd.func28, Tryd.ntmps28
  go_wp2_with fail
  refine (E.out _).mono ?_
  rintro e w1 ⟨rfl, hb⟩
  have HB : Hid (Below w.heap.size w w1) := hb
  clear hb
  go_wp2
  go_ret
  exact ⟨rfl, HB.out⟩
end Go.Proofs.YtbfejeeebfknjaaDoor

/-
  The document's leaf.
-/
namespace Go.Proofs.YtbfejeeebfknjaaDoor
open Go.RowKit Go.Lib
set_option linter.unusedVariables false

set_option maxHeartbeats 400000 in
set_option maxRecDepth 10000 in
theorem leaf_any (t : ByteArray) (w : World) (ht : t.size ≤ 30000) :
    Calls Tryd.prog 27 #[.string t] w fun e w' => e = .returned (.string (leafB t)) ∧ Below w.heap.size w w' := by
  have E : Hid (∀ w, Calls Tryd.prog 63 #[.string (zeroB ++ t)] w fun e w' => e = .returned (.string (leafB t)) ∧ Below w.heap.size w w') := fun w => all_any (zeroB ++ t) w (by rw [ByteArray.size_append]; show 1 + t.size ≤ 50000; omega)
  generalize leafB t = v at *
  unfold zeroB at E
  go_enter Tryd.func27, Tryd.ntmps27
  go_wp2_with fail
  refine (E.out _).mono ?_
  rintro e w1 ⟨rfl, hb⟩
  have HB : Hid (Below w.heap.size w w1) := hb
  clear hb
  go_wp2
  go_ret
  exact ⟨rfl, HB.out⟩
end Go.Proofs.YtbfejeeebfknjaaDoor
