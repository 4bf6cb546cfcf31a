/-
  The document's Digest.
-/
import Derived.Test.YtchlopmmhcobdaaDoorSpecAll
namespace Go.Proofs.YtchlopmmhcobdaaDoor
open Go.RowKit Go.Lib
set_option linter.unusedVariables false

set_option maxHeartbeats 400000 in
set_option maxRecDepth 10000 in
theorem specDigest_any (s : ByteArray) (w : World) (hs : s.size ≤ 1048576) :
    Calls Tryd.prog 22 #[.string s] w fun e w' => e = .returned (.string (digV s)) ∧ Below w.heap.size w w' := by
  unfold digV
  by_cases h : 20000 < (s.size : Int)
  · rw [if_pos h]
    go_enter Tryd.func22, Tryd.ntmps22
    go_wp2
    go_ret
    exact ⟨rfl, Below.refl _ _⟩
  · rw [if_neg h]
    have E := all_any s w (by omega)
    generalize shaB s = v at *
    have HE : Hid (Calls Tryd.prog 72 #[.string s] w fun e w' => e = .returned (.string v) ∧ Below w.heap.size w w') := E
    clear E
    go_enter Tryd.func22, Tryd.ntmps22
    go_wp2_with fail
    refine HE.out.mono ?_
    rintro e w1 ⟨rfl, hb⟩
    have HB : Hid (Below w.heap.size w w1) := hb
    clear hb
    go_wp2
    go_ret
    exact ⟨rfl, HB.out⟩
end Go.Proofs.YtchlopmmhcobdaaDoor
