/-
  The walk of the exact law of KeyRoot. Condition: the program's variable holds the rounds' numbers.
-/
import Derived.Test.YtchlopmmhcobdagDoorPkSpecTree
import Derived.Test.YtchlopmmhcobdagDoorPkImplTree
namespace Go.Proofs.YtchlopmmhcobdagDoor
open Go.RowKit Go.Lib
set_option linter.unusedVariables false
set_option linter.unusedSimpArgs false

set_option maxHeartbeats 400000 in
set_option maxRecDepth 10000 in
theorem lawKeyRoot_any (s : ByteArray) (w : World) (hs : s.size ≤ maxLen) (hK : Keys w) :
    Calls Tryd.prog 3 #[.string s] w fun e w' => e = .returned (.bool true) ∧ Below w.heap.size w w' := by
  unfold maxLen at hs
  by_cases h : 1048576 < (s.size : Int)
  · go_enter Tryd.func3, Tryd.ntmps3
    go_wp2
    go_ret
    exact ⟨rfl, Below.refl _ _⟩
  · have hz : s.size ≤ 1048576 := by omega
    have E1 : Hid (Calls Tryd.prog 6 #[.string s] w fun e w' => e = .returned (.string (keyV s)) ∧ Below w.heap.size w w') := specKeyRoot_any s w hz
    have E2 : Hid (∀ w, Keys w → Calls Tryd.prog 7 #[.string s] w fun e w' => e = .returned (.string (keyV s)) ∧ Below w.heap.size w w') := fun w hK => implKeyRoot_any s w hz hK
    generalize keyV s = V at *
    have HK : Hid (Keys w) := hK
    clear hK hs
    go_enter Tryd.func3, Tryd.ntmps3
    go_wp2_with fail
    refine E1.out.mono ?_
    rintro e w1 ⟨rfl, hb1⟩
    have H1 : Hid (Below w.heap.size w w1 ∧ Keys w1) := ⟨hb1, HK.out.below hb1 HK.out.lt⟩
    clear hb1
    go_wp2_with fail
    refine (E2.out _ H1.out.2).mono ?_
    rintro e w2 ⟨rfl, hb2⟩
    have H2 : Hid (Below w.heap.size w w2) := H1.out.1.trans (hb2.mono H1.out.1.size)
    clear hb2 H1
    go_wp2
    go_ret
    exact ⟨rfl, H2.out⟩
end Go.Proofs.YtchlopmmhcobdagDoor
