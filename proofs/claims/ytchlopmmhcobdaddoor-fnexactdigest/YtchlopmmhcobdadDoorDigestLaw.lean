/-
  The walk of the exact law of Digest: both answer alike. Condition: the program's variable holds the rounds' numbers.
-/
import Derived.Test.YtchlopmmhcobdadDoorSpecDigest
import Derived.Test.YtchlopmmhcobdadDoorDigest
namespace Go.Proofs.YtchlopmmhcobdadDoor
open Go.RowKit Go.Lib
set_option linter.unusedVariables false

set_option maxHeartbeats 400000 in
theorem lawDigest_any (s : ByteArray) (w : World) (hs : s.size ≤ maxLen) (hK : Keys w) :
    Calls Tryd.prog 3 #[.string s] w fun e w' => e = .returned (.bool true) ∧ Below w.heap.size w w' := by
  unfold maxLen at hs
  by_cases h1 : (1048576 : Int) < s.size
  · clear hK
    go_enter Tryd.func3, Tryd.ntmps3
    go_wp2
    go_ret
    exact ⟨rfl, Below.refl _ _⟩
  have hs' : s.size ≤ 1048576 := by omega
  have E1 := fun w => specDigest_any s w hs'
  have E2 := fun w hK => implDigest_any s w hs' hK
  generalize digV s = v at *
  have HE1 : Hid (∀ w, Calls Tryd.prog 4 #[.string s] w fun e w' => e = .returned (.string v) ∧ Below w.heap.size w w') := E1
  have HE2 : Hid (∀ w, Keys w → Calls Tryd.prog 5 #[.string s] w fun e w' => e = .returned (.string v) ∧ Below w.heap.size w w') := E2
  have HK : Hid (Keys w) := hK
  clear E1 E2 hK
  go_enter Tryd.func3, Tryd.ntmps3
  go_wp2_with fail
  refine (HE1.out _).mono ?_
  rintro e w1 ⟨rfl, hb⟩
  have H1 : Hid (Keys w1 ∧ Below w.heap.size w w1) := ⟨HK.out.below hb HK.out.lt, hb⟩
  clear hb
  go_wp2_with fail
  refine (HE2.out _ H1.out.1).mono ?_
  rintro e w2 ⟨rfl, hb2⟩
  have H2 : Hid (Below w.heap.size w w2) := H1.out.2.trans (hb2.mono H1.out.2.size)
  clear hb2
  go_wp2
  go_ret
  exact ⟨rfl, H2.out⟩
end Go.Proofs.YtchlopmmhcobdadDoor
