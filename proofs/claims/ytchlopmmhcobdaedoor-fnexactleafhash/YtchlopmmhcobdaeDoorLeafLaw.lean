/-
  The walk of the exact law of LeafHash. Condition: the program's variable holds the rounds' numbers.
-/
import Derived.Test.YtchlopmmhcobdaeDoorSpecLeaf
import Derived.Test.YtchlopmmhcobdaeDoorImplNode
namespace Go.Proofs.YtchlopmmhcobdaeDoor
open Go.RowKit Go.Lib
set_option linter.unusedVariables false

set_option maxHeartbeats 400000 in
theorem specLeafHash_any (t : ByteArray) (w : World) (ht : t.size ≤ 1048576) :
    Calls Tryd.prog 13 #[.string t] w fun e w' => e = .returned (.string (leafV t)) ∧ Below w.heap.size w w' := by
  unfold leafV
  by_cases h : 100 < (t.size : Int)
  · rw [if_pos h]
    go_enter Tryd.func13, Tryd.ntmps13
    go_wp2
    go_ret
    exact ⟨rfl, Below.refl _ _⟩
  · rw [if_neg h]
    have E : Hid (Calls Tryd.prog 30 #[.string t] w fun e w' => e = .returned (.string (leafB t)) ∧ Below w.heap.size w w') := leaf_any t w (by omega)
    generalize leafB t = v at *
    go_enter Tryd.func13, Tryd.ntmps13
    go_wp2_with fail
    refine E.out.mono ?_
    rintro e w1 ⟨rfl, hb⟩
    have HB : Hid (Below w.heap.size w w1) := hb
    clear hb
    go_wp2
    go_ret
    exact ⟨rfl, HB.out⟩

set_option maxHeartbeats 400000 in
theorem lawLeafHash_any (s : ByteArray) (w : World) (hs : s.size ≤ maxLen) (hK : Keys w) :
    Calls Tryd.prog 5 #[.string s] w fun e w' => e = .returned (.bool true) ∧ Below w.heap.size w w' := by
  unfold maxLen at hs
  by_cases h1 : (1048576 : Int) < s.size
  · clear hK
    go_enter Tryd.func5, Tryd.ntmps5
    go_wp2
    go_ret
    exact ⟨rfl, Below.refl _ _⟩
  have hs' : s.size ≤ 1048576 := by omega
  have HE1 : Hid (∀ w, Calls Tryd.prog 13 #[.string s] w fun e w' => e = .returned (.string (leafV s)) ∧ Below w.heap.size w w') := fun w => specLeafHash_any s w hs'
  have HE2 : Hid (∀ w, Keys w → Calls Tryd.prog 14 #[.string s] w fun e w' => e = .returned (.string (leafV s)) ∧ Below w.heap.size w w') := fun w hK => implLeaf_any s w hs' hK
  generalize leafV s = v at *
  have HK : Hid (Keys w) := hK
  clear hK
  go_enter Tryd.func5, Tryd.ntmps5
  go_wp2_with fail
  refine (HE1.out _).mono ?_
  rintro e w1 ⟨rfl, hb⟩
  have H1 : Hid (Keys w1 ∧ Below w.heap.size w w1) := ⟨HK.out.below hb HK.out.lt, hb⟩
  clear hb
  go_wp2_with fail
  refine (HE2.out _ H1.out.1).mono ?_
  rintro e w2 ⟨rfl, hb2⟩
  have H2 : Hid (Below w.heap.size w w2) := H1.out.2.trans (hb2.mono H1.out.2.size)
  clear hb2
  go_wp2
  go_ret
  exact ⟨rfl, H2.out⟩
end Go.Proofs.YtchlopmmhcobdaeDoor
