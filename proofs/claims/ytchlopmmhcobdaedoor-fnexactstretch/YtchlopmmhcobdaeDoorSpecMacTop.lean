/-
  The document's Mac.
-/
import Derived.Test.YtchlopmmhcobdaeDoorSpecMac
namespace Go.Proofs.YtchlopmmhcobdaeDoor
open Go.RowKit Go.Lib
set_option linter.unusedVariables false

set_option maxHeartbeats 400000 in
theorem specMac_any (k t : ByteArray) (w : World) (hk : k.size ≤ 1048576) (ht : t.size ≤ 1048576) :
    Calls Tryd.prog 9 #[.string k, .string t] w fun e w' => e = .returned (.string (macV k t)) ∧ Below w.heap.size w w' := by
  unfold macV
  by_cases h1 : 20000 < (k.size : Int)
  · rw [if_pos (.inl h1)]
    go_enter Tryd.func9, Tryd.ntmps9
    go_wp2
    go_ret
    exact ⟨rfl, Below.refl _ _⟩
  by_cases h2 : 20000 < (t.size : Int)
  · rw [if_pos (.inr h2)]
    go_enter Tryd.func9, Tryd.ntmps9
    go_wp2
    go_ret
    exact ⟨rfl, Below.refl _ _⟩
  rw [if_neg (by omega)]
  have E : Hid (Calls Tryd.prog 26 #[.string k, .string t] w fun e w' => e = .returned (.string (macB k t)) ∧ Below w.heap.size w w') := specMacB k t w (by omega) (by omega)
  generalize macB k t = v at *
  go_enter Tryd.func9, Tryd.ntmps9
  go_wp2_with fail
  refine E.out.mono ?_
  rintro e w1 ⟨rfl, hb⟩
  have HB : Hid (Below w.heap.size w w1) := hb
  clear hb
  go_wp2
  go_ret
  exact ⟨rfl, HB.out⟩
end Go.Proofs.YtchlopmmhcobdaeDoor
