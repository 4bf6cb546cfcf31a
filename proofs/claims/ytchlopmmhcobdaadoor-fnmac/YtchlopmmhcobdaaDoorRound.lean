/-
  The program's words of a block and its round.
-/
import Derived.Test.YtchlopmmhcobdaaDoorRot
import Derived.Test.YtchlopmmhcobdaaDoorCells
namespace Go.Proofs.YtchlopmmhcobdaaDoor
open Go.RowKit Go.Lib
set_option linter.unusedVariables false

set_option maxHeartbeats 1000000 in
theorem wordAt_any (s : ByteArray) (k : Nat) (w : World) (hk : k + 4 ≤ s.size) (hs : s.size ≤ 1048576) :
    Calls Tryd.prog 156 #[.string s, .int .i64 k] w fun e w' => e = .returned (.int .u32 (four (byteL s.data.toList k) (byteL s.data.toList (k + 1)) (byteL s.data.toList (k + 2)) (byteL s.data.toList (k + 3)))) ∧ ∃ n, w' = w.drewN n := by
  have i0 := fun w => index_text s k _ rfl (by omega) w
  have i1 := fun w => index_text s (k + 1) (k + 1 : Int) (by omega) (by omega) w
  have i2 := fun w => index_text s (k + 2) (k + 2 : Int) (by omega) (by omega) w
  have i3 := fun w => index_text s (k + 3) (k + 3 : Int) (by omega) (by omega) w
  have w1 : IntKind.i64.wrap ((k : Int) + 1) = k + 1 := by rw [IntKind.wrap_i64]; omega
  have w2 : IntKind.i64.wrap ((k : Int) + 2) = k + 2 := by rw [IntKind.wrap_i64]; omega
  have w3 : IntKind.i64.wrap ((k : Int) + 3) = k + 3 := by rw [IntKind.wrap_i64]; omega
  obtain ⟨p0, q0⟩ := byteL_bd s.data.toList k
  obtain ⟨p1, q1⟩ := byteL_bd s.data.toList (k + 1)
  obtain ⟨p2, q2⟩ := byteL_bd s.data.toList (k + 2)
  obtain ⟨p3, q3⟩ := byteL_bd s.data.toList (k + 3)
  generalize byteL s.data.toList k = x at *
  generalize byteL s.data.toList (k + 1) = y at *
  generalize byteL s.data.toList (k + 2) = z at *
  generalize byteL s.data.toList (k + 3) = u at *
  clear hk hs
  go_enter Tryd.func156, Tryd.ntmps156
  go_wp2
  go_quiet (fail)
  go_wp2
  go_ret
  exact ⟨rfl, _, rfl⟩

end Go.Proofs.YtchlopmmhcobdaaDoor
