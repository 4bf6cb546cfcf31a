/-
  math/bits.OnesCount64 of a number of at most 1000000.
-/
import Derived.Test.YtollfcjbcfnfdaaDoorPkShaPure
import Derived.Test.YtollfcjbcfnfdaaDoorRows
import Derived.WalkKit
import Derived.WalkSpells
import Derived.Laws.BitsAllLaws
import Derived.Laws.Bits128
namespace Go.Proofs.YtollfcjbcfnfdaaDoor
open Go.RowKit Go.Lib
set_option linter.unusedVariables false

theorem ret_count {a b : Int} (h : a = b) : Ending.returned (.int .i64 a) = .returned (.int .i64 b) := by rw [h]
set_option maxHeartbeats 1000000 in
theorem onesCount_any (x : Nat) (w : World) (hx : x ≤ 1000000) :
    Calls Tryd.prog 86 #[.int .u64 x] w fun e w' => e = .returned (.int .i64 (onesN x)) ∧ w' = w := by
  obtain ⟨a, ha⟩ : ∃ a, a = (x / 2 &&& 6148914691236517205) + (x &&& 6148914691236517205) := ⟨_, rfl⟩
  obtain ⟨b, hb⟩ : ∃ b, b = (a / 4 &&& 3689348814741910323) + (a &&& 3689348814741910323) := ⟨_, rfl⟩
  obtain ⟨c, hc⟩ : ∃ c, c = (b / 16 + b) &&& 1085102592571150095 := ⟨_, rfl⟩
  obtain ⟨g1, g2, g3, g4, g5⟩ := pop_of x a b c (by omega) ha hb hc
  have e1 : bits .and .u64 ((x : Int) / 2) 6148914691236517205 = ((x / 2 &&& 6148914691236517205 : Nat) : Int) := u64_and_nat (x / 2) 6148914691236517205 (by omega) (by omega)
  have e2 : bits .and .u64 (x : Int) 6148914691236517205 = ((x &&& 6148914691236517205 : Nat) : Int) := u64_and_nat x 6148914691236517205 (by omega) (by omega)
  have e3 : ((x / 2 &&& 6148914691236517205 : Nat) : Int) + ((x &&& 6148914691236517205 : Nat) : Int) = (a : Int) := by rw [ha]; rfl
  have e4 : bits .and .u64 ((a : Int) / 4) 3689348814741910323 = ((a / 4 &&& 3689348814741910323 : Nat) : Int) := u64_and_nat (a / 4) 3689348814741910323 (by omega) (by omega)
  have e5 : bits .and .u64 (a : Int) 3689348814741910323 = ((a &&& 3689348814741910323 : Nat) : Int) := u64_and_nat a 3689348814741910323 (by omega) (by omega)
  have e6 : ((a / 4 &&& 3689348814741910323 : Nat) : Int) + ((a &&& 3689348814741910323 : Nat) : Int) = (b : Int) := by rw [hb]; rfl
  have e7 : bits .and .u64 ((b : Int) / 16 + (b : Int)) 1085102592571150095 = (c : Int) := by
    have := u64_and_nat (b / 16 + b) 1085102592571150095 (by omega) (by omega)
    rw [hc]
    exact this
  have HA : Hid (_ ∧ _ ∧ _) := ⟨ha, hb, hc⟩
  clear ha hb hc
  go_enter Tryd.func86, Tryd.ntmps86
  go_wp2
  go_ret
  refine ⟨ret_count ?_, rfl⟩
  rw [i64_and127, ← g4]
  clear HA e1 e2 e3 e4 e5 e6 e7 g4 g5
  have hD : (c : Int) + (c : Int) / 256 + ((c : Int) + (c : Int) / 256) / 65536 = ((c + c / 256 + (c + c / 256) / 65536 : Nat) : Int) := by simp
  rw [hD]
  have hl : c + c / 256 + (c + c / 256) / 65536 ≤ 4194304 := by omega
  generalize c + c / 256 + (c + c / 256) / 65536 = D at *
  omega
end Go.Proofs.YtollfcjbcfnfdaaDoor
