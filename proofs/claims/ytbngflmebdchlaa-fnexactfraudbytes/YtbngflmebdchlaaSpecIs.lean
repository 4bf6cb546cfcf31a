/-
  The document's bounds.
-/
import Derived.Test.YtbngflmebdchlaaTexts
import Derived.WalkKit
import Derived.WalkSpells
namespace Go.Proofs.Ytbngflmebdchlaa
open Go.RowKit Go.Lib
set_option linter.unusedVariables false

set_option maxHeartbeats 400000 in
theorem is_any (n lo hi : Int) (w : World) :
    Calls Try.prog 41 #[.int .i64 n, .int .i64 lo, .int .i64 hi] w fun e w' => e = .returned (.bool (decide (lo ≤ n ∧ n ≤ hi))) ∧ w' = w := by
  obtain ⟨V, hV⟩ : ∃ V, V = decide (lo ≤ n ∧ n ≤ hi) := ⟨_, rfl⟩
  rw [← hV]
  have HV : Hid (V = decide (lo ≤ n ∧ n ≤ hi)) := hV
  clear hV
  by_cases h1 : lo ≤ n
  · by_cases h2 : n ≤ hi
    · have HT : Hid (V = true) := HV.out.trans (decide_eq_true ⟨h1, h2⟩)
      clear HV
      go_enter Try.func41, Try.ntmps41
      go_wp2
      go_ret
      exact ⟨ret_bool HT.out.symm, rfl⟩
    · have HT : Hid (V = false) := HV.out.trans (decide_eq_false fun h => h2 h.2)
      clear HV
      go_enter Try.func41, Try.ntmps41
      go_wp2
      go_ret
      exact ⟨ret_bool HT.out.symm, rfl⟩
  · have HT : Hid (V = false) := HV.out.trans (decide_eq_false fun h => h1 h.1)
    clear HV
    go_enter Try.func41, Try.ntmps41
    go_wp2
    go_ret
    exact ⟨ret_bool HT.out.symm, rfl⟩
end Go.Proofs.Ytbngflmebdchlaa
