/-
  A number of 32 bits turned right, the document's way.
-/
import Derived.Test.YtchlopmmhcobdaaDoorCells
namespace Go.Proofs.YtchlopmmhcobdaaDoor
open Go.RowKit
set_option linter.unusedVariables false

theorem turn_any (k x : Int) (w : World) (hk : k ∈ [2, 6, 7, 11, 13, 17, 18, 19, 22, 25]) (h0 : 0 ≤ x) (h1 : x < 4294967296) :
    Calls Tryd.prog 145 #[.int .u32 x, .int .u64 k] w fun e w' => e = .returned (.int .u32 (rotr k x)) ∧ w' = w := by
  simp only [List.mem_cons, List.not_mem_nil, or_false] at hk
  rcases hk with rfl | rfl | rfl | rfl | rfl | rfl | rfl | rfl | rfl | rfl
  all_goals
    go_enter Tryd.func145, Tryd.ntmps145
    go_wp2
    go_ret
    exact ⟨rfl, rfl⟩
end Go.Proofs.YtchlopmmhcobdaaDoor
