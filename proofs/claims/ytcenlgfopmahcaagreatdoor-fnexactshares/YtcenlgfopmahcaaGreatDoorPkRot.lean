/-
  A number of 32 bits turned right, and one round: the document's and the program's way answer one function on integers.
-/
import Derived.Test.YtcenlgfopmahcaaGreatDoorPkShaPure
import Derived.Test.YtcenlgfopmahcaaGreatDoorRows
import Derived.WalkKit
import Derived.WalkSpells
import Derived.Deep.QuietTactic
import Derived.BigQuiet
import Derived.BigRegion
namespace Go.Proofs.YtcenlgfopmahcaaGreatDoor
open Go.RowKit
set_option linter.unusedVariables false

theorem rot_any (k x : Int) (w : World) (hk : k ∈ [2, 6, 7, 11, 13, 17, 18, 19, 22, 25]) (h0 : 0 ≤ x) (h1 : x < 4294967296) :
    Calls Tryz.prog 165 #[.int .u32 x, .int .i64 (-k)] w fun e w' => e = .returned (.int .u32 (rotr k x)) ∧ w' = w := by
  unfold rotr
  rw [or_comm32]
  have b2 : bits .and .u64 (IntKind.u64.wrap (-2)) 31 = 30 := by decide
  have b6 : bits .and .u64 (IntKind.u64.wrap (-6)) 31 = 26 := by decide
  have b7 : bits .and .u64 (IntKind.u64.wrap (-7)) 31 = 25 := by decide
  have b11 : bits .and .u64 (IntKind.u64.wrap (-11)) 31 = 21 := by decide
  have b13 : bits .and .u64 (IntKind.u64.wrap (-13)) 31 = 19 := by decide
  have b17 : bits .and .u64 (IntKind.u64.wrap (-17)) 31 = 15 := by decide
  have b18 : bits .and .u64 (IntKind.u64.wrap (-18)) 31 = 14 := by decide
  have b19 : bits .and .u64 (IntKind.u64.wrap (-19)) 31 = 13 := by decide
  have b22 : bits .and .u64 (IntKind.u64.wrap (-22)) 31 = 10 := by decide
  have b25 : bits .and .u64 (IntKind.u64.wrap (-25)) 31 = 7 := by decide
  simp only [List.mem_cons, List.not_mem_nil, or_false] at hk
  rcases hk with rfl | rfl | rfl | rfl | rfl | rfl | rfl | rfl | rfl | rfl
  all_goals
    go_enter Tryz.func165, Tryz.ntmps165
    go_wp2
    go_ret
    exact ⟨rfl, rfl⟩

theorem right_any (k x : Int) (w : World) (hk : k ∈ [2, 6, 7, 11, 13, 17, 18, 19, 22, 25]) (h0 : 0 ≤ x) (h1 : x < 4294967296) :
    Calls Tryz.prog 164 #[.int .u32 x, .int .i64 k] w fun e w' => e = .returned (.int .u32 (rotr k x)) ∧ w' = w := by
  have E := fun w => rot_any k x w hk h0 h1
  have HE : Hid (∀ w, Calls Tryz.prog 165 #[.int .u32 x, .int .i64 (-k)] w fun e w' => e = .returned (.int .u32 (rotr k x)) ∧ w' = w) := E
  clear E
  have hk0 : 0 ≤ k ∧ k ≤ 31 := by
    simp only [List.mem_cons, List.not_mem_nil, or_false] at hk
    omega
  obtain ⟨hk0, hk1⟩ := hk0
  clear hk
  go_enter Tryz.func164, Tryz.ntmps164
  go_wp2_with fail
  refine (HE.out _).mono ?_
  rintro e w' ⟨rfl, rfl⟩
  go_wp2
  go_ret
  exact ⟨rfl, rfl⟩
end Go.Proofs.YtcenlgfopmahcaaGreatDoor
