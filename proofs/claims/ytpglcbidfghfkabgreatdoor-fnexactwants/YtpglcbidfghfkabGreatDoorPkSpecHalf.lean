/-
  The document's greatest power of two below a number.
-/
import Derived.Test.YtpglcbidfghfkabGreatDoorPkShaPure
import Derived.Test.YtpglcbidfghfkabGreatDoorRows
import Derived.WalkKit
import Derived.WalkSpells
namespace Go.Proofs.YtpglcbidfghfkabGreatDoor
open Go.RowKit Go.Lib
set_option linter.unusedVariables false

theorem ret_i64 {a b : Int} (h : a = b) : Ending.returned (.int .i64 a) = .returned (.int .i64 b) := by rw [h]
theorem halfG_go {n k : Nat} (hk : 0 < k) (h : 2 * k < n) : halfG n k = halfG n (2 * k) := by rw [halfG_eq, dif_pos ⟨hk, h⟩]
theorem halfG_end {n k : Nat} (h : ¬ 2 * k < n) : halfG n k = k := by rw [halfG_eq, dif_neg (by omega)]

set_option maxHeartbeats 400000 in
theorem half_any (n : Nat) (w : World) (hn : n ≤ 1048576) :
    Calls Tryz.prog 85 #[.int .i64 n] w fun e w' => e = .returned (.int .i64 (half n)) ∧ w' = w := by
  obtain ⟨H, hH⟩ : ∃ H, H = half n := ⟨_, rfl⟩
  rw [← hH]
  have HH : Hid (halfG n 1 = H) := hH.symm
  clear hH
  go_enter Tryz.func85, Tryz.ntmps85
  go_wp2
  go_loop [3] (fun x => ∃ k : Nat, 0 < k ∧ k ≤ 1048576 ∧ x = .int .i64 k ∧ halfG n k = H) (fun x => n - (intOf x).toNat)
  case atStart => exact ⟨1, by omega, by omega, rfl, HH.out⟩
  case round =>
    obtain ⟨k, hk0, hk1, rfl, hg⟩ := hrel
    by_cases hlt : 2 * k < n
    · rw [halfG_go hk0 hlt] at hg
      have HG : Hid (halfG n (2 * k) = H) := hg
      have hltI : 2 * (k : Int) < (n : Int) := by omega
      clear hg
      go_wp2
      go_round
      case rel => exact ⟨2 * k, by omega, by omega, by go_num, HG.out⟩
      case measure => simp [intOf]; omega
    · rw [halfG_end hlt] at hg
      have HG : Hid (k = H) := hg
      have hltI : ¬ 2 * (k : Int) < (n : Int) := by omega
      clear hg
      go_wp2
      go_ret
      exact ⟨ret_i64 (by rw [HG.out]), rfl⟩
end Go.Proofs.YtpglcbidfghfkabGreatDoor
