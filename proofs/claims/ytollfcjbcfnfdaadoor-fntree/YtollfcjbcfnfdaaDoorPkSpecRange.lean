/-
  The document's count of bits.
-/
import Derived.Test.YtollfcjbcfnfdaaDoorPkShaPure
import Derived.Test.YtollfcjbcfnfdaaDoorPkTexts
import Derived.Test.YtollfcjbcfnfdaaDoorRows
import Derived.WalkKit
import Derived.WalkSpells
namespace Go.Proofs.YtollfcjbcfnfdaaDoor
open Go.RowKit Go.Lib
set_option linter.unusedVariables false

theorem ret_ones {a b : Int} (h : a = b) : Ending.returned (.int .i64 a) = .returned (.int .i64 b) := by rw [h]
theorem onesN_le (n : Nat) : onesN n ≤ n := by
  induction n using Nat.strongRecOn with
  | ind n ih =>
    by_cases h : n = 0
    · rw [h, onesN_zero]; exact Nat.le_refl _
    · have := ih (n / 2) (by omega)
      rw [onesN_step]
      omega
set_option maxHeartbeats 400000 in
theorem ones_any (n : Nat) (w : World) (hn : n ≤ 1000000) :
    Calls Tryd.prog 92 #[.int .i64 n] w fun e w' => e = .returned (.int .i64 (onesN n)) ∧ w' = w := by
  have HL : Hid (onesN n ≤ 1000000) := Nat.le_trans (onesN_le n) hn
  obtain ⟨V, hV⟩ : ∃ V, V = onesN n := ⟨_, rfl⟩
  rw [← hV] at HL ⊢
  have HV : Hid (V = onesN n) := hV
  clear hV
  go_enter Tryd.func92, Tryd.ntmps92
  go_wp2
  go_loop [0, 3] (fun x y => ∃ k c : Nat, k ≤ 1000000 ∧ x = .int .i64 k ∧ y = .int .i64 c ∧ c ≤ 1000000 ∧ c + onesN k = V) (fun x _ => (RowKit.intOf x).toNat)
  case atStart => exact ⟨n, 0, hn, rfl, rfl, by omega, by rw [HV.out]; omega⟩
  case round =>
    obtain ⟨k, c, hk, rfl, rfl, hc, ho⟩ := hrel
    by_cases h0 : 0 < k
    · have hs := onesN_step k
      have HO : Hid ((c + k % 2) + onesN (k / 2) = V ∧ c + k % 2 ≤ 1000000) := ⟨by omega, by have := HL.out; omega⟩
      have h0I : (0 : Int) < (k : Int) := by omega
      clear ho hs
      go_wp2
      go_round
      case rel => exact ⟨k / 2, c + k % 2, by omega, by go_num, by go_num, HO.out.2, HO.out.1⟩
      case measure => simp [RowKit.intOf]; omega
    · have ek : k = 0 := by omega
      subst ek
      rw [onesN_zero] at ho
      have HO : Hid ((c : Int) = (V : Int)) := by
        show _ = _
        omega
      clear ho
      go_wp2
      go_ret
      exact ⟨ret_ones HO.out, rfl⟩
end Go.Proofs.YtollfcjbcfnfdaaDoor
