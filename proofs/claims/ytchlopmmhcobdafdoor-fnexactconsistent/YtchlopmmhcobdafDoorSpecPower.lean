/-
  The document's word on powers of two.
-/
import Derived.Test.YtchlopmmhcobdafDoorConsV
import Derived.Test.YtchlopmmhcobdafDoorAppTexts
namespace Go.Proofs.YtchlopmmhcobdafDoor
open Go.RowKit Go.Lib
set_option linter.unusedVariables false

set_option maxHeartbeats 400000 in
theorem power_any (n : Nat) (w : World) (h1 : 1 ≤ n) (hn : n ≤ 9223372036854775807) :
    Calls Tryd.prog 37 #[.int .i64 n] w fun e w' => e = .returned (.bool (powB n)) ∧ w' = w := by
  obtain ⟨V, hV⟩ : ∃ V, V = powB n := ⟨_, rfl⟩
  rw [← hV]
  have HV : Hid (V = decide (oddOf n = 1)) := hV
  clear hV
  go_enter Tryd.func37, Tryd.ntmps37
  go_wp2
  go_loop [0] (fun x => ∃ k : Nat, 1 ≤ k ∧ k ≤ 9223372036854775807 ∧ x = .int .i64 k ∧ oddOf k = oddOf n) (fun x => (RowKit.intOf x).toNat)
  case atStart => exact ⟨n, h1, hn, rfl, rfl⟩
  case round =>
    obtain ⟨k, hk1, hk2, rfl, ho⟩ := hrel
    by_cases he : k % 2 = 0
    · have HO : Hid (oddOf (k / 2) = oddOf n) := by
        show _ = _
        rw [← oddOf_even he (by omega)]
        exact ho
      have heI : (k : Int) % 2 = 0 := by omega
      clear ho
      go_wp2
      go_round
      case rel => exact ⟨k / 2, by omega, by omega, by go_num, HO.out⟩
      case measure => simp [RowKit.intOf]; omega
    · have HO : Hid (V = decide (k = 1)) := by
        show _ = _
        rw [HV.out, ← ho, oddOf_odd (by omega)]
      have heI : ¬ (k : Int) % 2 = 0 := by omega
      clear ho HV
      by_cases hk : k = 1
      · subst hk
        go_wp2
        go_ret
        exact ⟨ret_bool (by rw [HO.out]; rfl), rfl⟩
      · rw [decide_eq_false hk] at HO
        have hkI : ¬ (k : Int) = 1 := by omega
        have hkB : ((k : Int) == 1) = false := beq_eq_false_iff_ne.2 hkI
        go_wp2
        go_ret
        exact ⟨ret_bool HO.out.symm, rfl⟩

end Go.Proofs.YtchlopmmhcobdafDoor
