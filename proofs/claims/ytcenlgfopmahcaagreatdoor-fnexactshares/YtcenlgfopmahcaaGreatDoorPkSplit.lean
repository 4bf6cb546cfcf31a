/-
  The program's greatest power of two below a size, and how many levels lie above leaves.
-/
import Derived.Test.YtcenlgfopmahcaaGreatDoorPkBitLen
import Derived.Test.YtcenlgfopmahcaaGreatDoorPkShaPure
import Derived.Test.YtcenlgfopmahcaaGreatDoorRows
import Derived.WalkKit
import Derived.WalkSpells
namespace Go.Proofs.YtcenlgfopmahcaaGreatDoor
open Go.RowKit Go.Lib
set_option linter.unusedVariables false

theorem ret_long {a b : Int} (h : a = b) : Ending.returned (.int .i64 a) = .returned (.int .i64 b) := by rw [h]
theorem bits_half {x n : Nat} (h : BitsOf x n) (hx : 0 < x) : half (x + 1) = 2 ^ (n - 1) := by
  obtain ⟨h1, h2⟩ := h
  obtain ⟨h3, h4⟩ := h2 hx
  have e : 2 ^ n = 2 * 2 ^ (n - 1) := by
    rw [show n = (n - 1) + 1 by omega, Nat.pow_succ, Nat.mul_comm]
    simp
  exact half_is (by omega) (by omega)
set_option maxHeartbeats 400000 in
theorem splitOf_any (n : Nat) (w : World) (h2 : 2 ≤ n) (hn : n ≤ 9223372036854775807) :
    Calls Tryz.prog 149 #[.int .i64 n] w fun e w' => e = .returned (.int .i64 (half n)) ∧ w' = w := by
  have E : Hid (Calls Tryz.prog 145 #[.int .u64 ((n : Int) - 1)] w fun e w' => LenAns ((n : Int) - 1).toNat e ∧ w' = w) := len64_any _ w (by omega) (by omega)
  obtain ⟨H, hH⟩ : ∃ H, H = half n := ⟨_, rfl⟩
  rw [← hH]
  have HH : Hid (half n = H) := hH.symm
  clear hH
  go_enter Tryz.func149, Tryz.ntmps149
  go_wp2_with fail
  refine E.out.mono ?_
  rintro e w1 ⟨⟨m, rfl, hm, hb⟩, rfl⟩
  have hh : H = 2 ^ (m - 1) ∧ 1 ≤ m ∧ m ≤ 63 := by
    have hx : 0 < ((n : Int) - 1).toNat := by omega
    have e1 := bits_half hb hx
    rw [show ((n : Int) - 1).toNat + 1 = n by omega, HH.out] at e1
    refine ⟨e1, (hb.2 hx).1, ?_⟩
    have h4 := (hb.2 hx).2
    rcases Nat.lt_or_ge 63 m with h | h
    · have : 2 ^ 63 ≤ 2 ^ (m - 1) := Nat.pow_le_pow_right (by omega) (by omega)
      omega
    · exact h
  obtain ⟨hh1, hh2, hh3⟩ := hh
  have HM : Hid (H = 2 ^ (m - 1)) := hh1
  clear hh1 hb HH E
  go_wp2
  go_ret
  refine ⟨ret_long ?_, rfl⟩
  rw [HM.out]
  have hb : 2 ^ (m - 1) ≤ 2 ^ 62 := Nat.pow_le_pow_right (by omega) (by omega)
  have hc : ((2 ^ (m - 1) : Nat) : Int) = (2 : Int) ^ (m - 1) := by simp
  rw [← hc]
  generalize 2 ^ (m - 1) = p at *
  unfold wrap64
  omega

set_option maxHeartbeats 400000 in
theorem len_any (x : Int) (w : World) (h0 : 0 ≤ x) (h : x ≤ 18446744073709551615) :
    Calls Tryz.prog 124 #[.int .u64 x] w fun e w' => LenAns x.toNat e ∧ w' = w := by
  have E : Hid (Calls Tryz.prog 145 #[.int .u64 x] w fun e w' => LenAns x.toNat e ∧ w' = w) := len64_any x w h0 h
  go_enter Tryz.func124, Tryz.ntmps124
  go_wp2_with fail
  refine E.out.mono ?_
  rintro e w1 ⟨⟨m, rfl, hm, hb⟩, rfl⟩
  have HB : Hid (LenAns x.toNat (.returned (.int .i64 m))) := ⟨m, rfl, hm, hb⟩
  clear hb
  go_wp2
  go_ret
  exact ⟨HB.out, rfl⟩
/-- As many levels as make one of n leaves. -/
def LevAns (n : Nat) (e : Ending) : Prop := ∃ c : Nat, e = .returned (.int .i64 c) ∧ c ≤ 64 ∧ (n = 0 → c = 0) ∧ n ≤ 2 ^ c
set_option maxHeartbeats 400000 in
theorem levelsAbove_any (n : Nat) (w : World) (hn : n ≤ 1048576) :
    Calls Tryz.prog 109 #[.int .i64 n] w fun e w' => LevAns n e ∧ w' = w := by
  by_cases h0 : n = 0
  · subst h0
    go_enter Tryz.func109, Tryz.ntmps109
    go_wp2
    go_ret
    exact ⟨⟨0, rfl, by omega, fun _ => rfl, by omega⟩, rfl⟩
  · have E : Hid (Calls Tryz.prog 124 #[.int .u64 ((n : Int) - 1)] w fun e w' => LenAns ((n : Int) - 1).toNat e ∧ w' = w) := len_any _ w (by omega) (by omega)
    have h0I : ¬ (n : Int) = 0 := by omega
    go_enter Tryz.func109, Tryz.ntmps109
    go_wp2_with fail
    refine E.out.mono ?_
    rintro e w1 ⟨⟨m, rfl, hm, hb⟩, rfl⟩
    have HB : Hid (n ≤ 2 ^ m) := by
      have := hb.1
      show _ ≤ _
      omega
    clear hb
    go_wp2
    go_ret
    exact ⟨⟨m, rfl, hm, fun h => absurd h h0, HB.out⟩, rfl⟩
end Go.Proofs.YtcenlgfopmahcaaGreatDoor
