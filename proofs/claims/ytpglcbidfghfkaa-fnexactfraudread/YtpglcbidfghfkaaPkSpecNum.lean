/-
  The walk of the document's GetNum: it comes to the plain function.
-/
import Derived.Test.YtpglcbidfghfkaaPkGetPure
import Derived.Below
namespace Go.Proofs.Ytpglcbidfghfkaa
open Go.RowKit
set_option linter.unusedVariables false


set_option maxHeartbeats 4000000 in
theorem specNum_loop (s : ByteArray) (k0 : Nat) (w : World) (hs : s.size ≤ 20000) (hk0 : (k0 : Int) ≤ 9223372036854775807) (R : Int × Int × Int) (HR : Hid (getF s 10 k0 0 = R)) :
    Calls Try.prog 36 #[.string s, .int .i64 k0] w fun e w' => e = .returned (numV R) ∧ Below w.heap.size w w' := by
  have fin : ∀ (r : Int × Int × Int), r = R → numV r = numV R := fun r h => by rw [h]
  have FIN : Hid (∀ (r : Int × Int × Int), r = R → numV r = numV R) := fin
  clear fin
  go_enter Try.func36, Try.ntmps36
  go_wp2
  go_loop [5, 6] (fun x i => ∃ (j f : Nat) (u : Int), j + f + 1 = 10 ∧ i = .int .i64 j ∧ x = .int .u64 u ∧ 0 ≤ u ∧ u < p7 j ∧ getF s (f + 1) (k0 + j) u = R) (fun _ i => 10 - (intOf i).toNat)
  case atStart => exact ⟨0, 9, 0, rfl, rfl, rfl, by omega, by decide, HR.out⟩
  case round =>
    obtain ⟨j, f, u, hjf, rfl, rfl, hu0, hu1, hR⟩ := hrel
    have HRR : Hid (getF s (f + 1) (k0 + j) u = R) := hR
    have HU : Hid (u < p7 j) := hu1
    clear hR hu1 HR
    have hlt : j < 10 := by omega
    have hu2 : u < 18446744073709551616 := by
      by_cases h9 : j = 9
      · have := HU.out; rw [h9] at this; have e : p7 9 = 9223372036854775808 := by decide
        omega
      · have := HU.out; have := p7_le (j := j) (by omega); omega
    by_cases hk : k0 + j < s.size
    · obtain ⟨hc0, hc1⟩ := byteAt_bd s (k0 + j)
      have hidx := index_byte s (k0 + j) ((k0 : Int) + (j : Int)) (by omega) hk
      obtain ⟨c, hcc⟩ : ∃ c, c = byteAt s (k0 + j) := ⟨_, rfl⟩
      rw [← hcc] at hc0 hc1 hidx
      have HC : Hid (c = byteAt s (k0 + j)) := hcc
      clear hcc
      by_cases h9 : j = 9
      · obtain rfl : f = 0 := by omega
        have HU9 : Hid (u < 9223372036854775808) := by have := HU.out; rw [h9] at this; have e : p7 9 = 9223372036854775808 := by decide
                                                       rw [e] at this; exact this
        clear HU
        subst h9
        replace hidx : ∀ w, (Instr.index 9 (.string s) (.int .i64 ((k0 : Int) + 9))).run Try.prog w = .ok (.int .u8 c) w := hidx
        by_cases hb : 1 < c
        · have E := FIN.out _ ((getF_tenth u (by omega) (HC.out ▸ hb)).symm.trans HRR.out)
          have HE : Hid (numV (0, 0, 3) = numV R) := E
          clear E
          go_wp2
          exact bodyPost_ret (v := numV (0, 0, 3)) (by simp [results, Try.results36, go_sem, numV]) rfl ⟨by rw [HE.out], (Below.refl _ _).alloc (Nat.le_refl _) _⟩
        · by_cases hz : c = 0
          · have E := FIN.out _ ((getF_zero u (by omega) (HC.out ▸ hz) (by omega)).symm.trans HRR.out)
            have HE : Hid (numV (0, 0, 3) = numV R) := E
            clear E
            clear HC
            subst hz
            go_wp2
            exact bodyPost_ret (v := numV (0, 0, 3)) (by simp [results, Try.results36, go_sem, numV]) rfl ⟨by rw [HE.out], (Below.refl _ _).alloc (Nat.le_refl _) _⟩
          · obtain rfl : c = 1 := by omega
            have E := FIN.out _ ((getF_at9 (u := u) (by omega) HC.out.symm).symm.trans HRR.out)
            have HE : Hid (numV (unfoldU (u + 9223372036854775808), ((k0 + 9 : Nat) : Int) + 1, 0) = numV R) := E
            have hu9 := HU9.out
            clear E HC HU9
            by_cases hp : (u + 9223372036854775808) % 2 = 1
            · have hp' : ((u + 9223372036854775808) % 2 == 1) = true := by simp [hp]
              have HP : Hid ((u + 9223372036854775808) % 2 = 1) := hp
              clear hp
              go_wp2
              exact bodyPost_ret (v := .agg #[.int .i64 (-((u + 9223372036854775808) / 2) - 1), .int .i64 ((k0 : Int) + 9 + 1), .int .i64 0]) (by simp [results, Try.results36, go_sem]) rfl ⟨num_fin HE.out (by rw [unfoldU_odd HP.out]) (by simp) rfl, (Below.refl _ _).alloc (Nat.le_refl _) _⟩
            · have hp' : ((u + 9223372036854775808) % 2 == 1) = false := by simp [hp]
              have HP : Hid (¬ (u + 9223372036854775808) % 2 = 1) := hp
              clear hp
              go_wp2
              exact bodyPost_ret (v := .agg #[.int .i64 ((u + 9223372036854775808) / 2), .int .i64 ((k0 : Int) + 9 + 1), .int .i64 0]) (by simp [results, Try.results36, go_sem]) rfl ⟨num_fin HE.out (by rw [unfoldU_even HP.out]) (by simp) rfl, (Below.refl _ _).alloc (Nat.le_refl _) _⟩
      · obtain ⟨g, rfl⟩ : ∃ g, f = g + 1 := ⟨f - 1, by omega⟩
        have hj8 : j ≤ 8 := by omega
        have hjb : ((j : Int) == 9) = false := by simp; omega
        have hraw := raw_eq (c := c % 128) hj8 hu0 HU.out (by omega) (by omega)
        have hbd := step_bd (c := c % 128) hu0 HU.out (by omega) (by omega)
        have hle := p7_le9 (j := j + 1) (by omega)
        obtain ⟨u', hu'⟩ : ∃ u', u' = u + c % 128 * p7 j := ⟨_, rfl⟩
        rw [← hu'] at hraw hbd
        have hv0 : 0 ≤ u' := hbd.1
        have hv1 : u' < 9223372036854775808 := by omega
        have HB : Hid (u' < p7 (j + 1)) := hbd.2
        have HU' : Hid (u' = u + c % 128 * p7 j) := hu'
        have e9 : 9 - (g + 1) = j := by omega
        have hks : ¬ s.size ≤ k0 + j := by omega
        clear hu' hbd hle
        by_cases hb : 128 ≤ c
        · have E : getF s (g + 1) (k0 + (j + 1)) u' = R := by
            have := getF_more (f := g + 1) u hks (HC.out ▸ hb) (by omega)
            rw [HRR.out, e9, ← HC.out, show c - 128 = c % 128 by omega, ← HU'.out] at this
            exact this.symm
          have HE : Hid (getF s (g + 1) (k0 + (j + 1)) u' = R) := E
          clear E HU' HU HC HRR FIN
          go_wp2
          go_round
          case rel => exact ⟨j + 1, g, u', by omega, by go_num, rfl, hv0, HB.out, HE.out⟩
          case measure => simp [intOf]; omega
        · have hb' : c < 128 := by omega
          by_cases hz : c = 0
          · by_cases hj0 : j = 0
            · subst hj0
              have hu00 : u = 0 := by have := HU.out; simp [p7] at this; omega
              have E := FIN.out _ ((getF_last (f := g + 1) u hks (HC.out ▸ hb') (by omega) (by rw [← HC.out]; omega)).symm.trans HRR.out)
              rw [← HC.out, hz, hu00] at E
              have HE : Hid (numV (unfoldU (0 + 0 * p7 (9 - (g + 1))), ((k0 + 0 : Nat) : Int) + 1, 0) = numV R) := E
              clear E HC HU' HU HB hraw
              subst hz hu00
              replace hidx : ∀ w, (Instr.index 9 (.string s) (.int .i64 (k0 : Int))).run Try.prog w = .ok (.int .u8 0) w := by simpa using hidx
              go_wp2
              exact bodyPost_ret (v := .agg #[.int .i64 0, .int .i64 ((k0 : Int) + 1), .int .i64 0]) (by simp [results, Try.results36, go_sem]) rfl ⟨num_fin HE.out (by simp [unfoldU]) (by simp) rfl, (Below.refl _ _).alloc (Nat.le_refl _) _⟩
            · have E := FIN.out _ ((getF_zero u hks (HC.out ▸ hz) (by omega)).symm.trans HRR.out)
              have HE : Hid (numV (0, 0, 3) = numV R) := E
              have hjp : 0 < j := by omega
              clear E HC HU' HU HB hraw
              subst hz
              go_wp2
              exact bodyPost_ret (v := numV (0, 0, 3)) (by simp [results, Try.results36, go_sem, numV]) rfl ⟨by rw [HE.out], (Below.refl _ _).alloc (Nat.le_refl _) _⟩
          · have E := FIN.out _ ((getF_last (f := g + 1) u hks (HC.out ▸ hb') (by omega) (by rw [← HC.out]; omega)).symm.trans HRR.out)
            rw [← HC.out, e9, show c * p7 j = c % 128 * p7 j by rw [Int.emod_eq_of_lt hc0 hb'], ← HU'.out] at E
            have HE : Hid (numV (unfoldU u', ((k0 + j : Nat) : Int) + 1, 0) = numV R) := E
            have hzb : (c == 0) = false := by simp [hz]
            clear E HC HU' HU HB HRR FIN
            by_cases hp : u' % 2 = 1
            · have hp' : (u' % 2 == 1) = true := by simp [hp]
              have HP : Hid (u' % 2 = 1) := hp
              clear hp
              go_wp2
              exact bodyPost_ret (v := .agg #[.int .i64 (-(u' / 2) - 1), .int .i64 ((k0 : Int) + j + 1), .int .i64 0]) (by simp [results, Try.results36, go_sem]) rfl ⟨num_fin HE.out (by rw [unfoldU_odd HP.out]) (by simp) rfl, (Below.refl _ _).alloc (Nat.le_refl _) _⟩
            · have hp' : (u' % 2 == 1) = false := by simp [hp]
              have HP : Hid (¬ u' % 2 = 1) := hp
              clear hp
              go_wp2
              exact bodyPost_ret (v := .agg #[.int .i64 (u' / 2), .int .i64 ((k0 : Int) + j + 1), .int .i64 0]) (by simp [results, Try.results36, go_sem]) rfl ⟨num_fin HE.out (by rw [unfoldU_even HP.out]) (by simp) rfl, (Below.refl _ _).alloc (Nat.le_refl _) _⟩
    · have E := FIN.out _ ((getF_short u (by omega)).symm.trans HRR.out)
      have HE : Hid (numV (0, 0, 4) = numV R) := E
      clear E
      go_wp2
      exact bodyPost_ret (v := numV (0, 0, 4)) (by simp [results, Try.results36, go_sem, numV]) rfl ⟨by rw [HE.out], (Below.refl _ _).alloc (Nat.le_refl _) _⟩

set_option maxHeartbeats 400000 in
theorem specNum_big (s : ByteArray) (k : Int) (w : World) (hs : s.size ≤ 1048576) (h : 20000 < (s.size : Int)) :
    Calls Try.prog 36 #[.string s, .int .i64 k] w fun e w' => e = .returned (numV (0, 0, 2)) ∧ Below w.heap.size w w' := by
  go_enter Try.func36, Try.ntmps36
  go_wp2
  exact bodyPost_ret (v := numV (0, 0, 2)) (by simp [results, Try.results36, go_sem, numV]) rfl ⟨rfl, (Below.refl _ _).alloc (Nat.le_refl _) _⟩
set_option maxHeartbeats 400000 in
theorem specNum_neg (s : ByteArray) (k : Int) (w : World) (h : ¬ 20000 < (s.size : Int)) (hk : k < 0) :
    Calls Try.prog 36 #[.string s, .int .i64 k] w fun e w' => e = .returned (numV (0, 0, 1)) ∧ Below w.heap.size w w' := by
  go_enter Try.func36, Try.ntmps36
  go_wp2
  exact bodyPost_ret (v := numV (0, 0, 1)) (by simp [results, Try.results36, go_sem, numV]) rfl ⟨rfl, (Below.refl _ _).alloc (Nat.le_refl _) _⟩

theorem specNum (s : ByteArray) (k : Int) (w : World) (hs : s.size ≤ 1048576) (hk : k ≤ 9223372036854775807) :
    Calls Try.prog 36 #[.string s, .int .i64 k] w fun e w' => e = .returned (numV (numR s k)) ∧ Below w.heap.size w w' := by
  unfold numR
  by_cases h : 20000 < (s.size : Int)
  · rw [if_pos h]; exact specNum_big s k w hs h
  rw [if_neg h]
  by_cases hn : k < 0
  · rw [if_pos hn]; exact specNum_neg s k w h hn
  rw [if_neg hn]
  obtain ⟨m, rfl⟩ := Int.eq_ofNat_of_zero_le (show 0 ≤ k by omega)
  exact specNum_loop s m w (by omega) hk _ rfl
end Go.Proofs.Ytpglcbidfghfkaa
