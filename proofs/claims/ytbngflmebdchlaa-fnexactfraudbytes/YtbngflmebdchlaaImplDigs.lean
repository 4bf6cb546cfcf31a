/-
  Are all texts of 32 bytes? The program's test.
-/
import Derived.Test.YtbngflmebdchlaaTextRows
namespace Go.Proofs.Ytbngflmebdchlaa
open Go.RowKit Go.Lib
set_option linter.unusedVariables false

set_option maxHeartbeats 400000 in
theorem digests_any (v : Value) (l : List ByteArray) (w : World) (B : Nat) (h : Texts w B v l) (hl : l.length ≤ 1048576) :
    Calls Try.prog 64 #[v] w fun e w' => e = .returned (.bool (wideB l)) ∧ w' = w := by
  obtain ⟨a, cap, rfl, hcap, hc⟩ := h.at
  have HC : Hid (∀ j (hj : j < l.length), ∃ b off, a = some ⟨b, off, none⟩ ∧ b < B ∧ w.cell? ⟨b, off + j, none⟩ = some (.string l[j])) := hc
  clear hc h hcap
  obtain ⟨n, hn⟩ : ∃ n, n = l.length := ⟨_, rfl⟩
  have HN : Hid (n = l.length) := hn
  rw [← hn] at hl ⊢
  clear hn
  obtain ⟨W, hW⟩ : ∃ W, W = wideB l := ⟨_, rfl⟩
  rw [← hW]
  have HW : Hid (W = wideB l) := hW
  clear hW
  go_enter Try.func64, Try.ntmps64
  go_wp2
  go_loop [7] (fun i => ∃ k : Nat, k ≤ n ∧ i = .int .i64 k ∧ ∀ j (h : j < l.length), j < k → (l[j].size : Int) = 32) (fun i => n - (intOf i).toNat)
  case atStart => exact ⟨0, Nat.zero_le _, rfl, fun j _ h => by omega⟩
  case round =>
    obtain ⟨k, hk, rfl, hall⟩ := hrel
    have HA : Hid (∀ j (h : j < l.length), j < k → (l[j].size : Int) = 32) := hall
    clear hall
    by_cases hkn : k < n
    · have hkl : k < l.length := by rw [← HN.out]; exact hkn
      obtain ⟨b, off, rfl, hB, hc⟩ := HC.out k hkl
      have HA2 : Hid ((l[k].size : Int) = 32 → ∀ j (h : j < l.length), j < k + 1 → (l[j].size : Int) = 32) := fun hr j h hj => by
        by_cases e : j = k
        · subst e; exact hr
        · exact HA.out j h (by omega)
      have HB : Hid (¬ (l[k].size : Int) = 32 → W = false) := fun h => by rw [HW.out]; exact wideB_no hkl h
      have hknI : (k : Int) < (n : Int) := by omega
      clear HC HA HN HW
      generalize l[k] = t at *
      by_cases h32 : (t.size : Int) = 32
      · go_wp2
        go_round
        case rel => exact ⟨k + 1, by omega, by go_num, HA2.out h32⟩
        case measure => simp [intOf]; omega
      · have HF : Hid (W = false) := HB.out h32
        clear HA2 HB
        go_wp2
        go_ret
        exact ⟨ret_bool HF.out.symm, rfl⟩
    · have HF : Hid (W = true) := by
        show _ = _
        rw [HW.out]
        exact wideB_yes fun j hj => HA.out j hj (by have := HN.out; omega)
      clear HC HA HN HW
      go_wp2
      go_ret
      exact ⟨ret_bool HF.out.symm, rfl⟩
end Go.Proofs.Ytbngflmebdchlaa
