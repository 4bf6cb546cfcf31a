/-
  The program's SigRight.
-/
import Derived.Test.YtbngflmebdchlaaSigRV
import Derived.Test.YtbngflmebdchlaaImplKey
import Derived.Test.YtbngflmebdchlaaImplDigs
namespace Go.Proofs.Ytbngflmebdchlaa
open Go.RowKit Go.Lib
set_option linter.unusedVariables false
set_option linter.unusedSimpArgs false

set_option maxHeartbeats 1000000 in
set_option maxRecDepth 10000 in
theorem implSigRight_any (k : Int) (ve vp : Value) (el pl : List ByteArray) (w : World) (h1 : Texts w w.heap.size ve el) (h2 : Texts w w.heap.size vp pl) (hl1 : el.length ≤ 1048576) (hl2 : pl.length ≤ 1048576) :
    Calls Try.prog 48 #[.agg #[.int .i64 k, ve, vp]] w fun e w' => e = .returned (.bool (sigRB k el pl)) ∧ Below w.heap.size w w' := by
  have E0 : Hid (∀ w, Calls Try.prog 66 #[.int .i64 k] w fun e w' => e = .returned (.bool (decide (0 ≤ k ∧ k ≤ 3))) ∧ w' = w) := fun w => keyRight_any k w
  obtain ⟨W, hW⟩ : ∃ W, W = w.alloc (.cells #[.int .i64 k, ve, vp] 31) := ⟨_, rfl⟩
  have hbW : Below w.heap.size w W := by rw [hW]; exact (Below.refl _ _).alloc (Nat.le_refl _) _
  have E1 : Hid (Calls Try.prog 64 #[ve] W fun e w' => e = .returned (.bool (wideB el)) ∧ w' = W) := digests_any ve el W w.heap.size (h1.below hbW) hl1
  have E2 : Hid (Calls Try.prog 64 #[vp] W fun e w' => e = .returned (.bool (wideB pl)) ∧ w' = W) := digests_any vp pl W w.heap.size (h2.below hbW) hl2
  have HB : Hid (Below w.heap.size w W) := hbW
  obtain ⟨a1, c1, rfl, _⟩ := h1
  obtain ⟨a2, c2, rfl, _⟩ := h2
  have HW : Hid (w.alloc (.cells #[.int .i64 k, .slice a1 el.length c1, .slice a2 pl.length c2] 31) = W) := hW.symm
  rw [hW] at E1 E2 HB
  clear hW hbW W HW
  by_cases hk : 0 ≤ k ∧ k ≤ 3
  · rw [decide_eq_true hk] at E0
    by_cases h6 : (el.length : Int) = 6
    · by_cases hp2 : (pl.length : Int) = 2
      · rw [sigRB_rest hk h6 hp2]
        have q1 : ((el.length : Int) != 6) = false := by simpa using h6
        have q2 : ((pl.length : Int) != 2) = false := by simpa using hp2
        clear hk h6 hp2
        cases hwe : wideB el with
        | false =>
          rw [hwe] at E1
          clear hwe
          go_enter Try.func48, Try.ntmps48
          go_wp2_with fail
          refine (E0.out _).mono ?_
          rintro e w0 ⟨rfl, rfl⟩
          clear E0
          go_wp2_with fail
          refine E1.out.mono ?_
          rintro e w1 ⟨rfl, rfl⟩
          go_wp2
          go_ret
          exact ⟨rfl, HB.out⟩
        | true =>
          rw [hwe] at E1
          clear hwe
          go_enter Try.func48, Try.ntmps48
          go_wp2_with fail
          refine (E0.out _).mono ?_
          rintro e w0 ⟨rfl, rfl⟩
          clear E0
          go_wp2_with fail
          refine E1.out.mono ?_
          rintro e w1 ⟨rfl, rfl⟩
          go_wp2_with fail
          refine E2.out.mono ?_
          rintro e w2 ⟨rfl, rfl⟩
          go_wp2
          go_ret
          exact ⟨rfl, HB.out⟩
      · rw [sigRB_path hk h6 hp2]
        have q1 : ((el.length : Int) != 6) = false := by simpa using h6
        have q2 : ((pl.length : Int) != 2) = true := by simpa using hp2
        clear hk h6 hp2
        go_enter Try.func48, Try.ntmps48
        go_wp2_with fail
        refine (E0.out _).mono ?_
        rintro e w0 ⟨rfl, rfl⟩
        clear E0
        go_wp2
        go_ret
        exact ⟨rfl, HB.out⟩
    · rw [sigRB_ends hk h6]
      have q1 : ((el.length : Int) != 6) = true := by simpa using h6
      clear hk h6
      go_enter Try.func48, Try.ntmps48
      go_wp2_with fail
      refine (E0.out _).mono ?_
      rintro e w0 ⟨rfl, rfl⟩
      clear E0
      go_wp2
      go_ret
      exact ⟨rfl, HB.out⟩
  · rw [decide_eq_false hk] at E0
    rw [sigRB_key hk]
    clear hk
    go_enter Try.func48, Try.ntmps48
    go_wp2_with fail
    refine (E0.out _).mono ?_
    rintro e w0 ⟨rfl, rfl⟩
    clear E0
    go_wp2
    go_ret
    exact ⟨rfl, HB.out⟩
end Go.Proofs.Ytbngflmebdchlaa
