/-
  What SigRight and Verify answer.
-/
import Derived.Test.YtbngflmebdchlaaTexts
namespace Go.Proofs.Ytbngflmebdchlaa
open Go.RowKit Go.Lib
set_option linter.unusedVariables false
set_option linter.unusedSimpArgs false

def sigRB (k : Int) (el pl : List ByteArray) : Bool := decide (0 ≤ k ∧ k ≤ 3) && decide ((el.length : Int) = 6) && decide ((pl.length : Int) = 2) && wideB el && wideB pl
theorem sigRB_key {k : Int} {el pl : List ByteArray} (h : ¬ (0 ≤ k ∧ k ≤ 3)) : sigRB k el pl = false := by unfold sigRB; rw [decide_eq_false h]; rfl
theorem sigRB_ends {k : Int} {el pl : List ByteArray} (h0 : 0 ≤ k ∧ k ≤ 3) (h : ¬ (el.length : Int) = 6) : sigRB k el pl = false := by unfold sigRB; rw [decide_eq_true h0, decide_eq_false h]; rfl
theorem sigRB_path {k : Int} {el pl : List ByteArray} (h0 : 0 ≤ k ∧ k ≤ 3) (h1 : (el.length : Int) = 6) (h : ¬ (pl.length : Int) = 2) : sigRB k el pl = false := by unfold sigRB; rw [decide_eq_true h0, decide_eq_true h1, decide_eq_false h]; rfl
theorem sigRB_rest {k : Int} {el pl : List ByteArray} (h0 : 0 ≤ k ∧ k ≤ 3) (h1 : (el.length : Int) = 6) (h2 : (pl.length : Int) = 2) : sigRB k el pl = (wideB el && wideB pl) := by unfold sigRB; rw [decide_eq_true h0, decide_eq_true h1, decide_eq_true h2]; rfl
theorem sigRB_yes {k : Int} {el pl : List ByteArray} (h : sigRB k el pl = true) : (0 ≤ k ∧ k ≤ 3) ∧ el.length = 6 ∧ pl.length = 2 ∧ wideB el = true ∧ wideB pl = true := by
  unfold sigRB at h
  simp at h
  exact ⟨h.1.1.1.1, by omega, by omega, h.1.2, h.2⟩
end Go.Proofs.Ytbngflmebdchlaa
