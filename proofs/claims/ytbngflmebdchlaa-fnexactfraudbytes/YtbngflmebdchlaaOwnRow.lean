/-
  A row of texts that was copied is the call's own.
-/
import Derived.Test.YtbngflmebdchlaaTextLaws
import Derived.Test.YtbngflmebdchlaaTextRows
namespace Go.Proofs.Ytbngflmebdchlaa
open Go.RowKit Go.Lib
set_option linter.unusedVariables false

theorem OwnS.own {w : World} {g : Nat} {v : Value} {l : List ByteArray} (h : OwnS w g v l) (hl : l.length ≤ 1048576) : OwnT w g v l ∧ v.ownBlock = some g := by
  obtain ⟨rfl, hg⟩ := h
  refine ⟨⟨by simp, .inr ⟨g, l.length, _, rfl, Nat.le_refl _, hg, Nat.le_refl _, by unfold maxLen; omega, by rw [cellsT_size, Nat.mul_one], ?_⟩⟩, rfl⟩
  apply List.ext_getElem?
  intro j
  rw [List.getElem?_take]
  by_cases hj : j < l.length
  · rw [if_pos (by omega), Array.getElem?_toList, cellsT_get _ hj, firstT, if_pos hj]
    simp [List.getD, hj]
  · rw [if_neg (by omega), List.getElem?_eq_none (by rw [List.length_map]; omega)]
end Go.Proofs.Ytbngflmebdchlaa
