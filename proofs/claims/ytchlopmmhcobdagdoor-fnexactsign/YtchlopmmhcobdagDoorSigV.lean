/-
  What Sign answers.
-/
import Derived.Test.YtchlopmmhcobdagDoorKeyV
import Derived.Test.YtchlopmmhcobdagDoorPathV
import Derived.Test.YtchlopmmhcobdagDoorTextIn
namespace Go.Proofs.YtchlopmmhcobdagDoor
open Go.RowKit Go.Lib
set_option linter.unusedVariables false
set_option linter.unusedSimpArgs false

/-- May it be signed? -/
def signB (s : ByteArray) (k : Int) (t : ByteArray) : Bool := seedB s && decide (0 ≤ k ∧ k ≤ 3) && decide ((t.size : Int) ≤ 20000)
theorem signB_yes {s t : ByteArray} {k : Int} (h : signB s k t = true) : seedB s = true ∧ 0 ≤ k ∧ k ≤ 3 ∧ (t.size : Int) ≤ 20000 := by
  unfold signB at h
  simp at h
  exact ⟨h.1.1, h.1.2.1, h.1.2.2, by omega⟩
theorem signB_no {s t : ByteArray} {k : Int} (h : ¬ signB s k t = true) : seedB s = false ∨ (seedB s = true ∧ ¬ (0 ≤ k ∧ k ≤ 3)) ∨ (seedB s = true ∧ (0 ≤ k ∧ k ≤ 3) ∧ 20000 < (t.size : Int)) := by
  cases hs : seedB s with
  | false => exact .inl rfl
  | true =>
    refine .inr ?_
    by_cases hk : 0 ≤ k ∧ k ≤ 3
    · refine .inr ⟨rfl, hk, ?_⟩
      unfold signB at h
      rw [hs, decide_eq_true hk] at h
      simp at h
      omega
    · exact .inl ⟨rfl, hk⟩
/-- The Key, the Ends and the Path that Sign answers. -/
def sigKey (s : ByteArray) (k : Int) (t : ByteArray) : Int := if signB s k t then k else 0
def sigEnds (s : ByteArray) (k : Int) (t : ByteArray) : List ByteArray := if signB s k t then endsB s k t else []
def sigPath (s : ByteArray) (k : Int) (t : ByteArray) : List ByteArray := if signB s k t then pathB (pubsB s) k.toNat else []
theorem pathV_pubs (s : ByteArray) {k : Int} (h0 : 0 ≤ k) (h1 : k ≤ 3) : pathV (pubsB s) k = pathB (pubsB s) k.toNat := by
  unfold pathV
  rw [if_pos ⟨pubs_right s, h0, by rw [pubsB_len]; omega⟩]
end Go.Proofs.YtchlopmmhcobdagDoor
