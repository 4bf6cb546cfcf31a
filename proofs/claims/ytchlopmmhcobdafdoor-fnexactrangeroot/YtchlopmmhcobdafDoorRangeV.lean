/-
  What a right range is.
-/
import Derived.Test.YtchlopmmhcobdafDoorTexts
import Derived.Test.YtchlopmmhcobdafDoorRangePure
import Derived.Test.YtchlopmmhcobdafDoorTreeV
namespace Go.Proofs.YtchlopmmhcobdafDoor
open Go.RowKit Go.Lib
set_option linter.unusedVariables false

/-- Is a range right? -/
def rangeB (size : Int) (l : List ByteArray) : Bool := decide (0 ≤ size ∧ size ≤ 1000000) && (decide ((l.length : Int) = (onesN size.toNat : Int)) && wideB l)
theorem rangeB_out {size : Int} {l : List ByteArray} (h : ¬ (0 ≤ size ∧ size ≤ 1000000)) : rangeB size l = false := by
  unfold rangeB
  rw [decide_eq_false h, Bool.false_and]
theorem rangeB_len {size : Int} {l : List ByteArray} (h : ¬ (l.length : Int) = (onesN size.toNat : Int)) : rangeB size l = false := by
  unfold rangeB
  rw [decide_eq_false h, Bool.false_and, Bool.and_false]
theorem rangeB_in {size : Int} {l : List ByteArray} (h : 0 ≤ size ∧ size ≤ 1000000) (h2 : (l.length : Int) = (onesN size.toNat : Int)) : rangeB size l = wideB l := by
  unfold rangeB
  rw [decide_eq_true h, decide_eq_true h2, Bool.true_and, Bool.true_and]
theorem rangeB_yes {size : Int} {l : List ByteArray} (h : rangeB size l = true) : (0 ≤ size ∧ size ≤ 1000000) ∧ l.length = onesN size.toNat ∧ wideB l = true := by
  by_cases h1 : 0 ≤ size ∧ size ≤ 1000000
  · by_cases h2 : (l.length : Int) = (onesN size.toNat : Int)
    · rw [rangeB_in h1 h2] at h
      exact ⟨h1, by omega, h⟩
    · rw [rangeB_len h2] at h; cases h
  · rw [rangeB_out h1] at h; cases h
theorem two_cells' {B g : Nat} {W w1 : World} {a b : Value} {t : TypeId} (hb : Below B W w1) (hB : g < B) (hW : W.heap[g]? = some (.cells #[a, b] t (0, 0))) :
    (w1.cell? ⟨g, 0, none⟩ = some a ∧ w1.cell? ⟨g, 1, none⟩ = some b) ∧ w1.frozen? ⟨g, 0, none⟩ = false ∧ w1.frozen? ⟨g, 1, none⟩ = false := by
  have h := (hb.block g hB).trans hW
  simp [World.cell?, World.frozen?, h]
/-- What RangeRoot tells. -/
def rootV (size : Int) (l : List ByteArray) : ByteArray := if rangeB size l = true then rootD nodeB noneB l else ByteArray.empty
theorem rootV_no {size : Int} {l : List ByteArray} (h : rangeB size l = false) : rootV size l = ByteArray.empty := by unfold rootV; rw [h]; rfl
theorem rootV_yes {size : Int} {l : List ByteArray} (h : rangeB size l = true) : rootV size l = rootD nodeB noneB l := by unfold rootV; rw [if_pos h]
theorem onesN_pos (n : Nat) : 0 < n → 0 < onesN n := by
  induction n using Nat.strongRecOn with
  | ind n ih =>
    intro h
    rw [onesN_step]
    by_cases h2 : n % 2 = 1
    · omega
    · have := ih (n / 2) (by omega) (by omega)
      omega
end Go.Proofs.YtchlopmmhcobdafDoor
