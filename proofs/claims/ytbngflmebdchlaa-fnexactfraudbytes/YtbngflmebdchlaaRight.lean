/-
  Right entries: at most 64, of at most 100 bytes each. What is told of a tree.
-/
import Derived.Test.YtbngflmebdchlaaTextRows
import Derived.Test.YtbngflmebdchlaaTreeV
namespace Go.Proofs.Ytbngflmebdchlaa
open Go.RowKit Go.Lib
set_option linter.unusedVariables false

def smallB (l : List ByteArray) : Bool := l.all fun t => decide ((t.size : Int) ≤ 100)
theorem smallB_no {l : List ByteArray} {k : Nat} (hk : k < l.length) (h : ¬ (l[k].size : Int) ≤ 100) : smallB l = false := by
  unfold smallB
  rw [List.all_eq_false]
  exact ⟨l[k], List.getElem_mem hk, by simpa using h⟩
theorem smallB_yes {l : List ByteArray} (h : ∀ j (hj : j < l.length), (l[j].size : Int) ≤ 100) : smallB l = true := by
  unfold smallB
  rw [List.all_eq_true]
  intro t ht
  obtain ⟨j, hj, rfl⟩ := List.getElem_of_mem ht
  simpa using h j hj
theorem smallB_at {l : List ByteArray} (h : smallB l = true) {j : Nat} (hj : j < l.length) : l[j].size ≤ 100 := by
  unfold smallB at h
  have := List.all_eq_true.1 h l[j] (List.getElem_mem hj)
  have h2 : (l[j].size : Int) ≤ 100 := by simpa using this
  omega
def rightB (l : List ByteArray) : Bool := decide ((l.length : Int) ≤ 64) && smallB l
theorem rightB_len {l : List ByteArray} (h : rightB l = true) : l.length ≤ 64 := by
  unfold rightB at h
  have := (Bool.and_eq_true _ _).mp h
  have h2 : (l.length : Int) ≤ 64 := by simpa using this.1
  omega
theorem rightB_at {l : List ByteArray} (h : rightB l = true) {j : Nat} (hj : j < l.length) : l[j].size ≤ 100 := by
  unfold rightB at h
  exact smallB_at ((Bool.and_eq_true _ _).mp h).2 hj
theorem rightB_long {l : List ByteArray} (h : 64 < l.length) : rightB l = false := by
  unfold rightB
  rw [decide_eq_false (by omega), Bool.false_and]
theorem rightB_short {l : List ByteArray} (h : l.length ≤ 64) : rightB l = smallB l := by
  unfold rightB
  rw [decide_eq_true (by omega), Bool.true_and]
/-- What is told of the tree of entries. -/
def treeV (l : List ByteArray) : ByteArray := if rightB l then treeB l else ByteArray.empty
end Go.Proofs.Ytbngflmebdchlaa
