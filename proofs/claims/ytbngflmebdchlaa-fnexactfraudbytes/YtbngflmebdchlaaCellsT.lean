/-
  Rows of cells that hold texts.
-/
import Derived.Test.YtbngflmebdchlaaTexts
namespace Go.Proofs.Ytbngflmebdchlaa
open Go.RowKit Go.Lib
set_option linter.unusedVariables false
set_option linter.unusedSimpArgs false

/-- n texts, as cells. -/
def cellsT (n : Nat) (f : Nat → ByteArray) : Array Value := ((List.range n).map fun j => Value.string (f j)).toArray
theorem cellsT_size (n : Nat) (f : Nat → ByteArray) : (cellsT n f).size = n := by simp [cellsT]
theorem cellsT_get {n : Nat} (f : Nat → ByteArray) {j : Nat} (h : j < n) : (cellsT n f)[j]? = some (.string (f j)) := by simp [cellsT, h]
theorem cellsT_congr {n : Nat} {f g : Nat → ByteArray} (h : ∀ j, j < n → f j = g j) : cellsT n f = cellsT n g := by
  unfold cellsT
  congr 1
  apply List.map_congr_left
  intro j hj
  rw [h j (by simpa using hj)]
theorem cellsT_set (n : Nat) (f : Nat → ByteArray) (i : Nat) (v : ByteArray) : (cellsT n f).setIfInBounds i (.string v) = cellsT n (fun j => if j = i then v else f j) := by
  apply Array.ext_getElem?
  intro k
  by_cases hk : k < n
  · rw [cellsT_get _ hk, Array.getElem?_setIfInBounds]
    by_cases e : i = k
    · subst e; simp [cellsT_size, hk]
    · rw [if_neg e, cellsT_get _ hk, if_neg (fun h => e h.symm)]
  · rw [Array.getElem?_eq_none (by simp [cellsT_size]; omega), Array.getElem?_eq_none (by simp [cellsT_size]; omega)]
/-- The first k texts are there. -/
def firstT (l : List ByteArray) (k : Nat) : Nat → ByteArray := fun j => if j < k then l.getD j ByteArray.empty else ByteArray.empty
theorem firstT_set (l : List ByteArray) (n k : Nat) (hk : k < l.length) : (cellsT n (firstT l k)).setIfInBounds k (.string l[k]) = cellsT n (firstT l (k + 1)) := by
  rw [cellsT_set]
  apply cellsT_congr
  intro j _
  unfold firstT
  by_cases h : j = k
  · subst h; simp [List.getD, hk]
  · rw [if_neg h]
    by_cases h2 : j < k
    · rw [if_pos h2, if_pos (by omega)]
    · rw [if_neg h2, if_neg (by omega)]

theorem make_texts (w : World) (n : Nat) (l : List ByteArray) (hn : n ≤ 1048576) : ∃ w1, (Instr.makeSlice 22 (.int .i64 (n : Int)) (.int .i64 (n : Int))).run Try.prog w = .ok (.slice (some ⟨w.heap.size, 0, none⟩) n n) w1 ∧ w1.heap[w.heap.size]? = some (.cells (cellsT n (firstT l 0)) 9 (0, 0)) ∧ Below w.heap.size w w1 := by
  obtain ⟨i0, hi, hz0, hz1, hz2⟩ := info_parts infoText
  have h := run_make (P := Try.prog) w 22 9 i0 (.string ByteArray.empty) Try.underlying22 hi hz0 .i64 .i64 n n (by omega) (by omega) (by rw [hz2]; omega) (by omega)
  simp only [Int.toNat_natCast] at h
  refine ⟨_, h, ?_, (Below.refl _ _).alloc (Nat.le_refl _) _⟩
  rw [(MapKept.heap_alloc w _).1, hz1]
  refine congrArg (fun c => some (Obj.cells c 9 (0, 0))) ?_
  apply Array.toList_inj.1
  rw [Nat.mul_one]
  refine Eq.trans (toList_madeCells_one (.string ByteArray.empty) n) ?_
  unfold cellsT firstT
  simp [List.map_const']
end Go.Proofs.Ytbngflmebdchlaa
