/-
  The program's chains: a step, all of them taken further, their texts, their public text.
-/
import Derived.Test.YtchlopmmhcobdagDoorSignV
import Derived.Test.YtchlopmmhcobdagDoorCellsT
import Derived.Test.YtchlopmmhcobdagDoorTextRows
import Derived.Test.YtchlopmmhcobdagDoorDigest
import Derived.Test.YtchlopmmhcobdagDoorJoin
namespace Go.Proofs.YtchlopmmhcobdagDoor
open Go.RowKit Go.Lib
set_option linter.unusedVariables false
set_option linter.unusedSimpArgs false

theorem digV_lo {s : ByteArray} (h : s.size ≤ 20000) : digV s = shaB s := by unfold digV; rw [if_neg (by omega)]
theorem cellsT_one (n : Nat) (f : Nat → ByteArray) : (cellsT n f).all (·.oneCell') = true := by simp [cellsT, Value.oneCell']
theorem info6 : (Tryd.prog.info? 47).map (·.size) = some 6 := by kernel_rfl
theorem rowT_cell {w : World} {g n : Nat} {f : Nat → ByteArray} {t : TypeId} (hg : w.heap[g]? = some (.cells (cellsT n f) t (0, 0))) {j : Nat} (hj : j < n) :
    w.cell? ⟨g, j, none⟩ = some (.string (f j)) ∧ w.frozen? ⟨g, j, none⟩ = false :=
  ⟨by rw [cell_of_row w g j _ _ _ hg, cellsT_get _ hj], frozen_of_row w g j _ _ hg⟩
theorem rowT_set {w : World} {g n : Nat} {f : Nat → ByteArray} {t : TypeId} (hg : w.heap[g]? = some (.cells (cellsT n f) t (0, 0))) (j : Nat) (v : ByteArray) (f' : Nat → ByteArray) (h : ∀ i, i < n → f' i = if i = j then v else f i) :
    (w.setCell ⟨g, j, none⟩ (.string v)).heap[g]? = some (.cells (cellsT n f') t (0, 0)) := by
  rw [heap_setCell_same w g j _ _ _ hg, cellsT_set, cellsT_congr h]

set_option maxHeartbeats 400000 in
theorem step_any (g k : Nat) (t : ByteArray) (w : World) (hc : w.cell? ⟨g, k, none⟩ = some (.string t)) (hf : w.frozen? ⟨g, k, none⟩ = false) (hg : g < w.heap.size) (ht : t.size = 32) (hK : Keys w) :
    Calls Tryd.prog 61 #[.pointer (some ⟨g, k, none⟩)] w fun e w' => e = .returned (.tuple #[]) ∧ ∃ w1, Below w.heap.size w w1 ∧ w' = w1.setCell ⟨g, k, none⟩ (.string (shaB t)) := by
  have E := implDigest_any t w (by omega) hK
  rw [digV_lo (by omega)] at E
  generalize shaB t = V at *
  have HE : Hid (Calls Tryd.prog 57 #[.string t] w fun e w' => e = .returned (.string V) ∧ Below w.heap.size w w') := E
  clear E hK
  go_enter Tryd.func61, Tryd.ntmps61
  go_wp2_with fail
  refine HE.out.mono ?_
  rintro e w1 ⟨rfl, hb⟩
  have hc1 : w1.cell? ⟨g, k, none⟩ = some (.string t) := (hb.cell (p := ⟨g, k, none⟩) hg).trans hc
  have hf1 : w1.frozen? ⟨g, k, none⟩ = false := (hb.frozen (p := ⟨g, k, none⟩) hg).trans hf
  have HB : Hid (Below w.heap.size w w1) := hb
  clear hb
  go_wp2
  go_end0
  exact ⟨rfl, w1, HB.out, rfl⟩

/-- Chains behind: the first k at their ends, the next one behind i steps. -/
def tk (f : Nat → ByteArray) (m : Nat → Nat) (k i : Nat) : Nat → ByteArray := fun j => if j < k then stepsB (m j) (f j) else if j = k then stepsB i (f j) else f j
theorem tk_start (f : Nat → ByteArray) (m : Nat → Nat) : ∀ j, j < 6 → tk f m 0 0 j = f j := fun j _ => by
  unfold tk
  rw [if_neg (by omega)]
  split <;> rfl
theorem tk_next (f : Nat → ByteArray) (m : Nat → Nat) (k : Nat) : ∀ j, j < 6 → tk f m (k + 1) 0 j = tk f m k (m k) j := fun j _ => by
  unfold tk
  by_cases h : j < k
  · rw [if_pos h, if_pos (by omega)]
  · rw [if_neg h]
    by_cases h2 : j = k
    · subst h2; rw [if_pos (by omega), if_pos rfl]
    · rw [if_neg (by omega), if_neg h2]
      split <;> rfl
theorem tk_step (f : Nat → ByteArray) (m : Nat → Nat) (k i : Nat) : ∀ j, j < 6 → tk f m k (i + 1) j = if j = k then shaB (tk f m k i k) else tk f m k i j := fun j _ => by
  unfold tk
  by_cases h2 : j = k
  · subst h2; simp [stepsB]
  · rw [if_neg h2, if_neg h2, if_neg h2]
theorem tk_end (f : Nat → ByteArray) (m : Nat → Nat) : ∀ j, j < 6 → tk f m 6 0 j = stepsB (m j) (f j) := fun j hj => by
  unfold tk
  rw [if_pos hj]
theorem tk_size {f : Nat → ByteArray} (m : Nat → Nat) (k i : Nat) (hf : ∀ j, j < 6 → (f j).size = 32) (j : Nat) (hj : j < 6) : (tk f m k i j).size = 32 := by
  unfold tk
  split
  · exact stepsB_size _ (hf j hj)
  · split
    · exact stepsB_size _ (hf j hj)
    · exact hf j hj

/-- In between: the chains in block H, the answer's block behind it. -/
def TakenAt (w wr : World) (f : Nat → ByteArray) : Prop :=
  wr.heap[w.heap.size]? = some (.cells (cellsT 6 f) 47 (0, 0)) ∧ wr.heap[w.heap.size + 1]? = some (.cells (cellsT 6 fun _ => ByteArray.empty) 47 (0, 0)) ∧ Below w.heap.size w wr ∧ Keys wr
theorem TakenAt.congr {w wr : World} {f g : Nat → ByteArray} (h : TakenAt w wr f) (e : ∀ j, j < 6 → g j = f j) : TakenAt w wr g := by
  obtain ⟨h1, h2, h3, h4⟩ := h
  exact ⟨by rw [cellsT_congr e]; exact h1, h2, h3, h4⟩
theorem TakenAt.lt {w wr : World} {f : Nat → ByteArray} (h : TakenAt w wr f) : w.heap.size + 1 < wr.heap.size := (Array.getElem?_eq_some_iff.1 h.2.1).1
theorem TakenAt.put {w wr w1 : World} {f f' : Nat → ByteArray} (h : TakenAt w wr f) (hb : Below wr.heap.size wr w1) (k : Nat) (v : ByteArray) (hK : 0 < w.heap.size) (e : ∀ i, i < 6 → f' i = if i = k then v else f i) : TakenAt w (w1.setCell ⟨w.heap.size, k, none⟩ (.string v)) f' := by
  have hl := h.lt
  obtain ⟨h1, h2, h3, h4⟩ := h
  have g1 := (hb.block _ (by omega)).trans h1
  have g2 := (hb.block _ hl).trans h2
  have hb1 : Below w.heap.size w w1 := h3.trans (hb.mono (by omega))
  refine ⟨rowT_set g1 k v f' e, ?_, hb1.setCell (Nat.le_refl _) _, ?_⟩
  · rw [heap_setCell_other _ _ _ _ (by simp)]
    exact g2
  · exact (h4.below hb (by omega)).below ((Below.refl w.heap.size w1).setCell (p := ⟨w.heap.size, k, none⟩) (Nat.le_refl _) _) hK
end Go.Proofs.YtchlopmmhcobdagDoor
