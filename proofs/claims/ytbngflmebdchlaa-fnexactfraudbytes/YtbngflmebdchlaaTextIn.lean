/-
  Rows of texts that lie between two bounds; stores that are far from a row.
-/
import Derived.Test.YtbngflmebdchlaaTextRows
namespace Go.Proofs.Ytbngflmebdchlaa
open Go.RowKit Go.Lib
set_option linter.unusedVariables false
set_option linter.unusedSimpArgs false

theorem OwnT.far {w : World} {B g i : Nat} {v u : Value} {l : List ByteArray} (h : OwnT w B v l) (hg : g < B) : OwnT (w.setCell ⟨g, i, none⟩ u) B v l :=
  h.grown ⟨rfl, rfl, rfl, by simp [World.setCell], fun k _ hne => Below.heap_setCell _ _ _ _ (by intro e; exact hne (by simp [e]))⟩ hg
/-- The slice v holds the texts l, in a row that lies behind A and ahead of B. -/
def TextsIn (w : World) (A B : Nat) (v : Value) (l : List ByteArray) : Prop :=
  ∃ a cap, v = .slice a l.length cap ∧ (l.length = 0 ∨ ∃ b off, a = some ⟨b, off, none⟩ ∧ A ≤ b ∧ b < B ∧ ∀ j (h : j < l.length), w.cell? ⟨b, off + j, none⟩ = some (.string l[j])) ∧ l.length ≤ cap
theorem OwnT.inside {w : World} {B : Nat} {v : Value} {l : List ByteArray} (h : OwnT w B v l) : TextsIn w B w.heap.size v l := by
  rcases id h with ⟨h1, ⟨rfl, h2⟩ | ⟨g, cap, cur, rfl, hB, hg, hnc, _, hcs, ht⟩⟩
  · exact ⟨none, 0, by rw [h2], .inl h2, by omega⟩
  · refine ⟨_, cap, rfl, .inr ⟨g, 0, rfl, hB, (Array.getElem?_eq_some_iff.1 hg).1, fun j hj => ?_⟩, hnc⟩
    have := World.ownsRow.cellAt h j (by omega)
    rw [Nat.zero_add, this]
    simp [hj]
theorem TextsIn.texts {w : World} {A B : Nat} {v : Value} {l : List ByteArray} (h : TextsIn w A B v l) : Texts w B v l := by
  obtain ⟨a, cap, hv, h | ⟨b, off, ha, hA, hB, hc⟩, hcap⟩ := h
  · exact ⟨a, cap, hv, .inl h, hcap⟩
  · exact ⟨a, cap, hv, .inr ⟨b, off, ha, hB, hc⟩, hcap⟩
theorem TextsIn.below {w w' : World} {A B : Nat} {v : Value} {l : List ByteArray} (h : TextsIn w A B v l) (hb : Below B w w') : TextsIn w' A B v l := by
  obtain ⟨a, cap, hv, h | ⟨b, off, ha, hA, hB, hc⟩, hcap⟩ := h
  · exact ⟨a, cap, hv, .inl h, hcap⟩
  · exact ⟨a, cap, hv, .inr ⟨b, off, ha, hA, hB, fun j hj => (hb.cell (p := ⟨b, off + j, none⟩) hB).trans (hc j hj)⟩, hcap⟩
theorem TextsIn.wide {w : World} {A B A' B' : Nat} {v : Value} {l : List ByteArray} (h : TextsIn w A B v l) (hA' : A' ≤ A) (hB' : B ≤ B') : TextsIn w A' B' v l := by
  obtain ⟨a, cap, hv, h | ⟨b, off, ha, hA, hB, hc⟩, hcap⟩ := h
  · exact ⟨a, cap, hv, .inl h, hcap⟩
  · exact ⟨a, cap, hv, .inr ⟨b, off, ha, by omega, by omega, hc⟩, hcap⟩
theorem TextsIn.far {w : World} {A B g i : Nat} {v u : Value} {l : List ByteArray} (h : TextsIn w A B v l) (hg : g < A) : TextsIn (w.setCell ⟨g, i, none⟩ u) A B v l := by
  obtain ⟨a, cap, hv, h | ⟨b, off, ha, hA, hB, hc⟩, hcap⟩ := h
  · exact ⟨a, cap, hv, .inl h, hcap⟩
  · refine ⟨a, cap, hv, .inr ⟨b, off, ha, hA, hB, fun j hj => ?_⟩, hcap⟩
    rw [← hc j hj]
    simp only [World.cell?]
    rw [heap_setCell_other _ _ _ _ (by simp; omega)]
end Go.Proofs.Ytbngflmebdchlaa
