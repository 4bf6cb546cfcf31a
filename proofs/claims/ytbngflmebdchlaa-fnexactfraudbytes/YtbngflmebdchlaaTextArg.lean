/-
  A row of texts that came in can be read.
-/
import Derived.Test.YtbngflmebdchlaaTextLaws
namespace Go.Proofs.Ytbngflmebdchlaa
open Go.RowKit Go.Lib
set_option linter.unusedVariables false

/-- An argument that is a row of texts. -/
def TextsArg (w : World) (v : Value) (l : List ByteArray) : Prop := Texts w w.heap.size v l ∧ l.length ≤ 9223372036854775807 ∧ ∀ j (hj : j < l.length), l[j].size ≤ 9223372036854775807
theorem textsArg_nil (w : World) : TextsArg w (.slice none 0 0) [] := ⟨⟨none, 0, rfl, .inl rfl, Nat.le_refl _⟩, by simp, fun j hj => by simp at hj⟩
theorem textsArg_of {w : World} {x : Addr} {len cap : Nat} {ss : List ByteArray} (hl : len ≤ cap) (hm : cap ≤ maxLen) (hz : ss.length = cap) (hcell : ∀ i, i < ss.length → w.cell? (x.add i) = some (.string (ss.getD i ByteArray.empty))) (hw : ∀ s ∈ ss, s.size ≤ maxLen) :
    TextsArg w (.slice (some x) len cap) (ss.take len) := by
  unfold maxLen at hm hw
  have hlen : (ss.take len).length = len := by rw [List.length_take]; omega
  refine ⟨⟨some x, cap, by rw [hlen], ?_, by omega⟩, by omega, fun j hj => hw _ ?_⟩
  · by_cases h0 : len = 0
    · exact .inl (by omega)
    obtain ⟨b, off, spot⟩ := x
    have hc := hcell 0 (by omega)
    have hspot : spot = none := by simpa [Addr.add] using World.cell?_spot hc
    subst hspot
    have hadd : ∀ i, (⟨b, off, none⟩ : Addr).add i = ⟨b, off + i, none⟩ := fun i => by unfold Addr.add; split <;> simp_all
    rw [hadd] at hc
    refine .inr ⟨b, off, rfl, World.block_lt_of_cell? w _ hc, fun j hj => ?_⟩
    have h1 := hcell j (by omega)
    rw [hadd] at h1
    rw [h1, List.getElem_take]
    have hj' : j < ss.length := by omega
    simp [List.getD, hj']
  · rw [List.getElem_take]
    exact List.getElem_mem _
theorem int_bd {n : Int} (h : (Lit.int .i64 n).wf = true) : -9223372036854775808 ≤ n ∧ n ≤ 9223372036854775807 := by simpa [Lit.wf, IntKind.min, IntKind.max, IntKind.bits, IntKind.signed] using h
end Go.Proofs.Ytbngflmebdchlaa
