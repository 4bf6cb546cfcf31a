/-
  A head that came in, opened from its cells: its texts, its numbers and its signature's rows.
-/
import Derived.Test.YtpglcbidfghfkaaPkTexts
import Derived.SliceStrings
import Derived.ChangeSame
namespace Go.Proofs.Ytpglcbidfghfkaa
open Go.ChangeShapes Go.WideShapes Go.RowKit
set_option linter.unusedVariables false
set_option linter.unusedSimpArgs false

theorem seg {cs s : List Value} {o m : Nat} (h : (cs.drop o).take m = s) : cs.drop o = s ++ cs.drop (o + m) := by
  subst h
  rw [← List.drop_drop]
  exact (List.take_append_drop m (cs.drop o)).symm
theorem seg_end {cs : List Value} {n : Nat} (h : cs.length = n) : cs.drop n = [] := by
  rw [← h]
  exact List.drop_length
theorem texts_open {H : Type} {enc : TypeId × Value → H} {W : World} {n : Nat} {cs : List Value} {x : DataW H × List MemPlace} (h : DataW.trod enc Try.prog W 0 (fun _ => true) true n 22 cs = some x) : ∃ (v : Value) (l : List ByteArray), cs = [v] ∧ TextsArg W v l := by
  rcases open_strings Try.underlying22 Try.underlying9 (by kernel_rfl) h with ⟨hcs, _⟩ | ⟨x, l, c, zs, hcs, _, hl, hm, hzs, _, hcell, hwz⟩
  · exact ⟨_, [], hcs, textsArg_nil W⟩
  · exact ⟨_, _, hcs, textsArg_of hl hm (by simpa using hzs) hcell hwz⟩
end Go.Proofs.Ytpglcbidfghfkaa
