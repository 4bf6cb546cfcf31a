/-
  Rows of texts that can be read; are all of 32 bytes?
-/
import Derived.Test.YtbngflmebdchlaaMem
import Derived.Deep.QuietTactic
import Derived.BigQuiet
namespace Go.Proofs.Ytbngflmebdchlaa
open Go.RowKit Go.Lib
set_option linter.unusedVariables false

/-- The slice v holds the texts l, in a row that lies ahead of B. -/
def Texts (w : World) (B : Nat) (v : Value) (l : List ByteArray) : Prop :=
  ∃ a cap, v = .slice a l.length cap ∧ (l.length = 0 ∨ ∃ b off, a = some ⟨b, off, none⟩ ∧ b < B ∧ ∀ j (h : j < l.length), w.cell? ⟨b, off + j, none⟩ = some (.string l[j])) ∧ l.length ≤ cap
theorem Texts.below {w w' : World} {B : Nat} {v : Value} {l : List ByteArray} (h : Texts w B v l) (hb : Below B w w') : Texts w' B v l := by
  obtain ⟨a, cap, hv, h | ⟨b, off, ha, hB, hc⟩, hcap⟩ := h
  · exact ⟨a, cap, hv, .inl h, hcap⟩
  · exact ⟨a, cap, hv, .inr ⟨b, off, ha, hB, fun j hj => (hb.cell (p := ⟨b, off + j, none⟩) hB).trans (hc j hj)⟩, hcap⟩
theorem Texts.up {w : World} {B B' : Nat} {v : Value} {l : List ByteArray} (h : Texts w B v l) (hB : B ≤ B') : Texts w B' v l := by
  obtain ⟨a, cap, hv, h | ⟨b, off, ha, hb, hc⟩, hcap⟩ := h
  · exact ⟨a, cap, hv, .inl h, hcap⟩
  · exact ⟨a, cap, hv, .inr ⟨b, off, ha, Nat.lt_of_lt_of_le hb hB, hc⟩, hcap⟩

theorem infoText : (Try.prog.info? 9).map (fun i => (i.zero, i.size, i.bytes)) = some (some (.string ByteArray.empty), 1, 16) := by kernel_rfl
/-- Are all of 32 bytes? -/
def wideB (l : List ByteArray) : Bool := l.all fun t => decide ((t.size : Int) = 32)
theorem ret_bool {a b : Bool} (h : a = b) : Ending.returned (.bool a) = .returned (.bool b) := by rw [h]
theorem wideB_no {l : List ByteArray} {k : Nat} (hk : k < l.length) (h : ¬ (l[k].size : Int) = 32) : wideB l = false := by
  unfold wideB
  rw [List.all_eq_false]
  exact ⟨l[k], List.getElem_mem hk, by simpa using h⟩
theorem wideB_yes {l : List ByteArray} (h : ∀ j (hj : j < l.length), (l[j].size : Int) = 32) : wideB l = true := by
  unfold wideB
  rw [List.all_eq_true]
  intro t ht
  obtain ⟨j, hj, rfl⟩ := List.getElem_of_mem ht
  simpa using h j hj
theorem wideB_at {l : List ByteArray} (h : wideB l = true) {j : Nat} (hj : j < l.length) : l[j].size = 32 := by
  unfold wideB at h
  have := List.all_eq_true.1 h l[j] (List.getElem_mem hj)
  have h2 : (l[j].size : Int) = 32 := by simpa using this
  omega
end Go.Proofs.Ytbngflmebdchlaa
