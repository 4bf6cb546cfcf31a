/-
  What HeadRight and HeadText answer; a block of seven cells.
-/
import Derived.Test.YtpglcbidfghfkaaPkTexts
import Derived.Test.YtpglcbidfghfkaaPkName
namespace Go.Proofs.Ytpglcbidfghfkaa
open Go.RowKit Go.Lib
set_option linter.unusedVariables false
set_option linter.unusedSimpArgs false

/-- Is the text a name? -/
def nameDec (s : ByteArray) : Decidable (nameP s) := by
  delta nameP tailP letP digP
  infer_instance
def nameB (s : ByteArray) : Bool := @decide (nameP s) (nameDec s)
theorem nameB_iff (s : ByteArray) : nameB s = true ↔ nameP s := @decide_eq_true_iff (nameP s) (nameDec s)
theorem AnsB.name {s : ByteArray} {e : Ending} (h : AnsB (nameP s) e) : e = .returned (.bool (nameB s)) := by
  obtain ⟨b, rfl, hb⟩ := h
  refine ret_bool ?_
  rw [Bool.eq_iff_iff]
  exact hb.trans (nameB_iff s).symm
theorem nameB_yes {s : ByteArray} (h : nameB s = true) : 1 ≤ s.size ∧ s.size ≤ 20 := by
  have h2 : nameP s := (nameB_iff s).1 h
  exact ⟨h2.1, h2.2.1⟩
/-- Is what is signed of a head right? -/
def claimB (log : ByteArray) (size : Int) (root : ByteArray) (time : Int) : Bool := nameB log && decide (0 ≤ size ∧ size ≤ 64) && decide ((root.size : Int) = 32) && decide (0 ≤ time ∧ time ≤ 1000000000)
theorem claimB_yes {log root : ByteArray} {size time : Int} (h : claimB log size root time = true) : nameB log = true ∧ (0 ≤ size ∧ size ≤ 64) ∧ root.size = 32 ∧ 0 ≤ time ∧ time ≤ 1000000000 := by
  unfold claimB at h
  simp at h
  exact ⟨h.1.1.1, h.1.1.2, by omega, h.2⟩
/-- Is the head right? -/
def headRB (log : ByteArray) (size : Int) (root : ByteArray) (time k : Int) (el pl : List ByteArray) : Bool := claimB log size root time && sigRB k el pl
theorem wideB_one (t : ByteArray) : wideB [t] = decide ((t.size : Int) = 32) := by simp [wideB]

/-- A block of seven cells that was laid ahead of a call lies there behind it. -/
theorem seven_cells {B g : Nat} {W w1 : World} {a b c d e f h : Value} {t : TypeId} (hb : Below B W w1) (hB : g < B) (hW : W.heap[g]? = some (.cells #[a, b, c, d, e, f, h] t (0, 0))) :
    (w1.cell? ⟨g, 0, none⟩ = some a ∧ w1.cell? ⟨g, 1, none⟩ = some b ∧ w1.cell? ⟨g, 2, none⟩ = some c ∧ w1.cell? ⟨g, 3, none⟩ = some d ∧ w1.cell? ⟨g, 4, none⟩ = some e ∧ w1.cell? ⟨g, 5, none⟩ = some f ∧ w1.cell? ⟨g, 6, none⟩ = some h) ∧ ∀ i, w1.frozen? ⟨g, i, none⟩ = false := by
  have h := (hb.block g hB).trans hW
  refine ⟨by simp [World.cell?, h], fun i => by simp [World.frozen?, h]⟩
theorem four_cells {B g : Nat} {W w1 : World} {a b c d : Value} {t : TypeId} (hb : Below B W w1) (hB : g < B) (hW : W.heap[g]? = some (.cells #[a, b, c, d] t (0, 0))) :
    (w1.cell? ⟨g, 0, none⟩ = some a ∧ w1.cell? ⟨g, 1, none⟩ = some b ∧ w1.cell? ⟨g, 2, none⟩ = some c ∧ w1.cell? ⟨g, 3, none⟩ = some d) ∧ ∀ i, w1.frozen? ⟨g, i, none⟩ = false := by
  have h := (hb.block g hB).trans hW
  refine ⟨by simp [World.cell?, h], fun i => by simp [World.frozen?, h]⟩
theorem one_textH (w : World) (t : ByteArray) : Texts (w.alloc (.cells #[.string t] 9)) (w.heap.size + 1) (.slice (some ⟨w.heap.size, 0, none⟩) 1 1) [t] := by
  refine ⟨_, 1, rfl, .inr ⟨w.heap.size, 0, rfl, by omega, fun j hj => ?_⟩, by simp⟩
  have : j = 0 := by simpa using hj
  subst this
  have h := heap_alloc_new w (.cells #[.string t] 9)
  simp only [World.cell?, h]
  rfl
end Go.Proofs.Ytpglcbidfghfkaa
