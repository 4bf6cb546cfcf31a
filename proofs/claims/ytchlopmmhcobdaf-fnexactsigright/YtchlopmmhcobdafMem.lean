/-
  Small laws on rows of bytes that a call makes itself: make, copy of a text into such a row, a row turned into a text.
-/
import Derived.Test.YtchlopmmhcobdafRows
import Derived.WalkKit
import Derived.WalkSpells
import Derived.Lib.BufferWrite
import Derived.Laws.OwnMore
import Derived.Laws.CopyOwn
import Derived.Laws.BytesArg
namespace Go.Proofs.Ytchlopmmhcobdaf
open Go.RowKit Go.Lib

theorem ret_str {a b : ByteArray} (h : a = b) : Ending.returned (.string a) = .returned (.string b) := by rw [h]

theorem cell_row {w : World} {g : Nat} {cur : Array Value} {t : TypeId} {fr : Nat × Nat} (hg : w.heap[g]? = some (.cells cur t fr)) (j : Nat) : w.cell? ⟨g, j, none⟩ = cur[j]? := by
  simp [World.cell?, hg]

/-- A block of three cells that was laid ahead of a call lies there behind it. -/
theorem three_cells {B g : Nat} {W w1 : World} {a b c : Value} {t : TypeId} (hb : Below B W w1) (hB : g < B) (hW : W.heap[g]? = some (.cells #[a, b, c] t (0, 0))) :
    (w1.cell? ⟨g, 0, none⟩ = some a ∧ w1.cell? ⟨g, 1, none⟩ = some b ∧ w1.cell? ⟨g, 2, none⟩ = some c) ∧ w1.frozen? ⟨g, 0, none⟩ = false ∧ w1.frozen? ⟨g, 1, none⟩ = false ∧ w1.frozen? ⟨g, 2, none⟩ = false := by
  have h := (hb.block g hB).trans hW
  simp [World.cell?, World.frozen?, h]

theorem below_after {w w1 : World} {o : Obj} (hb : Below (w.alloc o).heap.size (w.alloc o) w1) : Below w.heap.size w w1 :=
  ((Below.refl w.heap.size w).alloc (Nat.le_refl _) o).trans (hb.mono (by simp))
theorem below_drew {B : Nat} {w w1 : World} (hb : Below B w.drew w1) : Below B w w1 := ⟨hb.os, hb.tape, hb.output, hb.size, hb.block⟩

end Go.Proofs.Ytchlopmmhcobdaf
