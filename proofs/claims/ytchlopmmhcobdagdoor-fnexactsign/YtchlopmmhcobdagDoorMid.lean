/-
  What the exact laws of functions that answer rows of texts hold in between: both answers, apart from each other.
-/
import Derived.Test.YtchlopmmhcobdagDoorMarks
import Derived.Test.YtchlopmmhcobdagDoorTextArg
import Derived.Test.YtchlopmmhcobdagDoorOwnRow
namespace Go.Proofs.YtchlopmmhcobdagDoor
open Go.RowKit Go.Lib
set_option linter.unusedVariables false

/-- Behind the calls: the document's answer v2 lies ahead of n3, the program's answer g0 is its own, behind n4. -/
def Mid (w wX : World) (n3 n4 : Nat) (v2 g0 : Value) (L gl : List ByteArray) : Prop :=
  Below w.heap.size w wX ∧ w.heap.size ≤ n3 ∧ n3 < n4 ∧ n4 ≤ wX.heap.size ∧ Texts wX n3 v2 L ∧ OwnT wX n4 g0 gl
theorem Mid.below {w wX wY : World} {n3 n4 : Nat} {v2 g0 : Value} {L gl : List ByteArray} (h : Mid w wX n3 n4 v2 g0 L gl) (hb : Below wX.heap.size wX wY) : Mid w wY n3 n4 v2 g0 L gl := by
  obtain ⟨h1, h2, h3, h4, h5, h6⟩ := h
  exact ⟨h1.trans (hb.mono h1.size), h2, h3, Nat.le_trans h4 hb.size, h5.below (hb.mono (by omega)), h6.below hb (Nat.le_refl _)⟩
theorem Mid.markX {w wX wY : World} {n3 n4 : Nat} {v2 g0 x0 : Value} {L gl xl : List ByteArray} (h : Mid w wX n3 n4 v2 g0 L gl) (hx : OwnT wX n3 x0 xl) (hxb : x0.ownBlock = some n3) (hg : wX.grownBy wY x0.ownBlock) : Mid w wY n3 n4 v2 g0 L gl := by
  obtain ⟨h1, h2, h3, h4, h5, h6⟩ := h
  have hb : Below n3 wX wY := hx.below_of hg (by omega)
  rw [hxb] at hg
  exact ⟨h1.trans (hb.mono h2), h2, h3, Nat.le_trans h4 hb.size, h5.below hb, h6.grown hg h3⟩
theorem Mid.markG {w wX wY : World} {n3 n4 : Nat} {v2 g0 : Value} {L gl gl' : List ByteArray} (h : Mid w wX n3 n4 v2 g0 L gl) (hg : wX.grownBy wY g0.ownBlock) (ho : OwnT wY n4 g0 gl') : Mid w wY n3 n4 v2 g0 L gl' := by
  obtain ⟨h1, h2, h3, h4, h5, h6⟩ := h
  have hb : Below n4 wX wY := h6.below_of hg h4
  exact ⟨h1.trans (hb.mono (by omega)), h2, h3, Nat.le_trans h4 hb.size, h5.below (hb.mono (by omega)), ho⟩
theorem Mid.answers {w wX : World} {n3 n4 : Nat} {v2 g0 : Value} {L gl : List ByteArray} (h : Mid w wX n3 n4 v2 g0 L gl) : Texts wX wX.heap.size v2 L ∧ Texts wX wX.heap.size g0 gl := by
  obtain ⟨h1, h2, h3, h4, h5, h6⟩ := h
  exact ⟨h5.up (by omega), h6.texts⟩
end Go.Proofs.YtchlopmmhcobdagDoor
