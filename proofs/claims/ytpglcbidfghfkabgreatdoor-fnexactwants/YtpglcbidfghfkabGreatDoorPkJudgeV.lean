/-
  What Judge answers.
-/
import Derived.Test.YtpglcbidfghfkabGreatDoorPkHdV
import Derived.Test.YtpglcbidfghfkabGreatDoorPkHeadGV
import Derived.Test.YtpglcbidfghfkabGreatDoorPkHeadV
import Derived.Test.YtpglcbidfghfkabGreatDoorPkRight
namespace Go.Proofs.YtpglcbidfghfkabGreatDoor
open Go.RowKit Go.Lib
set_option linter.unusedVariables false
set_option linter.unusedSimpArgs false

def Hd.good (x : Hd) (r : ByteArray) : Bool := headGB r x.log x.size x.root x.time x.k x.el x.pl
/-- Are two heads in conflict? -/
def twoB (x y : Hd) : Bool := confB x.right y.right x.log y.log x.size y.size x.root y.root
/-- Does the row l, of B's size, not go on from A's? -/
def rewB (x y : Hd) (l : List ByteArray) : Bool := rightB l && ((l.length : Int) == y.size) && decide (x.size < y.size) && ((treeB l).toList == y.root.toList) && !((treeB (l.take x.size.toNat)).toList == x.root.toList)
/-- What Judge answers. -/
def judgeB (r : ByteArray) (x y : Hd) (l : List ByteArray) : Bool := x.good r && y.good r && (x.log.toList == y.log.toList) && (if l.length = 0 then twoB x y else rewB x y l)
theorem Hd.good_right {x : Hd} {r : ByteArray} (h : x.good r = true) : x.right = true := by
  unfold Hd.good headGB at h
  exact (Bool.and_eq_true_iff.1 h).1
theorem Hd.right_size {x : Hd} (h : x.right = true) : 0 ≤ x.size ∧ x.size ≤ 64 := by
  unfold Hd.right headRB at h
  exact (claimB_yes (Bool.and_eq_true_iff.1 h).1).2.1
end Go.Proofs.YtpglcbidfghfkabGreatDoor
