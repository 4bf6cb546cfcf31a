/-
  What HeadText answers.
-/
import Derived.Test.YtpglcbidfghfkaaGreatDoorPkHeadV
import Derived.Test.YtpglcbidfghfkaaGreatDoorPkPutText
namespace Go.Proofs.YtpglcbidfghfkaaGreatDoor
open Go.RowKit Go.Lib
set_option linter.unusedVariables false
set_option linter.unusedSimpArgs false

theorem ba_size (a b : ByteArray) : (a ++ b).size = a.size + b.size := ByteArray.size_append
/-- The bytes of a number. -/
def numT (n : Int) : ByteArray := ⟨(putNum n).toArray⟩
theorem putText_size (s : ByteArray) : (putText s).size ≤ 20011 := by
  unfold putText
  split
  · exact Nat.zero_le _
  · rw [ba_size]
    have := putNum_size s.size
    omega
/-- The text that is signed of a head. -/
def headT (log : ByteArray) (size : Int) (root : ByteArray) (time : Int) : ByteArray := putText log ++ numT size ++ putText root ++ numT time
theorem headT_size (log : ByteArray) (size : Int) (root : ByteArray) (time : Int) : (headT log size root time).size ≤ 40044 := by
  unfold headT numT
  rw [ba_size, ba_size, ba_size]
  have := putText_size log
  have := putText_size root
  have := putNum_size size
  have := putNum_size time
  omega
/-- What HeadText answers. -/
def headTB (log : ByteArray) (size : Int) (root : ByteArray) (time k : Int) (el pl : List ByteArray) : ByteArray := if headRB log size root time k el pl then headT log size root time else ⟨#[]⟩
end Go.Proofs.YtpglcbidfghfkaaGreatDoor
