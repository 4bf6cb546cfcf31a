/-
  What Conflict answers.
-/
import Derived.Test.YtbfejeeebfknjaaHeadV
namespace Go.Proofs.Ytbfejeeebfknjaa
open Go.RowKit Go.Lib
set_option linter.unusedVariables false
set_option linter.unusedSimpArgs false

/-- What Conflict answers of two heads, of which each is right or not. -/
def confB (ra rb : Bool) (log1 log2 : ByteArray) (size1 size2 : Int) (root1 root2 : ByteArray) : Bool := ra && rb && (log1.toList == log2.toList) && (size1 == size2) && !(root1.toList == root2.toList)
end Go.Proofs.Ytbfejeeebfknjaa
