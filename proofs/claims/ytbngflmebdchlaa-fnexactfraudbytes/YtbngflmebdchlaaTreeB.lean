/-
  The leaf of a text, the digest of two.
-/
import Derived.Test.YtbngflmebdchlaaCells
import Derived.Test.YtbngflmebdchlaaTreePure
namespace Go.Proofs.Ytbngflmebdchlaa
open Go.RowKit Go.Lib
set_option linter.unusedVariables false

def zeroB : ByteArray := ⟨#[0]⟩
def oneB : ByteArray := ⟨#[1]⟩
/-- The leaf of a text; the digest of two. -/
def leafB (t : ByteArray) : ByteArray := shaB (zeroB ++ t)
def nodeB (l r : ByteArray) : ByteArray := shaB ((oneB ++ l) ++ r)
theorem leafB_size (t : ByteArray) : (leafB t).size = 32 := shaB_size _
theorem nodeB_size (l r : ByteArray) : (nodeB l r).size = 32 := shaB_size _
end Go.Proofs.Ytbngflmebdchlaa
