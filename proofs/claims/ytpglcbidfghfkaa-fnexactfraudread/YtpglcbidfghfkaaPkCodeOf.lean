/-
  The program's codeOf: of no error 0, of a fault its code. Condition: package errors' own variable holds the handle of the type error.
-/
import Derived.Test.YtpglcbidfghfkaaPkAs
import Derived.Below
namespace Go.Proofs.Ytpglcbidfghfkaa
open Go.RowKit Go.Extern.Stop Go.Stop Go.Extern
end Go.Proofs.Ytpglcbidfghfkaa
