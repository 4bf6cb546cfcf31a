/-
  errors.As at the program's own fault type, by two contracts: a nil error answers false; a fault answers true, and the target holds its code. Go's own text of errors.As is walked; what package reflectlite answers is the model's.
-/
import Derived.Test.YtpglcbidfghfkaaRows
import Derived.WalkKit
import Derived.WalkSpells
import Derived.LaidEql
import Derived.Stop.Asserts
import Derived.RowKitTokens
namespace Go.Proofs.Ytpglcbidfghfkaa
open Go.RowKit Go.Extern.Stop Go.Stop Go.Extern
end Go.Proofs.Ytpglcbidfghfkaa
