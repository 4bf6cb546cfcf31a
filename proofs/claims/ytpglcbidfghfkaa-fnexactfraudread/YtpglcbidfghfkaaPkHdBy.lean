/-
  A head's bytes, of a record.
-/
import Derived.Test.YtpglcbidfghfkaaPkHdV
import Derived.Test.YtpglcbidfghfkaaPkFraudV
namespace Go.Proofs.Ytpglcbidfghfkaa
open Go.RowKit Go.Lib
set_option linter.unusedVariables false
set_option linter.unusedSimpArgs false

def Hd.bytes (x : Hd) : ByteArray := headBy x.log x.size x.root x.time x.k x.el x.pl
theorem Texts.cellAt {w : World} {B n cap : Nat} {a : Option Addr} {l : List ByteArray} (h : Texts w B (.slice a n cap) l) (j : Nat) (hj : j < l.length) : ∃ b off, a = some ⟨b, off, none⟩ ∧ b < B ∧ w.cell? ⟨b, off + j, none⟩ = some (.string l[j]) := by
  obtain ⟨b, off, h1, h2, h3⟩ := h.rowAt (by omega)
  exact ⟨b, off, h1, h2, h3 j hj⟩
end Go.Proofs.Ytpglcbidfghfkaa
