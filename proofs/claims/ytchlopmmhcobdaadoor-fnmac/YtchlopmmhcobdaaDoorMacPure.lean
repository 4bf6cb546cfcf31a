/-
  What Mac and Stretch answer.
-/
import Derived.Test.YtchlopmmhcobdaaDoorMaskPure
namespace Go.Proofs.YtchlopmmhcobdaaDoor
open Go.RowKit Go.Lib
set_option linter.unusedVariables false

/-- The mac of a key of at most 64 bytes. -/
def macK (k t : ByteArray) : ByteArray := shaB (maskB k 92 ++ shaB (maskB k 54 ++ t))
/-- The key, if it is longer its digest. -/
def keyB (k : ByteArray) : ByteArray := if 64 < (k.size : Int) then shaB k else k
def macB (k t : ByteArray) : ByteArray := macK (keyB k) t
theorem macB_size (k t : ByteArray) : (macB k t).size = 32 := shaB_size _
theorem keyB_size (k : ByteArray) : (keyB k).size ≤ 64 := by
  unfold keyB
  split
  · rw [shaB_size]; omega
  · omega
/-- What Mac answers. -/
def macV (k t : ByteArray) : ByteArray := if 20000 < (k.size : Int) ∨ 20000 < (t.size : Int) then ByteArray.empty else macB k t
def saltB : ByteArray := ⟨#[115, 97, 108, 116]⟩
/-- The pass, stretched n times. -/
def strB (p : ByteArray) : Nat → ByteArray
  | 0 => saltB
  | n + 1 => macB p (strB p n)
theorem strB_size (p : ByteArray) (n : Nat) : (strB p n).size ≤ 32 := by
  cases n with
  | zero => show saltB.size ≤ 32; decide
  | succ n => unfold strB; rw [macB_size]; omega
/-- What Stretch answers. -/
def strV (p : ByteArray) (n : Int) : ByteArray := if 20000 < (p.size : Int) ∨ n < 1 ∨ 100 < n then ByteArray.empty else strB p n.toNat
end Go.Proofs.YtchlopmmhcobdaaDoor
