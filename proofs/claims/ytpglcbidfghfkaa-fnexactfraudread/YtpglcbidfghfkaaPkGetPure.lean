/-
  The plain function that both GetNum's come to, and laws on it. No Go in sight.
-/
import Derived.Test.YtpglcbidfghfkaaRows
import Derived.WalkKit
import Derived.WalkSpells
import Derived.Laws.BitsAllLaws
namespace Go.Proofs.Ytpglcbidfghfkaa
open Go.RowKit

def byteAt (s : ByteArray) (k : Nat) : Int := ((s.data.toList.getD k 0).toNat : Int)
/-- u taken back into a number. -/
def unfoldU (u : Int) : Int := if u % 2 = 1 then -(u / 2) - 1 else u / 2
/-- 128 to the j. -/
def p7 : Nat → Int
  | 0 => 1
  | j + 1 => 128 * p7 j
/-- The number, the place behind it, the code; f + 1: how many bytes it may still have. -/
def getF (s : ByteArray) : Nat → Nat → Int → Int × Int × Int
  | 0, _, _ => (0, 0, 3)
  | f + 1, k, u =>
    if s.size ≤ k then (0, 0, 4)
    else if f = 0 ∧ 1 < byteAt s k then (0, 0, 3)
    else if byteAt s k < 128 then (if byteAt s k = 0 ∧ f ≠ 9 then (0, 0, 3) else (unfoldU (u + byteAt s k * p7 (9 - f)), (k : Int) + 1, 0))
    else getF s f (k + 1) (u + (byteAt s k - 128) * p7 (9 - f))

theorem byteAt_bd (s : ByteArray) (k : Nat) : 0 ≤ byteAt s k ∧ byteAt s k < 256 := by
  unfold byteAt
  have := (s.data.toList.getD k 0).toNat_lt
  omega
theorem getF_short {s : ByteArray} {f k : Nat} (u : Int) (h : s.size ≤ k) : getF s (f + 1) k u = (0, 0, 4) := by simp [getF, h]
theorem getF_tenth {s : ByteArray} {k : Nat} (u : Int) (h : ¬ s.size ≤ k) (hc : 1 < byteAt s k) : getF s 1 k u = (0, 0, 3) := by simp [getF, h, hc]
theorem getF_zero {s : ByteArray} {f k : Nat} (u : Int) (h : ¬ s.size ≤ k) (hc : byteAt s k = 0) (hf : f ≠ 9) : getF s (f + 1) k u = (0, 0, 3) := by simp [getF, h, hc, hf]
theorem getF_last {s : ByteArray} {f k : Nat} (u : Int) (h : ¬ s.size ≤ k) (hc : byteAt s k < 128) (h1 : ¬ (f = 0 ∧ 1 < byteAt s k)) (h2 : ¬ (byteAt s k = 0 ∧ f ≠ 9)) :
    getF s (f + 1) k u = (unfoldU (u + byteAt s k * p7 (9 - f)), (k : Int) + 1, 0) := by
  simp only [getF]
  rw [if_neg h, if_neg h1, if_pos hc, if_neg h2]
theorem getF_more {s : ByteArray} {f k : Nat} (u : Int) (h : ¬ s.size ≤ k) (hc : 128 ≤ byteAt s k) (h1 : f ≠ 0) :
    getF s (f + 1) k u = getF s f (k + 1) (u + (byteAt s k - 128) * p7 (9 - f)) := by
  simp only [getF]
  rw [if_neg h, if_neg (by omega), if_neg (by omega)]

theorem p7_pos (j : Nat) : 1 ≤ p7 j := by
  induction j with
  | zero => decide
  | succ j ih => simp only [p7]; omega
theorem p7_pow (j : Nat) : p7 j = 2 ^ (7 * j) := by
  induction j with
  | zero => rfl
  | succ j ih => rw [p7, ih, Nat.mul_succ, Int.pow_add]; omega
theorem p7_le {j : Nat} (h : j ≤ 8) : p7 j ≤ 72057594037927936 := by
  have : j = 0 ∨ j = 1 ∨ j = 2 ∨ j = 3 ∨ j = 4 ∨ j = 5 ∨ j = 6 ∨ j = 7 ∨ j = 8 := by omega
  rcases this with rfl | rfl | rfl | rfl | rfl | rfl | rfl | rfl | rfl <;> decide
theorem step_bd {u c : Int} {j : Nat} (h0 : 0 ≤ u) (h1 : u < p7 j) (hc0 : 0 ≤ c) (hc1 : c < 128) : 0 ≤ u + c * p7 j ∧ u + c * p7 j < p7 (j + 1) := by
  have hp := p7_pos j
  have a : 0 ≤ c * p7 j := Int.mul_nonneg hc0 (by omega)
  have b : c * p7 j ≤ 127 * p7 j := Int.mul_le_mul_of_nonneg_right (by omega) (by omega)
  simp only [p7]
  omega
theorem raw_eq {u c : Int} {j : Nat} (hj : j ≤ 8) (h0 : 0 ≤ u) (h1 : u < p7 j) (hc0 : 0 ≤ c) (hc1 : c < 128) : IntKind.u64.wrap (u + IntKind.u64.wrap (c * 2 ^ (7 * j))) = u + c * p7 j := by
  have hb := step_bd h0 h1 hc0 hc1
  have a : 0 ≤ c * p7 j := Int.mul_nonneg hc0 (by have := p7_pos j; omega)
  have hl := p7_le hj
  have e : p7 (j + 1) = 128 * p7 j := rfl
  rw [← p7_pow, IntKind.wrap_u64, IntKind.wrap_u64, Int.emod_eq_of_lt a (by omega), Int.emod_eq_of_lt hb.1 (by omega)]
theorem unfoldU_odd {u : Int} (h : u % 2 = 1) : unfoldU u = -(u / 2) - 1 := by unfold unfoldU; rw [if_pos h]
theorem unfoldU_even {u : Int} (h : ¬ u % 2 = 1) : unfoldU u = u / 2 := by unfold unfoldU; rw [if_neg h]

theorem index_byte (s : ByteArray) (k : Nat) (x : Int) (hx : x = k) (h : k < s.size) (w : World) : (Instr.index 9 (.string s) (.int .i64 x)).run Try.prog w = .ok (.int .u8 (byteAt s k)) w := by
  subst hx
  rw [run_index_string w 9 s .i64 _ Try.underlying9]
  unfold byteAt
  have hl : k < s.data.size := h
  have e : s.data.toList.getD k 0 = s[k] := by
    simp only [List.getD, Array.getElem?_toList, Array.getElem?_eq_getElem hl, Option.getD_some]
    rfl
  rw [dif_pos ⟨by omega, by omega⟩, e]
  simp

def numV (r : Int × Int × Int) : Value := .agg #[.int .i64 r.1, .int .i64 r.2.1, .int .i64 r.2.2]

theorem getF_at9 {s : ByteArray} {k : Nat} {u : Int} (h : ¬ s.size ≤ k) (hc : byteAt s k = 1) : getF s 1 k u = (unfoldU (u + 9223372036854775808), (k : Int) + 1, 0) := by
  rw [getF_last u h (by omega) (by omega) (by omega), hc]
  rfl

theorem num_fin {R r : Int × Int × Int} {a b c : Int} (h : numV r = numV R) (ha : a = r.1) (hb : b = r.2.1) (hc : c = r.2.2) : Ending.returned (.agg #[.int .i64 a, .int .i64 b, .int .i64 c]) = .returned (numV R) := by
  rw [← h, ha, hb, hc]; rfl
theorem p7_le9 {j : Nat} (h : j ≤ 9) : p7 j ≤ 9223372036854775808 := by
  by_cases e : j = 9
  · subst e; decide
  · have := p7_le (j := j) (by omega); omega

/-- What GetNum answers: the number, the place behind it, the code. -/
def numR (s : ByteArray) (k : Int) : Int × Int × Int := if 20000 < (s.size : Int) then (0, 0, 2) else if k < 0 then (0, 0, 1) else getF s 10 k.toNat 0

end Go.Proofs.Ytpglcbidfghfkaa
