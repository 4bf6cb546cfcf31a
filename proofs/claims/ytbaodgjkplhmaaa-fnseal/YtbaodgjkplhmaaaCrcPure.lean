/-
  Plain laws on the CRC: it goes on from text to text; one byte turned turns it; and on a sealed text, whole and with one byte turned.
-/
import Derived.Test.YtbaodgjkplhmaaaUnseal
import Derived.Lib.IndexBytes
namespace Go.Proofs.Ytbaodgjkplhmaaa
open Go.RowKit Go.Lib
set_option linter.unusedVariables false

theorem xor_back {r m : Int} (h0 : 0 ≤ r) (h1 : r < 4294967296) (m0 : 0 ≤ m) (m1 : m < 4294967296) : bits .xor .u32 (bits .xor .u32 r m) m = r := by
  have hb := bits_u32_bd .xor r m
  rw [u32_xor _ m hb.1 hb.2 m0 m1, u32_xor r m h0 h1 m0 m1, Int.toNat_natCast, Nat.xor_assoc, Nat.xor_self, Nat.xor_zero]
  omega
theorem xor_inj {r s m : Int} (h0 : 0 ≤ r) (h1 : r < 4294967296) (k0 : 0 ≤ s) (k1 : s < 4294967296) (m0 : 0 ≤ m) (m1 : m < 4294967296) (h : bits .xor .u32 r m = bits .xor .u32 s m) : r = s := by
  rw [← xor_back h0 h1 m0 m1, h, xor_back k0 k1 m0 m1]
theorem crcL_append (r : Int) (a b : List UInt8) : crcL r (a ++ b) = crcL (crcL r a) b := by simp [crcL, List.foldl_append]
theorem crcOf_more (t u : List UInt8) : crcOf (crcOf 0 t) u = crcOf 0 (t ++ u) := by
  unfold crcOf
  have hb := bits_u32_bd .xor 0 4294967295
  have hl := crcL_bd hb.1 hb.2 t
  rw [xor_back hl.1 hl.2 (by omega) (by omega), crcL_append]

theorem top_xor {x : Nat} (h : x < 2147483648) : 2147483648 ≤ x ^^^ 3988292384 := by
  have hb : (x ^^^ 3988292384).testBit 31 = true := by
    rw [Nat.testBit_xor, Nat.testBit_lt_two_pow (by simpa using h)]
    decide
  exact Nat.ge_two_pow_of_testBit hb
theorem crcStep_inj {r s : Int} (h0 : 0 ≤ r) (h1 : r < 4294967296) (k0 : 0 ≤ s) (k1 : s < 4294967296) (h : crcStep r = crcStep s) : r = s := by
  have low : ∀ x : Int, 0 ≤ x → x < 4294967296 → bits .and .u32 x 1 = x % 2 := fun x a b => by
    rw [u32_and x 1 a b (by omega) (by omega), show (1 : Int).toNat = 1 from rfl, nat_mask1]
    omega
  have big : ∀ x : Int, 0 ≤ x → x < 4294967296 → 2147483648 ≤ bits .xor .u32 (x / 2) 3988292384 := fun x a b => by
    rw [u32_xor (x / 2) 3988292384 (by omega) (by omega) (by omega) (by omega), show (3988292384 : Int).toNat = 3988292384 from rfl]
    have := top_xor (x := (x / 2).toNat) (by omega)
    omega
  unfold crcStep at h
  rw [low r h0 h1, low s k0 k1] at h
  have br := big r h0 h1
  have bs := big s k0 k1
  by_cases pr : r % 2 = 1
  · by_cases ps : s % 2 = 1
    · rw [if_pos (by simp [pr]), if_pos (by simp [ps])] at h
      have := xor_inj (r := r / 2) (s := s / 2) (by omega) (by omega) (by omega) (by omega) (by omega) (by omega) h
      omega
    · rw [if_pos (by simp [pr]), if_neg (by simp [ps])] at h
      omega
  · by_cases ps : s % 2 = 1
    · rw [if_neg (by simp [pr]), if_pos (by simp [ps])] at h
      omega
    · rw [if_neg (by simp [pr]), if_neg (by simp [ps])] at h
      omega
theorem crcSteps_inj (k : Nat) {r s : Int} (h0 : 0 ≤ r) (h1 : r < 4294967296) (k0 : 0 ≤ s) (k1 : s < 4294967296) (h : crcSteps k r = crcSteps k s) : r = s := by
  induction k with
  | zero => exact h
  | succ k ih =>
    have a := crcSteps_bd k h0 h1
    have b := crcSteps_bd k k0 k1
    exact ih (crcStep_inj a.1 a.2 b.1 b.2 h)
theorem byte_bd (c : UInt8) : 0 ≤ (c.toNat : Int) ∧ (c.toNat : Int) < 4294967296 := by have := c.toNat_lt; omega
theorem crcL_inj {r s : Int} (l : List UInt8) (h0 : 0 ≤ r) (h1 : r < 4294967296) (k0 : 0 ≤ s) (k1 : s < 4294967296) (h : crcL r l = crcL s l) : r = s := by
  induction l generalizing r s with
  | nil => exact h
  | cons c l ih =>
    have a := bits_u32_bd .xor r (c.toNat : Int)
    have b := bits_u32_bd .xor s (c.toNat : Int)
    have a8 := crcSteps_bd 8 a.1 a.2
    have b8 := crcSteps_bd 8 b.1 b.2
    have e := ih a8.1 a8.2 b8.1 b8.2 h
    exact xor_inj h0 h1 k0 k1 (byte_bd c).1 (byte_bd c).2 (crcSteps_inj 8 a.1 a.2 b.1 b.2 e)
/-- One byte turned turns the CRC. -/
theorem crcOf_turned (a b : List UInt8) (c d : UInt8) (h : c ≠ d) : crcOf 0 (a ++ c :: b) ≠ crcOf 0 (a ++ d :: b) := by
  intro e
  unfold crcOf at e
  have hb := bits_u32_bd .xor 0 4294967295
  have l1 := crcL_bd hb.1 hb.2 (a ++ c :: b)
  have l2 := crcL_bd hb.1 hb.2 (a ++ d :: b)
  have e1 := xor_inj l1.1 l1.2 l2.1 l2.2 (by omega) (by omega) e
  rw [crcL_append, crcL_append] at e1
  have la := crcL_bd hb.1 hb.2 a
  generalize crcL (bits .xor .u32 0 4294967295) a = r at *
  have x1 := bits_u32_bd .xor r (c.toNat : Int)
  have x2 := bits_u32_bd .xor r (d.toNat : Int)
  have y1 := crcSteps_bd 8 x1.1 x1.2
  have y2 := crcSteps_bd 8 x2.1 x2.2
  have e2 : crcSteps 8 (bits .xor .u32 r (c.toNat : Int)) = crcSteps 8 (bits .xor .u32 r (d.toNat : Int)) := crcL_inj b y1.1 y1.2 y2.1 y2.2 e1
  have e3 := crcSteps_inj 8 x1.1 x1.2 x2.1 x2.2 e2
  rw [xor_u32_comm r, xor_u32_comm r (d.toNat : Int)] at e3
  have e4 := xor_inj (byte_bd c).1 (byte_bd c).2 (byte_bd d).1 (byte_bd d).2 la.1 la.2 e3
  exact h (UInt8.toNat_inj.1 (by omega))
theorem fourL_inj {m n : Int} (h0 : 0 ≤ m) (h1 : m < 4294967296) (k0 : 0 ≤ n) (k1 : n < 4294967296) (h : fourL m = fourL n) : m = n := by
  unfold fourL at h
  simp only [List.cons.injEq, and_true] at h
  obtain ⟨a, b, c, d⟩ := h
  have a' := congrArg UInt8.toNat a
  have b' := congrArg UInt8.toNat b
  have c' := congrArg UInt8.toNat c
  have d' := congrArg UInt8.toNat d
  simp only [UInt8.toNat_ofNat'] at a' b' c' d'
  omega
end Go.Proofs.Ytbaodgjkplhmaaa
