/-
  Numbers and texts come back from their bytes; of bytes that end too early nothing is got. Plain laws.
-/
import Derived.Test.YtpglcbidfghfkaaPkReadText
import Derived.Test.YtpglcbidfghfkaaPkPutText
namespace Go.Proofs.Ytpglcbidfghfkaa
open Go.RowKit Go.Lib
set_option linter.unusedVariables false

theorem p7_nine : p7 9 = 9223372036854775808 := by decide
theorem putN_lt {f : Nat} {x : Int} (h : x < 128) : putN (f + 1) x = [UInt8.ofNat x.toNat] := putN_last _ h
theorem putN_ge {f : Nat} {x : Int} (h : 128 ≤ x) : putN (f + 1) x = UInt8.ofNat (x % 128 + 128).toNat :: putN f (x / 128) := by
  simp only [putN]; rw [if_neg (by omega)]
theorem small_at {j : Nat} {x : Int} (hx : x * p7 j < 18446744073709551616) (h0 : 0 ≤ x) (hj : j = 9) : x < 2 := by
  subst hj; rw [p7_nine] at hx; omega
theorem next_bd {j : Nat} {x : Int} (hx : x * p7 j < 18446744073709551616) (h0 : 0 ≤ x) : x / 128 * p7 (j + 1) < 18446744073709551616 := by
  have hp := p7_pos j
  have e : x / 128 * p7 (j + 1) = (x / 128 * 128) * p7 j := by simp only [p7]; rw [Int.mul_assoc]
  rw [e]
  have := Int.mul_le_mul_of_nonneg_right (show x / 128 * 128 ≤ x by omega) (show 0 ≤ p7 j by omega)
  omega

theorem get_put (s : ByteArray) : ∀ (f j k : Nat) (u x : Int), j + f + 1 = 10 → 0 ≤ x → x * p7 j < 18446744073709551616 → (j = 0 ∨ x ≠ 0) →
    (∀ i, i < (putN (f + 1) x).length → byteAt s (k + i) = (((putN (f + 1) x).getD i 0).toNat : Int)) → k + (putN (f + 1) x).length ≤ s.size →
    getF s (f + 1) k u = (unfoldU (u + x * p7 j), (k : Int) + ((putN (f + 1) x).length : Int), 0) := by
  intro f
  induction f with
  | zero =>
    intro j k u x hj h0 hx hz hb hl
    have hx2 := small_at hx h0 (by omega)
    rw [putN_lt (by omega)] at hb hl ⊢
    have b0 : byteAt s k = x := by
      have := hb 0 (by simp); rw [Nat.add_zero] at this; rw [this]; exact last_byte h0 (by omega)
    simp at hl
    rw [getF_last u (by omega) (by omega) (by omega) (by omega), b0, show 9 - 0 = j by omega]
    rfl
  | succ f ih =>
    intro j k u x hj h0 hx hz hb hl
    by_cases hlt : x < 128
    · rw [putN_lt hlt] at hb hl ⊢
      have b0 : byteAt s k = x := by
        have := hb 0 (by simp); rw [Nat.add_zero] at this; rw [this]; exact last_byte h0 hlt
      simp at hl
      rw [getF_last u (by omega) (by omega) (by omega) (by omega), b0, show 9 - (f + 1) = j by omega]
      rfl
    · have hge : 128 ≤ x := by omega
      rw [putN_ge hge] at hb hl ⊢
      have b0 : byteAt s k = x % 128 + 128 := by
        have := hb 0 (by simp); rw [Nat.add_zero] at this; rw [this]; exact more_byte x
      simp only [List.length_cons] at hl hb ⊢
      rw [getF_more u (by omega) (by omega) (by omega), b0, show 9 - (f + 1) = j by omega]
      rw [ih (j + 1) (k + 1) _ (x / 128) (by omega) (by omega) (next_bd hx h0) (by omega) (fun i hi => by
        have := hb (i + 1) (by omega)
        rw [show k + 1 + i = k + (i + 1) by omega, this]; rfl) (by omega)]
      have e : u + (x % 128 + 128 - 128) * p7 j + x / 128 * p7 (j + 1) = u + x * p7 j := by
        have e1 : p7 (j + 1) = 128 * p7 j := rfl
        have e2 : x * p7 j = (x % 128 + x / 128 * 128) * p7 j := by congr 1; omega
        rw [e1, e2, Int.add_mul, ← Int.mul_assoc]
        simp only [Int.add_sub_cancel]
        omega
      rw [e]
      congr 2
      omega

theorem get_short (s : ByteArray) : ∀ (f j k : Nat) (u x : Int), j + f + 1 = 10 → 0 ≤ x → x * p7 j < 18446744073709551616 →
    (∀ i, i + 1 < (putN (f + 1) x).length → byteAt s (k + i) = (((putN (f + 1) x).getD i 0).toNat : Int)) → s.size + 1 = k + (putN (f + 1) x).length → getF s (f + 1) k u = (0, 0, 4) := by
  intro f
  induction f with
  | zero =>
    intro j k u x hj h0 hx hb hl
    have hx2 := small_at hx h0 (by omega)
    rw [putN_lt (by omega)] at hl
    simp at hl
    exact getF_short u (by omega)
  | succ f ih =>
    intro j k u x hj h0 hx hb hl
    by_cases hlt : x < 128
    · rw [putN_lt hlt] at hl
      simp at hl
      exact getF_short u (by omega)
    · have hge : 128 ≤ x := by omega
      rw [putN_ge hge] at hb hl
      have hlen : 1 ≤ (putN (f + 1) (x / 128)).length := by
        by_cases h : x / 128 < 128
        · rw [putN_lt h]; simp
        · rw [putN_ge (by omega)]; simp
      simp only [List.length_cons] at hl hb
      have b0 : byteAt s k = x % 128 + 128 := by
        have := hb 0 (by omega); rw [Nat.add_zero] at this; rw [this]; exact more_byte x
      rw [getF_more u (by omega) (by omega) (by omega)]
      exact ih (j + 1) (k + 1) _ (x / 128) (by omega) (by omega) (next_bd hx h0) (fun i hi => by
        have := hb (i + 1) (by omega)
        rw [show k + 1 + i = k + (i + 1) by omega, this]; rfl) (by omega)

theorem unfold_fold {n : Int} : unfoldU (foldU n) = n := by
  unfold foldU
  split
  · rw [unfoldU_odd (by omega)]; omega
  · rw [unfoldU_even (by omega)]; omega
theorem fold_bd {n : Int} (h0 : -9223372036854775808 ≤ n) (h1 : n ≤ 9223372036854775807) : 0 ≤ foldU n ∧ foldU n * p7 0 < 18446744073709551616 := by
  have e : p7 0 = 1 := rfl
  rw [e]
  unfold foldU
  split <;> omega
theorem putN_ten (x : Int) : putN 10 x = putN (9 + 1) x := rfl

/-- A number's bytes stand at place k of s: it is got, with the place behind it. -/
theorem num_back {s : ByteArray} {k : Nat} {n : Int} (hs : ¬ 20000 < (s.size : Int)) (h0 : -9223372036854775808 ≤ n) (h1 : n ≤ 9223372036854775807)
    (hb : ∀ i, i < (putNum n).length → byteAt s (k + i) = (((putNum n).getD i 0).toNat : Int)) (hl : k + (putNum n).length ≤ s.size) : numR s k = (n, (k : Int) + ((putNum n).length : Int), 0) := by
  have hf := fold_bd h0 h1
  unfold numR
  rw [if_neg hs, if_neg (by omega), Int.toNat_natCast]
  have := get_put s 9 0 k 0 (foldU n) rfl hf.1 hf.2 (.inl rfl) hb hl
  rw [show (9 + 1 : Nat) = 10 from rfl] at this
  rw [this]
  have e : (0 : Int) + foldU n * p7 0 = foldU n := by have : p7 0 = 1 := rfl; rw [this]; omega
  rw [e, unfold_fold]
  rfl
/-- The last byte of a number lacks. -/
theorem num_lacks {s : ByteArray} {n : Int} (hs : ¬ 20000 < (s.size : Int)) (h0 : -9223372036854775808 ≤ n) (h1 : n ≤ 9223372036854775807)
    (hb : ∀ i, i + 1 < (putNum n).length → byteAt s i = (((putNum n).getD i 0).toNat : Int)) (hl : s.size + 1 = (putNum n).length) : numR s 0 = (0, 0, 4) := by
  have hf := fold_bd h0 h1
  unfold numR
  rw [if_neg hs, if_neg (by omega)]
  exact get_short s 9 0 0 0 (foldU n) rfl hf.1 hf.2 (fun i hi => by rw [Nat.zero_add]; exact hb i hi) (by rw [Nat.zero_add]; exact hl)
theorem putNum_len {n : Int} (h0 : -9223372036854775808 ≤ n) (h1 : n ≤ 9223372036854775807) : 1 ≤ (putNum n).length ∧ (putNum n).length ≤ 10 := by
  have hf := fold_bd h0 h1
  have key : ∀ (f j : Nat) (x : Int), j + f + 1 = 10 → 0 ≤ x → x * p7 j < 18446744073709551616 → 1 ≤ (putN (f + 1) x).length ∧ (putN (f + 1) x).length ≤ f + 1 := by
    intro f
    induction f with
    | zero =>
      intro j x hj h0 hx
      have := small_at hx h0 (by omega)
      rw [putN_lt (by omega)]; simp
    | succ f ih =>
      intro j x hj h0 hx
      by_cases hlt : x < 128
      · rw [putN_lt hlt]; simp
      · rw [putN_ge (by omega)]
        have := ih (j + 1) (x / 128) (by omega) (by omega) (next_bd hx h0)
        simp only [List.length_cons]
        omega
  exact key 9 0 (foldU n) rfl hf.1 hf.2
end Go.Proofs.Ytpglcbidfghfkaa
