/-
  How many bits are 1: math/bits' way with masks, of a number below 2^20; the lowest bit that is 1. Plain mathematics.
-/
import Derived.Test.YtchlopmmhcobdafDoorRangePure
namespace Go.Proofs.YtchlopmmhcobdafDoor
set_option linter.unusedVariables false

theorem and_two (a b c d : Nat) (hb : b < 2) (hd : d < 2) : (2 * a + b) &&& (2 * c + d) = 2 * (a &&& c) + (b &&& d) := by
  have hbd : b &&& d < 2 := Nat.and_lt_two_pow (n := 1) b (by omega)
  apply Nat.eq_of_testBit_eq
  intro i
  cases i with
  | zero =>
    rw [Nat.testBit_and]
    simp only [Nat.testBit_zero]
    have e1 : (2 * a + b) % 2 = b := by omega
    have e2 : (2 * c + d) % 2 = d := by omega
    have e3 : (2 * (a &&& c) + (b &&& d)) % 2 = b &&& d := by omega
    rw [e1, e2, e3]
    have : b = 0 ∨ b = 1 := by omega
    have : d = 0 ∨ d = 1 := by omega
    rcases ‹b = 0 ∨ b = 1› with rfl | rfl <;> rcases ‹d = 0 ∨ d = 1› with rfl | rfl <;> rfl
  | succ i =>
    rw [Nat.testBit_and, Nat.testBit_succ, Nat.testBit_succ, Nat.testBit_succ, show (2 * a + b) / 2 = a by omega, show (2 * c + d) / 2 = c by omega, show (2 * (a &&& c) + (b &&& d)) / 2 = a &&& c by omega, Nat.testBit_and]
theorem and_four (x M : Nat) : x &&& (4 * M + 1) = x % 2 + 4 * (x / 4 &&& M) := by
  have h1 := and_two (x / 2) (x % 2) (2 * M) 1 (by omega) (by omega)
  have h2 := and_two (x / 2 / 2) (x / 2 % 2) M 0 (by omega) (by omega)
  rw [show 2 * (x / 2) + x % 2 = x by omega, show 2 * (2 * M) + 1 = 4 * M + 1 by omega] at h1
  rw [show 2 * (x / 2 / 2) + x / 2 % 2 = x / 2 by omega, show 2 * M + 0 = 2 * M by omega, show x / 2 / 2 = x / 4 by omega] at h2
  rw [h1, h2, Nat.and_zero, show x % 2 &&& 1 = x % 2 from by rw [Nat.and_one_is_mod]; omega]
  omega
theorem and_sixteen (x M : Nat) : x &&& (16 * M + 3) = x % 4 + 16 * (x / 16 &&& M) := by
  have h1 := and_two (x / 2) (x % 2) (8 * M + 1) 1 (by omega) (by omega)
  have h2 := and_four (x / 2) (2 * M)
  have h3 := and_two (x / 2 / 4 / 2) (x / 2 / 4 % 2) M 0 (by omega) (by omega)
  rw [show 2 * (x / 2) + x % 2 = x by omega, show 2 * (8 * M + 1) + 1 = 16 * M + 3 by omega] at h1
  rw [show 4 * (2 * M) + 1 = 8 * M + 1 by omega] at h2
  rw [show 2 * (x / 2 / 4 / 2) + x / 2 / 4 % 2 = x / 2 / 4 by omega, show 2 * M + 0 = 2 * M by omega, show x / 2 / 4 / 2 = x / 16 by omega] at h3
  rw [h1, h2, h3, Nat.and_zero, show x % 2 &&& 1 = x % 2 from by rw [Nat.and_one_is_mod]; omega]
  omega
theorem and_byte (x M : Nat) : x &&& (256 * M + 15) = x % 16 + 256 * (x / 256 &&& M) := by
  have h1 := and_sixteen x (16 * M)
  have h2 := and_sixteen (x / 4) (4 * M)
  have e : x &&& (256 * M + 15) = (x % 4) + 4 * ((x / 4) &&& (64 * M + 3)) := by
    have g1 := and_two (x / 2) (x % 2) (128 * M + 7) 1 (by omega) (by omega)
    have g2 := and_two (x / 2 / 2) (x / 2 % 2) (64 * M + 3) 1 (by omega) (by omega)
    rw [show 2 * (x / 2) + x % 2 = x by omega, show 2 * (128 * M + 7) + 1 = 256 * M + 15 by omega] at g1
    rw [show 2 * (x / 2 / 2) + x / 2 % 2 = x / 2 by omega, show 2 * (64 * M + 3) + 1 = 128 * M + 7 by omega, show x / 2 / 2 = x / 4 by omega] at g2
    rw [g1, g2, show x % 2 &&& 1 = x % 2 from by rw [Nat.and_one_is_mod]; omega, show x / 2 % 2 &&& 1 = x / 2 % 2 from by rw [Nat.and_one_is_mod]; omega]
    omega
  rw [show 16 * (4 * M) + 3 = 64 * M + 3 by omega] at h2
  have g3 := and_two (x / 4 / 16 / 2) (x / 4 / 16 % 2) (2 * M) 0 (by omega) (by omega)
  have g4 := and_two (x / 4 / 16 / 2 / 2) (x / 4 / 16 / 2 % 2) M 0 (by omega) (by omega)
  rw [show 2 * (x / 4 / 16 / 2) + x / 4 / 16 % 2 = x / 4 / 16 by omega, show 2 * (2 * M) + 0 = 4 * M by omega] at g3
  rw [show 2 * (x / 4 / 16 / 2 / 2) + x / 4 / 16 / 2 % 2 = x / 4 / 16 / 2 by omega, show 2 * M + 0 = 2 * M by omega, show x / 4 / 16 / 2 / 2 = x / 256 by omega] at g4
  rw [e, h2, g3, g4, Nat.and_zero, Nat.and_zero]
  omega

/-- The mask 0101.. on ten digits of two bits. -/
theorem mask1 (x : Nat) (h : x < 1048576) : x &&& 6148914691236517205 = x % 2 + 4 * (x / 4 % 2) + 16 * (x / 16 % 2) + 64 * (x / 64 % 2) + 256 * (x / 256 % 2) + 1024 * (x / 1024 % 2) + 4096 * (x / 4096 % 2) + 16384 * (x / 16384 % 2) + 65536 * (x / 65536 % 2) + 262144 * (x / 262144 % 2) := by
  have s0 := and_four x 1537228672809129301
  have s1 := and_four (x / 4) 384307168202282325
  have s2 := and_four (x / 16) 96076792050570581
  have s3 := and_four (x / 64) 24019198012642645
  have s4 := and_four (x / 256) 6004799503160661
  have s5 := and_four (x / 1024) 1501199875790165
  have s6 := and_four (x / 4096) 375299968947541
  have s7 := and_four (x / 16384) 93824992236885
  have s8 := and_four (x / 65536) 23456248059221
  have s9 := and_four (x / 262144) 5864062014805
  have hz : x / 262144 / 4 = 0 := by omega
  rw [hz, Nat.zero_and] at s9
  simp only [Nat.div_div_eq_div_mul] at s0 s1 s2 s3 s4 s5 s6 s7 s8 s9
  simp only [Nat.reduceMul, Nat.reduceAdd] at s0 s1 s2 s3 s4 s5 s6 s7 s8 s9
  rw [s0, s1, s2, s3, s4, s5, s6, s7, s8, s9]
  clear s0 s1 s2 s3 s4 s5 s6 s7 s8 s9 hz h
  generalize x % 2 = y0, x / 4 % 2 = y1, x / 16 % 2 = y2, x / 64 % 2 = y3, x / 256 % 2 = y4, x / 1024 % 2 = y5, x / 4096 % 2 = y6, x / 16384 % 2 = y7, x / 65536 % 2 = y8, x / 262144 % 2 = y9
  omega
/-- The mask 0011.. on five digits of four bits. -/
theorem mask2 (x : Nat) (h : x < 1048576) : x &&& 3689348814741910323 = x % 4 + 16 * (x / 16 % 4) + 256 * (x / 256 % 4) + 4096 * (x / 4096 % 4) + 65536 * (x / 65536 % 4) := by
  have s0 := and_sixteen x 230584300921369395
  have s1 := and_sixteen (x / 16) 14411518807585587
  have s2 := and_sixteen (x / 256) 900719925474099
  have s3 := and_sixteen (x / 4096) 56294995342131
  have s4 := and_sixteen (x / 65536) 3518437208883
  have hz : x / 65536 / 16 = 0 := by omega
  rw [hz, Nat.zero_and] at s4
  simp only [Nat.div_div_eq_div_mul] at s0 s1 s2 s3 s4
  simp only [Nat.reduceMul, Nat.reduceAdd] at s0 s1 s2 s3 s4
  rw [s0, s1, s2, s3, s4]
  clear s0 s1 s2 s3 s4 hz h
  generalize x % 4 = y0, x / 16 % 4 = y1, x / 256 % 4 = y2, x / 4096 % 4 = y3, x / 65536 % 4 = y4
  omega
/-- The mask 00001111.. on three bytes. -/
theorem mask4 (x : Nat) (h : x < 16777216) : x &&& 1085102592571150095 = x % 16 + 256 * (x / 256 % 16) + 65536 * (x / 65536 % 16) := by
  have s0 := and_byte x 4238682002231055
  have s1 := and_byte (x / 256) 16557351571215
  have s2 := and_byte (x / 65536) 64677154575
  have hz : x / 65536 / 256 = 0 := by omega
  rw [hz, Nat.zero_and] at s2
  simp only [Nat.div_div_eq_div_mul] at s0 s1 s2
  simp only [Nat.reduceMul, Nat.reduceAdd] at s0 s1 s2
  rw [s0, s1, s2]
  clear s0 s1 s2 hz h
  generalize x % 16 = y0, x / 256 % 16 = y1, x / 65536 % 16 = y2
  omega
/-- The bits of a number below 2^20. -/
theorem ones_bits (x : Nat) (h : x < 1048576) : onesN x = x % 2 + x / 2 % 2 + x / 4 % 2 + x / 8 % 2 + x / 16 % 2 + x / 32 % 2 + x / 64 % 2 + x / 128 % 2 + x / 256 % 2 + x / 512 % 2 + x / 1024 % 2 + x / 2048 % 2 + x / 4096 % 2 + x / 8192 % 2 + x / 16384 % 2 + x / 32768 % 2 + x / 65536 % 2 + x / 131072 % 2 + x / 262144 % 2 + x / 524288 % 2 := by
  have s0 := onesN_step x
  have s1 := onesN_step (x / 2)
  have s2 := onesN_step (x / 4)
  have s3 := onesN_step (x / 8)
  have s4 := onesN_step (x / 16)
  have s5 := onesN_step (x / 32)
  have s6 := onesN_step (x / 64)
  have s7 := onesN_step (x / 128)
  have s8 := onesN_step (x / 256)
  have s9 := onesN_step (x / 512)
  have t0 := onesN_step (x / 1024)
  have t1 := onesN_step (x / 2048)
  have t2 := onesN_step (x / 4096)
  have t3 := onesN_step (x / 8192)
  have t4 := onesN_step (x / 16384)
  have t5 := onesN_step (x / 32768)
  have t6 := onesN_step (x / 65536)
  have t7 := onesN_step (x / 131072)
  have t8 := onesN_step (x / 262144)
  have t9 := onesN_step (x / 524288)
  have hz : x / 524288 / 2 = 0 := by omega
  rw [hz, onesN_zero] at t9
  simp only [Nat.div_div_eq_div_mul] at s0 s1 s2 s3 s4 s5 s6 s7 s8 s9 t0 t1 t2 t3 t4 t5 t6 t7 t8 t9
  simp only [Nat.reduceMul] at s0 s1 s2 s3 s4 s5 s6 s7 s8 s9 t0 t1 t2 t3 t4 t5 t6 t7 t8 t9
  rw [s0, s1, s2, s3, s4, s5, s6, s7, s8, s9, t0, t1, t2, t3, t4, t5, t6, t7, t8, t9]
  simp only [Nat.add_assoc, Nat.add_zero]
theorem two_le (a b : Nat) : a % 2 + b % 2 ≤ 2 := by omega
theorem pop1 (x : Nat) (h : x < 1048576) : ∃ c0 c1 c2 c3 c4 c5 c6 c7 c8 c9 : Nat, c0 ≤ 2 ∧ c1 ≤ 2 ∧ c2 ≤ 2 ∧ c3 ≤ 2 ∧ c4 ≤ 2 ∧ c5 ≤ 2 ∧ c6 ≤ 2 ∧ c7 ≤ 2 ∧ c8 ≤ 2 ∧ c9 ≤ 2 ∧ (x / 2 &&& 6148914691236517205) + (x &&& 6148914691236517205) = c0 + 4 * c1 + 16 * c2 + 64 * c3 + 256 * c4 + 1024 * c5 + 4096 * c6 + 16384 * c7 + 65536 * c8 + 262144 * c9 ∧ onesN x = c0 + c1 + c2 + c3 + c4 + c5 + c6 + c7 + c8 + c9 := by
  have m1 := mask1 x h
  have m2 := mask1 (x / 2) (by omega)
  simp only [Nat.div_div_eq_div_mul, Nat.reduceMul] at m2
  have o := ones_bits x h
  refine ⟨x % 2 + x / 2 % 2, x / 4 % 2 + x / 8 % 2, x / 16 % 2 + x / 32 % 2, x / 64 % 2 + x / 128 % 2, x / 256 % 2 + x / 512 % 2, x / 1024 % 2 + x / 2048 % 2, x / 4096 % 2 + x / 8192 % 2, x / 16384 % 2 + x / 32768 % 2, x / 65536 % 2 + x / 131072 % 2, x / 262144 % 2 + x / 524288 % 2, two_le _ _, two_le _ _, two_le _ _, two_le _ _, two_le _ _, two_le _ _, two_le _ _, two_le _ _, two_le _ _, two_le _ _, ?_, ?_⟩
  · rw [m1, m2]
    clear m1 m2 o h
    generalize x % 2 = y0, x / 2 % 2 = y1, x / 4 % 2 = y2, x / 8 % 2 = y3, x / 16 % 2 = y4, x / 32 % 2 = y5, x / 64 % 2 = y6, x / 128 % 2 = y7, x / 256 % 2 = y8, x / 512 % 2 = y9, x / 1024 % 2 = y10, x / 2048 % 2 = y11, x / 4096 % 2 = y12, x / 8192 % 2 = y13, x / 16384 % 2 = y14, x / 32768 % 2 = y15, x / 65536 % 2 = y16, x / 131072 % 2 = y17, x / 262144 % 2 = y18, x / 524288 % 2 = y19
    omega
  · rw [o]
    clear m1 m2 o h
    generalize x % 2 = y0, x / 2 % 2 = y1, x / 4 % 2 = y2, x / 8 % 2 = y3, x / 16 % 2 = y4, x / 32 % 2 = y5, x / 64 % 2 = y6, x / 128 % 2 = y7, x / 256 % 2 = y8, x / 512 % 2 = y9, x / 1024 % 2 = y10, x / 2048 % 2 = y11, x / 4096 % 2 = y12, x / 8192 % 2 = y13, x / 16384 % 2 = y14, x / 32768 % 2 = y15, x / 65536 % 2 = y16, x / 131072 % 2 = y17, x / 262144 % 2 = y18, x / 524288 % 2 = y19
    omega
theorem div4 (n r q : Nat) (hr : r < 4) (h : n = r + 4 * q) : n / 4 = q ∧ n % 4 = r := by omega
theorem pop2 (a c0 c1 c2 c3 c4 c5 c6 c7 c8 c9 : Nat) (q0 : c0 ≤ 2) (q1 : c1 ≤ 2) (q2 : c2 ≤ 2) (q3 : c3 ≤ 2) (q4 : c4 ≤ 2) (q5 : c5 ≤ 2) (q6 : c6 ≤ 2) (q7 : c7 ≤ 2) (q8 : c8 ≤ 2) (q9 : c9 ≤ 2)
    (ha : a = c0 + 4 * c1 + 16 * c2 + 64 * c3 + 256 * c4 + 1024 * c5 + 4096 * c6 + 16384 * c7 + 65536 * c8 + 262144 * c9) :
    a < 1048576 ∧ (a / 4 &&& 3689348814741910323) + (a &&& 3689348814741910323) = (c0 + c1) + 16 * (c2 + c3) + 256 * (c4 + c5) + 4096 * (c6 + c7) + 65536 * (c8 + c9) := by
  have hal : a < 1048576 := by omega
  refine ⟨hal, ?_⟩
  have s0 : a = c0 + 4 * (c1 + 4 * c2 + 16 * c3 + 64 * c4 + 256 * c5 + 1024 * c6 + 4096 * c7 + 16384 * c8 + 65536 * c9) := by rw [ha]; omega
  have s1 : a / 4 = c1 + 4 * (c2 + 4 * c3 + 16 * c4 + 64 * c5 + 256 * c6 + 1024 * c7 + 4096 * c8 + 16384 * c9) := by rw [show a / 4 = a / 4 by omega, (div4 _ c0 (c1 + 4 * c2 + 16 * c3 + 64 * c4 + 256 * c5 + 1024 * c6 + 4096 * c7 + 16384 * c8 + 65536 * c9) (by omega) s0).1]; omega
  have s2 : a / 16 = c2 + 4 * (c3 + 4 * c4 + 16 * c5 + 64 * c6 + 256 * c7 + 1024 * c8 + 4096 * c9) := by rw [show a / 16 = a / 4 / 4 by omega, (div4 _ c1 (c2 + 4 * c3 + 16 * c4 + 64 * c5 + 256 * c6 + 1024 * c7 + 4096 * c8 + 16384 * c9) (by omega) s1).1]; omega
  have s3 : a / 64 = c3 + 4 * (c4 + 4 * c5 + 16 * c6 + 64 * c7 + 256 * c8 + 1024 * c9) := by rw [show a / 64 = a / 16 / 4 by omega, (div4 _ c2 (c3 + 4 * c4 + 16 * c5 + 64 * c6 + 256 * c7 + 1024 * c8 + 4096 * c9) (by omega) s2).1]; omega
  have s4 : a / 256 = c4 + 4 * (c5 + 4 * c6 + 16 * c7 + 64 * c8 + 256 * c9) := by rw [show a / 256 = a / 64 / 4 by omega, (div4 _ c3 (c4 + 4 * c5 + 16 * c6 + 64 * c7 + 256 * c8 + 1024 * c9) (by omega) s3).1]; omega
  have s5 : a / 1024 = c5 + 4 * (c6 + 4 * c7 + 16 * c8 + 64 * c9) := by rw [show a / 1024 = a / 256 / 4 by omega, (div4 _ c4 (c5 + 4 * c6 + 16 * c7 + 64 * c8 + 256 * c9) (by omega) s4).1]; omega
  have s6 : a / 4096 = c6 + 4 * (c7 + 4 * c8 + 16 * c9) := by rw [show a / 4096 = a / 1024 / 4 by omega, (div4 _ c5 (c6 + 4 * c7 + 16 * c8 + 64 * c9) (by omega) s5).1]; omega
  have s7 : a / 16384 = c7 + 4 * (c8 + 4 * c9) := by rw [show a / 16384 = a / 4096 / 4 by omega, (div4 _ c6 (c7 + 4 * c8 + 16 * c9) (by omega) s6).1]; omega
  have s8 : a / 65536 = c8 + 4 * (c9) := by rw [show a / 65536 = a / 16384 / 4 by omega, (div4 _ c7 (c8 + 4 * c9) (by omega) s7).1]
  have s9 : a / 262144 = c9 + 4 * (0) := by rw [show a / 262144 = a / 65536 / 4 by omega, (div4 _ c8 (c9) (by omega) s8).1]; omega
  have r0 : a % 4 = c0 := by exact (div4 (a) c0 (c1 + 4 * c2 + 16 * c3 + 64 * c4 + 256 * c5 + 1024 * c6 + 4096 * c7 + 16384 * c8 + 65536 * c9) (by omega) s0).2
  have r1 : a / 4 % 4 = c1 := by exact (div4 (a / 4) c1 (c2 + 4 * c3 + 16 * c4 + 64 * c5 + 256 * c6 + 1024 * c7 + 4096 * c8 + 16384 * c9) (by omega) s1).2
  have r2 : a / 16 % 4 = c2 := by exact (div4 (a / 16) c2 (c3 + 4 * c4 + 16 * c5 + 64 * c6 + 256 * c7 + 1024 * c8 + 4096 * c9) (by omega) s2).2
  have r3 : a / 4 / 16 % 4 = c3 := by rw [Nat.div_div_eq_div_mul]; exact (div4 (a / 64) c3 (c4 + 4 * c5 + 16 * c6 + 64 * c7 + 256 * c8 + 1024 * c9) (by omega) s3).2
  have r4 : a / 256 % 4 = c4 := by exact (div4 (a / 256) c4 (c5 + 4 * c6 + 16 * c7 + 64 * c8 + 256 * c9) (by omega) s4).2
  have r5 : a / 4 / 256 % 4 = c5 := by rw [Nat.div_div_eq_div_mul]; exact (div4 (a / 1024) c5 (c6 + 4 * c7 + 16 * c8 + 64 * c9) (by omega) s5).2
  have r6 : a / 4096 % 4 = c6 := by exact (div4 (a / 4096) c6 (c7 + 4 * c8 + 16 * c9) (by omega) s6).2
  have r7 : a / 4 / 4096 % 4 = c7 := by rw [Nat.div_div_eq_div_mul]; exact (div4 (a / 16384) c7 (c8 + 4 * c9) (by omega) s7).2
  have r8 : a / 65536 % 4 = c8 := by exact (div4 (a / 65536) c8 (c9) (by omega) s8).2
  have r9 : a / 4 / 65536 % 4 = c9 := by rw [Nat.div_div_eq_div_mul]; exact (div4 (a / 262144) c9 (0) (by omega) s9).2
  rw [mask2 a hal, mask2 (a / 4) (by omega), r0, r1, r2, r3, r4, r5, r6, r7, r8, r9]
  clear r0 r1 r2 r3 r4 r5 r6 r7 r8 r9 s0 s1 s2 s3 s4 s5 s6 s7 s8 s9 hal ha
  omega
theorem div16 (n r q : Nat) (hr : r < 16) (h : n = r + 16 * q) : n / 16 = q ∧ n % 16 = r := by omega
theorem pop3 (b e0 e1 e2 e3 e4 : Nat) (q0 : e0 ≤ 4) (q1 : e1 ≤ 4) (q2 : e2 ≤ 4) (q3 : e3 ≤ 4) (q4 : e4 ≤ 4) (hb : b = e0 + 16 * e1 + 256 * e2 + 4096 * e3 + 65536 * e4) :
    b < 1048576 ∧ (b / 16 + b) &&& 1085102592571150095 = (e0 + e1) + 256 * (e2 + e3) + 65536 * e4 := by
  have hbl : b < 1048576 := by omega
  refine ⟨hbl, ?_⟩
  have hq : b / 16 = e1 + 16 * e2 + 256 * e3 + 4096 * e4 := by omega
  obtain ⟨s, hs⟩ : ∃ s, s = b / 16 + b := ⟨_, rfl⟩
  have hs' : s = (e0 + e1) + 16 * ((e1 + e2) + 16 * ((e2 + e3) + 16 * ((e3 + e4) + 16 * e4))) := by omega
  rw [← hs]
  clear hs hq hb
  obtain ⟨g0, g1⟩ := div16 s _ _ (by omega) hs'
  obtain ⟨g2, g3⟩ := div16 _ _ _ (by omega) g0
  obtain ⟨g4, g5⟩ := div16 _ _ _ (by omega) g2
  obtain ⟨g6, g7⟩ := div16 _ _ _ (by omega) g4
  have u1 : s / 256 % 16 = e2 + e3 := by rw [show s / 256 = s / 16 / 16 by omega]; exact g5
  have u2 : s / 65536 % 16 = e4 := by rw [show s / 65536 = s / 16 / 16 / 16 / 16 by omega, g6]; omega
  rw [mask4 s (by omega), g1, u1, u2]
theorem four_le {a b c d : Nat} (h1 : a ≤ 2) (h2 : b ≤ 2) (h3 : c ≤ 2) (h4 : d ≤ 2) : a + b + (c + d) ≤ 8 := by omega
theorem pop4 (c f0 f1 f2 : Nat) (g0 : f0 ≤ 8) (g1 : f1 ≤ 8) (g2 : f2 ≤ 4) (hc : c = f0 + 256 * f1 + 65536 * f2) : c < 1048576 ∧ (c + c / 256 + (c + c / 256) / 65536) % 128 = f0 + f1 + f2 ∧ f0 + f1 + f2 ≤ 20 := by
  refine ⟨by omega, ?_, by omega⟩
  have k1 : c / 256 = f1 + 256 * f2 := by omega
  rw [k1]
  have k2 : c + (f1 + 256 * f2) = (f0 + f1 + 256 * (f1 + f2)) + 65536 * f2 := by omega
  rw [k2]
  clear k1 k2 hc
  have k3 : ((f0 + f1 + 256 * (f1 + f2)) + 65536 * f2) / 65536 = f2 := by omega
  rw [k3]
  clear k3
  have k4 : (f0 + f1 + 256 * (f1 + f2)) + 65536 * f2 + f2 = (f0 + f1 + f2) + 128 * (2 * (f1 + f2) + 512 * f2) := by omega
  rw [k4, Nat.add_mul_mod_self_left]
  omega
/-- The numbers of two bits, put together. -/
theorem pop_of (x a b c : Nat) (h : x < 1048576) (ha : a = (x / 2 &&& 6148914691236517205) + (x &&& 6148914691236517205)) (hb : b = (a / 4 &&& 3689348814741910323) + (a &&& 3689348814741910323)) (hc : c = (b / 16 + b) &&& 1085102592571150095) :
    a < 1048576 ∧ b < 1048576 ∧ c < 1048576 ∧ (c + c / 256 + (c + c / 256) / 65536) % 128 = onesN x ∧ onesN x ≤ 20 := by
  obtain ⟨c0, c1, c2, c3, c4, c5, c6, c7, c8, c9, q0, q1, q2, q3, q4, q5, q6, q7, q8, q9, hs, ho⟩ := pop1 x h
  obtain ⟨hal, h2⟩ := pop2 a c0 c1 c2 c3 c4 c5 c6 c7 c8 c9 q0 q1 q2 q3 q4 q5 q6 q7 q8 q9 (ha.trans hs)
  obtain ⟨hbl, h3⟩ := pop3 b (c0 + c1) (c2 + c3) (c4 + c5) (c6 + c7) (c8 + c9) (Nat.add_le_add q0 q1) (Nat.add_le_add q2 q3) (Nat.add_le_add q4 q5) (Nat.add_le_add q6 q7) (Nat.add_le_add q8 q9) (hb.trans h2)
  rw [h3] at hc
  clear ha hb hs h2 h3
  have ho' : onesN x = (c0 + c1 + (c2 + c3)) + (c4 + c5 + (c6 + c7)) + (c8 + c9) := by rw [ho]; simp only [Nat.add_assoc]
  have hq := pop4 c (c0 + c1 + (c2 + c3)) (c4 + c5 + (c6 + c7)) (c8 + c9) (four_le q0 q1 q2 q3) (four_le q4 q5 q6 q7) (Nat.add_le_add q8 q9) hc
  rw [ho']
  exact ⟨hal, hbl, hq.1, hq.2.1, hq.2.2⟩
end Go.Proofs.YtchlopmmhcobdafDoor
