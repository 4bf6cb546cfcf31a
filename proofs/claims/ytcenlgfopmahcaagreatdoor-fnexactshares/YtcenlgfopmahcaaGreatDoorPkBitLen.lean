/-
  How many bits a number has: math/bits.Len64.
-/
import Derived.Test.YtcenlgfopmahcaaGreatDoorChecked
import Derived.Lib.Strings
import Derived.Lib.Small
import Derived.Lib.Walk
import Derived.Lib.BitFns
namespace Go.Proofs.YtcenlgfopmahcaaGreatDoor
open Go.Lib
set_option linter.unusedVariables false

/-- n is how many bits x has. -/
def BitsOf (x n : Nat) : Prop := x < 2 ^ n ∧ (0 < x → 0 < n ∧ 2 ^ (n - 1) ≤ x)
theorem bits_byte : ∀ b : Fin 256, Lib.bitLen b.val ≤ 8 ∧ b.val < 2 ^ Lib.bitLen b.val ∧ (0 < b.val → 0 < Lib.bitLen b.val ∧ 2 ^ (Lib.bitLen b.val - 1) ≤ b.val) := by decide +kernel
theorem bits_small (b : Nat) (h : b < 256) : Lib.bitLen b ≤ 8 ∧ BitsOf b (Lib.bitLen b) := bits_byte ⟨b, h⟩
theorem bits_up (x k n : Nat) (h0 : 0 < x / 2 ^ k) (h : BitsOf (x / 2 ^ k) n) : BitsOf x (n + k) := by
  have hp := Nat.two_pow_pos k
  obtain ⟨h1, h2⟩ := h
  obtain ⟨h3, h4⟩ := h2 h0
  refine ⟨?_, fun _ => ⟨by omega, ?_⟩⟩
  · rw [Nat.pow_add]
    exact (Nat.div_lt_iff_lt_mul hp).1 h1
  · rw [show n + k - 1 = (n - 1) + k by omega, Nat.pow_add]
    exact Nat.le_trans (Nat.mul_le_mul_right _ h4) (Nat.div_mul_le_self x (2 ^ k))
theorem bits_len (x y : Nat) (b : Int) (k : Nat) (hy : y = x / 2 ^ k) (hb : b = (y : Int)) (hlt : y < 256) (h0 : k = 0 ∨ 0 < y) : 0 ≤ len8 b ∧ len8 b ≤ 8 ∧ BitsOf x ((len8 b).toNat + k) := by
  have e := len8_of b (by omega) (by omega)
  have eb : b.toNat = y := by omega
  obtain ⟨h1, h2⟩ := bits_small y hlt
  rw [e, eb]
  refine ⟨by omega, by omega, ?_⟩
  rw [Int.toNat_natCast]
  rcases h0 with rfl | h0
  · rw [Nat.pow_zero, Nat.div_one] at hy
    subst hy
    exact h2
  · subst hy
    exact bits_up x k _ h0 h2

def LenAns (x : Nat) (e : Ending) : Prop := ∃ n : Nat, e = .returned (.int .i64 n) ∧ n ≤ 64 ∧ BitsOf x n
theorem lenAns_of {x : Nat} {v : Int} (y : Nat) (b : Int) (k : Nat) (hy : y = x / 2 ^ k) (hb : b = (y : Int)) (hlt : y < 256) (h0 : k = 0 ∨ 0 < y) (hk : k ≤ 56) (hv : 0 ≤ len8 b → len8 b ≤ 8 → v = (k : Int) + len8 b) : LenAns x (.returned (.int .i64 v)) := by
  obtain ⟨h1, h2, h3⟩ := bits_len x y b k hy hb hlt h0
  refine ⟨(len8 b).toNat + k, ?_, by omega, h3⟩
  have := hv h1 h2
  have : v = (((len8 b).toNat + k : Nat) : Int) := by omega
  rw [this]

set_option maxHeartbeats 4000000 in
set_option maxRecDepth 100000 in
theorem len64_any (x : Int) (w : World) (h0 : 0 ≤ x) (h : x ≤ 18446744073709551615) :
    Calls Tryz.prog 145 #[.int .u64 x] w fun e w' => LenAns x.toNat e ∧ w' = w := by
  go_enter Tryz.func145, Tryz.ntmps145
  go_wp2
  all_goals (go_ret; refine ⟨?_, rfl⟩; first
    | exact lenAns_of (x.toNat / 72057594037927936) (x / 4294967296 / 65536 / 256 % 256) 56 rfl (by omega) (by omega) (Or.inr (by omega)) (by omega) (by intros; omega)
    | exact lenAns_of (x.toNat / 281474976710656) (x / 4294967296 / 65536 % 256) 48 rfl (by omega) (by omega) (Or.inr (by omega)) (by omega) (by intros; omega)
    | exact lenAns_of (x.toNat / 1099511627776) (x / 4294967296 / 256 % 256) 40 rfl (by omega) (by omega) (Or.inr (by omega)) (by omega) (by intros; omega)
    | exact lenAns_of (x.toNat / 4294967296) (x / 4294967296 % 256) 32 rfl (by omega) (by omega) (Or.inr (by omega)) (by omega) (by intros; omega)
    | exact lenAns_of (x.toNat / 16777216) (x / 65536 / 256 % 256) 24 rfl (by omega) (by omega) (Or.inr (by omega)) (by omega) (by intros; omega)
    | exact lenAns_of (x.toNat / 65536) (x / 65536 % 256) 16 rfl (by omega) (by omega) (Or.inr (by omega)) (by omega) (by intros; omega)
    | exact lenAns_of (x.toNat / 256) (x / 256 % 256) 8 rfl (by omega) (by omega) (Or.inr (by omega)) (by omega) (by intros; omega)
    | exact lenAns_of (x.toNat / 1) (x % 256) 0 rfl (by omega) (by omega) (Or.inl rfl) (by omega) (by intros; omega))
end Go.Proofs.YtcenlgfopmahcaaGreatDoor
