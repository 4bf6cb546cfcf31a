/-
  The library's count of trailing zeros, of numbers whose bits are all turned. Condition: its table holds what it holds.
-/
import Derived.Test.YtollfcjbcfnfdaaDoorPkShaPure
import Derived.Test.YtollfcjbcfnfdaaDoorPkMem
import Derived.Laws.Bits64b
namespace Go.Proofs.YtollfcjbcfnfdaaDoor
open Go.RowKit Go.Lib
set_option linter.unusedVariables false
set_option linter.unusedSimpArgs false

/-- The library's table lies in its variable. -/
def TabAt (w : World) : Prop := ∀ j, j < 64 → w.cell? ⟨0, j, none⟩ = some (.int .u8 ((tabL.getD j 0 : Nat) : Int))
theorem TabAt.lt {w : World} (h : TabAt w) : 0 < w.heap.size := block_lt_of_cell (h 0 (by omega))
theorem TabAt.below {w w' : World} {B : Nat} (h : TabAt w) (hb : Below B w w') (hB : 0 < B) : TabAt w' := fun j hj => (hb.cell (p := ⟨0, j, none⟩) hB).trans (h j hj)
theorem bits_turned (n : Nat) (hn : n < 18446744073709551616) : bits .xor .u64 IntKind.u64.max (n : Int) = 18446744073709551615 - (n : Int) := by
  have h2 : (BitVec.ofInt 64 (n : Int)).toNat = n := by
    rw [BitVec.ofInt_natCast, BitVec.toNat_ofNat]; exact Nat.mod_eq_of_lt (by omega)
  have e : BitVec.ofInt 64 IntKind.u64.max = BitVec.allOnes 64 := by decide
  show IntKind.u64.wrap ((BitVec.ofInt 64 IntKind.u64.max ^^^ BitVec.ofInt 64 (n : Int)).toNat : Int) = _
  rw [e, BitVec.allOnes_xor, BitVec.toNat_not, h2, IntKind.wrap_u64]
  omega
/-- What the library reckons, step by step. -/
theorem trail_steps (n : Nat) (hn : n ≤ 1000000) : IntKind.u64.wrap (-(18446744073709551615 - (n : Int))) = ((n + 1 : Nat) : Int) ∧
    bits .and .u64 (18446744073709551615 - (n : Int)) ((n + 1 : Nat) : Int) = ((2 ^ trail n : Nat) : Int) ∧
    IntKind.u64.wrap (((2 ^ trail n : Nat) : Int) * 285870213051353865) / 288230376151711744 = ((spotOf (trail n) : Nat) : Int) := by
  refine ⟨?_, ?_, ?_⟩
  · rw [IntKind.wrap_u64]; omega
  · rw [show (18446744073709551615 - (n : Int)) = ((18446744073709551615 - n : Nat) : Int) by omega, bits_and_u64_nat _ _ (by omega) (by omega)]
    have := low_zero 64 n (by show n + 1 < 18446744073709551616; omega)
    rw [show (2 : Nat) ^ 64 - 1 - n = 18446744073709551615 - n by rfl] at this
    rw [this]
  · rw [IntKind.wrap_u64]
    unfold spotOf
    generalize 2 ^ trail n = q
    rw [Int.natCast_ediv, Int.natCast_emod, Int.natCast_mul]
    rfl
set_option maxHeartbeats 1000000 in
set_option maxRecDepth 10000 in
theorem trailing_at (X Y A : Int) (sp t : Nat) (w : World) (hc : w.cell? ⟨0, sp, none⟩ = some (.int .u8 (t : Int)))
    (e1 : IntKind.u64.wrap (-X) = Y) (e2 : bits .and .u64 X Y = A) (e3 : IntKind.u64.wrap (A * 285870213051353865) / 288230376151711744 = (sp : Int))
    (hx0 : (X == 0) = false) (hs : (sp : Int) < 64) (ht : (t : Int) < 20) :
    Calls Tryd.prog 44 #[.int .u64 X] w fun e w' => e = .returned (.int .i64 (t : Nat)) ∧ w' = w := by
  go_enter Tryd.func44, Tryd.ntmps44
  go_wp2
  exact bodyPost_ret (v := .int .i64 (t : Int)) (by simp [results, Tryd.results44, go_sem]) rfl ⟨rfl, rfl⟩
theorem trailing_any (n : Nat) (w : World) (hn : n ≤ 1000000) (hT : TabAt w) :
    Calls Tryd.prog 44 #[.int .u64 (18446744073709551615 - (n : Int))] w fun e w' => e = .returned (.int .i64 (trail n : Nat)) ∧ w' = w := by
  have ht := trail_lt 20 n (by omega)
  obtain ⟨hs, htab⟩ := tab_spot (trail n) (by omega)
  have hc := hT (spotOf (trail n)) hs
  rw [htab] at hc
  obtain ⟨e1, e2, e3⟩ := trail_steps n hn
  exact trailing_at _ _ _ _ _ w hc e1 e2 e3 (by rw [beq_eq_false_iff_ne]; omega) (by omega) (by omega)
end Go.Proofs.YtollfcjbcfnfdaaDoor
