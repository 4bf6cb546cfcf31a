/-
  The program's word on right ranges.
-/
import Derived.Test.YtbfejeeebfknjaaDoorPkOnesCount
import Derived.Test.YtbfejeeebfknjaaDoorPkImplNode
import Derived.Test.YtbfejeeebfknjaaDoorPkCells
namespace Go.Proofs.YtbfejeeebfknjaaDoor
open Go.RowKit Go.Lib
set_option linter.unusedVariables false

set_option maxHeartbeats 1000000 in
theorem rangeRight_any (size : Int) (v : Value) (l : List ByteArray) (w : World) (h : Texts w w.heap.size v l) (hl : l.length ≤ 1048576) :
    Calls Tryd.prog 30 #[.agg #[.int .i64 size, v]] w fun e w' => e = .returned (.bool (rangeB size l)) ∧ Below w.heap.size w w' := by
  have EW : Hid (∀ w', Below w.heap.size w w' → Calls Tryd.prog 65 #[v] w' fun e w'' => e = .returned (.bool (wideB l)) ∧ w'' = w') := fun w' hb => areDigests_any v l w' w.heap.size (h.below hb) hl
  obtain ⟨a, cap, rfl, hx, hy⟩ := h
  clear hx hy
  have hal : Below w.heap.size w (w.alloc (.cells #[.int .i64 size, .slice a l.length cap] 26)) := (Below.refl _ _).alloc (Nat.le_refl _) _
  have HAL : Hid (Below w.heap.size w (w.alloc (.cells #[.int .i64 size, .slice a l.length cap] 26))) := hal
  clear hal
  by_cases h1 : size < 0
  · rw [rangeB_out (by omega)]
    generalize l.length = L at *
    go_enter Tryd.func30, Tryd.ntmps30
    go_wp2_with fail
    go_ret
    exact ⟨rfl, HAL.out⟩
  by_cases h3 : 1000000 < size
  · rw [rangeB_out (by omega)]
    generalize l.length = L at *
    go_enter Tryd.func30, Tryd.ntmps30
    go_wp2_with fail
    go_ret
    exact ⟨rfl, HAL.out⟩
  obtain ⟨n, rfl⟩ := Int.eq_ofNat_of_zero_le (show 0 ≤ size by omega)
  have EO : Hid (∀ w', Calls Tryd.prog 64 #[.int .u64 n] w' fun e w'' => e = .returned (.int .i64 (onesN n)) ∧ w'' = w') := fun w' => onesCount_any n w' (by omega)
  by_cases h2 : (l.length : Int) = (onesN n : Int)
  · rw [rangeB_in ⟨by omega, by omega⟩ (by rw [Int.toNat_natCast]; exact h2)]
    have e : onesN n = l.length := by omega
    rw [e] at EO
    clear h2 e
    generalize wideB l = V at *
    generalize l.length = L at *
    go_enter Tryd.func30, Tryd.ntmps30
    go_wp2_with fail
    go_quiet ((first | (go_at_call 64; exact Calls.quiet_of_same (EO.out _)) | (go_at_call 65; exact Calls.quiet_of_same (EW.out _ ⟨HAL.out.os, HAL.out.tape, HAL.out.output, HAL.out.size, HAL.out.block⟩))))
    go_wp2
    go_ret
    exact ⟨rfl, ⟨HAL.out.os, HAL.out.tape, HAL.out.output, HAL.out.size, HAL.out.block⟩⟩
  · rw [rangeB_len (by rw [Int.toNat_natCast]; exact h2)]
    have hB : ((l.length : Int) == (onesN n : Int)) = false := beq_eq_false_iff_ne.2 h2
    generalize l.length = L at *
    generalize onesN n = O at *
    go_enter Tryd.func30, Tryd.ntmps30
    go_wp2_with fail
    go_quiet ((go_at_call 64; exact Calls.quiet_of_same (EO.out _)))
    go_wp2
    go_ret
    exact ⟨rfl, ⟨HAL.out.os, HAL.out.tape, HAL.out.output, HAL.out.size, HAL.out.block⟩⟩
end Go.Proofs.YtbfejeeebfknjaaDoor
