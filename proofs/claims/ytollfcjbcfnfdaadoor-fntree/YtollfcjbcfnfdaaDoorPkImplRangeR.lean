/-
  The program's word on right ranges.
-/
import Derived.Test.YtollfcjbcfnfdaaDoorPkOnesCount
import Derived.Test.YtollfcjbcfnfdaaDoorPkImplNode
import Derived.Test.YtollfcjbcfnfdaaDoorPkCells
namespace Go.Proofs.YtollfcjbcfnfdaaDoor
open Go.RowKit Go.Lib
set_option linter.unusedVariables false

set_option maxHeartbeats 1000000 in
theorem rangeRight_any (size : Int) (v : Value) (l : List ByteArray) (w : World) (h : Texts w w.heap.size v l) (hl : l.length ≤ 1048576) :
    Calls Tryd.prog 43 #[.agg #[.int .i64 size, v]] w fun e w' => e = .returned (.bool (rangeB size l)) ∧ Below w.heap.size w w' := by
  have EW : Hid (∀ w', Below w.heap.size w w' → Calls Tryd.prog 46 #[v] w' fun e w'' => e = .returned (.bool (wideB l)) ∧ w'' = w') := fun w' hb => areDigests_any v l w' w.heap.size (h.below hb) hl
  obtain ⟨a, cap, rfl, hx, hy⟩ := h
  clear hx hy
  have hal : Below w.heap.size w (w.alloc (.cells #[.int .i64 size, .slice a l.length cap] 30)) := (Below.refl _ _).alloc (Nat.le_refl _) _
  have HAL : Hid (Below w.heap.size w (w.alloc (.cells #[.int .i64 size, .slice a l.length cap] 30))) := hal
  clear hal
  by_cases h1 : size < 0
  · rw [rangeB_out (by omega)]
    generalize l.length = L at *
    go_enter Tryd.func43, Tryd.ntmps43
    go_wp2_with fail
    go_ret
    exact ⟨rfl, HAL.out⟩
  by_cases h3 : 1000000 < size
  · rw [rangeB_out (by omega)]
    generalize l.length = L at *
    go_enter Tryd.func43, Tryd.ntmps43
    go_wp2_with fail
    go_ret
    exact ⟨rfl, HAL.out⟩
  obtain ⟨n, rfl⟩ := Int.eq_ofNat_of_zero_le (show 0 ≤ size by omega)
  have EO : Hid (∀ w', Calls Tryd.prog 86 #[.int .u64 n] w' fun e w'' => e = .returned (.int .i64 (onesN n)) ∧ w'' = w') := fun w' => onesCount_any n w' (by omega)
  by_cases h2 : (l.length : Int) = (onesN n : Int)
  · rw [rangeB_in ⟨by omega, by omega⟩ (by rw [Int.toNat_natCast]; exact h2)]
    have e : onesN n = l.length := by omega
    rw [e] at EO
    clear h2 e
    generalize wideB l = V at *
    generalize l.length = L at *
    go_enter Tryd.func43, Tryd.ntmps43
    go_wp2_with fail
    go_quiet ((first | (go_at_call 86; exact Calls.quiet_of_same (EO.out _)) | (go_at_call 46; exact Calls.quiet_of_same (EW.out _ ⟨HAL.out.os, HAL.out.tape, HAL.out.output, HAL.out.size, HAL.out.block⟩))))
    go_wp2
    go_ret
    exact ⟨rfl, ⟨HAL.out.os, HAL.out.tape, HAL.out.output, HAL.out.size, HAL.out.block⟩⟩
  · rw [rangeB_len (by rw [Int.toNat_natCast]; exact h2)]
    have hB : ((l.length : Int) == (onesN n : Int)) = false := beq_eq_false_iff_ne.2 h2
    generalize l.length = L at *
    generalize onesN n = O at *
    go_enter Tryd.func43, Tryd.ntmps43
    go_wp2_with fail
    go_quiet ((go_at_call 86; exact Calls.quiet_of_same (EO.out _)))
    go_wp2
    go_ret
    exact ⟨rfl, ⟨HAL.out.os, HAL.out.tape, HAL.out.output, HAL.out.size, HAL.out.block⟩⟩
end Go.Proofs.YtollfcjbcfnfdaaDoor

/-
  The program's RangeRoot.
-/
namespace Go.Proofs.YtollfcjbcfnfdaaDoor
open Go.RowKit Go.Lib
set_option linter.unusedVariables false

set_option maxHeartbeats 1000000 in
theorem implRoot_any (size : Int) (v : Value) (l : List ByteArray) (w : World) (h : Texts w w.heap.size v l) (hl : l.length ≤ 1048576) (hK : Keys w) :
    Calls Tryd.prog 14 #[.agg #[.int .i64 size, v]] w fun e w' => e = .returned (.string (rootV size l)) ∧ Below w.heap.size w w' := by
  obtain ⟨W, hW⟩ : ∃ W, W = w.alloc (.cells #[.int .i64 size, v] 30) := ⟨_, rfl⟩
  have HW : Hid (W.heap[w.heap.size]? = some (.cells #[.int .i64 size, v] 30 (0, 0)) ∧ Below w.heap.size w W ∧ w.heap.size < W.heap.size) := by
    subst hW
    exact ⟨heap_alloc_new w _, (Below.refl _ _).alloc (Nat.le_refl _) _, by simp⟩
  have E1 : Hid (Calls Tryd.prog 43 #[.agg #[.int .i64 size, v]] W fun e w' => e = .returned (.bool (rangeB size l)) ∧ Below W.heap.size W w') := rangeRight_any size v l W ((h.below HW.out.2.1).up HW.out.2.1.size) hl
  have HWE : Hid (W = w.alloc (.cells #[.int .i64 size, v] 30)) := hW
  have HT : Hid (Texts w w.heap.size v l) := h
  have HK : Hid (Keys w) := hK
  obtain ⟨a, cap, rfl, hx, hy⟩ := h
  clear hx hy hW hK
  by_cases hr : rangeB size l = true
  · obtain ⟨hq1, hq2, hwide⟩ := rangeB_yes hr
    clear hq1 hq2
    have ET : Hid (∀ w', Below w.heap.size w w' → Calls Tryd.prog 45 #[.slice a l.length cap] w' fun e w'' => e = .returned (.string (rootD nodeB noneB l)) ∧ Below w'.heap.size w' w'') := fun w' hb => together_any _ l w' ((HT.out.below hb).up hb.size) hl (fun j hj => by have := wideB_at hwide hj; omega) (HK.out.below hb HK.out.lt)
    have EJ : Hid (∀ w', Calls Tryd.prog 49 #[.string (rootD nodeB noneB l), .string ⟨#[]⟩] w' fun e w'' => e = .returned (.string (rootD nodeB noneB l)) ∧ Below w'.heap.size w' w'') := fun w' => by
      have hs := root_size l 1000 (by omega) (fun j hj => by have := wideB_at hwide hj; omega)
      have := joined_any (rootD nodeB noneB l) ⟨#[]⟩ w' (by omega) (by show 0 ≤ 1048576; omega)
      rw [show (rootD nodeB noneB l) ++ (⟨#[]⟩ : ByteArray) = rootD nodeB noneB l from ByteArray.append_empty] at this
      exact this
    rw [rootV_yes hr]
    rw [hr] at E1
    generalize rootD nodeB noneB l = T at *
    clear hr hwide
    generalize l.length = L at *
    go_enter Tryd.func14, Tryd.ntmps14
    go_wp2_with fail
    rw [← HWE.out]
    clear HWE
    refine E1.out.mono ?_
    rintro e w1 ⟨rfl, hb1⟩
    obtain ⟨⟨c0, c1⟩, _, _⟩ := two_cells' (hb1) HW.out.2.2 HW.out.1
    have H1 : Hid (Below w.heap.size w w1) := HW.out.2.1.trans (hb1.mono HW.out.2.1.size)
    clear hb1 E1
    go_wp2_with fail
    refine (ET.out _ H1.out).mono ?_
    rintro e w2 ⟨rfl, hb2⟩
    have H2 : Hid (Below w.heap.size w w2) := H1.out.trans (hb2.mono H1.out.size)
    clear hb2
    go_wp2_with fail
    refine (EJ.out _).mono ?_
    rintro e w3 ⟨rfl, hb3⟩
    have H3 : Hid (Below w.heap.size w w3) := H2.out.trans (hb3.mono H2.out.size)
    clear hb3
    go_wp2
    go_ret
    exact ⟨rfl, H3.out⟩
  · have hr' : rangeB size l = false := by simpa using hr
    rw [rootV_no hr']
    rw [hr'] at E1
    clear hr hr'
    generalize l.length = L at *
    go_enter Tryd.func14, Tryd.ntmps14
    go_wp2_with fail
    rw [← HWE.out]
    clear HWE
    refine E1.out.mono ?_
    rintro e w1 ⟨rfl, hb1⟩
    have H1 : Hid (Below w.heap.size w w1) := HW.out.2.1.trans (hb1.mono HW.out.2.1.size)
    clear hb1 E1
    go_wp2
    go_ret
    exact ⟨rfl, H1.out⟩
end Go.Proofs.YtollfcjbcfnfdaaDoor
