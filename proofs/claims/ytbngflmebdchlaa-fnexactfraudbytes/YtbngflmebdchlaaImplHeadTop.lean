/-
  HeadText, the program's.
-/
import Derived.Test.YtbngflmebdchlaaImplHeadT
namespace Go.Proofs.Ytbngflmebdchlaa
open Go.RowKit Go.Lib
set_option linter.unusedVariables false
set_option linter.unusedSimpArgs false

set_option maxHeartbeats 2000000 in
set_option maxRecDepth 10000 in
theorem implHeadText_any (log root : ByteArray) (size time k : Int) (ve vp : Value) (el pl : List ByteArray) (w : World) (h1 : Texts w w.heap.size ve el) (h2 : Texts w w.heap.size vp pl) (hl1 : el.length ≤ 1048576) (hl2 : pl.length ≤ 1048576) (hlog : log.size ≤ 1048576) (hroot : root.size ≤ 1048576) (hs : -9223372036854775808 ≤ size ∧ size ≤ 9223372036854775807) (ht : -9223372036854775808 ≤ time ∧ time ≤ 9223372036854775807) :
    Calls Try.prog 50 #[.agg #[.string log, .int .i64 size, .string root, .int .i64 time, .int .i64 k, ve, vp]] w fun e w' => e = .returned (.string (headTB log size root time k el pl)) ∧ Below w.heap.size w w' := by
  obtain ⟨a1, c1, rfl, _⟩ := id h1
  obtain ⟨a2, c2, rfl, _⟩ := id h2
  obtain ⟨W, hW⟩ : ∃ W, W = w.alloc (.cells #[.string log, .int .i64 size, .string root, .int .i64 time, .int .i64 k, .slice a1 el.length c1, .slice a2 pl.length c2] 33) := ⟨_, rfl⟩
  have hbW : Below w.heap.size w W := by rw [hW]; exact (Below.refl _ _).alloc (Nat.le_refl _) _
  have H0 : Hid (Below w.heap.size w W ∧ W.heap[w.heap.size]? = some (.cells #[.string log, .int .i64 size, .string root, .int .i64 time, .int .i64 k, .slice a1 el.length c1, .slice a2 pl.length c2] 33 (0, 0)) ∧ w.heap.size < W.heap.size) := by
    refine ⟨hbW, ?_, ?_⟩
    · rw [hW]; exact heap_alloc_new w _
    · rw [hW]; simp
  have HW : Hid (W = w.alloc (.cells #[.string log, .int .i64 size, .string root, .int .i64 time, .int .i64 k, .slice a1 el.length c1, .slice a2 pl.length c2] 33)) := hW
  have E0 : Hid (Calls Try.prog 24 #[.agg #[.string log, .int .i64 size, .string root, .int .i64 time, .int .i64 k, .slice a1 el.length c1, .slice a2 pl.length c2]] W fun e w' => e = .returned (.bool (headRB log size root time k el pl)) ∧ Below W.heap.size W w') := implHeadRight_any log root size time k _ _ el pl W ((h1.below hbW).up hbW.size) ((h2.below hbW).up hbW.size) hl1 hl2 hlog hroot
  have E1 : Hid (∀ w', Calls Try.prog 46 #[.agg #[.string log, .int .i64 size, .string root, .int .i64 time, .int .i64 k, .slice a1 el.length c1, .slice a2 pl.length c2]] w' fun e w'' => e = .returned (.agg #[.string log, .int .i64 size, .string root, .int .i64 time]) ∧ Below w'.heap.size w' w'') := fun w' => claimOf_any _ _ _ _ _ _ _ _ _ _ _ w'
  have E2 : Hid (∀ w', Calls Try.prog 67 #[.agg #[.string log, .int .i64 size, .string root, .int .i64 time]] w' fun e w'' => e = .returned (.string (headT log size root time)) ∧ Below w'.heap.size w' w'') := fun w' => claimText_any _ _ _ _ w' hlog hroot hs ht
  unfold headTB
  generalize headRB log size root time k el pl = b at *
  generalize headT log size root time = t at *
  clear h1 h2 hW hbW hlog hroot hs ht
  go_enter Try.func50, Try.ntmps50
  go_wp2_with fail
  rw [← HW.out]
  refine E0.out.mono ?_
  rintro e w1 ⟨rfl, hb1⟩
  obtain ⟨⟨d0, d1, d2, d3, d4, d5, d6⟩, _⟩ := seven_cells hb1 H0.out.2.2 H0.out.2.1
  have B1 : Hid (Below w.heap.size w w1) := H0.out.1.trans (hb1.mono H0.out.1.size)
  clear hb1 H0 E0 HW
  cases b with
  | false =>
    go_wp2
    go_ret
    exact ⟨rfl, B1.out⟩
  | true =>
    go_wp2_with fail
    refine (E1.out _).mono ?_
    rintro e w2 ⟨rfl, hb2⟩
    go_wp2_with fail
    refine (E2.out _).mono ?_
    rintro e w3 ⟨rfl, hb3⟩
    go_wp2
    go_ret
    exact ⟨rfl, (B1.out.trans (hb2.mono B1.out.size)).trans (hb3.mono (Nat.le_trans B1.out.size hb2.size))⟩
end Go.Proofs.Ytbngflmebdchlaa
