/-
  The document's HeadRight.
-/
import Derived.Test.YtbngflmebdchlaaHeadV
import Derived.Test.YtbngflmebdchlaaSpecSigRight
namespace Go.Proofs.Ytbngflmebdchlaa
open Go.RowKit Go.Lib
set_option linter.unusedVariables false
set_option linter.unusedSimpArgs false

set_option maxHeartbeats 2000000 in
set_option maxRecDepth 10000 in
theorem specHeadRight_any (log root : ByteArray) (size time k : Int) (ve vp : Value) (el pl : List ByteArray) (w : World) (h1 : Texts w w.heap.size ve el) (h2 : Texts w w.heap.size vp pl) (hl1 : el.length ≤ 1048576) (hl2 : pl.length ≤ 1048576) (hlog : log.size ≤ 1048576) (hroot : root.size ≤ 1048576) :
    Calls Try.prog 17 #[.agg #[.string log, .int .i64 size, .string root, .int .i64 time, .int .i64 k, ve, vp]] w fun e w' => e = .returned (.bool (headRB log size root time k el pl)) ∧ Below w.heap.size w w' := by
  have E0 : Hid (∀ w, Calls Try.prog 40 #[.string log] w fun e w' => e = .returned (.bool (nameB log)) ∧ w' = w) := fun w => (specName_any log w (by unfold maxLen; omega)).mono fun e w' h => ⟨h.1.name, h.2⟩
  have E1 : Hid (∀ w, Calls Try.prog 41 #[.int .i64 size, .int .i64 0, .int .i64 64] w fun e w' => e = .returned (.bool (decide (0 ≤ size ∧ size ≤ 64))) ∧ w' = w) := fun w => is_any size 0 64 w
  have E3 : Hid (∀ w, Calls Try.prog 41 #[.int .i64 time, .int .i64 0, .int .i64 1000000000] w fun e w' => e = .returned (.bool (decide (0 ≤ time ∧ time ≤ 1000000000))) ∧ w' = w) := fun w => is_any time 0 1000000000 w
  obtain ⟨a1, c1, rfl, _⟩ := id h1
  obtain ⟨a2, c2, rfl, _⟩ := id h2
  obtain ⟨W, hW⟩ : ∃ W, W = w.alloc (.cells #[.string log, .int .i64 size, .string root, .int .i64 time, .int .i64 k, .slice a1 el.length c1, .slice a2 pl.length c2] 33) := ⟨_, rfl⟩
  have hbW : Below w.heap.size w W := by rw [hW]; exact (Below.refl _ _).alloc (Nat.le_refl _) _
  have E4 : Hid (Calls Try.prog 42 #[.agg #[.int .i64 k, .slice a1 el.length c1, .slice a2 pl.length c2]] W fun e w' => e = .returned (.bool (sigRB k el pl)) ∧ Below w.heap.size w w') := (specSigRight_any k _ _ el pl W ((h1.below hbW).up hbW.size) ((h2.below hbW).up hbW.size) hl1 hl2).mono fun e w' h => ⟨h.1, hbW.trans (h.2.mono hbW.size)⟩
  have HB : Hid (Below w.heap.size w W) := hbW
  rw [hW] at E4 HB
  clear hW hbW W h1 h2
  unfold headRB claimB
  generalize nameB log = bn at *
  generalize decide (0 ≤ size ∧ size ≤ 64) = bz at *
  generalize decide (0 ≤ time ∧ time ≤ 1000000000) = bt at *
  generalize sigRB k el pl = bs at *
  cases bn with
  | false =>
    go_enter Try.func17, Try.ntmps17
    go_wp2_with fail
    refine (E0.out _).mono ?_
    rintro e w0 ⟨rfl, rfl⟩
    go_wp2
    go_ret
    exact ⟨rfl, HB.out⟩
  | true =>
    cases bz with
    | false =>
      go_enter Try.func17, Try.ntmps17
      go_wp2_with fail
      refine (E0.out _).mono ?_
      rintro e w0 ⟨rfl, rfl⟩
      go_wp2_with fail
      refine (E1.out _).mono ?_
      rintro e w0 ⟨rfl, rfl⟩
      go_wp2
      go_ret
      exact ⟨rfl, HB.out⟩
    | true =>
      by_cases h32 : (root.size : Int) = 32
      · rw [decide_eq_true h32]
        have q1 : ((root.size : Int) == 32) = true := by simpa using h32
        clear h32
        cases bt with
        | false =>
          go_enter Try.func17, Try.ntmps17
          go_wp2_with fail
          refine (E0.out _).mono ?_
          rintro e w0 ⟨rfl, rfl⟩
          go_wp2_with fail
          refine (E1.out _).mono ?_
          rintro e w0 ⟨rfl, rfl⟩
          go_wp2_with fail
          refine (E3.out _).mono ?_
          rintro e w0 ⟨rfl, rfl⟩
          go_wp2
          go_ret
          exact ⟨rfl, HB.out⟩
        | true =>
          go_enter Try.func17, Try.ntmps17
          go_wp2_with fail
          refine (E0.out _).mono ?_
          rintro e w0 ⟨rfl, rfl⟩
          go_wp2_with fail
          refine (E1.out _).mono ?_
          rintro e w0 ⟨rfl, rfl⟩
          go_wp2_with fail
          refine (E3.out _).mono ?_
          rintro e w0 ⟨rfl, rfl⟩
          go_wp2_with fail
          refine E4.out.mono ?_
          rintro e w1 ⟨rfl, hb1⟩
          go_wp2
          go_ret
          exact ⟨rfl, hb1⟩
      · rw [decide_eq_false h32]
        have q1 : ((root.size : Int) == 32) = false := by simpa using h32
        clear h32
        go_enter Try.func17, Try.ntmps17
        go_wp2_with fail
        refine (E0.out _).mono ?_
        rintro e w0 ⟨rfl, rfl⟩
        go_wp2_with fail
        refine (E1.out _).mono ?_
        rintro e w0 ⟨rfl, rfl⟩
        go_wp2
        go_ret
        exact ⟨rfl, HB.out⟩
end Go.Proofs.Ytbngflmebdchlaa
