/-
  A head that came in: its size, its copy; heads held against each other.
-/
import Derived.Test.YtpglcbidfghfkaaPkHeadV
import Derived.Test.YtpglcbidfghfkaaPkTextRows
import Derived.Test.YtpglcbidfghfkaaPkTexts
namespace Go.Proofs.Ytpglcbidfghfkaa
open Go.RowKit Go.Lib
set_option linter.unusedVariables false
set_option linter.unusedSimpArgs false


/-- A head whose rows are the call's own: the Ends ahead of n, the Path behind it. -/
def HeadOwn (w : World) (log : ByteArray) (size : Int) (root : ByteArray) (time k : Int) (el pl : List ByteArray) (e : Ending) (w' : World) : Prop :=
  ∃ ve vp n, e = .returned (.agg #[.string log, .int .i64 size, .string root, .int .i64 time, .int .i64 k, ve, vp]) ∧ OwnT w' w.heap.size ve el ∧ OwnT w' n vp pl ∧ (∀ g, ve.ownBlock = some g → g < n) ∧ w.heap.size ≤ n ∧ n ≤ w'.heap.size ∧ Below w.heap.size w w'


set_option maxHeartbeats 1000000 in
set_option maxRecDepth 10000 in
theorem eqHead_any (log root : ByteArray) (size time k : Int) (ve vp ue up : Value) (el pl : List ByteArray) (w : World) (h1 : Texts w w.heap.size ve el) (h2 : Texts w w.heap.size vp pl) (h3 : Texts w w.heap.size ue el) (h4 : Texts w w.heap.size up pl) (hl1 : el.length ≤ 1048577) (hl2 : pl.length ≤ 1048577) :
    Calls Try.prog 28 #[.agg #[.string log, .int .i64 size, .string root, .int .i64 time, .int .i64 k, ve, vp], .agg #[.string log, .int .i64 size, .string root, .int .i64 time, .int .i64 k, ue, up]] w fun e w' => e = .returned (.bool true) ∧ Below w.heap.size w w' := by
  obtain ⟨a1, c1, rfl, _⟩ := id h1
  obtain ⟨a2, c2, rfl, _⟩ := id h2
  obtain ⟨a3, c3, rfl, _⟩ := id h3
  obtain ⟨a4, c4, rfl, _⟩ := id h4
  have hb1 : Below w.heap.size w (w.alloc (.cells #[.string log, .int .i64 size, .string root, .int .i64 time, .int .i64 k, .slice a1 el.length c1, .slice a2 pl.length c2] 26)) := (Below.refl _ _).alloc (Nat.le_refl _) _
  have hb : Below w.heap.size w ((w.alloc (.cells #[.string log, .int .i64 size, .string root, .int .i64 time, .int .i64 k, .slice a1 el.length c1, .slice a2 pl.length c2] 26)).alloc (.cells #[.string log, .int .i64 size, .string root, .int .i64 time, .int .i64 k, .slice a3 el.length c3, .slice a4 pl.length c4] 26)) := hb1.alloc (by simp) _
  have E1 : Hid (Calls Try.prog 59 #[.agg #[.int .i64 k, .slice a1 el.length c1, .slice a2 pl.length c2], .agg #[.int .i64 k, .slice a3 el.length c3, .slice a4 pl.length c4]] ((w.alloc (.cells #[.string log, .int .i64 size, .string root, .int .i64 time, .int .i64 k, .slice a1 el.length c1, .slice a2 pl.length c2] 26)).alloc (.cells #[.string log, .int .i64 size, .string root, .int .i64 time, .int .i64 k, .slice a3 el.length c3, .slice a4 pl.length c4] 26)) fun e w' => e = .returned (.bool true) ∧ Below w.heap.size w w') :=
    (eqSig_any k _ _ _ _ el pl _ ((h1.below hb).up hb.size) ((h2.below hb).up hb.size) ((h3.below hb).up hb.size) ((h4.below hb).up hb.size) hl1 hl2).mono fun e w' h => ⟨h.1, hb.trans (h.2.mono hb.size)⟩
  clear h1 h2 h3 h4 hb hb1
  have hss : (size != size) = false := by simp
  have htt : (time != time) = false := by simp
  go_enter Try.func28, Try.ntmps28
  go_wp2_with fail
  refine E1.out.mono ?_
  rintro e w1 ⟨rfl, hb1⟩
  go_wp2
  go_ret
  exact ⟨rfl, hb1⟩
end Go.Proofs.Ytpglcbidfghfkaa

/-
  Has a watcher a right log and a right key? The program's test.
-/
namespace Go.Proofs.Ytpglcbidfghfkaa
open Go.RowKit Go.Lib
set_option linter.unusedVariables false
set_option linter.unusedSimpArgs false

/-- A watcher's log and key are right. -/
def namedB (log key : ByteArray) : Bool := nameB log && decide ((key.size : Int) = 32)

set_option maxHeartbeats 2000000 in
set_option maxRecDepth 10000 in
theorem named_any (log key : ByteArray) (w : World) (hlog : log.size ≤ 1048576) :
    Calls Try.prog 25 #[.agg #[.string log, .string key]] w fun e w' => e = .returned (.bool (namedB log key)) ∧ Below w.heap.size w w' := by
  have E0 : Hid (∀ w, Calls Try.prog 53 #[.string log] w fun e w' => e = .returned (.bool (nameB log)) ∧ w' = w) := fun w => (implName_any log w (by unfold maxLen; omega)).mono fun e w' h => ⟨h.1.name, h.2⟩
  have E2 : Hid (Calls Try.prog 54 #[.slice (some ⟨w.heap.size + 1, 0, none⟩) 1 1] ((w.alloc (.cells #[.string log, .string key] 57)).alloc (.cells #[.string key] 9)) fun e w' => e = .returned (.bool (decide ((key.size : Int) = 32))) ∧ w' = (w.alloc (.cells #[.string log, .string key] 57)).alloc (.cells #[.string key] 9)) := by
    have h := one_textH (w.alloc (.cells #[.string log, .string key] 57)) key
    have hz : (w.alloc (.cells #[.string log, .string key] 57)).heap.size = w.heap.size + 1 := by simp
    rw [hz] at h
    rw [← wideB_one]
    exact digests_any _ [key] _ _ h (by simp)
  have HB : Hid (Below w.heap.size w (w.alloc (.cells #[.string log, .string key] 57))) := (Below.refl _ _).alloc (Nat.le_refl _) _
  have HB2 : Hid (Below w.heap.size w ((w.alloc (.cells #[.string log, .string key] 57)).alloc (.cells #[.string key] 9))) := HB.out.alloc (by simp) _
  unfold namedB
  generalize nameB log = bn at *
  generalize decide ((key.size : Int) = 32) = br at *
  cases bn with
  | false =>
    go_enter Try.func25, Try.ntmps25
    go_wp2_with fail
    refine (E0.out _).mono ?_
    rintro e w0 ⟨rfl, rfl⟩
    go_wp2
    go_ret
    exact ⟨rfl, HB.out⟩
  | true =>
    cases br with
    | false =>
      go_enter Try.func25, Try.ntmps25
      go_wp2_with fail
      refine (E0.out _).mono ?_
      rintro e w0 ⟨rfl, rfl⟩
      go_wp2_with fail
      refine E2.out.mono ?_
      rintro e w0 ⟨rfl, rfl⟩
      go_wp2
      go_ret
      exact ⟨rfl, HB2.out⟩
    | true =>
      go_enter Try.func25, Try.ntmps25
      go_wp2_with fail
      refine (E0.out _).mono ?_
      rintro e w0 ⟨rfl, rfl⟩
      go_wp2_with fail
      refine E2.out.mono ?_
      rintro e w0 ⟨rfl, rfl⟩
      go_wp2
      go_ret
      exact ⟨rfl, HB2.out⟩
end Go.Proofs.Ytpglcbidfghfkaa
