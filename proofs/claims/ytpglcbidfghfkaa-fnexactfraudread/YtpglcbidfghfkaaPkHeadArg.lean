/-
  A head that came in: its size, its copy; heads held against each other.
-/
import Derived.Test.YtpglcbidfghfkaaPkHeadV
import Derived.Test.YtpglcbidfghfkaaPkTextRows
import Derived.Test.YtpglcbidfghfkaaPkTexts
namespace Go.Proofs.Ytpglcbidfghfkaa
open Go.RowKit Go.Lib
set_option linter.unusedVariables false
set_option linter.unusedSimpArgs false


/-- A head whose rows are the call's own: the Ends ahead of n, the Path behind it. -/
def HeadOwn (w : World) (log : ByteArray) (size : Int) (root : ByteArray) (time k : Int) (el pl : List ByteArray) (e : Ending) (w' : World) : Prop :=
  ∃ ve vp n, e = .returned (.agg #[.string log, .int .i64 size, .string root, .int .i64 time, .int .i64 k, ve, vp]) ∧ OwnT w' w.heap.size ve el ∧ OwnT w' n vp pl ∧ (∀ g, ve.ownBlock = some g → g < n) ∧ w.heap.size ≤ n ∧ n ≤ w'.heap.size ∧ Below w.heap.size w w'


set_option maxHeartbeats 1000000 in
set_option maxRecDepth 10000 in
theorem eqHead_any (log root : ByteArray) (size time k : Int) (ve vp ue up : Value) (el pl : List ByteArray) (w : World) (h1 : Texts w w.heap.size ve el) (h2 : Texts w w.heap.size vp pl) (h3 : Texts w w.heap.size ue el) (h4 : Texts w w.heap.size up pl) (hl1 : el.length ≤ 1048577) (hl2 : pl.length ≤ 1048577) :
    Calls Try.prog 28 #[.agg #[.string log, .int .i64 size, .string root, .int .i64 time, .int .i64 k, ve, vp], .agg #[.string log, .int .i64 size, .string root, .int .i64 time, .int .i64 k, ue, up]] w fun e w' => e = .returned (.bool true) ∧ Below w.heap.size w w' := by
  obtain ⟨a1, c1, rfl, _⟩ := id h1
  obtain ⟨a2, c2, rfl, _⟩ := id h2
  obtain ⟨a3, c3, rfl, _⟩ := id h3
  obtain ⟨a4, c4, rfl, _⟩ := id h4
  have hb1 : Below w.heap.size w (w.alloc (.cells #[.string log, .int .i64 size, .string root, .int .i64 time, .int .i64 k, .slice a1 el.length c1, .slice a2 pl.length c2] 26)) := (Below.refl _ _).alloc (Nat.le_refl _) _
  have hb : Below w.heap.size w ((w.alloc (.cells #[.string log, .int .i64 size, .string root, .int .i64 time, .int .i64 k, .slice a1 el.length c1, .slice a2 pl.length c2] 26)).alloc (.cells #[.string log, .int .i64 size, .string root, .int .i64 time, .int .i64 k, .slice a3 el.length c3, .slice a4 pl.length c4] 26)) := hb1.alloc (by simp) _
  have E1 : Hid (Calls Try.prog 59 #[.agg #[.int .i64 k, .slice a1 el.length c1, .slice a2 pl.length c2], .agg #[.int .i64 k, .slice a3 el.length c3, .slice a4 pl.length c4]] ((w.alloc (.cells #[.string log, .int .i64 size, .string root, .int .i64 time, .int .i64 k, .slice a1 el.length c1, .slice a2 pl.length c2] 26)).alloc (.cells #[.string log, .int .i64 size, .string root, .int .i64 time, .int .i64 k, .slice a3 el.length c3, .slice a4 pl.length c4] 26)) fun e w' => e = .returned (.bool true) ∧ Below w.heap.size w w') :=
    (eqSig_any k _ _ _ _ el pl _ ((h1.below hb).up hb.size) ((h2.below hb).up hb.size) ((h3.below hb).up hb.size) ((h4.below hb).up hb.size) hl1 hl2).mono fun e w' h => ⟨h.1, hb.trans (h.2.mono hb.size)⟩
  clear h1 h2 h3 h4 hb hb1
  have hss : (size != size) = false := by simp
  have htt : (time != time) = false := by simp
  go_enter Try.func28, Try.ntmps28
  go_wp2_with fail
  refine E1.out.mono ?_
  rintro e w1 ⟨rfl, hb1⟩
  go_wp2
  go_ret
  exact ⟨rfl, hb1⟩
end Go.Proofs.Ytpglcbidfghfkaa

/-
  The program's HeadRight.
-/
namespace Go.Proofs.Ytpglcbidfghfkaa
open Go.RowKit Go.Lib
set_option linter.unusedVariables false
set_option linter.unusedSimpArgs false

set_option maxHeartbeats 400000 in
theorem timeRight_any (k : Int) (w : World) :
    Calls Try.prog 81 #[.int .i64 k] w fun e w' => e = .returned (.bool (decide (0 ≤ k ∧ k ≤ 1000000000))) ∧ w' = w := by
  by_cases h1 : 0 ≤ k
  · by_cases h2 : k ≤ 1000000000
    · rw [decide_eq_true ⟨h1, by omega⟩]
      go_enter Try.func81, Try.ntmps81
      go_wp2
      go_ret
      exact ⟨rfl, rfl⟩
    · rw [decide_eq_false (fun h => by omega)]
      go_enter Try.func81, Try.ntmps81
      go_wp2
      go_ret
      exact ⟨rfl, rfl⟩
  · rw [decide_eq_false (fun h => h1 h.1)]
    go_enter Try.func81, Try.ntmps81
    go_wp2
    go_ret
    exact ⟨rfl, rfl⟩

set_option maxHeartbeats 1000000 in
set_option maxRecDepth 10000 in
theorem claimOf_any (log root : ByteArray) (size time k : Int) (a1 a2 : Option Addr) (n1 c1 n2 c2 : Nat) (w : World) :
    Calls Try.prog 69 #[.agg #[.string log, .int .i64 size, .string root, .int .i64 time, .int .i64 k, .slice a1 n1 c1, .slice a2 n2 c2]] w fun e w' => e = .returned (.agg #[.string log, .int .i64 size, .string root, .int .i64 time]) ∧ Below w.heap.size w w' := by
  go_enter Try.func69, Try.ntmps69
  go_wp2
  refine bodyPost_ret (v := .agg #[.string log, .int .i64 size, .string root, .int .i64 time]) (by simp [results, Try.results69, go_sem]) rfl ⟨rfl, ?_⟩
  exact ((Below.refl _ _).alloc (Nat.le_refl _) _).alloc (by simp) _

set_option maxHeartbeats 2000000 in
set_option maxRecDepth 10000 in
theorem claimRight_any (log root : ByteArray) (size time : Int) (w : World) (hlog : log.size ≤ 1048576) (hroot : root.size ≤ 1048576) :
    Calls Try.prog 70 #[.agg #[.string log, .int .i64 size, .string root, .int .i64 time]] w fun e w' => e = .returned (.bool (claimB log size root time)) ∧ Below w.heap.size w w' := by
  have E0 : Hid (∀ w, Calls Try.prog 53 #[.string log] w fun e w' => e = .returned (.bool (nameB log)) ∧ w' = w) := fun w => (implName_any log w (by unfold maxLen; omega)).mono fun e w' h => ⟨h.1.name, h.2⟩
  have E3 : Hid (∀ w, Calls Try.prog 81 #[.int .i64 time] w fun e w' => e = .returned (.bool (decide (0 ≤ time ∧ time ≤ 1000000000))) ∧ w' = w) := fun w => timeRight_any time w
  have E2 : Hid (Calls Try.prog 54 #[.slice (some ⟨w.heap.size + 1, 0, none⟩) 1 1] ((w.alloc (.cells #[.string log, .int .i64 size, .string root, .int .i64 time] 105)).alloc (.cells #[.string root] 9)) fun e w' => e = .returned (.bool (decide ((root.size : Int) = 32))) ∧ w' = (w.alloc (.cells #[.string log, .int .i64 size, .string root, .int .i64 time] 105)).alloc (.cells #[.string root] 9)) := by
    have h := one_textH (w.alloc (.cells #[.string log, .int .i64 size, .string root, .int .i64 time] 105)) root
    have hz : (w.alloc (.cells #[.string log, .int .i64 size, .string root, .int .i64 time] 105)).heap.size = w.heap.size + 1 := by simp
    rw [hz] at h
    rw [← wideB_one]
    exact digests_any _ [root] _ _ h (by simp)
  have HB : Hid (Below w.heap.size w (w.alloc (.cells #[.string log, .int .i64 size, .string root, .int .i64 time] 105))) := (Below.refl _ _).alloc (Nat.le_refl _) _
  have HB2 : Hid (Below w.heap.size w ((w.alloc (.cells #[.string log, .int .i64 size, .string root, .int .i64 time] 105)).alloc (.cells #[.string root] 9))) := HB.out.alloc (by simp) _
  unfold claimB
  generalize nameB log = bn at *
  generalize decide (0 ≤ time ∧ time ≤ 1000000000) = bt at *
  generalize decide ((root.size : Int) = 32) = br at *
  cases bn with
  | false =>
    go_enter Try.func70, Try.ntmps70
    go_wp2_with fail
    refine (E0.out _).mono ?_
    rintro e w0 ⟨rfl, rfl⟩
    go_wp2
    go_ret
    exact ⟨rfl, HB.out⟩
  | true =>
    by_cases hz0 : 0 ≤ size
    · by_cases hz1 : size ≤ 64
      · rw [decide_eq_true ⟨hz0, hz1⟩]
        cases br with
        | false =>
          go_enter Try.func70, Try.ntmps70
          go_wp2_with fail
          refine (E0.out _).mono ?_
          rintro e w0 ⟨rfl, rfl⟩
          go_wp2_with fail
          refine E2.out.mono ?_
          rintro e w0 ⟨rfl, rfl⟩
          go_wp2
          go_ret
          exact ⟨rfl, HB2.out⟩
        | true =>
          go_enter Try.func70, Try.ntmps70
          go_wp2_with fail
          refine (E0.out _).mono ?_
          rintro e w0 ⟨rfl, rfl⟩
          go_wp2_with fail
          refine E2.out.mono ?_
          rintro e w0 ⟨rfl, rfl⟩
          go_wp2_with fail
          refine (E3.out _).mono ?_
          rintro e w0 ⟨rfl, rfl⟩
          go_wp2
          go_ret
          exact ⟨rfl, HB2.out⟩
      · rw [decide_eq_false (fun h => hz1 h.2)]
        go_enter Try.func70, Try.ntmps70
        go_wp2_with fail
        refine (E0.out _).mono ?_
        rintro e w0 ⟨rfl, rfl⟩
        go_wp2
        go_ret
        exact ⟨rfl, HB.out⟩
    · rw [decide_eq_false (fun h => hz0 h.1)]
      go_enter Try.func70, Try.ntmps70
      go_wp2_with fail
      refine (E0.out _).mono ?_
      rintro e w0 ⟨rfl, rfl⟩
      go_wp2
      go_ret
      exact ⟨rfl, HB.out⟩

set_option maxHeartbeats 2000000 in
set_option maxRecDepth 10000 in
theorem implHeadRight_any (log root : ByteArray) (size time k : Int) (ve vp : Value) (el pl : List ByteArray) (w : World) (h1 : Texts w w.heap.size ve el) (h2 : Texts w w.heap.size vp pl) (hl1 : el.length ≤ 1048576) (hl2 : pl.length ≤ 1048576) (hlog : log.size ≤ 1048576) (hroot : root.size ≤ 1048576) :
    Calls Try.prog 46 #[.agg #[.string log, .int .i64 size, .string root, .int .i64 time, .int .i64 k, ve, vp]] w fun e w' => e = .returned (.bool (headRB log size root time k el pl)) ∧ Below w.heap.size w w' := by
  obtain ⟨a1, c1, rfl, _⟩ := id h1
  obtain ⟨a2, c2, rfl, _⟩ := id h2
  have E0 : Hid (∀ w, Calls Try.prog 69 #[.agg #[.string log, .int .i64 size, .string root, .int .i64 time, .int .i64 k, .slice a1 el.length c1, .slice a2 pl.length c2]] w fun e w' => e = .returned (.agg #[.string log, .int .i64 size, .string root, .int .i64 time]) ∧ Below w.heap.size w w') := fun w => claimOf_any _ _ _ _ _ _ _ _ _ _ _ w
  have E1 : Hid (∀ w, Calls Try.prog 70 #[.agg #[.string log, .int .i64 size, .string root, .int .i64 time]] w fun e w' => e = .returned (.bool (claimB log size root time)) ∧ Below w.heap.size w w') := fun w => claimRight_any _ _ _ _ w hlog hroot
  have E2 : Hid (∀ w', Below w.heap.size w w' → Calls Try.prog 71 #[.agg #[.int .i64 k, .slice a1 el.length c1, .slice a2 pl.length c2]] w' fun e w'' => e = .returned (.bool (sigRB k el pl)) ∧ Below w'.heap.size w' w'') := fun w' hb => implSigRight_any k _ _ el pl w' ((h1.below hb).up hb.size) ((h2.below hb).up hb.size) hl1 hl2
  obtain ⟨W, hW⟩ : ∃ W, W = w.alloc (.cells #[.string log, .int .i64 size, .string root, .int .i64 time, .int .i64 k, .slice a1 el.length c1, .slice a2 pl.length c2] 26) := ⟨_, rfl⟩
  have H0 : Hid (Below w.heap.size w W ∧ W.heap[w.heap.size]? = some (.cells #[.string log, .int .i64 size, .string root, .int .i64 time, .int .i64 k, .slice a1 el.length c1, .slice a2 pl.length c2] 26 (0, 0)) ∧ w.heap.size < W.heap.size) := by
    rw [hW]
    exact ⟨(Below.refl _ _).alloc (Nat.le_refl _) _, heap_alloc_new w _, by simp⟩
  have HW : Hid (W = w.alloc (.cells #[.string log, .int .i64 size, .string root, .int .i64 time, .int .i64 k, .slice a1 el.length c1, .slice a2 pl.length c2] 26)) := hW
  clear hW h1 h2
  unfold headRB
  generalize claimB log size root time = bc at *
  generalize sigRB k el pl = bs at *
  go_enter Try.func46, Try.ntmps46
  go_wp2_with fail
  rw [← HW.out]
  refine (E0.out _).mono ?_
  rintro e w1 ⟨rfl, hb1⟩
  go_wp2_with fail
  refine (E1.out _).mono ?_
  rintro e w2 ⟨rfl, hb2⟩
  have hb : Below W.heap.size W w2 := hb1.trans (hb2.mono hb1.size)
  obtain ⟨⟨_, _, _, _, c4, c5, c6⟩, _⟩ := seven_cells hb H0.out.2.2 H0.out.2.1
  have H2 : Hid (Below w.heap.size w w2) := H0.out.1.trans (hb.mono H0.out.1.size)
  clear hb1 hb2 hb H0 E0 E1 HW
  cases bc with
  | false =>
    go_wp2
    go_ret
    exact ⟨rfl, H2.out⟩
  | true =>
    go_wp2_with fail
    refine (E2.out _ H2.out).mono ?_
    rintro e w3 ⟨rfl, hb3⟩
    go_wp2
    go_ret
    exact ⟨rfl, H2.out.trans (hb3.mono H2.out.size)⟩
end Go.Proofs.Ytpglcbidfghfkaa
