/-
  Conflict, the document's.
-/
import Derived.Test.YtbfejeeebfknjaaConfV
import Derived.Test.YtbfejeeebfknjaaSpecHeadR
namespace Go.Proofs.Ytbfejeeebfknjaa
open Go.RowKit Go.Lib
set_option linter.unusedVariables false
set_option linter.unusedSimpArgs false

set_option maxHeartbeats 4000000 in
set_option maxRecDepth 10000 in
theorem specConf_any (log1 root1 : ByteArray) (size1 time1 k1 : Int) (ve1 vp1 : Value) (el1 pl1 : List ByteArray) (log2 root2 : ByteArray) (size2 time2 k2 : Int) (ve2 vp2 : Value) (el2 pl2 : List ByteArray) (w : World) (h1 : Texts w w.heap.size ve1 el1) (h1' : Texts w w.heap.size vp1 pl1) (hl1 : el1.length ≤ 1048576) (hl1' : pl1.length ≤ 1048576) (hlog1 : log1.size ≤ 1048576) (hroot1 : root1.size ≤ 1048576) (h2 : Texts w w.heap.size ve2 el2) (h2' : Texts w w.heap.size vp2 pl2) (hl2 : el2.length ≤ 1048576) (hl2' : pl2.length ≤ 1048576) (hlog2 : log2.size ≤ 1048576) (hroot2 : root2.size ≤ 1048576) :
    Calls Try.prog 13 #[.agg #[.string log1, .int .i64 size1, .string root1, .int .i64 time1, .int .i64 k1, ve1, vp1], .agg #[.string log2, .int .i64 size2, .string root2, .int .i64 time2, .int .i64 k2, ve2, vp2]] w fun e w' => e = .returned (.bool (confB (headRB log1 size1 root1 time1 k1 el1 pl1) (headRB log2 size2 root2 time2 k2 el2 pl2) log1 log2 size1 size2 root1 root2)) ∧ Below w.heap.size w w' := by
  obtain ⟨a1, c1, rfl, _⟩ := id h1
  obtain ⟨b1, d1, rfl, _⟩ := id h1'
  obtain ⟨a2, c2, rfl, _⟩ := id h2
  obtain ⟨b2, d2, rfl, _⟩ := id h2'
  obtain ⟨W, hW⟩ : ∃ W, W = (w.alloc (.cells #[.string log1, .int .i64 size1, .string root1, .int .i64 time1, .int .i64 k1, .slice a1 el1.length c1, .slice b1 pl1.length d1] 31)).alloc (.cells #[.string log2, .int .i64 size2, .string root2, .int .i64 time2, .int .i64 k2, .slice a2 el2.length c2, .slice b2 pl2.length d2] 31) := ⟨_, rfl⟩
  have hbW : Below w.heap.size w W := by rw [hW]; exact ((Below.refl _ _).alloc (Nat.le_refl _) _).alloc (by simp) _
  have H0 : Hid (Below w.heap.size w W ∧ W.heap[w.heap.size]? = some (.cells #[.string log1, .int .i64 size1, .string root1, .int .i64 time1, .int .i64 k1, .slice a1 el1.length c1, .slice b1 pl1.length d1] 31 (0, 0)) ∧ W.heap[w.heap.size + 1]? = some (.cells #[.string log2, .int .i64 size2, .string root2, .int .i64 time2, .int .i64 k2, .slice a2 el2.length c2, .slice b2 pl2.length d2] 31 (0, 0)) ∧ w.heap.size + 1 < W.heap.size) := by
    refine ⟨hbW, ?_, ?_, ?_⟩
    · rw [hW]; exact heap_alloc2_old w _ _
    · rw [hW]; exact heap_alloc2_new w _ _
    · rw [hW]; simp
  have HW : Hid (W = (w.alloc (.cells #[.string log1, .int .i64 size1, .string root1, .int .i64 time1, .int .i64 k1, .slice a1 el1.length c1, .slice b1 pl1.length d1] 31)).alloc (.cells #[.string log2, .int .i64 size2, .string root2, .int .i64 time2, .int .i64 k2, .slice a2 el2.length c2, .slice b2 pl2.length d2] 31)) := hW
  have HC : Hid (∀ W', Below W.heap.size W W' → (W'.cell? ⟨w.heap.size, 0, none⟩ = some (.string log1) ∧ W'.cell? ⟨w.heap.size, 1, none⟩ = some (.int .i64 size1) ∧ W'.cell? ⟨w.heap.size, 2, none⟩ = some (.string root1) ∧ W'.cell? ⟨w.heap.size, 3, none⟩ = some (.int .i64 time1) ∧ W'.cell? ⟨w.heap.size, 4, none⟩ = some (.int .i64 k1) ∧ W'.cell? ⟨w.heap.size, 5, none⟩ = some (.slice a1 el1.length c1) ∧ W'.cell? ⟨w.heap.size, 6, none⟩ = some (.slice b1 pl1.length d1)) ∧ (W'.cell? ⟨w.heap.size + 1, 0, none⟩ = some (.string log2) ∧ W'.cell? ⟨w.heap.size + 1, 1, none⟩ = some (.int .i64 size2) ∧ W'.cell? ⟨w.heap.size + 1, 2, none⟩ = some (.string root2) ∧ W'.cell? ⟨w.heap.size + 1, 3, none⟩ = some (.int .i64 time2) ∧ W'.cell? ⟨w.heap.size + 1, 4, none⟩ = some (.int .i64 k2) ∧ W'.cell? ⟨w.heap.size + 1, 5, none⟩ = some (.slice a2 el2.length c2) ∧ W'.cell? ⟨w.heap.size + 1, 6, none⟩ = some (.slice b2 pl2.length d2)) ∧ (W'.drew.cell? ⟨w.heap.size, 0, none⟩ = some (.string log1) ∧ W'.drew.cell? ⟨w.heap.size, 1, none⟩ = some (.int .i64 size1) ∧ W'.drew.cell? ⟨w.heap.size, 2, none⟩ = some (.string root1) ∧ W'.drew.cell? ⟨w.heap.size, 3, none⟩ = some (.int .i64 time1) ∧ W'.drew.cell? ⟨w.heap.size, 4, none⟩ = some (.int .i64 k1) ∧ W'.drew.cell? ⟨w.heap.size, 5, none⟩ = some (.slice a1 el1.length c1) ∧ W'.drew.cell? ⟨w.heap.size, 6, none⟩ = some (.slice b1 pl1.length d1)) ∧ (W'.drew.cell? ⟨w.heap.size + 1, 0, none⟩ = some (.string log2) ∧ W'.drew.cell? ⟨w.heap.size + 1, 1, none⟩ = some (.int .i64 size2) ∧ W'.drew.cell? ⟨w.heap.size + 1, 2, none⟩ = some (.string root2) ∧ W'.drew.cell? ⟨w.heap.size + 1, 3, none⟩ = some (.int .i64 time2) ∧ W'.drew.cell? ⟨w.heap.size + 1, 4, none⟩ = some (.int .i64 k2) ∧ W'.drew.cell? ⟨w.heap.size + 1, 5, none⟩ = some (.slice a2 el2.length c2) ∧ W'.drew.cell? ⟨w.heap.size + 1, 6, none⟩ = some (.slice b2 pl2.length d2))) := fun W' hb => by
    obtain ⟨c, _⟩ := seven_cells hb (Nat.lt_of_succ_lt H0.out.2.2.2) H0.out.2.1
    obtain ⟨d, _⟩ := seven_cells hb H0.out.2.2.2 H0.out.2.2.1
    exact ⟨c, d, c, d⟩
  have G1 : Hid (∀ W', Below W.heap.size W W' → Calls Try.prog 7 #[.agg #[.string log1, .int .i64 size1, .string root1, .int .i64 time1, .int .i64 k1, .slice a1 el1.length c1, .slice b1 pl1.length d1]] W' fun e w'' => e = .returned (.bool (headRB log1 size1 root1 time1 k1 el1 pl1)) ∧ Below W.heap.size W w'') := fun W' hb => (specHeadRight_any log1 root1 size1 time1 k1 _ _ el1 pl1 W' ((h1.below (hbW.trans (hb.mono hbW.size))).up (hbW.trans (hb.mono hbW.size)).size) ((h1'.below (hbW.trans (hb.mono hbW.size))).up (hbW.trans (hb.mono hbW.size)).size) hl1 hl1' hlog1 hroot1).mono fun e w'' h => ⟨h.1, hb.trans (h.2.mono hb.size)⟩
  have G2 : Hid (∀ W', Below W.heap.size W W' → Calls Try.prog 7 #[.agg #[.string log2, .int .i64 size2, .string root2, .int .i64 time2, .int .i64 k2, .slice a2 el2.length c2, .slice b2 pl2.length d2]] W' fun e w'' => e = .returned (.bool (headRB log2 size2 root2 time2 k2 el2 pl2)) ∧ Below W.heap.size W w'') := fun W' hb => (specHeadRight_any log2 root2 size2 time2 k2 _ _ el2 pl2 W' ((h2.below (hbW.trans (hb.mono hbW.size))).up (hbW.trans (hb.mono hbW.size)).size) ((h2'.below (hbW.trans (hb.mono hbW.size))).up (hbW.trans (hb.mono hbW.size)).size) hl2 hl2' hlog2 hroot2).mono fun e w'' h => ⟨h.1, hb.trans (h.2.mono hb.size)⟩
  have HB0 : Hid (Below W.heap.size W W) := Below.refl _ _
  obtain ⟨⟨c0, c1', c2', c3, c4, c5, c6⟩, ⟨d0, d1', d2', d3, d4, d5, d6⟩, _⟩ := HC.out W (Below.refl _ _)
  generalize headRB log1 size1 root1 time1 k1 el1 pl1 = ra at *
  generalize headRB log2 size2 root2 time2 k2 el2 pl2 = rb at *
  clear h1 h1' h2 h2' hW hbW hlog1 hroot1 hlog2 hroot2 hl1 hl1' hl2 hl2'
  unfold confB
  have step : ∀ (x : Bool), x = true ∨ x = false := fun x => by cases x <;> simp
  cases ra with
  | false =>
    go_enter Try.func13, Try.ntmps13
    go_wp2_with fail
    rw [← HW.out]
    refine (G1.out _ HB0.out).mono ?_
    rintro e w1 ⟨rfl, hb1⟩
    have B1 : Hid (Below W.heap.size W w1) := hb1
    clear hb1
    go_wp2
    go_ret
    exact ⟨rfl, H0.out.1.trans (B1.out.mono H0.out.1.size)⟩
  | true =>
    cases rb with
    | false =>
      go_enter Try.func13, Try.ntmps13
      go_wp2_with fail
      rw [← HW.out]
      refine (G1.out _ HB0.out).mono ?_
      rintro e w1 ⟨rfl, hb1⟩
      have B1 : Hid (Below W.heap.size W w1) := hb1
      clear c0 c1' c2' c3 c4 c5 c6 d0 d1' d2' d3 d4 d5 d6
      obtain ⟨⟨c0, c1', c2', c3, c4, c5, c6⟩, ⟨d0, d1', d2', d3, d4, d5, d6⟩, _⟩ := HC.out _ hb1
      clear hb1
      go_wp2_with fail
      refine (G2.out _ B1.out).mono ?_
      rintro e w2 ⟨rfl, hb2⟩
      have B2 : Hid (Below W.heap.size W w2) := hb2
      clear hb2
      go_wp2
      go_ret
      exact ⟨rfl, H0.out.1.trans (B2.out.mono H0.out.1.size)⟩
    | true =>
      rcases step (log1.toList == log2.toList) with q1 | q1 <;> rcases step (size1 == size2) with q2 | q2 <;> rcases step (root1.toList == root2.toList) with q3 | q3 <;> rw [q1, q2, q3]
      all_goals
        go_enter Try.func13, Try.ntmps13
        go_wp2_with fail
        rw [← HW.out]
        refine (G1.out _ HB0.out).mono ?_
        rintro e w1 ⟨rfl, hb1⟩
        have B1 : Hid (Below W.heap.size W w1) := hb1
        clear c0 c1' c2' c3 c4 c5 c6 d0 d1' d2' d3 d4 d5 d6
        obtain ⟨⟨c0, c1', c2', c3, c4, c5, c6⟩, ⟨d0, d1', d2', d3, d4, d5, d6⟩, _⟩ := HC.out _ hb1
        clear hb1
        go_wp2_with fail
        refine (G2.out _ B1.out).mono ?_
        rintro e w2 ⟨rfl, hb2⟩
        have B2 : Hid (Below W.heap.size W w2) := hb2
        clear c0 c1' c2' c3 c4 c5 c6 d0 d1' d2' d3 d4 d5 d6
        obtain ⟨⟨c0, c1', c2', c3, c4, c5, c6⟩, ⟨d0, d1', d2', d3, d4, d5, d6⟩, _⟩ := HC.out _ hb2
        clear hb2
        go_wp2
        go_ret
        exact ⟨rfl, H0.out.1.trans (B2.out.mono H0.out.1.size)⟩
end Go.Proofs.Ytbfejeeebfknjaa
