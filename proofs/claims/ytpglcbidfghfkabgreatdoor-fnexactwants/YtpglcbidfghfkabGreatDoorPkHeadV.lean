/-
  What HeadRight and HeadText answer; a block of seven cells.
-/
import Derived.Test.YtpglcbidfghfkabGreatDoorPkTexts
import Derived.Test.YtpglcbidfghfkabGreatDoorPkName
namespace Go.Proofs.YtpglcbidfghfkabGreatDoor
open Go.RowKit Go.Lib
set_option linter.unusedVariables false
set_option linter.unusedSimpArgs false

/-- Is the text a name? -/
def nameDec (s : ByteArray) : Decidable (nameP s) := by
  delta nameP tailP letP digP
  infer_instance
def nameB (s : ByteArray) : Bool := @decide (nameP s) (nameDec s)
theorem nameB_iff (s : ByteArray) : nameB s = true ↔ nameP s := @decide_eq_true_iff (nameP s) (nameDec s)
theorem AnsB.name {s : ByteArray} {e : Ending} (h : AnsB (nameP s) e) : e = .returned (.bool (nameB s)) := by
  obtain ⟨b, rfl, hb⟩ := h
  refine ret_bool ?_
  rw [Bool.eq_iff_iff]
  exact hb.trans (nameB_iff s).symm
theorem nameB_yes {s : ByteArray} (h : nameB s = true) : 1 ≤ s.size ∧ s.size ≤ 20 := by
  have h2 : nameP s := (nameB_iff s).1 h
  exact ⟨h2.1, h2.2.1⟩
/-- Is what is signed of a head right? -/
def claimB (log : ByteArray) (size : Int) (root : ByteArray) (time : Int) : Bool := nameB log && decide (0 ≤ size ∧ size ≤ 64) && decide ((root.size : Int) = 32) && decide (0 ≤ time ∧ time ≤ 1000000000)
theorem claimB_yes {log root : ByteArray} {size time : Int} (h : claimB log size root time = true) : nameB log = true ∧ (0 ≤ size ∧ size ≤ 64) ∧ root.size = 32 ∧ 0 ≤ time ∧ time ≤ 1000000000 := by
  unfold claimB at h
  simp at h
  exact ⟨h.1.1.1, h.1.1.2, by omega, h.2⟩
/-- Is the head right? -/
def headRB (log : ByteArray) (size : Int) (root : ByteArray) (time k : Int) (el pl : List ByteArray) : Bool := claimB log size root time && sigRB k el pl
theorem wideB_one (t : ByteArray) : wideB [t] = decide ((t.size : Int) = 32) := by simp [wideB]

/-- A block of seven cells that was laid ahead of a call lies there behind it. -/
theorem seven_cells {B g : Nat} {W w1 : World} {a b c d e f h : Value} {t : TypeId} (hb : Below B W w1) (hB : g < B) (hW : W.heap[g]? = some (.cells #[a, b, c, d, e, f, h] t (0, 0))) :
    (w1.cell? ⟨g, 0, none⟩ = some a ∧ w1.cell? ⟨g, 1, none⟩ = some b ∧ w1.cell? ⟨g, 2, none⟩ = some c ∧ w1.cell? ⟨g, 3, none⟩ = some d ∧ w1.cell? ⟨g, 4, none⟩ = some e ∧ w1.cell? ⟨g, 5, none⟩ = some f ∧ w1.cell? ⟨g, 6, none⟩ = some h) ∧ ∀ i, w1.frozen? ⟨g, i, none⟩ = false := by
  have h := (hb.block g hB).trans hW
  refine ⟨by simp [World.cell?, h], fun i => by simp [World.frozen?, h]⟩
theorem four_cells {B g : Nat} {W w1 : World} {a b c d : Value} {t : TypeId} (hb : Below B W w1) (hB : g < B) (hW : W.heap[g]? = some (.cells #[a, b, c, d] t (0, 0))) :
    (w1.cell? ⟨g, 0, none⟩ = some a ∧ w1.cell? ⟨g, 1, none⟩ = some b ∧ w1.cell? ⟨g, 2, none⟩ = some c ∧ w1.cell? ⟨g, 3, none⟩ = some d) ∧ ∀ i, w1.frozen? ⟨g, i, none⟩ = false := by
  have h := (hb.block g hB).trans hW
  refine ⟨by simp [World.cell?, h], fun i => by simp [World.frozen?, h]⟩
theorem one_textH (w : World) (t : ByteArray) : Texts (w.alloc (.cells #[.string t] 9)) (w.heap.size + 1) (.slice (some ⟨w.heap.size, 0, none⟩) 1 1) [t] := by
  refine ⟨_, 1, rfl, .inr ⟨w.heap.size, 0, rfl, by omega, fun j hj => ?_⟩, by simp⟩
  have : j = 0 := by simpa using hj
  subst this
  have h := heap_alloc_new w (.cells #[.string t] 9)
  simp only [World.cell?, h]
  rfl
end Go.Proofs.YtpglcbidfghfkabGreatDoor

/-
  What Conflict answers.
-/
namespace Go.Proofs.YtpglcbidfghfkabGreatDoor
open Go.RowKit Go.Lib
set_option linter.unusedVariables false
set_option linter.unusedSimpArgs false

/-- What Conflict answers of two heads, of which each is right or not. -/
def confB (ra rb : Bool) (log1 log2 : ByteArray) (size1 size2 : Int) (root1 root2 : ByteArray) : Bool := ra && rb && (log1.toList == log2.toList) && (size1 == size2) && !(root1.toList == root2.toList)
end Go.Proofs.YtpglcbidfghfkabGreatDoor

/-
  The document's HeadRight.
-/
namespace Go.Proofs.YtpglcbidfghfkabGreatDoor
open Go.RowKit Go.Lib
set_option linter.unusedVariables false
set_option linter.unusedSimpArgs false

set_option maxHeartbeats 2000000 in
set_option maxRecDepth 10000 in
theorem specHeadRight_any (log root : ByteArray) (size time k : Int) (ve vp : Value) (el pl : List ByteArray) (w : World) (h1 : Texts w w.heap.size ve el) (h2 : Texts w w.heap.size vp pl) (hl1 : el.length ≤ 1048576) (hl2 : pl.length ≤ 1048576) (hlog : log.size ≤ 1048576) (hroot : root.size ≤ 1048576) :
    Calls Tryz.prog 93 #[.agg #[.string log, .int .i64 size, .string root, .int .i64 time, .int .i64 k, ve, vp]] w fun e w' => e = .returned (.bool (headRB log size root time k el pl)) ∧ Below w.heap.size w w' := by
  have E0 : Hid (∀ w, Calls Tryz.prog 67 #[.string log] w fun e w' => e = .returned (.bool (nameB log)) ∧ w' = w) := fun w => (specName_any log w (by unfold maxLen; omega)).mono fun e w' h => ⟨h.1.name, h.2⟩
  have E1 : Hid (∀ w, Calls Tryz.prog 114 #[.int .i64 size, .int .i64 0, .int .i64 64] w fun e w' => e = .returned (.bool (decide (0 ≤ size ∧ size ≤ 64))) ∧ w' = w) := fun w => is_any size 0 64 w
  have E3 : Hid (∀ w, Calls Tryz.prog 114 #[.int .i64 time, .int .i64 0, .int .i64 1000000000] w fun e w' => e = .returned (.bool (decide (0 ≤ time ∧ time ≤ 1000000000))) ∧ w' = w) := fun w => is_any time 0 1000000000 w
  obtain ⟨a1, c1, rfl, _⟩ := id h1
  obtain ⟨a2, c2, rfl, _⟩ := id h2
  obtain ⟨W, hW⟩ : ∃ W, W = w.alloc (.cells #[.string log, .int .i64 size, .string root, .int .i64 time, .int .i64 k, .slice a1 el.length c1, .slice a2 pl.length c2] 36) := ⟨_, rfl⟩
  have hbW : Below w.heap.size w W := by rw [hW]; exact (Below.refl _ _).alloc (Nat.le_refl _) _
  have E4 : Hid (Calls Tryz.prog 115 #[.agg #[.int .i64 k, .slice a1 el.length c1, .slice a2 pl.length c2]] W fun e w' => e = .returned (.bool (sigRB k el pl)) ∧ Below w.heap.size w w') := (specSigRight_any k _ _ el pl W ((h1.below hbW).up hbW.size) ((h2.below hbW).up hbW.size) hl1 hl2).mono fun e w' h => ⟨h.1, hbW.trans (h.2.mono hbW.size)⟩
  have HB : Hid (Below w.heap.size w W) := hbW
  rw [hW] at E4 HB
  clear hW hbW W h1 h2
  unfold headRB claimB
  generalize nameB log = bn at *
  generalize decide (0 ≤ size ∧ size ≤ 64) = bz at *
  generalize decide (0 ≤ time ∧ time ≤ 1000000000) = bt at *
  generalize sigRB k el pl = bs at *
  cases bn with
  | false =>
    go_enter Tryz.func93, Tryz.ntmps93
    go_wp2_with fail
    refine (E0.out _).mono ?_
    rintro e w0 ⟨rfl, rfl⟩
    go_wp2
    go_ret
    exact ⟨rfl, HB.out⟩
  | true =>
    cases bz with
    | false =>
      go_enter Tryz.func93, Tryz.ntmps93
      go_wp2_with fail
      refine (E0.out _).mono ?_
      rintro e w0 ⟨rfl, rfl⟩
      go_wp2_with fail
      refine (E1.out _).mono ?_
      rintro e w0 ⟨rfl, rfl⟩
      go_wp2
      go_ret
      exact ⟨rfl, HB.out⟩
    | true =>
      by_cases h32 : (root.size : Int) = 32
      · rw [decide_eq_true h32]
        have q1 : ((root.size : Int) == 32) = true := by simpa using h32
        clear h32
        cases bt with
        | false =>
          go_enter Tryz.func93, Tryz.ntmps93
          go_wp2_with fail
          refine (E0.out _).mono ?_
          rintro e w0 ⟨rfl, rfl⟩
          go_wp2_with fail
          refine (E1.out _).mono ?_
          rintro e w0 ⟨rfl, rfl⟩
          go_wp2_with fail
          refine (E3.out _).mono ?_
          rintro e w0 ⟨rfl, rfl⟩
          go_wp2
          go_ret
          exact ⟨rfl, HB.out⟩
        | true =>
          go_enter Tryz.func93, Tryz.ntmps93
          go_wp2_with fail
          refine (E0.out _).mono ?_
          rintro e w0 ⟨rfl, rfl⟩
          go_wp2_with fail
          refine (E1.out _).mono ?_
          rintro e w0 ⟨rfl, rfl⟩
          go_wp2_with fail
          refine (E3.out _).mono ?_
          rintro e w0 ⟨rfl, rfl⟩
          go_wp2_with fail
          refine E4.out.mono ?_
          rintro e w1 ⟨rfl, hb1⟩
          go_wp2
          go_ret
          exact ⟨rfl, hb1⟩
      · rw [decide_eq_false h32]
        have q1 : ((root.size : Int) == 32) = false := by simpa using h32
        clear h32
        go_enter Tryz.func93, Tryz.ntmps93
        go_wp2_with fail
        refine (E0.out _).mono ?_
        rintro e w0 ⟨rfl, rfl⟩
        go_wp2_with fail
        refine (E1.out _).mono ?_
        rintro e w0 ⟨rfl, rfl⟩
        go_wp2
        go_ret
        exact ⟨rfl, HB.out⟩
end Go.Proofs.YtpglcbidfghfkabGreatDoor

/-
  Conflict, the document's.
-/
namespace Go.Proofs.YtpglcbidfghfkabGreatDoor
open Go.RowKit Go.Lib
set_option linter.unusedVariables false
set_option linter.unusedSimpArgs false

set_option maxHeartbeats 4000000 in
set_option maxRecDepth 10000 in
theorem specConf_any (log1 root1 : ByteArray) (size1 time1 k1 : Int) (ve1 vp1 : Value) (el1 pl1 : List ByteArray) (log2 root2 : ByteArray) (size2 time2 k2 : Int) (ve2 vp2 : Value) (el2 pl2 : List ByteArray) (w : World) (h1 : Texts w w.heap.size ve1 el1) (h1' : Texts w w.heap.size vp1 pl1) (hl1 : el1.length ≤ 1048576) (hl1' : pl1.length ≤ 1048576) (hlog1 : log1.size ≤ 1048576) (hroot1 : root1.size ≤ 1048576) (h2 : Texts w w.heap.size ve2 el2) (h2' : Texts w w.heap.size vp2 pl2) (hl2 : el2.length ≤ 1048576) (hl2' : pl2.length ≤ 1048576) (hlog2 : log2.size ≤ 1048576) (hroot2 : root2.size ≤ 1048576) :
    Calls Tryz.prog 92 #[.agg #[.string log1, .int .i64 size1, .string root1, .int .i64 time1, .int .i64 k1, ve1, vp1], .agg #[.string log2, .int .i64 size2, .string root2, .int .i64 time2, .int .i64 k2, ve2, vp2]] w fun e w' => e = .returned (.bool (confB (headRB log1 size1 root1 time1 k1 el1 pl1) (headRB log2 size2 root2 time2 k2 el2 pl2) log1 log2 size1 size2 root1 root2)) ∧ Below w.heap.size w w' := by
  obtain ⟨a1, c1, rfl, _⟩ := id h1
  obtain ⟨b1, d1, rfl, _⟩ := id h1'
  obtain ⟨a2, c2, rfl, _⟩ := id h2
  obtain ⟨b2, d2, rfl, _⟩ := id h2'
  obtain ⟨W, hW⟩ : ∃ W, W = (w.alloc (.cells #[.string log1, .int .i64 size1, .string root1, .int .i64 time1, .int .i64 k1, .slice a1 el1.length c1, .slice b1 pl1.length d1] 36)).alloc (.cells #[.string log2, .int .i64 size2, .string root2, .int .i64 time2, .int .i64 k2, .slice a2 el2.length c2, .slice b2 pl2.length d2] 36) := ⟨_, rfl⟩
  have hbW : Below w.heap.size w W := by rw [hW]; exact ((Below.refl _ _).alloc (Nat.le_refl _) _).alloc (by simp) _
  have H0 : Hid (Below w.heap.size w W ∧ W.heap[w.heap.size]? = some (.cells #[.string log1, .int .i64 size1, .string root1, .int .i64 time1, .int .i64 k1, .slice a1 el1.length c1, .slice b1 pl1.length d1] 36 (0, 0)) ∧ W.heap[w.heap.size + 1]? = some (.cells #[.string log2, .int .i64 size2, .string root2, .int .i64 time2, .int .i64 k2, .slice a2 el2.length c2, .slice b2 pl2.length d2] 36 (0, 0)) ∧ w.heap.size + 1 < W.heap.size) := by
    refine ⟨hbW, ?_, ?_, ?_⟩
    · rw [hW]; exact heap_alloc2_old w _ _
    · rw [hW]; exact heap_alloc2_new w _ _
    · rw [hW]; simp
  have HW : Hid (W = (w.alloc (.cells #[.string log1, .int .i64 size1, .string root1, .int .i64 time1, .int .i64 k1, .slice a1 el1.length c1, .slice b1 pl1.length d1] 36)).alloc (.cells #[.string log2, .int .i64 size2, .string root2, .int .i64 time2, .int .i64 k2, .slice a2 el2.length c2, .slice b2 pl2.length d2] 36)) := hW
  have HC : Hid (∀ W', Below W.heap.size W W' → (W'.cell? ⟨w.heap.size, 0, none⟩ = some (.string log1) ∧ W'.cell? ⟨w.heap.size, 1, none⟩ = some (.int .i64 size1) ∧ W'.cell? ⟨w.heap.size, 2, none⟩ = some (.string root1) ∧ W'.cell? ⟨w.heap.size, 3, none⟩ = some (.int .i64 time1) ∧ W'.cell? ⟨w.heap.size, 4, none⟩ = some (.int .i64 k1) ∧ W'.cell? ⟨w.heap.size, 5, none⟩ = some (.slice a1 el1.length c1) ∧ W'.cell? ⟨w.heap.size, 6, none⟩ = some (.slice b1 pl1.length d1)) ∧ (W'.cell? ⟨w.heap.size + 1, 0, none⟩ = some (.string log2) ∧ W'.cell? ⟨w.heap.size + 1, 1, none⟩ = some (.int .i64 size2) ∧ W'.cell? ⟨w.heap.size + 1, 2, none⟩ = some (.string root2) ∧ W'.cell? ⟨w.heap.size + 1, 3, none⟩ = some (.int .i64 time2) ∧ W'.cell? ⟨w.heap.size + 1, 4, none⟩ = some (.int .i64 k2) ∧ W'.cell? ⟨w.heap.size + 1, 5, none⟩ = some (.slice a2 el2.length c2) ∧ W'.cell? ⟨w.heap.size + 1, 6, none⟩ = some (.slice b2 pl2.length d2)) ∧ (W'.drew.cell? ⟨w.heap.size, 0, none⟩ = some (.string log1) ∧ W'.drew.cell? ⟨w.heap.size, 1, none⟩ = some (.int .i64 size1) ∧ W'.drew.cell? ⟨w.heap.size, 2, none⟩ = some (.string root1) ∧ W'.drew.cell? ⟨w.heap.size, 3, none⟩ = some (.int .i64 time1) ∧ W'.drew.cell? ⟨w.heap.size, 4, none⟩ = some (.int .i64 k1) ∧ W'.drew.cell? ⟨w.heap.size, 5, none⟩ = some (.slice a1 el1.length c1) ∧ W'.drew.cell? ⟨w.heap.size, 6, none⟩ = some (.slice b1 pl1.length d1)) ∧ (W'.drew.cell? ⟨w.heap.size + 1, 0, none⟩ = some (.string log2) ∧ W'.drew.cell? ⟨w.heap.size + 1, 1, none⟩ = some (.int .i64 size2) ∧ W'.drew.cell? ⟨w.heap.size + 1, 2, none⟩ = some (.string root2) ∧ W'.drew.cell? ⟨w.heap.size + 1, 3, none⟩ = some (.int .i64 time2) ∧ W'.drew.cell? ⟨w.heap.size + 1, 4, none⟩ = some (.int .i64 k2) ∧ W'.drew.cell? ⟨w.heap.size + 1, 5, none⟩ = some (.slice a2 el2.length c2) ∧ W'.drew.cell? ⟨w.heap.size + 1, 6, none⟩ = some (.slice b2 pl2.length d2))) := fun W' hb => by
    obtain ⟨c, _⟩ := seven_cells hb (Nat.lt_of_succ_lt H0.out.2.2.2) H0.out.2.1
    obtain ⟨d, _⟩ := seven_cells hb H0.out.2.2.2 H0.out.2.2.1
    exact ⟨c, d, c, d⟩
  have G1 : Hid (∀ W', Below W.heap.size W W' → Calls Tryz.prog 93 #[.agg #[.string log1, .int .i64 size1, .string root1, .int .i64 time1, .int .i64 k1, .slice a1 el1.length c1, .slice b1 pl1.length d1]] W' fun e w'' => e = .returned (.bool (headRB log1 size1 root1 time1 k1 el1 pl1)) ∧ Below W.heap.size W w'') := fun W' hb => (specHeadRight_any log1 root1 size1 time1 k1 _ _ el1 pl1 W' ((h1.below (hbW.trans (hb.mono hbW.size))).up (hbW.trans (hb.mono hbW.size)).size) ((h1'.below (hbW.trans (hb.mono hbW.size))).up (hbW.trans (hb.mono hbW.size)).size) hl1 hl1' hlog1 hroot1).mono fun e w'' h => ⟨h.1, hb.trans (h.2.mono hb.size)⟩
  have G2 : Hid (∀ W', Below W.heap.size W W' → Calls Tryz.prog 93 #[.agg #[.string log2, .int .i64 size2, .string root2, .int .i64 time2, .int .i64 k2, .slice a2 el2.length c2, .slice b2 pl2.length d2]] W' fun e w'' => e = .returned (.bool (headRB log2 size2 root2 time2 k2 el2 pl2)) ∧ Below W.heap.size W w'') := fun W' hb => (specHeadRight_any log2 root2 size2 time2 k2 _ _ el2 pl2 W' ((h2.below (hbW.trans (hb.mono hbW.size))).up (hbW.trans (hb.mono hbW.size)).size) ((h2'.below (hbW.trans (hb.mono hbW.size))).up (hbW.trans (hb.mono hbW.size)).size) hl2 hl2' hlog2 hroot2).mono fun e w'' h => ⟨h.1, hb.trans (h.2.mono hb.size)⟩
  have HB0 : Hid (Below W.heap.size W W) := Below.refl _ _
  obtain ⟨⟨c0, c1', c2', c3, c4, c5, c6⟩, ⟨d0, d1', d2', d3, d4, d5, d6⟩, _⟩ := HC.out W (Below.refl _ _)
  generalize headRB log1 size1 root1 time1 k1 el1 pl1 = ra at *
  generalize headRB log2 size2 root2 time2 k2 el2 pl2 = rb at *
  clear h1 h1' h2 h2' hW hbW hlog1 hroot1 hlog2 hroot2 hl1 hl1' hl2 hl2'
  unfold confB
  have step : ∀ (x : Bool), x = true ∨ x = false := fun x => by cases x <;> simp
  cases ra with
  | false =>
    go_enter Tryz.func92, Tryz.ntmps92
    go_wp2_with fail
    rw [← HW.out]
    refine (G1.out _ HB0.out).mono ?_
    rintro e w1 ⟨rfl, hb1⟩
    have B1 : Hid (Below W.heap.size W w1) := hb1
    clear hb1
    go_wp2
    go_ret
    exact ⟨rfl, H0.out.1.trans (B1.out.mono H0.out.1.size)⟩
  | true =>
    cases rb with
    | false =>
      go_enter Tryz.func92, Tryz.ntmps92
      go_wp2_with fail
      rw [← HW.out]
      refine (G1.out _ HB0.out).mono ?_
      rintro e w1 ⟨rfl, hb1⟩
      have B1 : Hid (Below W.heap.size W w1) := hb1
      clear c0 c1' c2' c3 c4 c5 c6 d0 d1' d2' d3 d4 d5 d6
      obtain ⟨⟨c0, c1', c2', c3, c4, c5, c6⟩, ⟨d0, d1', d2', d3, d4, d5, d6⟩, _⟩ := HC.out _ hb1
      clear hb1
      go_wp2_with fail
      refine (G2.out _ B1.out).mono ?_
      rintro e w2 ⟨rfl, hb2⟩
      have B2 : Hid (Below W.heap.size W w2) := hb2
      clear hb2
      go_wp2
      go_ret
      exact ⟨rfl, H0.out.1.trans (B2.out.mono H0.out.1.size)⟩
    | true =>
      rcases step (log1.toList == log2.toList) with q1 | q1 <;> rcases step (size1 == size2) with q2 | q2 <;> rcases step (root1.toList == root2.toList) with q3 | q3 <;> rw [q1, q2, q3]
      all_goals
        go_enter Tryz.func92, Tryz.ntmps92
        go_wp2_with fail
        rw [← HW.out]
        refine (G1.out _ HB0.out).mono ?_
        rintro e w1 ⟨rfl, hb1⟩
        have B1 : Hid (Below W.heap.size W w1) := hb1
        clear c0 c1' c2' c3 c4 c5 c6 d0 d1' d2' d3 d4 d5 d6
        obtain ⟨⟨c0, c1', c2', c3, c4, c5, c6⟩, ⟨d0, d1', d2', d3, d4, d5, d6⟩, _⟩ := HC.out _ hb1
        clear hb1
        go_wp2_with fail
        refine (G2.out _ B1.out).mono ?_
        rintro e w2 ⟨rfl, hb2⟩
        have B2 : Hid (Below W.heap.size W w2) := hb2
        clear c0 c1' c2' c3 c4 c5 c6 d0 d1' d2' d3 d4 d5 d6
        obtain ⟨⟨c0, c1', c2', c3, c4, c5, c6⟩, ⟨d0, d1', d2', d3, d4, d5, d6⟩, _⟩ := HC.out _ hb2
        clear hb2
        go_wp2
        go_ret
        exact ⟨rfl, H0.out.1.trans (B2.out.mono H0.out.1.size)⟩
end Go.Proofs.YtpglcbidfghfkabGreatDoor
