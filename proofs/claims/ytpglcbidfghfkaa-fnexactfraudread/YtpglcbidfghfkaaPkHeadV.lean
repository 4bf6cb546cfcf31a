/-
  What HeadRight and HeadText answer; a block of seven cells.
-/
import Derived.Test.YtpglcbidfghfkaaPkTexts
import Derived.Test.YtpglcbidfghfkaaPkName
namespace Go.Proofs.Ytpglcbidfghfkaa
open Go.RowKit Go.Lib
set_option linter.unusedVariables false
set_option linter.unusedSimpArgs false

/-- Is the text a name? -/
def nameDec (s : ByteArray) : Decidable (nameP s) := by
  delta nameP tailP letP digP
  infer_instance
def nameB (s : ByteArray) : Bool := @decide (nameP s) (nameDec s)
theorem nameB_iff (s : ByteArray) : nameB s = true ↔ nameP s := @decide_eq_true_iff (nameP s) (nameDec s)
theorem AnsB.name {s : ByteArray} {e : Ending} (h : AnsB (nameP s) e) : e = .returned (.bool (nameB s)) := by
  obtain ⟨b, rfl, hb⟩ := h
  refine ret_bool ?_
  rw [Bool.eq_iff_iff]
  exact hb.trans (nameB_iff s).symm
theorem nameB_yes {s : ByteArray} (h : nameB s = true) : 1 ≤ s.size ∧ s.size ≤ 20 := by
  have h2 : nameP s := (nameB_iff s).1 h
  exact ⟨h2.1, h2.2.1⟩
/-- Is what is signed of a head right? -/
def claimB (log : ByteArray) (size : Int) (root : ByteArray) (time : Int) : Bool := nameB log && decide (0 ≤ size ∧ size ≤ 64) && decide ((root.size : Int) = 32) && decide (0 ≤ time ∧ time ≤ 1000000000)
theorem claimB_yes {log root : ByteArray} {size time : Int} (h : claimB log size root time = true) : nameB log = true ∧ (0 ≤ size ∧ size ≤ 64) ∧ root.size = 32 ∧ 0 ≤ time ∧ time ≤ 1000000000 := by
  unfold claimB at h
  simp at h
  exact ⟨h.1.1.1, h.1.1.2, by omega, h.2⟩
/-- Is the head right? -/
def headRB (log : ByteArray) (size : Int) (root : ByteArray) (time k : Int) (el pl : List ByteArray) : Bool := claimB log size root time && sigRB k el pl
theorem wideB_one (t : ByteArray) : wideB [t] = decide ((t.size : Int) = 32) := by simp [wideB]

/-- A block of seven cells that was laid ahead of a call lies there behind it. -/
theorem seven_cells {B g : Nat} {W w1 : World} {a b c d e f h : Value} {t : TypeId} (hb : Below B W w1) (hB : g < B) (hW : W.heap[g]? = some (.cells #[a, b, c, d, e, f, h] t (0, 0))) :
    (w1.cell? ⟨g, 0, none⟩ = some a ∧ w1.cell? ⟨g, 1, none⟩ = some b ∧ w1.cell? ⟨g, 2, none⟩ = some c ∧ w1.cell? ⟨g, 3, none⟩ = some d ∧ w1.cell? ⟨g, 4, none⟩ = some e ∧ w1.cell? ⟨g, 5, none⟩ = some f ∧ w1.cell? ⟨g, 6, none⟩ = some h) ∧ ∀ i, w1.frozen? ⟨g, i, none⟩ = false := by
  have h := (hb.block g hB).trans hW
  refine ⟨by simp [World.cell?, h], fun i => by simp [World.frozen?, h]⟩
theorem four_cells {B g : Nat} {W w1 : World} {a b c d : Value} {t : TypeId} (hb : Below B W w1) (hB : g < B) (hW : W.heap[g]? = some (.cells #[a, b, c, d] t (0, 0))) :
    (w1.cell? ⟨g, 0, none⟩ = some a ∧ w1.cell? ⟨g, 1, none⟩ = some b ∧ w1.cell? ⟨g, 2, none⟩ = some c ∧ w1.cell? ⟨g, 3, none⟩ = some d) ∧ ∀ i, w1.frozen? ⟨g, i, none⟩ = false := by
  have h := (hb.block g hB).trans hW
  refine ⟨by simp [World.cell?, h], fun i => by simp [World.frozen?, h]⟩
theorem one_textH (w : World) (t : ByteArray) : Texts (w.alloc (.cells #[.string t] 9)) (w.heap.size + 1) (.slice (some ⟨w.heap.size, 0, none⟩) 1 1) [t] := by
  refine ⟨_, 1, rfl, .inr ⟨w.heap.size, 0, rfl, by omega, fun j hj => ?_⟩, by simp⟩
  have : j = 0 := by simpa using hj
  subst this
  have h := heap_alloc_new w (.cells #[.string t] 9)
  simp only [World.cell?, h]
  rfl
end Go.Proofs.Ytpglcbidfghfkaa

/-
  The document's HeadRight.
-/
namespace Go.Proofs.Ytpglcbidfghfkaa
open Go.RowKit Go.Lib
set_option linter.unusedVariables false
set_option linter.unusedSimpArgs false

set_option maxHeartbeats 2000000 in
set_option maxRecDepth 10000 in
theorem specHeadRight_any (log root : ByteArray) (size time k : Int) (ve vp : Value) (el pl : List ByteArray) (w : World) (h1 : Texts w w.heap.size ve el) (h2 : Texts w w.heap.size vp pl) (hl1 : el.length ≤ 1048576) (hl2 : pl.length ≤ 1048576) (hlog : log.size ≤ 1048576) (hroot : root.size ≤ 1048576) :
    Calls Try.prog 38 #[.agg #[.string log, .int .i64 size, .string root, .int .i64 time, .int .i64 k, ve, vp]] w fun e w' => e = .returned (.bool (headRB log size root time k el pl)) ∧ Below w.heap.size w w' := by
  have E0 : Hid (∀ w, Calls Try.prog 24 #[.string log] w fun e w' => e = .returned (.bool (nameB log)) ∧ w' = w) := fun w => (specName_any log w (by unfold maxLen; omega)).mono fun e w' h => ⟨h.1.name, h.2⟩
  have E1 : Hid (∀ w, Calls Try.prog 63 #[.int .i64 size, .int .i64 0, .int .i64 64] w fun e w' => e = .returned (.bool (decide (0 ≤ size ∧ size ≤ 64))) ∧ w' = w) := fun w => is_any size 0 64 w
  have E3 : Hid (∀ w, Calls Try.prog 63 #[.int .i64 time, .int .i64 0, .int .i64 1000000000] w fun e w' => e = .returned (.bool (decide (0 ≤ time ∧ time ≤ 1000000000))) ∧ w' = w) := fun w => is_any time 0 1000000000 w
  obtain ⟨a1, c1, rfl, _⟩ := id h1
  obtain ⟨a2, c2, rfl, _⟩ := id h2
  obtain ⟨W, hW⟩ : ∃ W, W = w.alloc (.cells #[.string log, .int .i64 size, .string root, .int .i64 time, .int .i64 k, .slice a1 el.length c1, .slice a2 pl.length c2] 26) := ⟨_, rfl⟩
  have hbW : Below w.heap.size w W := by rw [hW]; exact (Below.refl _ _).alloc (Nat.le_refl _) _
  have E4 : Hid (Calls Try.prog 64 #[.agg #[.int .i64 k, .slice a1 el.length c1, .slice a2 pl.length c2]] W fun e w' => e = .returned (.bool (sigRB k el pl)) ∧ Below w.heap.size w w') := (specSigRight_any k _ _ el pl W ((h1.below hbW).up hbW.size) ((h2.below hbW).up hbW.size) hl1 hl2).mono fun e w' h => ⟨h.1, hbW.trans (h.2.mono hbW.size)⟩
  have HB : Hid (Below w.heap.size w W) := hbW
  rw [hW] at E4 HB
  clear hW hbW W h1 h2
  unfold headRB claimB
  generalize nameB log = bn at *
  generalize decide (0 ≤ size ∧ size ≤ 64) = bz at *
  generalize decide (0 ≤ time ∧ time ≤ 1000000000) = bt at *
  generalize sigRB k el pl = bs at *
  cases bn with
  | false =>
    go_enter Try.func38, Try.ntmps38
    go_wp2_with fail
    refine (E0.out _).mono ?_
    rintro e w0 ⟨rfl, rfl⟩
    go_wp2
    go_ret
    exact ⟨rfl, HB.out⟩
  | true =>
    cases bz with
    | false =>
      go_enter Try.func38, Try.ntmps38
      go_wp2_with fail
      refine (E0.out _).mono ?_
      rintro e w0 ⟨rfl, rfl⟩
      go_wp2_with fail
      refine (E1.out _).mono ?_
      rintro e w0 ⟨rfl, rfl⟩
      go_wp2
      go_ret
      exact ⟨rfl, HB.out⟩
    | true =>
      by_cases h32 : (root.size : Int) = 32
      · rw [decide_eq_true h32]
        have q1 : ((root.size : Int) == 32) = true := by simpa using h32
        clear h32
        cases bt with
        | false =>
          go_enter Try.func38, Try.ntmps38
          go_wp2_with fail
          refine (E0.out _).mono ?_
          rintro e w0 ⟨rfl, rfl⟩
          go_wp2_with fail
          refine (E1.out _).mono ?_
          rintro e w0 ⟨rfl, rfl⟩
          go_wp2_with fail
          refine (E3.out _).mono ?_
          rintro e w0 ⟨rfl, rfl⟩
          go_wp2
          go_ret
          exact ⟨rfl, HB.out⟩
        | true =>
          go_enter Try.func38, Try.ntmps38
          go_wp2_with fail
          refine (E0.out _).mono ?_
          rintro e w0 ⟨rfl, rfl⟩
          go_wp2_with fail
          refine (E1.out _).mono ?_
          rintro e w0 ⟨rfl, rfl⟩
          go_wp2_with fail
          refine (E3.out _).mono ?_
          rintro e w0 ⟨rfl, rfl⟩
          go_wp2_with fail
          refine E4.out.mono ?_
          rintro e w1 ⟨rfl, hb1⟩
          go_wp2
          go_ret
          exact ⟨rfl, hb1⟩
      · rw [decide_eq_false h32]
        have q1 : ((root.size : Int) == 32) = false := by simpa using h32
        clear h32
        go_enter Try.func38, Try.ntmps38
        go_wp2_with fail
        refine (E0.out _).mono ?_
        rintro e w0 ⟨rfl, rfl⟩
        go_wp2_with fail
        refine (E1.out _).mono ?_
        rintro e w0 ⟨rfl, rfl⟩
        go_wp2
        go_ret
        exact ⟨rfl, HB.out⟩
end Go.Proofs.Ytpglcbidfghfkaa
