/-
  The walk of the exact law of Conflict.
-/
import Derived.Test.YtbfejeeebfknjaaImplConf
import Derived.Test.YtbfejeeebfknjaaSpecConf
import Derived.Test.YtbfejeeebfknjaaHeadArg
import Derived.Deep.RegionWith
import Derived.Deep.RegionHeld3
namespace Go.Proofs.Ytbfejeeebfknjaa
open Go.RowKit Go.Lib
set_option linter.unusedVariables false
set_option linter.unusedSimpArgs false

/-- In between: the heads that came in lie in blocks a and a + 1. -/
def ConfIn (w : World) (c1 c2 : Array Value) (W : World) : Prop :=
  Below w.heap.size w W ∧ W.heap[w.heap.size]? = some (.cells c1 26 (0, 0)) ∧ W.heap[w.heap.size + 1]? = some (.cells c2 26 (0, 0))
theorem ConfIn.lt {w W : World} {c1 c2 : Array Value} (h : ConfIn w c1 c2 W) : w.heap.size + 1 < W.heap.size := (Array.getElem?_eq_some_iff.1 h.2.2).1
theorem ConfIn.below {w W W' : World} {c1 c2 : Array Value} (h : ConfIn w c1 c2 W) (hb : Below W.heap.size W W') : ConfIn w c1 c2 W' :=
  ⟨h.1.trans (hb.mono h.1.size), (hb.block _ (Nat.lt_of_succ_lt h.lt)).trans h.2.1, (hb.block _ h.lt).trans h.2.2⟩
theorem ConfIn.drew {w W : World} {c1 c2 : Array Value} (h : ConfIn w c1 c2 W) : ConfIn w c1 c2 W.drew := h.below (below_drew' (Below.refl _ _))

set_option maxHeartbeats 8000000 in
set_option maxRecDepth 10000 in
theorem lawConflict_any (log1 root1 : ByteArray) (size1 time1 k1 : Int) (ve1 vp1 : Value) (el1 pl1 : List ByteArray) (log2 root2 : ByteArray) (size2 time2 k2 : Int) (ve2 vp2 : Value) (el2 pl2 : List ByteArray) (w : World) (h1 : TextsArg w ve1 el1) (h1' : TextsArg w vp1 pl1) (h2 : TextsArg w ve2 el2) (h2' : TextsArg w vp2 pl2) (hlog1 : log1.size ≤ maxLen) (hroot1 : root1.size ≤ maxLen) (hlog2 : log2.size ≤ maxLen) (hroot2 : root2.size ≤ maxLen) :
    Calls Try.prog 5 #[.agg #[.string log1, .int .i64 size1, .string root1, .int .i64 time1, .int .i64 k1, ve1, vp1], .agg #[.string log2, .int .i64 size2, .string root2, .int .i64 time2, .int .i64 k2, ve2, vp2]] w fun e w' => e = .returned (.bool true) ∧ Below w.heap.size w w' := by
  unfold maxLen at *
  obtain ⟨a1, c1, rfl, _⟩ := id h1.1
  obtain ⟨b1, d1, rfl, _⟩ := id h1'.1
  obtain ⟨a2, c2, rfl, _⟩ := id h2.1
  obtain ⟨b2, d2, rfl, _⟩ := id h2'.1
  obtain ⟨W, hW⟩ : ∃ W, W = (w.alloc (.cells #[.string log1, .int .i64 size1, .string root1, .int .i64 time1, .int .i64 k1, .slice a1 el1.length c1, .slice b1 pl1.length d1] 26)).alloc (.cells #[.string log2, .int .i64 size2, .string root2, .int .i64 time2, .int .i64 k2, .slice a2 el2.length c2, .slice b2 pl2.length d2] 26) := ⟨_, rfl⟩
  have I0 : Hid (ConfIn w #[.string log1, .int .i64 size1, .string root1, .int .i64 time1, .int .i64 k1, .slice a1 el1.length c1, .slice b1 pl1.length d1] #[.string log2, .int .i64 size2, .string root2, .int .i64 time2, .int .i64 k2, .slice a2 el2.length c2, .slice b2 pl2.length d2] W) := by
    refine ⟨?_, ?_, ?_⟩
    · rw [hW]; exact ((Below.refl _ _).alloc (Nat.le_refl _) _).alloc (by simp) _
    · rw [hW]; exact heap_alloc2_old w _ _
    · rw [hW]; exact heap_alloc2_new w _ _
  have HW : Hid (W = (w.alloc (.cells #[.string log1, .int .i64 size1, .string root1, .int .i64 time1, .int .i64 k1, .slice a1 el1.length c1, .slice b1 pl1.length d1] 26)).alloc (.cells #[.string log2, .int .i64 size2, .string root2, .int .i64 time2, .int .i64 k2, .slice a2 el2.length c2, .slice b2 pl2.length d2] 26)) := hW
  have HTA : Hid (TextsArg w (.slice a1 el1.length c1) el1 ∧ TextsArg w (.slice b1 pl1.length d1) pl1 ∧ TextsArg w (.slice a2 el2.length c2) el2 ∧ TextsArg w (.slice b2 pl2.length d2) pl2) := ⟨h1, h1', h2, h2'⟩
  have HC : Hid (∀ X, ConfIn w #[.string log1, .int .i64 size1, .string root1, .int .i64 time1, .int .i64 k1, .slice a1 el1.length c1, .slice b1 pl1.length d1] #[.string log2, .int .i64 size2, .string root2, .int .i64 time2, .int .i64 k2, .slice a2 el2.length c2, .slice b2 pl2.length d2] X → (X.cell? ⟨w.heap.size, 0, none⟩ = some (.string log1) ∧ X.cell? ⟨w.heap.size, 1, none⟩ = some (.int .i64 size1) ∧ X.cell? ⟨w.heap.size, 2, none⟩ = some (.string root1) ∧ X.cell? ⟨w.heap.size, 3, none⟩ = some (.int .i64 time1) ∧ X.cell? ⟨w.heap.size, 4, none⟩ = some (.int .i64 k1) ∧ X.cell? ⟨w.heap.size, 5, none⟩ = some (.slice a1 el1.length c1) ∧ X.cell? ⟨w.heap.size, 6, none⟩ = some (.slice b1 pl1.length d1)) ∧ (X.cell? ⟨w.heap.size + 1, 0, none⟩ = some (.string log2) ∧ X.cell? ⟨w.heap.size + 1, 1, none⟩ = some (.int .i64 size2) ∧ X.cell? ⟨w.heap.size + 1, 2, none⟩ = some (.string root2) ∧ X.cell? ⟨w.heap.size + 1, 3, none⟩ = some (.int .i64 time2) ∧ X.cell? ⟨w.heap.size + 1, 4, none⟩ = some (.int .i64 k2) ∧ X.cell? ⟨w.heap.size + 1, 5, none⟩ = some (.slice a2 el2.length c2) ∧ X.cell? ⟨w.heap.size + 1, 6, none⟩ = some (.slice b2 pl2.length d2))) := fun X h => ⟨(seven_cells (Below.refl X.heap.size X) (Nat.lt_of_succ_lt h.lt) h.2.1).1, (seven_cells (Below.refl X.heap.size X) h.lt h.2.2).1⟩
  have Z1 : Hid (∀ X left, ConfIn w #[.string log1, .int .i64 size1, .string root1, .int .i64 time1, .int .i64 k1, .slice a1 el1.length c1, .slice b1 pl1.length d1] #[.string log2, .int .i64 size2, .string root2, .int .i64 time2, .int .i64 k2, .slice a2 el2.length c2, .slice b2 pl2.length d2] X → 0 ≤ left → left ≤ 1048576 → Calls Try.prog 6 #[.agg #[.string log1, .int .i64 size1, .string root1, .int .i64 time1, .int .i64 k1, .slice a1 el1.length c1, .slice b1 pl1.length d1], .int .i64 left] X fun e w' => ∃ r : Int, e = .returned (.int .i64 r) ∧ r ≤ 1048576 ∧ (r < 0 ∨ (log1.size ≤ 1048576 ∧ root1.size ≤ 1048576 ∧ el1.length ≤ 1048576 ∧ pl1.length ≤ 1048576)) ∧ ConfIn w #[.string log1, .int .i64 size1, .string root1, .int .i64 time1, .int .i64 k1, .slice a1 el1.length c1, .slice b1 pl1.length d1] #[.string log2, .int .i64 size2, .string root2, .int .i64 time2, .int .i64 k2, .slice a2 el2.length c2, .slice b2 pl2.length d2] w') := fun X left h x y =>
    (szHead_any log1 root1 size1 time1 k1 _ _ el1 pl1 left X ⟨(HTA.out.1.1.below h.1).up h.1.size, HTA.out.1.2⟩ ⟨(HTA.out.2.1.1.below h.1).up h.1.size, HTA.out.2.1.2⟩ x y hlog1 hroot1).mono fun e w' ⟨r, p, _, q, s, t⟩ => ⟨r, p, q, s, h.below t⟩
  have Z2 : Hid (∀ X left, ConfIn w #[.string log1, .int .i64 size1, .string root1, .int .i64 time1, .int .i64 k1, .slice a1 el1.length c1, .slice b1 pl1.length d1] #[.string log2, .int .i64 size2, .string root2, .int .i64 time2, .int .i64 k2, .slice a2 el2.length c2, .slice b2 pl2.length d2] X → 0 ≤ left → left ≤ 1048576 → Calls Try.prog 6 #[.agg #[.string log2, .int .i64 size2, .string root2, .int .i64 time2, .int .i64 k2, .slice a2 el2.length c2, .slice b2 pl2.length d2], .int .i64 left] X fun e w' => ∃ r : Int, e = .returned (.int .i64 r) ∧ r ≤ 1048576 ∧ (r < 0 ∨ (log2.size ≤ 1048576 ∧ root2.size ≤ 1048576 ∧ el2.length ≤ 1048576 ∧ pl2.length ≤ 1048576)) ∧ ConfIn w #[.string log1, .int .i64 size1, .string root1, .int .i64 time1, .int .i64 k1, .slice a1 el1.length c1, .slice b1 pl1.length d1] #[.string log2, .int .i64 size2, .string root2, .int .i64 time2, .int .i64 k2, .slice a2 el2.length c2, .slice b2 pl2.length d2] w') := fun X left h x y =>
    (szHead_any log2 root2 size2 time2 k2 _ _ el2 pl2 left X ⟨(HTA.out.2.2.1.1.below h.1).up h.1.size, HTA.out.2.2.1.2⟩ ⟨(HTA.out.2.2.2.1.below h.1).up h.1.size, HTA.out.2.2.2.2⟩ x y hlog2 hroot2).mono fun e w' ⟨r, p, _, q, s, t⟩ => ⟨r, p, q, s, h.below t⟩
  clear h1 h1' h2 h2' hW hlog1 hroot1 hlog2 hroot2
  obtain ⟨⟨x0, x1, x2, x3, x4, x5, x6⟩, ⟨y0, y1, y2, y3, y4, y5, y6⟩⟩ := HC.out W I0.out
  go_enter Try.func5, Try.ntmps5
  go_wp2_with fail
  rw [← HW.out]
  clear HW
  refine (Z1.out _ _ I0.out (by omega) (by omega)).mono ?_
  rintro e w1 ⟨r1, rfl, hr1, hq1, hi1⟩
  have I1 : Hid (ConfIn w #[.string log1, .int .i64 size1, .string root1, .int .i64 time1, .int .i64 k1, .slice a1 el1.length c1, .slice b1 pl1.length d1] #[.string log2, .int .i64 size2, .string root2, .int .i64 time2, .int .i64 k2, .slice a2 el2.length c2, .slice b2 pl2.length d2] w1) := hi1
  clear x0 x1 x2 x3 x4 x5 x6 y0 y1 y2 y3 y4 y5 y6 hi1 I0
  by_cases hneg1 : r1 < 0
  · clear hq1
    go_wp2
    go_ret
    exact ⟨rfl, I1.out.1⟩
  have L1 : Hid (log1.size ≤ 1048576 ∧ root1.size ≤ 1048576 ∧ el1.length ≤ 1048576 ∧ pl1.length ≤ 1048576) := by
    rcases hq1 with h | h
    · omega
    · exact h
  clear hq1
  obtain ⟨⟨x0, x1, x2, x3, x4, x5, x6⟩, ⟨y0, y1, y2, y3, y4, y5, y6⟩⟩ := HC.out _ I1.out
  go_wp2_with fail
  refine (Z2.out _ _ I1.out (by omega) (by omega)).mono ?_
  rintro e w2 ⟨r2, rfl, hr2, hq2, hi2⟩
  have I2 : Hid (ConfIn w #[.string log1, .int .i64 size1, .string root1, .int .i64 time1, .int .i64 k1, .slice a1 el1.length c1, .slice b1 pl1.length d1] #[.string log2, .int .i64 size2, .string root2, .int .i64 time2, .int .i64 k2, .slice a2 el2.length c2, .slice b2 pl2.length d2] w2) := hi2
  clear x0 x1 x2 x3 x4 x5 x6 y0 y1 y2 y3 y4 y5 y6 hi2 I1
  by_cases hneg2 : r2 < 0
  · clear hq2
    go_wp2
    go_ret
    exact ⟨rfl, I2.out.1⟩
  have L2 : Hid (log2.size ≤ 1048576 ∧ root2.size ≤ 1048576 ∧ el2.length ≤ 1048576 ∧ pl2.length ≤ 1048576) := by
    rcases hq2 with h | h
    · omega
    · exact h
  clear hq2
  have T1 : Hid (∀ X, ConfIn w #[.string log1, .int .i64 size1, .string root1, .int .i64 time1, .int .i64 k1, .slice a1 el1.length c1, .slice b1 pl1.length d1] #[.string log2, .int .i64 size2, .string root2, .int .i64 time2, .int .i64 k2, .slice a2 el2.length c2, .slice b2 pl2.length d2] X → Calls Try.prog 8 #[.agg #[.string log1, .int .i64 size1, .string root1, .int .i64 time1, .int .i64 k1, .slice a1 el1.length c1, .slice b1 pl1.length d1]] X fun e w' => ∃ ue up, e = .returned (.agg #[.string log1, .int .i64 size1, .string root1, .int .i64 time1, .int .i64 k1, ue, up]) ∧ Texts w' w'.heap.size ue el1 ∧ Texts w' w'.heap.size up pl1 ∧ ConfIn w #[.string log1, .int .i64 size1, .string root1, .int .i64 time1, .int .i64 k1, .slice a1 el1.length c1, .slice b1 pl1.length d1] #[.string log2, .int .i64 size2, .string root2, .int .i64 time2, .int .i64 k2, .slice a2 el2.length c2, .slice b2 pl2.length d2] w' ∧ Below X.heap.size X w') := fun X h => (toHead_any log1 root1 size1 time1 k1 _ _ el1 pl1 X ((HTA.out.1.1.below h.1).up h.1.size) ((HTA.out.2.1.1.below h.1).up h.1.size) L1.out.2.2.1 L1.out.2.2.2).mono fun e w' ⟨ue, up, _, p, o1, o2, _, _, _, hb⟩ => ⟨ue, up, p, o1.texts, o2.texts, h.below hb, hb⟩
  have T2 : Hid (∀ X, ConfIn w #[.string log1, .int .i64 size1, .string root1, .int .i64 time1, .int .i64 k1, .slice a1 el1.length c1, .slice b1 pl1.length d1] #[.string log2, .int .i64 size2, .string root2, .int .i64 time2, .int .i64 k2, .slice a2 el2.length c2, .slice b2 pl2.length d2] X → Calls Try.prog 8 #[.agg #[.string log2, .int .i64 size2, .string root2, .int .i64 time2, .int .i64 k2, .slice a2 el2.length c2, .slice b2 pl2.length d2]] X fun e w' => ∃ ue up, e = .returned (.agg #[.string log2, .int .i64 size2, .string root2, .int .i64 time2, .int .i64 k2, ue, up]) ∧ Texts w' w'.heap.size ue el2 ∧ Texts w' w'.heap.size up pl2 ∧ ConfIn w #[.string log1, .int .i64 size1, .string root1, .int .i64 time1, .int .i64 k1, .slice a1 el1.length c1, .slice b1 pl1.length d1] #[.string log2, .int .i64 size2, .string root2, .int .i64 time2, .int .i64 k2, .slice a2 el2.length c2, .slice b2 pl2.length d2] w' ∧ Below X.heap.size X w') := fun X h => (toHead_any log2 root2 size2 time2 k2 _ _ el2 pl2 X ((HTA.out.2.2.1.1.below h.1).up h.1.size) ((HTA.out.2.2.2.1.below h.1).up h.1.size) L2.out.2.2.1 L2.out.2.2.2).mono fun e w' ⟨ue, up, _, p, o1, o2, _, _, _, hb⟩ => ⟨ue, up, p, o1.texts, o2.texts, h.below hb, hb⟩
  have ES : Hid (∀ ue up xe xp X, ConfIn w #[.string log1, .int .i64 size1, .string root1, .int .i64 time1, .int .i64 k1, .slice a1 el1.length c1, .slice b1 pl1.length d1] #[.string log2, .int .i64 size2, .string root2, .int .i64 time2, .int .i64 k2, .slice a2 el2.length c2, .slice b2 pl2.length d2] X → Texts X X.heap.size ue el1 → Texts X X.heap.size up pl1 → Texts X X.heap.size xe el2 → Texts X X.heap.size xp pl2 → Calls Try.prog 13 #[.agg #[.string log1, .int .i64 size1, .string root1, .int .i64 time1, .int .i64 k1, ue, up], .agg #[.string log2, .int .i64 size2, .string root2, .int .i64 time2, .int .i64 k2, xe, xp]] X fun e w' => e = .returned (.bool (confB (headRB log1 size1 root1 time1 k1 el1 pl1) (headRB log2 size2 root2 time2 k2 el2 pl2) log1 log2 size1 size2 root1 root2)) ∧ ConfIn w #[.string log1, .int .i64 size1, .string root1, .int .i64 time1, .int .i64 k1, .slice a1 el1.length c1, .slice b1 pl1.length d1] #[.string log2, .int .i64 size2, .string root2, .int .i64 time2, .int .i64 k2, .slice a2 el2.length c2, .slice b2 pl2.length d2] w') := fun ue up xe xp X h a b c d => (specConf_any log1 root1 size1 time1 k1 ue up el1 pl1 log2 root2 size2 time2 k2 xe xp el2 pl2 X a b L1.out.2.2.1 L1.out.2.2.2 L1.out.1 L1.out.2.1 c d L2.out.2.2.1 L2.out.2.2.2 L2.out.1 L2.out.2.1).mono fun e w' g => ⟨g.1, h.below g.2⟩
  have EI : Hid (∀ ue up xe xp X, Texts X X.heap.size ue el1 → Texts X X.heap.size up pl1 → Texts X X.heap.size xe el2 → Texts X X.heap.size xp pl2 → Calls Try.prog 14 #[.agg #[.string log1, .int .i64 size1, .string root1, .int .i64 time1, .int .i64 k1, ue, up], .agg #[.string log2, .int .i64 size2, .string root2, .int .i64 time2, .int .i64 k2, xe, xp]] X fun e w' => e = .returned (.bool (confB (headRB log1 size1 root1 time1 k1 el1 pl1) (headRB log2 size2 root2 time2 k2 el2 pl2) log1 log2 size1 size2 root1 root2)) ∧ Below X.heap.size X w') := fun ue up xe xp X a b c d => implConf_any log1 root1 size1 time1 k1 ue up el1 pl1 log2 root2 size2 time2 k2 xe xp el2 pl2 X a b L1.out.2.2.1 L1.out.2.2.2 L1.out.1 L1.out.2.1 c d L2.out.2.2.1 L2.out.2.2.2 L2.out.1 L2.out.2.1
  have Q1 : Hid (∀ (xe xp ue up : Value) (w : World), Texts w w.heap.size xe el1 → Texts w w.heap.size xp pl1 → Texts w w.heap.size ue el1 → Texts w w.heap.size up pl1 → Calls Try.prog 10 #[.agg #[.string log1, .int .i64 size1, .string root1, .int .i64 time1, .int .i64 k1, xe, xp], .agg #[.string log1, .int .i64 size1, .string root1, .int .i64 time1, .int .i64 k1, ue, up]] w fun e w' => e = .returned (.bool true) ∧ Below w.heap.size w w') := fun xe xp ue up w a b c d => eqHead_any log1 root1 size1 time1 k1 xe xp ue up el1 pl1 w a b c d (Nat.le_succ_of_le L1.out.2.2.1) (Nat.le_succ_of_le L1.out.2.2.2)
  have Q2 : Hid (∀ (xe xp ue up : Value) (w : World), Texts w w.heap.size xe el2 → Texts w w.heap.size xp pl2 → Texts w w.heap.size ue el2 → Texts w w.heap.size up pl2 → Calls Try.prog 10 #[.agg #[.string log2, .int .i64 size2, .string root2, .int .i64 time2, .int .i64 k2, xe, xp], .agg #[.string log2, .int .i64 size2, .string root2, .int .i64 time2, .int .i64 k2, ue, up]] w fun e w' => e = .returned (.bool true) ∧ Below w.heap.size w w') := fun xe xp ue up w a b c d => eqHead_any log2 root2 size2 time2 k2 xe xp ue up el2 pl2 w a b c d (Nat.le_succ_of_le L2.out.2.2.1) (Nat.le_succ_of_le L2.out.2.2.2)
  generalize confB (headRB log1 size1 root1 time1 k1 el1 pl1) (headRB log2 size2 root2 time2 k2 el2 pl2) log1 log2 size1 size2 root1 root2 = V at *
  have hVV : (V != V) = false := by simp
  clear HTA Z1 Z2
  have HS : Hid (∀ X, ConfIn w #[.string log1, .int .i64 size1, .string root1, .int .i64 time1, .int .i64 k1, .slice a1 el1.length c1, .slice b1 pl1.length d1] #[.string log2, .int .i64 size2, .string root2, .int .i64 time2, .int .i64 k2, .slice a2 el2.length c2, .slice b2 pl2.length d2] X → (X.cell? ⟨w.heap.size, 0, none⟩ = some (.string log1) ∧ X.cell? ⟨w.heap.size, 1, none⟩ = some (.int .i64 size1) ∧ X.cell? ⟨w.heap.size, 2, none⟩ = some (.string root1) ∧ X.cell? ⟨w.heap.size, 3, none⟩ = some (.int .i64 time1) ∧ X.cell? ⟨w.heap.size, 4, none⟩ = some (.int .i64 k1) ∧ X.cell? ⟨w.heap.size, 5, none⟩ = some (.slice a1 el1.length c1) ∧ X.cell? ⟨w.heap.size, 6, none⟩ = some (.slice b1 pl1.length d1)) ∧ (X.cell? ⟨w.heap.size + 1, 0, none⟩ = some (.string log2) ∧ X.cell? ⟨w.heap.size + 1, 1, none⟩ = some (.int .i64 size2) ∧ X.cell? ⟨w.heap.size + 1, 2, none⟩ = some (.string root2) ∧ X.cell? ⟨w.heap.size + 1, 3, none⟩ = some (.int .i64 time2) ∧ X.cell? ⟨w.heap.size + 1, 4, none⟩ = some (.int .i64 k2) ∧ X.cell? ⟨w.heap.size + 1, 5, none⟩ = some (.slice a2 el2.length c2) ∧ X.cell? ⟨w.heap.size + 1, 6, none⟩ = some (.slice b2 pl2.length d2))) := HC.out
  obtain ⟨⟨x0, x1, x2, x3, x4, x5, x6⟩, ⟨y0, y1, y2, y3, y4, y5, y6⟩⟩ := HC.out _ I2.out
  have I2d : Hid (ConfIn w #[.string log1, .int .i64 size1, .string root1, .int .i64 time1, .int .i64 k1, .slice a1 el1.length c1, .slice b1 pl1.length d1] #[.string log2, .int .i64 size2, .string root2, .int .i64 time2, .int .i64 k2, .slice a2 el2.length c2, .slice b2 pl2.length d2] w2.drew) := I2.out.drew
  go_wp2_with fail
  go_region_held3 (fun X => (X.cell? ⟨w.heap.size, 0, none⟩ = some (.string log1) ∧ X.cell? ⟨w.heap.size, 1, none⟩ = some (.int .i64 size1) ∧ X.cell? ⟨w.heap.size, 2, none⟩ = some (.string root1) ∧ X.cell? ⟨w.heap.size, 3, none⟩ = some (.int .i64 time1) ∧ X.cell? ⟨w.heap.size, 4, none⟩ = some (.int .i64 k1) ∧ X.cell? ⟨w.heap.size, 5, none⟩ = some (.slice a1 el1.length c1) ∧ X.cell? ⟨w.heap.size, 6, none⟩ = some (.slice b1 pl1.length d1)) ∧ (X.cell? ⟨w.heap.size + 1, 0, none⟩ = some (.string log2) ∧ X.cell? ⟨w.heap.size + 1, 1, none⟩ = some (.int .i64 size2) ∧ X.cell? ⟨w.heap.size + 1, 2, none⟩ = some (.string root2) ∧ X.cell? ⟨w.heap.size + 1, 3, none⟩ = some (.int .i64 time2) ∧ X.cell? ⟨w.heap.size + 1, 4, none⟩ = some (.int .i64 k2) ∧ X.cell? ⟨w.heap.size + 1, 5, none⟩ = some (.slice a2 el2.length c2) ∧ X.cell? ⟨w.heap.size + 1, 6, none⟩ = some (.slice b2 pl2.length d2))) (go_keep)
    (first
      | (go_at_call 8; (with_reducible refine (T1.out _ ?_).mono ?_); (first | exact I2.out | exact I2d.out); rintro e wa ⟨ue, up, rfl, hte, htp, hin, _⟩; have IA : Hid (ConfIn w #[.string log1, .int .i64 size1, .string root1, .int .i64 time1, .int .i64 k1, .slice a1 el1.length c1, .slice b1 pl1.length d1] #[.string log2, .int .i64 size2, .string root2, .int .i64 time2, .int .i64 k2, .slice a2 el2.length c2, .slice b2 pl2.length d2] wa ∧ Texts wa wa.heap.size ue el1 ∧ Texts wa wa.heap.size up pl1) := ⟨hin, hte, htp⟩; obtain ⟨⟨p0, p1, p2, p3, p4, p5, p6⟩, ⟨q0, q1, q2, q3, q4, q5, q6⟩⟩ := HC.out _ hin; clear hin hte htp)
      | (go_at_call 8; (with_reducible refine (T2.out _ ?_).mono ?_); exact IA.out.1; rintro e wb ⟨xe, xp, rfl, hte, htp, hin, hbb⟩; have IB : Hid (ConfIn w #[.string log1, .int .i64 size1, .string root1, .int .i64 time1, .int .i64 k1, .slice a1 el1.length c1, .slice b1 pl1.length d1] #[.string log2, .int .i64 size2, .string root2, .int .i64 time2, .int .i64 k2, .slice a2 el2.length c2, .slice b2 pl2.length d2] wb ∧ (Texts wb wb.heap.size ue el1 ∧ Texts wb wb.heap.size up pl1) ∧ Texts wb wb.heap.size xe el2 ∧ Texts wb wb.heap.size xp pl2) := ⟨hin, ⟨(IA.out.2.1.below hbb).up hbb.size, (IA.out.2.2.below hbb).up hbb.size⟩, hte, htp⟩; obtain ⟨⟨s0, s1, s2, s3, s4, s5, s6⟩, ⟨t0, t1, t2, t3, t4, t5, t6⟩⟩ := HC.out _ hin; clear hin hte htp hbb)
      | (go_at_call 13; (with_reducible refine (ES.out _ _ _ _ _ ?_ ?_ ?_ ?_ ?_).mono ?_); exact IB.out.1; exact IB.out.2.1.1; exact IB.out.2.1.2; exact IB.out.2.2.1; exact IB.out.2.2.2; rintro e w3 ⟨rfl, hin⟩; have I3 : Hid (ConfIn w #[.string log1, .int .i64 size1, .string root1, .int .i64 time1, .int .i64 k1, .slice a1 el1.length c1, .slice b1 pl1.length d1] #[.string log2, .int .i64 size2, .string root2, .int .i64 time2, .int .i64 k2, .slice a2 el2.length c2, .slice b2 pl2.length d2] w3) := hin; obtain ⟨⟨u0, u1, u2, u3, u4, u5, u6⟩, ⟨v0, v1, v2, v3, v4, v5, v6⟩⟩ := HC.out _ hin; clear hin))
  all_goals
    clear x0 x1 x2 x3 x4 x5 x6 y0 y1 y2 y3 y4 y5 y6 p0 p1 p2 p3 p4 p5 p6 q0 q1 q2 q3 q4 q5 q6 s0 s1 s2 s3 s4 s5 s6 t0 t1 t2 t3 t4 t5 t6 I2 I2d IA IB ES
    go_wp2_with fail
    refine (T1.out _ I3.out).mono ?_
    rintro e w4 ⟨fe, fp, rfl, hte, htp, hin, _⟩
    obtain ⟨a3, c3, rfl, _⟩ := id hte
    obtain ⟨b3, d3, rfl, _⟩ := id htp
    obtain ⟨W4, hW4⟩ : ∃ W, W = w4.alloc (.cells #[.string log1, .int .i64 size1, .string root1, .int .i64 time1, .int .i64 k1, .slice a3 el1.length c3, .slice b3 pl1.length d3] 31) := ⟨_, rfl⟩
    have hal : Below w4.heap.size w4 W4 := by rw [hW4]; exact (Below.refl _ _).alloc (Nat.le_refl _) _
    have I4 : Hid (ConfIn w #[.string log1, .int .i64 size1, .string root1, .int .i64 time1, .int .i64 k1, .slice a1 el1.length c1, .slice b1 pl1.length d1] #[.string log2, .int .i64 size2, .string root2, .int .i64 time2, .int .i64 k2, .slice a2 el2.length c2, .slice b2 pl2.length d2] W4 ∧ Texts W4 w4.heap.size (.slice a3 el1.length c3) el1 ∧ Texts W4 w4.heap.size (.slice b3 pl1.length d3) pl1 ∧ W4.heap[w4.heap.size]? = some (.cells #[.string log1, .int .i64 size1, .string root1, .int .i64 time1, .int .i64 k1, .slice a3 el1.length c3, .slice b3 pl1.length d3] 31 (0, 0)) ∧ w4.heap.size < W4.heap.size) := ⟨hin.below hal, hte.below hal, htp.below hal, by rw [hW4]; exact heap_alloc_new w4 _, by rw [hW4]; simp⟩
    have HW4 : Hid (W4 = w4.alloc (.cells #[.string log1, .int .i64 size1, .string root1, .int .i64 time1, .int .i64 k1, .slice a3 el1.length c3, .slice b3 pl1.length d3] 31)) := hW4
    have hin4 := HC.out _ hin
    clear hte htp hin hal hW4 I3 u0 u1 u2 u3 u4 u5 u6 v0 v1 v2 v3 v4 v5 v6
    obtain ⟨⟨x0, x1, x2, x3, x4, x5, x6⟩, ⟨y0, y1, y2, y3, y4, y5, y6⟩⟩ := hin4
    have hlt4 : w.heap.size + 1 < w4.heap.size := block_lt_of_cell y0
    go_wp2_with fail
    rw [← HW4.out]
    clear HW4 x0 x1 x2 x3 x4 x5 x6 y0 y1 y2 y3 y4 y5 y6 hlt4
    generalize hq : w4.heap.size = q at *
    clear hq
    refine (T2.out _ I4.out.1).mono ?_
    rintro e w5 ⟨ge, gp, rfl, hte, htp, hin, hb5⟩
    obtain ⟨a4, c4, rfl, _⟩ := id hte
    obtain ⟨b4, d4, rfl, _⟩ := id htp
    obtain ⟨W5, hW5⟩ : ∃ W, W = w5.alloc (.cells #[.string log2, .int .i64 size2, .string root2, .int .i64 time2, .int .i64 k2, .slice a4 el2.length c4, .slice b4 pl2.length d4] 31) := ⟨_, rfl⟩
    have hal : Below w5.heap.size w5 W5 := by rw [hW5]; exact (Below.refl _ _).alloc (Nat.le_refl _) _
    have hq5 : q < w5.heap.size := Nat.lt_of_lt_of_le I4.out.2.2.2.2 hb5.size
    have hb45 : Below W4.heap.size W4 W5 := hb5.trans (hal.mono hb5.size)
    have I5 : Hid (ConfIn w #[.string log1, .int .i64 size1, .string root1, .int .i64 time1, .int .i64 k1, .slice a1 el1.length c1, .slice b1 pl1.length d1] #[.string log2, .int .i64 size2, .string root2, .int .i64 time2, .int .i64 k2, .slice a2 el2.length c2, .slice b2 pl2.length d2] W5 ∧ (Texts W5 q (.slice a3 el1.length c3) el1 ∧ Texts W5 q (.slice b3 pl1.length d3) pl1) ∧ (Texts W5 w5.heap.size (.slice a4 el2.length c4) el2 ∧ Texts W5 w5.heap.size (.slice b4 pl2.length d4) pl2) ∧ W5.heap[q]? = some (.cells #[.string log1, .int .i64 size1, .string root1, .int .i64 time1, .int .i64 k1, .slice a3 el1.length c3, .slice b3 pl1.length d3] 31 (0, 0)) ∧ W5.heap[w5.heap.size]? = some (.cells #[.string log2, .int .i64 size2, .string root2, .int .i64 time2, .int .i64 k2, .slice a4 el2.length c4, .slice b4 pl2.length d4] 31 (0, 0)) ∧ q < w5.heap.size ∧ w5.heap.size < W5.heap.size) := ⟨hin.below hal, ⟨I4.out.2.1.below (hb45.mono (Nat.le_of_lt I4.out.2.2.2.2)), I4.out.2.2.1.below (hb45.mono (Nat.le_of_lt I4.out.2.2.2.2))⟩, ⟨hte.below hal, htp.below hal⟩, (hb45.block _ I4.out.2.2.2.2).trans I4.out.2.2.2.1, by rw [hW5]; exact heap_alloc_new w5 _, hq5, by rw [hW5]; simp⟩
    have HW5 : Hid (W5 = w5.alloc (.cells #[.string log2, .int .i64 size2, .string root2, .int .i64 time2, .int .i64 k2, .slice a4 el2.length c4, .slice b4 pl2.length d4] 31)) := hW5
    have k5 := (hb5.block _ I4.out.2.2.2.2).trans I4.out.2.2.2.1
    obtain ⟨⟨x0, x1, x2, x3, x4, x5, x6⟩, _⟩ := seven_cells (Below.refl w5.heap.size w5) hq5 k5
    clear hte htp hin hal hW5 hb5 hb45 I4 k5
    go_wp2_with fail
    rw [← HW5.out]
    clear HW5 x0 x1 x2 x3 x4 x5 x6 hq5
    generalize hp : w5.heap.size = p at *
    clear hp
    have hpW : p ≤ W5.heap.size := Nat.le_of_lt I5.out.2.2.2.2.2.2
    have hqW : q ≤ W5.heap.size := Nat.le_trans (Nat.le_of_lt I5.out.2.2.2.2.2.1) hpW
    refine (EI.out _ _ _ _ _ (I5.out.2.1.1.up hqW) (I5.out.2.1.2.up hqW) (I5.out.2.2.1.1.up hpW) (I5.out.2.2.1.2.up hpW)).mono ?_
    rintro e w6 ⟨rfl, hb6⟩
    have I6 : Hid (ConfIn w #[.string log1, .int .i64 size1, .string root1, .int .i64 time1, .int .i64 k1, .slice a1 el1.length c1, .slice b1 pl1.length d1] #[.string log2, .int .i64 size2, .string root2, .int .i64 time2, .int .i64 k2, .slice a2 el2.length c2, .slice b2 pl2.length d2] w6 ∧ (Texts w6 q (.slice a3 el1.length c3) el1 ∧ Texts w6 q (.slice b3 pl1.length d3) pl1) ∧ (Texts w6 p (.slice a4 el2.length c4) el2 ∧ Texts w6 p (.slice b4 pl2.length d4) pl2) ∧ w6.heap[q]? = some (.cells #[.string log1, .int .i64 size1, .string root1, .int .i64 time1, .int .i64 k1, .slice a3 el1.length c3, .slice b3 pl1.length d3] 31 (0, 0)) ∧ w6.heap[p]? = some (.cells #[.string log2, .int .i64 size2, .string root2, .int .i64 time2, .int .i64 k2, .slice a4 el2.length c4, .slice b4 pl2.length d4] 31 (0, 0)) ∧ q < p ∧ p < w6.heap.size) := ⟨I5.out.1.below hb6, ⟨I5.out.2.1.1.below (hb6.mono hqW), I5.out.2.1.2.below (hb6.mono hqW)⟩, ⟨I5.out.2.2.1.1.below (hb6.mono hpW), I5.out.2.2.1.2.below (hb6.mono hpW)⟩, (hb6.block _ (Nat.lt_trans I5.out.2.2.2.2.2.1 I5.out.2.2.2.2.2.2)).trans I5.out.2.2.2.1, (hb6.block _ I5.out.2.2.2.2.2.2).trans I5.out.2.2.2.2.1, I5.out.2.2.2.2.2.1, Nat.lt_of_lt_of_le I5.out.2.2.2.2.2.2 hb6.size⟩
    clear hb6 I5 EI hpW hqW
    have NX : Hid (∀ X Y, Below X.heap.size X Y → (ConfIn w #[.string log1, .int .i64 size1, .string root1, .int .i64 time1, .int .i64 k1, .slice a1 el1.length c1, .slice b1 pl1.length d1] #[.string log2, .int .i64 size2, .string root2, .int .i64 time2, .int .i64 k2, .slice a2 el2.length c2, .slice b2 pl2.length d2] X ∧ (Texts X q (.slice a3 el1.length c3) el1 ∧ Texts X q (.slice b3 pl1.length d3) pl1) ∧ (Texts X p (.slice a4 el2.length c4) el2 ∧ Texts X p (.slice b4 pl2.length d4) pl2) ∧ X.heap[q]? = some (.cells #[.string log1, .int .i64 size1, .string root1, .int .i64 time1, .int .i64 k1, .slice a3 el1.length c3, .slice b3 pl1.length d3] 31 (0, 0)) ∧ X.heap[p]? = some (.cells #[.string log2, .int .i64 size2, .string root2, .int .i64 time2, .int .i64 k2, .slice a4 el2.length c4, .slice b4 pl2.length d4] 31 (0, 0)) ∧ q < p ∧ p < X.heap.size) → (ConfIn w #[.string log1, .int .i64 size1, .string root1, .int .i64 time1, .int .i64 k1, .slice a1 el1.length c1, .slice b1 pl1.length d1] #[.string log2, .int .i64 size2, .string root2, .int .i64 time2, .int .i64 k2, .slice a2 el2.length c2, .slice b2 pl2.length d2] Y ∧ (Texts Y q (.slice a3 el1.length c3) el1 ∧ Texts Y q (.slice b3 pl1.length d3) pl1) ∧ (Texts Y p (.slice a4 el2.length c4) el2 ∧ Texts Y p (.slice b4 pl2.length d4) pl2) ∧ Y.heap[q]? = some (.cells #[.string log1, .int .i64 size1, .string root1, .int .i64 time1, .int .i64 k1, .slice a3 el1.length c3, .slice b3 pl1.length d3] 31 (0, 0)) ∧ Y.heap[p]? = some (.cells #[.string log2, .int .i64 size2, .string root2, .int .i64 time2, .int .i64 k2, .slice a4 el2.length c4, .slice b4 pl2.length d4] 31 (0, 0)) ∧ q < p ∧ p < Y.heap.size)) := fun X Y hb h => ⟨h.1.below hb, ⟨h.2.1.1.below (hb.mono (Nat.le_of_lt (Nat.lt_trans h.2.2.2.2.2.1 h.2.2.2.2.2.2))), h.2.1.2.below (hb.mono (Nat.le_of_lt (Nat.lt_trans h.2.2.2.2.2.1 h.2.2.2.2.2.2)))⟩, ⟨h.2.2.1.1.below (hb.mono (Nat.le_of_lt h.2.2.2.2.2.2)), h.2.2.1.2.below (hb.mono (Nat.le_of_lt h.2.2.2.2.2.2))⟩, (hb.block _ (Nat.lt_trans h.2.2.2.2.2.1 h.2.2.2.2.2.2)).trans h.2.2.2.1, (hb.block _ h.2.2.2.2.2.2).trans h.2.2.2.2.1, h.2.2.2.2.2.1, Nat.lt_of_lt_of_le h.2.2.2.2.2.2 hb.size⟩
    have J6 : Hid (ConfIn w #[.string log1, .int .i64 size1, .string root1, .int .i64 time1, .int .i64 k1, .slice a1 el1.length c1, .slice b1 pl1.length d1] #[.string log2, .int .i64 size2, .string root2, .int .i64 time2, .int .i64 k2, .slice a2 el2.length c2, .slice b2 pl2.length d2] w6.drew) := I6.out.1.drew
    obtain ⟨⟨x0, x1, x2, x3, x4, x5, x6⟩, ⟨y0, y1, y2, y3, y4, y5, y6⟩⟩ := HC.out _ I6.out.1
    obtain ⟨⟨p0, p1, p2, p3, p4, p5, p6⟩, _⟩ := seven_cells (Below.refl w6.heap.size w6) (Nat.lt_trans I6.out.2.2.2.2.2.1 I6.out.2.2.2.2.2.2) I6.out.2.2.2.1
    go_wp2_with fail
    go_region_held3 (fun X => (X.cell? ⟨w.heap.size, 0, none⟩ = some (.string log1) ∧ X.cell? ⟨w.heap.size, 1, none⟩ = some (.int .i64 size1) ∧ X.cell? ⟨w.heap.size, 2, none⟩ = some (.string root1) ∧ X.cell? ⟨w.heap.size, 3, none⟩ = some (.int .i64 time1) ∧ X.cell? ⟨w.heap.size, 4, none⟩ = some (.int .i64 k1) ∧ X.cell? ⟨w.heap.size, 5, none⟩ = some (.slice a1 el1.length c1) ∧ X.cell? ⟨w.heap.size, 6, none⟩ = some (.slice b1 pl1.length d1)) ∧ (X.cell? ⟨q, 0, none⟩ = some (.string log1) ∧ X.cell? ⟨q, 1, none⟩ = some (.int .i64 size1) ∧ X.cell? ⟨q, 2, none⟩ = some (.string root1) ∧ X.cell? ⟨q, 3, none⟩ = some (.int .i64 time1) ∧ X.cell? ⟨q, 4, none⟩ = some (.int .i64 k1) ∧ X.cell? ⟨q, 5, none⟩ = some (.slice a3 el1.length c3) ∧ X.cell? ⟨q, 6, none⟩ = some (.slice b3 pl1.length d3))) (go_keep)
      (first
        | (go_at_call 8; (with_reducible refine (T1.out _ ?_).mono ?_); (first | exact I6.out.1 | exact J6.out); rintro e w7 ⟨ze, zp, rfl, hte, htp, _, hb7⟩; have I7 := NX.out _ w7 (by first | exact hb7 | exact below_drew hb7) I6.out; have I7h : Hid (_ ∧ _) := I7; have T7 : Hid (Texts w7 w7.heap.size ze el1 ∧ Texts w7 w7.heap.size zp pl1) := ⟨hte, htp⟩; obtain ⟨⟨s0, s1, s2, s3, s4, s5, s6⟩, _⟩ := HC.out _ I7.1; obtain ⟨⟨t0, t1, t2, t3, t4, t5, t6⟩, _⟩ := seven_cells (Below.refl w7.heap.size w7) (Nat.lt_trans I7.2.2.2.2.2.1 I7.2.2.2.2.2.2) I7.2.2.2.1; clear hte htp hb7 I7)
        | (go_at_call 10; (with_reducible refine (Q1.out _ _ _ _ _ ?_ ?_ ?_ ?_).mono ?_); exact I7h.out.2.1.1.up (Nat.le_of_lt (Nat.lt_trans I7h.out.2.2.2.2.2.1 I7h.out.2.2.2.2.2.2)); exact I7h.out.2.1.2.up (Nat.le_of_lt (Nat.lt_trans I7h.out.2.2.2.2.2.1 I7h.out.2.2.2.2.2.2)); exact T7.out.1; exact T7.out.2; rintro e w8 ⟨rfl, hb8⟩; have I8 := NX.out _ _ hb8 I7h.out; have I8h : Hid (_ ∧ _) := I8; obtain ⟨⟨u0, u1, u2, u3, u4, u5, u6⟩, _⟩ := HC.out _ I8.1; obtain ⟨⟨v0, v1, v2, v3, v4, v5, v6⟩, _⟩ := seven_cells (Below.refl w8.heap.size w8) (Nat.lt_trans I8.2.2.2.2.2.1 I8.2.2.2.2.2.2) I8.2.2.2.1; clear hb8 I8))
    all_goals
      clear x0 x1 x2 x3 x4 x5 x6 y0 y1 y2 y3 y4 y5 y6 p0 p1 p2 p3 p4 p5 p6 s0 s1 s2 s3 s4 s5 s6 t0 t1 t2 t3 t4 t5 t6 u0 u1 u2 u3 u4 u5 u6 v0 v1 v2 v3 v4 v5 v6 I6 J6 I7h T7 T1 Q1
      have J8 : Hid (ConfIn w #[.string log1, .int .i64 size1, .string root1, .int .i64 time1, .int .i64 k1, .slice a1 el1.length c1, .slice b1 pl1.length d1] #[.string log2, .int .i64 size2, .string root2, .int .i64 time2, .int .i64 k2, .slice a2 el2.length c2, .slice b2 pl2.length d2] w8.drew) := I8h.out.1.drew
      obtain ⟨_, ⟨y0, y1, y2, y3, y4, y5, y6⟩⟩ := HC.out _ I8h.out.1
      obtain ⟨⟨p0, p1, p2, p3, p4, p5, p6⟩, _⟩ := seven_cells (Below.refl w8.heap.size w8) I8h.out.2.2.2.2.2.2 I8h.out.2.2.2.2.1
      go_wp2_with fail
      go_region_held3 (fun X => (X.cell? ⟨w.heap.size + 1, 0, none⟩ = some (.string log2) ∧ X.cell? ⟨w.heap.size + 1, 1, none⟩ = some (.int .i64 size2) ∧ X.cell? ⟨w.heap.size + 1, 2, none⟩ = some (.string root2) ∧ X.cell? ⟨w.heap.size + 1, 3, none⟩ = some (.int .i64 time2) ∧ X.cell? ⟨w.heap.size + 1, 4, none⟩ = some (.int .i64 k2) ∧ X.cell? ⟨w.heap.size + 1, 5, none⟩ = some (.slice a2 el2.length c2) ∧ X.cell? ⟨w.heap.size + 1, 6, none⟩ = some (.slice b2 pl2.length d2)) ∧ (X.cell? ⟨p, 0, none⟩ = some (.string log2) ∧ X.cell? ⟨p, 1, none⟩ = some (.int .i64 size2) ∧ X.cell? ⟨p, 2, none⟩ = some (.string root2) ∧ X.cell? ⟨p, 3, none⟩ = some (.int .i64 time2) ∧ X.cell? ⟨p, 4, none⟩ = some (.int .i64 k2) ∧ X.cell? ⟨p, 5, none⟩ = some (.slice a4 el2.length c4) ∧ X.cell? ⟨p, 6, none⟩ = some (.slice b4 pl2.length d4))) (go_keep)
        (first
          | (go_at_call 8; (with_reducible refine (T2.out _ ?_).mono ?_); (first | exact I8h.out.1 | exact J8.out); rintro e w9 ⟨ze, zp, rfl, hte, htp, _, hb9⟩; have I9 := NX.out _ w9 (by first | exact hb9 | exact below_drew hb9) I8h.out; have I9h : Hid (_ ∧ _) := I9; have T9 : Hid (Texts w9 w9.heap.size ze el2 ∧ Texts w9 w9.heap.size zp pl2) := ⟨hte, htp⟩; obtain ⟨_, ⟨s0, s1, s2, s3, s4, s5, s6⟩⟩ := HC.out _ I9.1; obtain ⟨⟨t0, t1, t2, t3, t4, t5, t6⟩, _⟩ := seven_cells (Below.refl w9.heap.size w9) I9.2.2.2.2.2.2 I9.2.2.2.2.1; clear hte htp hb9 I9)
          | (go_at_call 10; (with_reducible refine (Q2.out _ _ _ _ _ ?_ ?_ ?_ ?_).mono ?_); exact I9h.out.2.2.1.1.up (Nat.le_of_lt I9h.out.2.2.2.2.2.2); exact I9h.out.2.2.1.2.up (Nat.le_of_lt I9h.out.2.2.2.2.2.2); exact T9.out.1; exact T9.out.2; rintro e w10 ⟨rfl, hb10⟩; have I10 := NX.out _ _ hb10 I9h.out; have I10h : Hid (_ ∧ _) := I10; obtain ⟨_, ⟨u0, u1, u2, u3, u4, u5, u6⟩⟩ := HC.out _ I10.1; obtain ⟨⟨v0, v1, v2, v3, v4, v5, v6⟩, _⟩ := seven_cells (Below.refl w10.heap.size w10) I10.2.2.2.2.2.2 I10.2.2.2.2.1; clear hb10 I10))
      all_goals
        clear y0 y1 y2 y3 y4 y5 y6 p0 p1 p2 p3 p4 p5 p6 s0 s1 s2 s3 s4 s5 s6 t0 t1 t2 t3 t4 t5 t6 u0 u1 u2 u3 u4 u5 u6 v0 v1 v2 v3 v4 v5 v6
        go_wp2
        go_ret
        exact ⟨rfl, I10h.out.1.1⟩
end Go.Proofs.Ytbfejeeebfknjaa
