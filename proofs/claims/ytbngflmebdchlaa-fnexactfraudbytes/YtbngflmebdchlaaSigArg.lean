/-
  A signature that came in: its size, its copy.
-/
import Derived.Test.YtbngflmebdchlaaTextArg
import Derived.Test.YtbngflmebdchlaaOwnRow
import Derived.Test.YtbngflmebdchlaaTextIn
namespace Go.Proofs.Ytbngflmebdchlaa
open Go.RowKit Go.Lib
set_option linter.unusedVariables false
set_option linter.unusedSimpArgs false

theorem arr3 {cs : Array Value} {a b c : Value} (h : cs.size = 3) (h0 : ((Value.agg cs).cells.toList.drop 0).take 1 = [a]) (h1 : ((Value.agg cs).cells.toList.drop 1).take 1 = [b]) (h2 : ((Value.agg cs).cells.toList.drop 2).take 1 = [c]) : cs = #[a, b, c] := by
  have e : (Value.agg cs).cells = cs := rfl
  rw [e] at h0 h1 h2
  obtain ⟨l⟩ := cs
  match l, h with
  | [x, y, z], _ => simp at h0 h1 h2; rw [h0, h1, h2]

set_option maxHeartbeats 1000000 in
set_option maxRecDepth 10000 in
theorem szSig_any (k : Int) (ve vp : Value) (el pl : List ByteArray) (left : Int) (w : World) (h1 : TextsArg w ve el) (h2 : TextsArg w vp pl) (h0 : 0 ≤ left) (hle : left ≤ 1048576) :
    Calls Try.prog 39 #[.agg #[.int .i64 k, ve, vp], .int .i64 left] w fun e w' => ∃ r : Int, e = .returned (.int .i64 r) ∧ -1048577 ≤ r ∧ r ≤ 1048576 ∧ (r < 0 ∨ (el.length ≤ 1048576 ∧ pl.length ≤ 1048576)) ∧ Below w.heap.size w w' := by
  obtain ⟨W, hW⟩ : ∃ W, W = w.alloc (.cells #[.int .i64 k, ve, vp] 24) := ⟨_, rfl⟩
  have hbW : Below w.heap.size w W := by rw [hW]; exact (Below.refl _ _).alloc (Nat.le_refl _) _
  have E1 : Hid (Calls Try.prog 16 #[ve, .int .i64 left] W fun e w' => SzAns el e ∧ w' = W) := sz_any ve el left W _ (h1.1.below hbW) h1.2.1 h1.2.2 h0 hle
  have E2 : Hid (∀ r : Int, 0 ≤ r → r ≤ 1048576 → Calls Try.prog 16 #[vp, .int .i64 r] W fun e w' => SzAns pl e ∧ w' = W) := fun r a b => sz_any vp pl r W _ (h2.1.below hbW) h2.2.1 h2.2.2 a b
  have HB : Hid (Below w.heap.size w W) := hbW
  rw [hW] at E1 E2 HB
  clear h1 h2 hW hbW W
  go_enter Try.func39, Try.ntmps39
  go_wp2_with fail
  refine E1.out.mono ?_
  rintro e w1 ⟨⟨r, rfl, hr0, hr1, hr⟩, rfl⟩
  have HR : Hid (r < 0 ∨ (el.length ≤ 1048576 ∧ ∀ j (h : j < el.length), el[j].size ≤ 1048576)) := hr
  clear hr E1
  by_cases hneg : r < 0
  · go_wp2
    go_ret
    exact ⟨-1, rfl, by omega, by omega, .inl (by omega), HB.out⟩
  · go_wp2_with fail
    refine (E2.out r (by omega) hr1).mono ?_
    rintro e w2 ⟨⟨r2, rfl, hs0, hs1, hs⟩, rfl⟩
    have HR2 : Hid (r2 < 0 ∨ (pl.length ≤ 1048576 ∧ ∀ j (h : j < pl.length), pl[j].size ≤ 1048576)) := hs
    clear hs E2
    by_cases hneg2 : r2 < 0
    · go_wp2
      go_ret
      exact ⟨-1, rfl, by omega, by omega, .inl (by omega), HB.out⟩
    · go_wp2
      go_ret
      refine ⟨r2, rfl, hs0, hs1, .inr ⟨?_, ?_⟩, HB.out⟩
      · rcases HR.out with h | h
        · omega
        · exact h.1
      · rcases HR2.out with h | h
        · omega
        · exact h.1

/-- A signature whose rows are the call's own: the Ends ahead of n, the Path behind it. -/
def SigOwn (w : World) (k : Int) (el pl : List ByteArray) (e : Ending) (w' : World) : Prop :=
  ∃ ve vp n, e = .returned (.agg #[.int .i64 k, ve, vp]) ∧ OwnT w' w.heap.size ve el ∧ OwnT w' n vp pl ∧ (∀ g, ve.ownBlock = some g → g < n) ∧ w.heap.size ≤ n ∧ n ≤ w'.heap.size ∧ Below w.heap.size w w'

set_option maxHeartbeats 2000000 in
set_option maxRecDepth 10000 in
theorem toSig_any (k : Int) (ve vp : Value) (el pl : List ByteArray) (w : World) (h1 : Texts w w.heap.size ve el) (h2 : Texts w w.heap.size vp pl) (hl1 : el.length ≤ 1048576) (hl2 : pl.length ≤ 1048576) :
    Calls Try.prog 45 #[.agg #[.int .i64 k, ve, vp]] w fun e w' => SigOwn w k el pl e w' := by
  obtain ⟨W, hW⟩ : ∃ W, W = ((w.alloc (.cells #[.int .i64 k, ve, vp] 24)).alloc (.cells #[.int .i64 0, .slice none 0 0, .slice none 0 0] 31)).alloc (.cells #[.int .i64 k, .slice none 0 0, .slice none 0 0] 31) := ⟨_, rfl⟩
  have b1 : Below w.heap.size w (w.alloc (.cells #[.int .i64 k, ve, vp] 24)) := (Below.refl _ _).alloc (Nat.le_refl _) _
  have hbW : Below w.heap.size w W := by rw [hW]; exact (b1.alloc (by simp) _).alloc (by simp; omega) _
  have hzW : W.heap.size = w.heap.size + 3 := by rw [hW]; simp
  have g0 : W.heap[w.heap.size]? = some (.cells #[.int .i64 k, ve, vp] 24 (0, 0)) := by
    rw [hW]
    exact (heap_alloc_old _ _ (by simp; omega)).trans (heap_alloc2_old w _ _)
  have g1 : W.heap[w.heap.size + 1]? = some (.cells #[.int .i64 0, .slice none 0 0, .slice none 0 0] 31 (0, 0)) := by
    rw [hW]
    exact (heap_alloc_old _ _ (by simp)).trans (heap_alloc2_new w _ _)
  have g2 : W.heap[w.heap.size + 2]? = some (.cells #[.int .i64 k, .slice none 0 0, .slice none 0 0] 31 (0, 0)) := by
    rw [hW]
    have := heap_alloc_new ((w.alloc (.cells #[.int .i64 k, ve, vp] 24)).alloc (.cells #[.int .i64 0, .slice none 0 0, .slice none 0 0] 31)) (.cells #[.int .i64 k, .slice none 0 0, .slice none 0 0] 31)
    simpa using this
  have E1 : Hid (Calls Try.prog 23 #[ve] W fun e w' => ∃ v', e = .returned v' ∧ OwnS w' W.heap.size v' el ∧ Below W.heap.size W w') := toTexts_any ve el W ((h1.below hbW).up hbW.size) hl1
  have E2 : Hid (∀ w', Below w.heap.size w w' → Calls Try.prog 23 #[vp] w' fun e w'' => ∃ v', e = .returned v' ∧ OwnS w'' w'.heap.size v' pl ∧ Below w'.heap.size w' w'') := fun w' hb => toTexts_any vp pl w' ((h2.below hb).up hb.size) hl2
  have H0 : Hid (Below w.heap.size w W ∧ W.heap.size = w.heap.size + 3 ∧ W.heap[w.heap.size]? = some (.cells #[.int .i64 k, ve, vp] 24 (0, 0)) ∧ W.heap[w.heap.size + 1]? = some (.cells #[.int .i64 0, .slice none 0 0, .slice none 0 0] 31 (0, 0)) ∧ W.heap[w.heap.size + 2]? = some (.cells #[.int .i64 k, .slice none 0 0, .slice none 0 0] 31 (0, 0))) := ⟨hbW, hzW, g0, g1, g2⟩
  have HW : Hid (W = ((w.alloc (.cells #[.int .i64 k, ve, vp] 24)).alloc (.cells #[.int .i64 0, .slice none 0 0, .slice none 0 0] 31)).alloc (.cells #[.int .i64 k, .slice none 0 0, .slice none 0 0] 31)) := hW
  clear h1 h2 b1 hW hbW hzW g0 g1 g2
  go_enter Try.func45, Try.ntmps45
  go_wp2_with fail
  rw [← HW.out]
  refine E1.out.mono ?_
  rintro e w1 ⟨v1, rfl, ho1, hb1⟩
  obtain ⟨rfl, hr1⟩ := id ho1
  have hz := H0.out.2.1
  have k0 := (hb1.block _ (show w.heap.size < W.heap.size by omega)).trans H0.out.2.2.1
  have k1 := (hb1.block _ (show w.heap.size + 1 < W.heap.size by omega)).trans H0.out.2.2.2.1
  have k2 := (hb1.block _ (show w.heap.size + 1 + 1 < W.heap.size by omega)).trans H0.out.2.2.2.2
  obtain ⟨⟨c0, c1, c2⟩, f0, f1, f2⟩ := three_cells (Below.refl w1.heap.size w1) (Array.getElem?_eq_some_iff.1 k0).1 k0
  obtain ⟨⟨d0, d1, d2⟩, g0, g1, g2⟩ := three_cells (Below.refl w1.heap.size w1) (Array.getElem?_eq_some_iff.1 k2).1 k2
  have hn01 : ¬ w.heap.size = w.heap.size + 1 + 1 := by omega
  have hn12 : ¬ w.heap.size + 1 = w.heap.size + 1 + 1 := by omega
  have H1 : Hid (Below w.heap.size w w1 ∧ OwnT w1 W.heap.size (.slice (some ⟨W.heap.size, 0, none⟩) el.length el.length) el ∧ W.heap.size < w1.heap.size ∧ w1.heap[w.heap.size + 1]? = some (.cells #[.int .i64 0, .slice none 0 0, .slice none 0 0] 31 (0, 0)) ∧ w1.heap[w.heap.size + 1 + 1]? = some (.cells #[.int .i64 k, .slice none 0 0, .slice none 0 0] 31 (0, 0)) ∧ W.heap.size = w.heap.size + 3) :=
    ⟨H0.out.1.trans (hb1.mono H0.out.1.size), (ho1.own hl1).1, ho1.lt, k1, k2, hz⟩
  clear ho1 hr1 hb1 k0 k1 k2 hz E1 H0 HW
  generalize W.heap.size = B1 at *
  have H2 : Hid (Below w.heap.size w (w1.setCell ⟨w.heap.size + 1 + 1, 1, none⟩ (.slice (some ⟨B1, 0, none⟩) el.length el.length)) ∧ OwnT (w1.setCell ⟨w.heap.size + 1 + 1, 1, none⟩ (.slice (some ⟨B1, 0, none⟩) el.length el.length)) B1 (.slice (some ⟨B1, 0, none⟩) el.length el.length) el ∧ B1 < (w1.setCell ⟨w.heap.size + 1 + 1, 1, none⟩ (.slice (some ⟨B1, 0, none⟩) el.length el.length)).heap.size ∧ (w1.setCell ⟨w.heap.size + 1 + 1, 1, none⟩ (.slice (some ⟨B1, 0, none⟩) el.length el.length)).heap[w.heap.size + 1]? = some (.cells #[.int .i64 0, .slice none 0 0, .slice none 0 0] 31 (0, 0)) ∧ (w1.setCell ⟨w.heap.size + 1 + 1, 1, none⟩ (.slice (some ⟨B1, 0, none⟩) el.length el.length)).heap[w.heap.size + 1 + 1]? = some (.cells #[.int .i64 k, .slice (some ⟨B1, 0, none⟩) el.length el.length, .slice none 0 0] 31 (0, 0)) ∧ B1 = w.heap.size + 3) := by
    obtain ⟨a1, a2, a3, a4, a5, a6⟩ := H1.out
    refine ⟨a1.setCell (by simp; omega) _, a2.far (by omega), by simpa [World.setCell] using a3, ?_, ?_, a6⟩
    · rw [heap_setCell_other _ _ _ _ (by simp)]; exact a4
    · rw [heap_setCell_same w1 _ 1 _ _ _ a5]; rfl
  go_wp2_with fail
  generalize w1.setCell ⟨w.heap.size + 1 + 1, 1, none⟩ (.slice (some ⟨B1, 0, none⟩) el.length el.length) = w2 at *
  clear H1 c0 c1 c2 f0 f1 f2 d0 d1 d2 g0 g1 g2
  refine (E2.out _ H2.out.1).mono ?_
  rintro e w3 ⟨v2, rfl, ho3, hb3⟩
  obtain ⟨rfl, hr3⟩ := id ho3
  have hz2 : w.heap.size + 1 + 1 < w2.heap.size := (Array.getElem?_eq_some_iff.1 H2.out.2.2.2.2.1).1
  have k1 := (hb3.block _ (show w.heap.size + 1 < w2.heap.size by omega)).trans H2.out.2.2.2.1
  have k2 := (hb3.block _ hz2).trans H2.out.2.2.2.2.1
  obtain ⟨⟨c0, c1, c2⟩, f0, f1, f2⟩ := three_cells (Below.refl w3.heap.size w3) (Array.getElem?_eq_some_iff.1 k1).1 k1
  obtain ⟨⟨d0, d1, d2⟩, g0, g1, g2⟩ := three_cells (Below.refl w3.heap.size w3) (Array.getElem?_eq_some_iff.1 k2).1 k2
  have H3 : Hid (Below w.heap.size w w3 ∧ OwnT w3 (w.heap.size + 3) (.slice (some ⟨B1, 0, none⟩) el.length el.length) el ∧ OwnT w3 w2.heap.size (.slice (some ⟨w2.heap.size, 0, none⟩) pl.length pl.length) pl ∧ B1 < w2.heap.size ∧ w2.heap.size < w3.heap.size ∧ w.heap.size + 3 ≤ w2.heap.size) :=
    ⟨H2.out.1.trans (hb3.mono H2.out.1.size), (H2.out.2.1.below hb3 (Nat.le_refl _)).lower (by have := H2.out.2.2.2.2.2; omega), (ho3.own hl2).1, H2.out.2.2.1, ho3.lt, by omega⟩
  clear ho3 hr3 hb3 k1 k2 E2 H2
  generalize w2.heap.size = B2 at *
  go_wp2
  refine bodyPost_ret (v := .agg #[.int .i64 k, .slice (some ⟨B1, 0, none⟩) el.length el.length, .slice (some ⟨B2, 0, none⟩) pl.length pl.length]) (by simp [results, Try.results45, go_sem, c0, c1, c2, f0, f1, f2, d0, d1, d2]) rfl ⟨_, _, B2, rfl, ?_, ?_, ?_, ?_, ?_, ?_⟩
  · obtain ⟨a1, a2, a3, a4, a5, a6⟩ := H3.out
    exact ((((a2.far (by omega)).far (by omega)).far (by omega)).far (by omega)).lower (by omega)
  · obtain ⟨a1, a2, a3, a4, a5, a6⟩ := H3.out
    exact (((a3.far (by omega)).far (by omega)).far (by omega)).far (by omega)
  · intro g hg
    obtain ⟨a1, a2, a3, a4, a5, a6⟩ := H3.out
    simp [Value.ownBlock] at hg
    omega
  · obtain ⟨a1, a2, a3, a4, a5, a6⟩ := H3.out
    omega
  · obtain ⟨a1, a2, a3, a4, a5, a6⟩ := H3.out
    simp [World.setCell]
    omega
  · obtain ⟨a1, a2, a3, a4, a5, a6⟩ := H3.out
    exact (((a1.setCell (by simp; omega) _).setCell (by simp) _).setCell (by simp) _).setCell (by simp) _
end Go.Proofs.Ytbngflmebdchlaa
