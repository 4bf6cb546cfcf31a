/-
  Signatures held against each other.
-/
import Derived.Test.YtbngflmebdchlaaTextLaws
namespace Go.Proofs.Ytbngflmebdchlaa
open Go.RowKit Go.Lib
set_option linter.unusedVariables false
set_option linter.unusedSimpArgs false

set_option maxHeartbeats 1000000 in
set_option maxRecDepth 10000 in
theorem eqSig_any (k : Int) (ve vp ue up : Value) (el pl : List ByteArray) (w : World) (h1 : Texts w w.heap.size ve el) (h2 : Texts w w.heap.size vp pl) (h3 : Texts w w.heap.size ue el) (h4 : Texts w w.heap.size up pl) (hl1 : el.length ≤ 1048577) (hl2 : pl.length ≤ 1048577) :
    Calls Try.prog 52 #[.agg #[.int .i64 k, ve, vp], .agg #[.int .i64 k, ue, up]] w fun e w' => e = .returned (.bool true) ∧ Below w.heap.size w w' := by
  have EQ : Hid (∀ a b m w', Texts w' w'.heap.size a m → Texts w' w'.heap.size b m → m.length ≤ 1048577 → Calls Try.prog 32 #[a, b] w' fun e w'' => e = .returned (.bool true) ∧ Below w'.heap.size w' w'') := fun a b m w' h1 h2 h3 => eqTexts_any a b m w' w'.heap.size h1 h2 h3
  obtain ⟨W, hW⟩ : ∃ W, W = (w.alloc (.cells #[.int .i64 k, ve, vp] 31)).alloc (.cells #[.int .i64 k, ue, up] 31) := ⟨_, rfl⟩
  have hbW : Below w.heap.size w W := by rw [hW]; exact ((Below.refl _ _).alloc (Nat.le_refl _) _).alloc (by simp) _
  have hzW : W.heap.size = w.heap.size + 2 := by rw [hW]; simp
  have hg1 : W.heap[w.heap.size]? = some (.cells #[.int .i64 k, ve, vp] 31 (0, 0)) := by rw [hW]; exact heap_alloc2_old w _ _
  have hg2 : W.heap[w.heap.size + 1]? = some (.cells #[.int .i64 k, ue, up] 31 (0, 0)) := by rw [hW]; exact heap_alloc2_new w _ _
  have H0 : Hid (Below w.heap.size w W ∧ W.heap.size = w.heap.size + 2 ∧ W.heap[w.heap.size]? = some (.cells #[.int .i64 k, ve, vp] 31 (0, 0)) ∧ W.heap[w.heap.size + 1]? = some (.cells #[.int .i64 k, ue, up] 31 (0, 0))) := ⟨hbW, hzW, hg1, hg2⟩
  have HT : Hid (Texts w w.heap.size ve el ∧ Texts w w.heap.size vp pl ∧ Texts w w.heap.size ue el ∧ Texts w w.heap.size up pl) := ⟨h1, h2, h3, h4⟩
  have HW : Hid (W = (w.alloc (.cells #[.int .i64 k, ve, vp] 31)).alloc (.cells #[.int .i64 k, ue, up] 31)) := hW
  obtain ⟨⟨c0, c1, c2⟩, f0, f1, f2⟩ := three_cells (Below.refl W.heap.size W) (show w.heap.size < W.heap.size by omega) hg1
  obtain ⟨⟨d0, d1, d2⟩, g0, g1, g2⟩ := three_cells (Below.refl W.heap.size W) (show w.heap.size + 1 < W.heap.size by omega) hg2
  clear h1 h2 h3 h4 hW hbW hzW hg1 hg2 f0 f1 f2 g0 g1 g2
  have hkk : (k != k) = false := by simp
  go_enter Try.func52, Try.ntmps52
  go_wp2_with fail
  rw [← HW.out]
  refine (EQ.out _ _ el _ ((HT.out.1.below H0.out.1).up H0.out.1.size) ((HT.out.2.2.1.below H0.out.1).up H0.out.1.size) hl1).mono ?_
  rintro e w1 ⟨rfl, hb1⟩
  have H1 : Hid (Below w.heap.size w w1) := H0.out.1.trans (hb1.mono H0.out.1.size)
  clear c0 c1 c2 d0 d1 d2
  obtain ⟨⟨c0, c1, c2⟩, f0, f1, f2⟩ := three_cells hb1 (show w.heap.size < W.heap.size by have := H0.out.2.1; omega) H0.out.2.2.1
  obtain ⟨⟨d0, d1, d2⟩, g0, g1, g2⟩ := three_cells hb1 (show w.heap.size + 1 < W.heap.size by have := H0.out.2.1; omega) H0.out.2.2.2
  clear hb1
  go_wp2_with fail
  refine (EQ.out _ _ pl _ ((HT.out.2.1.below H1.out).up H1.out.size) ((HT.out.2.2.2.below H1.out).up H1.out.size) hl2).mono ?_
  rintro e w2 ⟨rfl, hb2⟩
  have H2 : Hid (Below w.heap.size w w2) := H1.out.trans (hb2.mono H1.out.size)
  clear hb2
  go_wp2
  go_ret
  exact ⟨rfl, H2.out⟩
end Go.Proofs.Ytbngflmebdchlaa
