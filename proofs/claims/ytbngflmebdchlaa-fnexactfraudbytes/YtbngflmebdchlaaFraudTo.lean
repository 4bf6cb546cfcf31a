/-
  A fraud that came in: its copy.
-/
import Derived.Test.YtbngflmebdchlaaHdV
namespace Go.Proofs.Ytbngflmebdchlaa
open Go.RowKit Go.Lib
set_option linter.unusedVariables false
set_option linter.unusedSimpArgs false

set_option maxHeartbeats 4000000 in
set_option maxRecDepth 10000 in
theorem toFraud_any (x y : Hd) (xe xp ye yp ve : Value) (l : List ByteArray) (w : World) (hx : x.In xe xp w w.heap.size) (hy : y.In ye yp w w.heap.size) (h3 : Texts w w.heap.size ve l) (hlx : x.Lim) (hly : y.Lim) (hll : l.length ≤ 1048576) :
    Calls Try.prog 7 #[.agg #[.string x.log, .int .i64 x.size, .string x.root, .int .i64 x.time, .int .i64 x.k, xe, xp, .string y.log, .int .i64 y.size, .string y.root, .int .i64 y.time, .int .i64 y.k, ye, yp, ve]] w fun e w' => ∃ a5 c5 b5 d5 a6 c6 b6 d6 a7 c7, e = .returned (.agg #[.string x.log, .int .i64 x.size, .string x.root, .int .i64 x.time, .int .i64 x.k, .slice a5 x.el.length c5, .slice b5 x.pl.length d5, .string y.log, .int .i64 y.size, .string y.root, .int .i64 y.time, .int .i64 y.k, .slice a6 y.el.length c6, .slice b6 y.pl.length d6, .slice a7 l.length c7]) ∧ x.In (.slice a5 x.el.length c5) (.slice b5 x.pl.length d5) w' w'.heap.size ∧ y.In (.slice a6 y.el.length c6) (.slice b6 y.pl.length d6) w' w'.heap.size ∧ Texts w' w'.heap.size (.slice a7 l.length c7) l ∧ Below w.heap.size w w' := by
  obtain ⟨a1, c1, b1, d1, rfl, rfl⟩ := hx.parts
  obtain ⟨a2, c2, b2, d2, rfl, rfl⟩ := hy.parts
  obtain ⟨ae, ce, rfl, _⟩ := id h3
  obtain ⟨W, hW⟩ : ∃ W, W = ((w.alloc (.cells #[.string x.log, .int .i64 x.size, .string x.root, .int .i64 x.time, .int .i64 x.k, .slice a1 x.el.length c1, .slice b1 x.pl.length d1, .string y.log, .int .i64 y.size, .string y.root, .int .i64 y.time, .int .i64 y.k, .slice a2 y.el.length c2, .slice b2 y.pl.length d2, .slice ae l.length ce] 28)).alloc (.cells #[.string ⟨#[]⟩, .int .i64 0, .string ⟨#[]⟩, .int .i64 0, .int .i64 0, .slice none 0 0, .slice none 0 0, .string ⟨#[]⟩, .int .i64 0, .string ⟨#[]⟩, .int .i64 0, .int .i64 0, .slice none 0 0, .slice none 0 0, .slice none 0 0] 35)).alloc (.cells #[.string ⟨#[]⟩, .int .i64 0, .string ⟨#[]⟩, .int .i64 0, .int .i64 0, .slice none 0 0, .slice none 0 0, .string ⟨#[]⟩, .int .i64 0, .string ⟨#[]⟩, .int .i64 0, .int .i64 0, .slice none 0 0, .slice none 0 0, .slice none 0 0] 35) := ⟨_, rfl⟩
  have hbW : Below w.heap.size w W := by rw [hW]; exact (((Below.refl _ _).alloc (Nat.le_refl _) _).alloc (by simp) _).alloc (by simp; omega) _
  have hzW : W.heap.size = w.heap.size + 3 := by rw [hW]; simp
  have hgW : W.heap[w.heap.size]? = some (.cells #[.string x.log, .int .i64 x.size, .string x.root, .int .i64 x.time, .int .i64 x.k, .slice a1 x.el.length c1, .slice b1 x.pl.length d1, .string y.log, .int .i64 y.size, .string y.root, .int .i64 y.time, .int .i64 y.k, .slice a2 y.el.length c2, .slice b2 y.pl.length d2, .slice ae l.length ce] 28 (0, 0)) := by rw [hW]; exact (heap_alloc_old _ _ (by simp; omega)).trans (heap_alloc2_old w _ _)
  have hpW : W.heap[w.heap.size + 1]? = some (.cells #[.string ⟨#[]⟩, .int .i64 0, .string ⟨#[]⟩, .int .i64 0, .int .i64 0, .slice none 0 0, .slice none 0 0, .string ⟨#[]⟩, .int .i64 0, .string ⟨#[]⟩, .int .i64 0, .int .i64 0, .slice none 0 0, .slice none 0 0, .slice none 0 0] 35 (0, 0)) := by rw [hW]; exact (heap_alloc_old _ _ (by simp)).trans (heap_alloc2_new w _ _)
  have hoW : W.heap[w.heap.size + 1 + 1]? = some (.cells #[.string ⟨#[]⟩, .int .i64 0, .string ⟨#[]⟩, .int .i64 0, .int .i64 0, .slice none 0 0, .slice none 0 0, .string ⟨#[]⟩, .int .i64 0, .string ⟨#[]⟩, .int .i64 0, .int .i64 0, .slice none 0 0, .slice none 0 0, .slice none 0 0] 35 (0, 0)) := by
    rw [hW]
    have := heap_alloc_new ((w.alloc (.cells #[.string x.log, .int .i64 x.size, .string x.root, .int .i64 x.time, .int .i64 x.k, .slice a1 x.el.length c1, .slice b1 x.pl.length d1, .string y.log, .int .i64 y.size, .string y.root, .int .i64 y.time, .int .i64 y.k, .slice a2 y.el.length c2, .slice b2 y.pl.length d2, .slice ae l.length ce] 28)).alloc (.cells #[.string ⟨#[]⟩, .int .i64 0, .string ⟨#[]⟩, .int .i64 0, .int .i64 0, .slice none 0 0, .slice none 0 0, .string ⟨#[]⟩, .int .i64 0, .string ⟨#[]⟩, .int .i64 0, .int .i64 0, .slice none 0 0, .slice none 0 0, .slice none 0 0] 35)) (.cells #[.string ⟨#[]⟩, .int .i64 0, .string ⟨#[]⟩, .int .i64 0, .int .i64 0, .slice none 0 0, .slice none 0 0, .string ⟨#[]⟩, .int .i64 0, .string ⟨#[]⟩, .int .i64 0, .int .i64 0, .slice none 0 0, .slice none 0 0, .slice none 0 0] 35)
    simpa using this
  have HW : Hid (W = ((w.alloc (.cells #[.string x.log, .int .i64 x.size, .string x.root, .int .i64 x.time, .int .i64 x.k, .slice a1 x.el.length c1, .slice b1 x.pl.length d1, .string y.log, .int .i64 y.size, .string y.root, .int .i64 y.time, .int .i64 y.k, .slice a2 y.el.length c2, .slice b2 y.pl.length d2, .slice ae l.length ce] 28)).alloc (.cells #[.string ⟨#[]⟩, .int .i64 0, .string ⟨#[]⟩, .int .i64 0, .int .i64 0, .slice none 0 0, .slice none 0 0, .string ⟨#[]⟩, .int .i64 0, .string ⟨#[]⟩, .int .i64 0, .int .i64 0, .slice none 0 0, .slice none 0 0, .slice none 0 0] 35)).alloc (.cells #[.string ⟨#[]⟩, .int .i64 0, .string ⟨#[]⟩, .int .i64 0, .int .i64 0, .slice none 0 0, .slice none 0 0, .string ⟨#[]⟩, .int .i64 0, .string ⟨#[]⟩, .int .i64 0, .int .i64 0, .slice none 0 0, .slice none 0 0, .slice none 0 0] 35)) := hW
  have E1 : Hid (∀ w', Below w.heap.size w w' → Calls Try.prog 22 #[.agg #[.string x.log, .int .i64 x.size, .string x.root, .int .i64 x.time, .int .i64 x.k, .slice a1 x.el.length c1, .slice b1 x.pl.length d1]] w' fun e w'' => HeadOwn w' x.log x.size x.root x.time x.k x.el x.pl e w'') := fun w' hb => toHd_any x _ _ w' (hx.on hb) hlx
  have E2 : Hid (∀ w', Below w.heap.size w w' → Calls Try.prog 22 #[.agg #[.string y.log, .int .i64 y.size, .string y.root, .int .i64 y.time, .int .i64 y.k, .slice a2 y.el.length c2, .slice b2 y.pl.length d2]] w' fun e w'' => HeadOwn w' y.log y.size y.root y.time y.k y.el y.pl e w'') := fun w' hb => toHd_any y _ _ w' (hy.on hb) hly
  have E3 : Hid (∀ w', Below w.heap.size w w' → Calls Try.prog 23 #[.slice ae l.length ce] w' fun e w'' => ∃ v', e = .returned v' ∧ OwnS w'' w'.heap.size v' l ∧ Below w'.heap.size w' w'') := fun w' hb => toTexts_any _ l w' (h3.on hb) hll
  have H0 : Hid (Below w.heap.size w W ∧ W.heap.size = w.heap.size + 3 ∧ W.heap[w.heap.size]? = some (.cells #[.string x.log, .int .i64 x.size, .string x.root, .int .i64 x.time, .int .i64 x.k, .slice a1 x.el.length c1, .slice b1 x.pl.length d1, .string y.log, .int .i64 y.size, .string y.root, .int .i64 y.time, .int .i64 y.k, .slice a2 y.el.length c2, .slice b2 y.pl.length d2, .slice ae l.length ce] 28 (0, 0)) ∧ W.heap[w.heap.size + 1 + 1]? = some (.cells #[.string ⟨#[]⟩, .int .i64 0, .string ⟨#[]⟩, .int .i64 0, .int .i64 0, .slice none 0 0, .slice none 0 0, .string ⟨#[]⟩, .int .i64 0, .string ⟨#[]⟩, .int .i64 0, .int .i64 0, .slice none 0 0, .slice none 0 0, .slice none 0 0] 35 (0, 0)) ∧ W.heap[w.heap.size + 1]? = some (.cells #[.string ⟨#[]⟩, .int .i64 0, .string ⟨#[]⟩, .int .i64 0, .int .i64 0, .slice none 0 0, .slice none 0 0, .string ⟨#[]⟩, .int .i64 0, .string ⟨#[]⟩, .int .i64 0, .int .i64 0, .slice none 0 0, .slice none 0 0, .slice none 0 0] 35 (0, 0))) := ⟨hbW, hzW, hgW, hoW, hpW⟩
  clear hx hy h3 hbW hzW hgW hoW hpW hW
  go_enter Try.func7, Try.ntmps7
  go_wp2_with fail
  rw [← HW.out]
  refine (E1.out _ H0.out.1).mono ?_
  rintro e w1 ⟨ue, up, n1, rfl, ho1, ho2, _, hn0, _, hb1⟩
  obtain ⟨a5, c5, rfl⟩ := ho1.len
  obtain ⟨b5, d5, rfl⟩ := ho2.len
  obtain ⟨w2, hw2⟩ : ∃ w2, w2 = (((((((w1.setCell ⟨w.heap.size + 1 + 1, 0, none⟩ (.string x.log)).setCell ⟨w.heap.size + 1 + 1, 1, none⟩ (.int .i64 x.size)).setCell ⟨w.heap.size + 1 + 1, 2, none⟩ (.string x.root)).setCell ⟨w.heap.size + 1 + 1, 3, none⟩ (.int .i64 x.time)).setCell ⟨w.heap.size + 1 + 1, 4, none⟩ (.int .i64 x.k)).setCell ⟨w.heap.size + 1 + 1, 5, none⟩ (.slice a5 x.el.length c5)).setCell ⟨w.heap.size + 1 + 1, 6, none⟩ (.slice b5 x.pl.length d5)) := ⟨_, rfl⟩
  have hz := H0.out.2.1
  have k0 := (hb1.block _ (show w.heap.size < W.heap.size by omega)).trans H0.out.2.2.1
  have k1 := (hb1.block _ (show w.heap.size + 1 + 1 < W.heap.size by omega)).trans H0.out.2.2.2.1
  have kp := (hb1.block _ (show w.heap.size + 1 < W.heap.size by omega)).trans H0.out.2.2.2.2
  have f1 := row_free k1
  have H2 : Hid (Below w.heap.size w w2 ∧ w.heap.size + 3 ≤ w2.heap.size ∧ w2.heap[w.heap.size]? = some (.cells #[.string x.log, .int .i64 x.size, .string x.root, .int .i64 x.time, .int .i64 x.k, .slice a1 x.el.length c1, .slice b1 x.pl.length d1, .string y.log, .int .i64 y.size, .string y.root, .int .i64 y.time, .int .i64 y.k, .slice a2 y.el.length c2, .slice b2 y.pl.length d2, .slice ae l.length ce] 28 (0, 0)) ∧ w2.heap[w.heap.size + 1 + 1]? = some (.cells #[.string x.log, .int .i64 x.size, .string x.root, .int .i64 x.time, .int .i64 x.k, .slice a5 x.el.length c5, .slice b5 x.pl.length d5, .string ⟨#[]⟩, .int .i64 0, .string ⟨#[]⟩, .int .i64 0, .int .i64 0, .slice none 0 0, .slice none 0 0, .slice none 0 0] 35 (0, 0)) ∧ w2.heap[w.heap.size + 1]? = some (.cells #[.string ⟨#[]⟩, .int .i64 0, .string ⟨#[]⟩, .int .i64 0, .int .i64 0, .slice none 0 0, .slice none 0 0, .string ⟨#[]⟩, .int .i64 0, .string ⟨#[]⟩, .int .i64 0, .int .i64 0, .slice none 0 0, .slice none 0 0, .slice none 0 0] 35 (0, 0)) ∧ OwnT w2 (w.heap.size + 3) (.slice a5 x.el.length c5) x.el ∧ OwnT w2 (w.heap.size + 3) (.slice b5 x.pl.length d5) x.pl) := by
    rw [hw2]
    refine ⟨?_, ?_, ?_, ?_, ?_, ?_, ?_⟩
    · iterate 7 (refine Below.setCell ?_ (by simp <;> omega) _)
      exact H0.out.1.trans (hb1.mono H0.out.1.size)
    · simp only [size_put]
      have := hb1.size
      omega
    · iterate 7 (refine heap_pass (by omega) ?_)
      exact k0
    · exact heap_put2 #[.string x.log, .int .i64 x.size, .string x.root, .int .i64 x.time, .int .i64 x.k, .slice a5 x.el.length c5, .slice b5 x.pl.length d5, .string ⟨#[]⟩, .int .i64 0, .string ⟨#[]⟩, .int .i64 0, .int .i64 0, .slice none 0 0, .slice none 0 0, .slice none 0 0] (heap_put2 #[.string x.log, .int .i64 x.size, .string x.root, .int .i64 x.time, .int .i64 x.k, .slice a5 x.el.length c5, .slice none 0 0, .string ⟨#[]⟩, .int .i64 0, .string ⟨#[]⟩, .int .i64 0, .int .i64 0, .slice none 0 0, .slice none 0 0, .slice none 0 0] (heap_put2 #[.string x.log, .int .i64 x.size, .string x.root, .int .i64 x.time, .int .i64 x.k, .slice none 0 0, .slice none 0 0, .string ⟨#[]⟩, .int .i64 0, .string ⟨#[]⟩, .int .i64 0, .int .i64 0, .slice none 0 0, .slice none 0 0, .slice none 0 0] (heap_put2 #[.string x.log, .int .i64 x.size, .string x.root, .int .i64 x.time, .int .i64 0, .slice none 0 0, .slice none 0 0, .string ⟨#[]⟩, .int .i64 0, .string ⟨#[]⟩, .int .i64 0, .int .i64 0, .slice none 0 0, .slice none 0 0, .slice none 0 0] (heap_put2 #[.string x.log, .int .i64 x.size, .string x.root, .int .i64 0, .int .i64 0, .slice none 0 0, .slice none 0 0, .string ⟨#[]⟩, .int .i64 0, .string ⟨#[]⟩, .int .i64 0, .int .i64 0, .slice none 0 0, .slice none 0 0, .slice none 0 0] (heap_put2 #[.string x.log, .int .i64 x.size, .string ⟨#[]⟩, .int .i64 0, .int .i64 0, .slice none 0 0, .slice none 0 0, .string ⟨#[]⟩, .int .i64 0, .string ⟨#[]⟩, .int .i64 0, .int .i64 0, .slice none 0 0, .slice none 0 0, .slice none 0 0] (heap_put2 #[.string x.log, .int .i64 0, .string ⟨#[]⟩, .int .i64 0, .int .i64 0, .slice none 0 0, .slice none 0 0, .string ⟨#[]⟩, .int .i64 0, .string ⟨#[]⟩, .int .i64 0, .int .i64 0, .slice none 0 0, .slice none 0 0, .slice none 0 0] (k1) rfl) rfl) rfl) rfl) rfl) rfl) rfl
    · iterate 7 (refine heap_pass (by omega) ?_)
      exact kp
    · iterate 7 (refine OwnT.far ?_ (by omega))
      exact ho1.lower (by omega)
    · iterate 7 (refine OwnT.far ?_ (by omega))
      exact ho2.lower (by omega)
  have HW2 : Hid (w2 = (((((((w1.setCell ⟨w.heap.size + 1 + 1, 0, none⟩ (.string x.log)).setCell ⟨w.heap.size + 1 + 1, 1, none⟩ (.int .i64 x.size)).setCell ⟨w.heap.size + 1 + 1, 2, none⟩ (.string x.root)).setCell ⟨w.heap.size + 1 + 1, 3, none⟩ (.int .i64 x.time)).setCell ⟨w.heap.size + 1 + 1, 4, none⟩ (.int .i64 x.k)).setCell ⟨w.heap.size + 1 + 1, 5, none⟩ (.slice a5 x.el.length c5)).setCell ⟨w.heap.size + 1 + 1, 6, none⟩ (.slice b5 x.pl.length d5))) := hw2
  clear ho1 ho2 hn0 k0 kp E1 HW hw2
  have hc := row_here ((hb1.block _ (show w.heap.size < W.heap.size by omega)).trans H0.out.2.2.1)
  have q0 := hc 0 _ rfl
  have q1 := hc 1 _ rfl
  have q2 := hc 2 _ rfl
  have q3 := hc 3 _ rfl
  have q4 := hc 4 _ rfl
  have q5 := hc 5 _ rfl
  have q6 := hc 6 _ rfl
  have q7 := hc 7 _ rfl
  have q8 := hc 8 _ rfl
  have q9 := hc 9 _ rfl
  have q10 := hc 10 _ rfl
  have q11 := hc 11 _ rfl
  have q12 := hc 12 _ rfl
  have q13 := hc 13 _ rfl
  have q14 := hc 14 _ rfl
  have f20 := f1 0
  have f21 := f1 1
  have f22 := f1 2
  have f23 := f1 3
  have f24 := f1 4
  have f25 := f1 5
  have f26 := f1 6
  have u0 := row_here k1 0 _ rfl
  have u1 := row_here k1 1 _ rfl
  have u2 := row_here k1 2 _ rfl
  have u3 := row_here k1 3 _ rfl
  have u4 := row_here k1 4 _ rfl
  have u5 := row_here k1 5 _ rfl
  have u6 := row_here k1 6 _ rfl
  clear hc f1 k1 hb1 hz
  go_wp2_with fail
  rw [← HW2.out]
  clear HW2 q0 q1 q2 q3 q4 q5 q6 q7 q8 q9 q10 q11 q12 q13 q14 f20 f21 f22 f23 f24 f25 f26 u0 u1 u2 u3 u4 u5 u6 H0
  refine (E2.out _ H2.out.1).mono ?_
  rintro e w3 ⟨xe, xp, n3, rfl, ho1, ho2, _, hn0, _, hb3⟩
  obtain ⟨a6, c6, rfl⟩ := ho1.len
  obtain ⟨b6, d6, rfl⟩ := ho2.len
  obtain ⟨w4, hw4⟩ : ∃ w4, w4 = (((((((w3.setCell ⟨w.heap.size + 1 + 1, 7, none⟩ (.string y.log)).setCell ⟨w.heap.size + 1 + 1, 8, none⟩ (.int .i64 y.size)).setCell ⟨w.heap.size + 1 + 1, 9, none⟩ (.string y.root)).setCell ⟨w.heap.size + 1 + 1, 10, none⟩ (.int .i64 y.time)).setCell ⟨w.heap.size + 1 + 1, 11, none⟩ (.int .i64 y.k)).setCell ⟨w.heap.size + 1 + 1, 12, none⟩ (.slice a6 y.el.length c6)).setCell ⟨w.heap.size + 1 + 1, 13, none⟩ (.slice b6 y.pl.length d6)) := ⟨_, rfl⟩
  have hz := H2.out.2.1
  have k0 := (hb3.block _ (show w.heap.size < w2.heap.size by omega)).trans H2.out.2.2.1
  have k1 := (hb3.block _ (show w.heap.size + 1 + 1 < w2.heap.size by omega)).trans H2.out.2.2.2.1
  have kp := (hb3.block _ (show w.heap.size + 1 < w2.heap.size by omega)).trans H2.out.2.2.2.2.1
  have f1 := row_free k1
  have H4 : Hid (Below w.heap.size w w4 ∧ w.heap.size + 3 ≤ w4.heap.size ∧ w4.heap[w.heap.size]? = some (.cells #[.string x.log, .int .i64 x.size, .string x.root, .int .i64 x.time, .int .i64 x.k, .slice a1 x.el.length c1, .slice b1 x.pl.length d1, .string y.log, .int .i64 y.size, .string y.root, .int .i64 y.time, .int .i64 y.k, .slice a2 y.el.length c2, .slice b2 y.pl.length d2, .slice ae l.length ce] 28 (0, 0)) ∧ w4.heap[w.heap.size + 1 + 1]? = some (.cells #[.string x.log, .int .i64 x.size, .string x.root, .int .i64 x.time, .int .i64 x.k, .slice a5 x.el.length c5, .slice b5 x.pl.length d5, .string y.log, .int .i64 y.size, .string y.root, .int .i64 y.time, .int .i64 y.k, .slice a6 y.el.length c6, .slice b6 y.pl.length d6, .slice none 0 0] 35 (0, 0)) ∧ w4.heap[w.heap.size + 1]? = some (.cells #[.string ⟨#[]⟩, .int .i64 0, .string ⟨#[]⟩, .int .i64 0, .int .i64 0, .slice none 0 0, .slice none 0 0, .string ⟨#[]⟩, .int .i64 0, .string ⟨#[]⟩, .int .i64 0, .int .i64 0, .slice none 0 0, .slice none 0 0, .slice none 0 0] 35 (0, 0)) ∧ (OwnT w4 (w.heap.size + 3) (.slice a5 x.el.length c5) x.el ∧ OwnT w4 (w.heap.size + 3) (.slice b5 x.pl.length d5) x.pl) ∧ OwnT w4 (w.heap.size + 3) (.slice a6 y.el.length c6) y.el ∧ OwnT w4 (w.heap.size + 3) (.slice b6 y.pl.length d6) y.pl) := by
    rw [hw4]
    refine ⟨?_, ?_, ?_, ?_, ?_, ⟨?_, ?_⟩, ?_, ?_⟩
    · iterate 7 (refine Below.setCell ?_ (by simp <;> omega) _)
      exact H2.out.1.trans (hb3.mono H2.out.1.size)
    · simp only [size_put]
      have := hb3.size
      omega
    · iterate 7 (refine heap_pass (by omega) ?_)
      exact k0
    · exact heap_put2 #[.string x.log, .int .i64 x.size, .string x.root, .int .i64 x.time, .int .i64 x.k, .slice a5 x.el.length c5, .slice b5 x.pl.length d5, .string y.log, .int .i64 y.size, .string y.root, .int .i64 y.time, .int .i64 y.k, .slice a6 y.el.length c6, .slice b6 y.pl.length d6, .slice none 0 0] (heap_put2 #[.string x.log, .int .i64 x.size, .string x.root, .int .i64 x.time, .int .i64 x.k, .slice a5 x.el.length c5, .slice b5 x.pl.length d5, .string y.log, .int .i64 y.size, .string y.root, .int .i64 y.time, .int .i64 y.k, .slice a6 y.el.length c6, .slice none 0 0, .slice none 0 0] (heap_put2 #[.string x.log, .int .i64 x.size, .string x.root, .int .i64 x.time, .int .i64 x.k, .slice a5 x.el.length c5, .slice b5 x.pl.length d5, .string y.log, .int .i64 y.size, .string y.root, .int .i64 y.time, .int .i64 y.k, .slice none 0 0, .slice none 0 0, .slice none 0 0] (heap_put2 #[.string x.log, .int .i64 x.size, .string x.root, .int .i64 x.time, .int .i64 x.k, .slice a5 x.el.length c5, .slice b5 x.pl.length d5, .string y.log, .int .i64 y.size, .string y.root, .int .i64 y.time, .int .i64 0, .slice none 0 0, .slice none 0 0, .slice none 0 0] (heap_put2 #[.string x.log, .int .i64 x.size, .string x.root, .int .i64 x.time, .int .i64 x.k, .slice a5 x.el.length c5, .slice b5 x.pl.length d5, .string y.log, .int .i64 y.size, .string y.root, .int .i64 0, .int .i64 0, .slice none 0 0, .slice none 0 0, .slice none 0 0] (heap_put2 #[.string x.log, .int .i64 x.size, .string x.root, .int .i64 x.time, .int .i64 x.k, .slice a5 x.el.length c5, .slice b5 x.pl.length d5, .string y.log, .int .i64 y.size, .string ⟨#[]⟩, .int .i64 0, .int .i64 0, .slice none 0 0, .slice none 0 0, .slice none 0 0] (heap_put2 #[.string x.log, .int .i64 x.size, .string x.root, .int .i64 x.time, .int .i64 x.k, .slice a5 x.el.length c5, .slice b5 x.pl.length d5, .string y.log, .int .i64 0, .string ⟨#[]⟩, .int .i64 0, .int .i64 0, .slice none 0 0, .slice none 0 0, .slice none 0 0] (k1) rfl) rfl) rfl) rfl) rfl) rfl) rfl
    · iterate 7 (refine heap_pass (by omega) ?_)
      exact kp
    · iterate 7 (refine OwnT.far ?_ (by omega))
      exact H2.out.2.2.2.2.2.1.below hb3 (Nat.le_refl _)
    · iterate 7 (refine OwnT.far ?_ (by omega))
      exact H2.out.2.2.2.2.2.2.below hb3 (Nat.le_refl _)
    · iterate 7 (refine OwnT.far ?_ (by omega))
      exact ho1.lower (by omega)
    · iterate 7 (refine OwnT.far ?_ (by omega))
      exact ho2.lower (by omega)
  have HW4 : Hid (w4 = (((((((w3.setCell ⟨w.heap.size + 1 + 1, 7, none⟩ (.string y.log)).setCell ⟨w.heap.size + 1 + 1, 8, none⟩ (.int .i64 y.size)).setCell ⟨w.heap.size + 1 + 1, 9, none⟩ (.string y.root)).setCell ⟨w.heap.size + 1 + 1, 10, none⟩ (.int .i64 y.time)).setCell ⟨w.heap.size + 1 + 1, 11, none⟩ (.int .i64 y.k)).setCell ⟨w.heap.size + 1 + 1, 12, none⟩ (.slice a6 y.el.length c6)).setCell ⟨w.heap.size + 1 + 1, 13, none⟩ (.slice b6 y.pl.length d6))) := hw4
  clear ho1 ho2 hn0 kp E2 hw4
  have hc := row_here k0
  have q0 := hc 0 _ rfl
  have q1 := hc 1 _ rfl
  have q2 := hc 2 _ rfl
  have q3 := hc 3 _ rfl
  have q4 := hc 4 _ rfl
  have q5 := hc 5 _ rfl
  have q6 := hc 6 _ rfl
  have q7 := hc 7 _ rfl
  have q8 := hc 8 _ rfl
  have q9 := hc 9 _ rfl
  have q10 := hc 10 _ rfl
  have q11 := hc 11 _ rfl
  have q12 := hc 12 _ rfl
  have q13 := hc 13 _ rfl
  have q14 := hc 14 _ rfl
  have f27 := f1 7
  have f28 := f1 8
  have f29 := f1 9
  have f30 := f1 10
  have f31 := f1 11
  have f32 := f1 12
  have f33 := f1 13
  have u7 := row_here k1 7 _ rfl
  have u8 := row_here k1 8 _ rfl
  have u9 := row_here k1 9 _ rfl
  have u10 := row_here k1 10 _ rfl
  have u11 := row_here k1 11 _ rfl
  have u12 := row_here k1 12 _ rfl
  have u13 := row_here k1 13 _ rfl
  clear hc f1 k1 hb3 hz k0
  go_wp2_with fail
  rw [← HW4.out]
  clear HW4 q0 q1 q2 q3 q4 q5 q6 q7 q8 q9 q10 q11 q12 q13 q14 f27 f28 f29 f30 f31 f32 f33 u7 u8 u9 u10 u11 u12 u13 H2
  refine (E3.out _ H4.out.1).mono ?_
  rintro e w5 ⟨u, rfl, hos, hb5⟩
  have ho := (hos.own hll).1
  obtain ⟨a7, c7, rfl⟩ := ho.len
  have hz := H4.out.2.1
  have k1 := (hb5.block _ (show w.heap.size + 1 + 1 < w4.heap.size by omega)).trans H4.out.2.2.2.1
  have kp := (hb5.block _ (show w.heap.size + 1 < w4.heap.size by omega)).trans H4.out.2.2.2.2.1
  have fq := row_free kp
  have hcp := row_here kp
  have r0 := hcp 0 _ rfl
  have r1 := hcp 1 _ rfl
  have r2 := hcp 2 _ rfl
  have r3 := hcp 3 _ rfl
  have r4 := hcp 4 _ rfl
  have r5 := hcp 5 _ rfl
  have r6 := hcp 6 _ rfl
  have r7 := hcp 7 _ rfl
  have r8 := hcp 8 _ rfl
  have r9 := hcp 9 _ rfl
  have r10 := hcp 10 _ rfl
  have r11 := hcp 11 _ rfl
  have r12 := hcp 12 _ rfl
  have r13 := hcp 13 _ rfl
  have r14 := hcp 14 _ rfl
  have g0 := fq 0
  have g1 := fq 1
  have g2 := fq 2
  have g3 := fq 3
  have g4 := fq 4
  have g5 := fq 5
  have g6 := fq 6
  have g7 := fq 7
  have g8 := fq 8
  have g9 := fq 9
  have g10 := fq 10
  have g11 := fq 11
  have g12 := fq 12
  have g13 := fq 13
  have g14 := fq 14
  have hn12 : ¬ w.heap.size + 1 = w.heap.size + 1 + 1 := by omega
  have hn21 : ¬ w.heap.size + 1 + 1 = w.heap.size + 1 := by omega
  have f14 := row_free k1 14
  have hc := row_here k1
  have p0 := hc 0 _ rfl
  have p1 := hc 1 _ rfl
  have p2 := hc 2 _ rfl
  have p3 := hc 3 _ rfl
  have p4 := hc 4 _ rfl
  have p5 := hc 5 _ rfl
  have p6 := hc 6 _ rfl
  have p7 := hc 7 _ rfl
  have p8 := hc 8 _ rfl
  have p9 := hc 9 _ rfl
  have p10 := hc 10 _ rfl
  have p11 := hc 11 _ rfl
  have p12 := hc 12 _ rfl
  have p13 := hc 13 _ rfl
  have p14 := hc 14 _ rfl
  have H5 : Hid (Below w.heap.size w w5 ∧ (OwnT w5 (w.heap.size + 3) (.slice a5 x.el.length c5) x.el ∧ OwnT w5 (w.heap.size + 3) (.slice b5 x.pl.length d5) x.pl) ∧ (OwnT w5 (w.heap.size + 3) (.slice a6 y.el.length c6) y.el ∧ OwnT w5 (w.heap.size + 3) (.slice b6 y.pl.length d6) y.pl) ∧ OwnT w5 (w.heap.size + 3) (.slice a7 l.length c7) l) :=
    ⟨H4.out.1.trans (hb5.mono H4.out.1.size), ⟨H4.out.2.2.2.2.2.1.1.below hb5 (Nat.le_refl _), H4.out.2.2.2.2.2.1.2.below hb5 (Nat.le_refl _)⟩, ⟨H4.out.2.2.2.2.2.2.1.below hb5 (Nat.le_refl _), H4.out.2.2.2.2.2.2.2.below hb5 (Nat.le_refl _)⟩, ho.lower hz⟩
  clear hos ho hz k1 kp hc hcp fq hb5 H4 E3
  go_wp2
  refine bodyPost_ret (v := .agg #[.string x.log, .int .i64 x.size, .string x.root, .int .i64 x.time, .int .i64 x.k, .slice a5 x.el.length c5, .slice b5 x.pl.length d5, .string y.log, .int .i64 y.size, .string y.root, .int .i64 y.time, .int .i64 y.k, .slice a6 y.el.length c6, .slice b6 y.pl.length d6, .slice a7 l.length c7]) (by simp [results, Try.results7, go_sem, p0, p1, p2, p3, p4, p5, p6, p7, p8, p9, p10, p11, p12, p13, r0, r1, r2, r3, r4, r5, r6, r7, r8, r9, r10, r11, r12, r13, r14, g0, g1, g2, g3, g4, g5, g6, g7, g8, g9, g10, g11, g12, g13, g14, f14, hn12, hn21]) rfl ⟨_, _, _, _, _, _, _, _, _, _, rfl, ⟨?_, ?_⟩, ⟨?_, ?_⟩, ?_, ?_⟩
  · refine OwnT.texts (B := w.heap.size + 3) ?_
    iterate 16 (refine OwnT.far ?_ (by omega))
    exact H5.out.2.1.1
  · refine OwnT.texts (B := w.heap.size + 3) ?_
    iterate 16 (refine OwnT.far ?_ (by omega))
    exact H5.out.2.1.2
  · refine OwnT.texts (B := w.heap.size + 3) ?_
    iterate 16 (refine OwnT.far ?_ (by omega))
    exact H5.out.2.2.1.1
  · refine OwnT.texts (B := w.heap.size + 3) ?_
    iterate 16 (refine OwnT.far ?_ (by omega))
    exact H5.out.2.2.1.2
  · refine OwnT.texts (B := w.heap.size + 3) ?_
    iterate 16 (refine OwnT.far ?_ (by omega))
    exact H5.out.2.2.2
  · iterate 16 (refine Below.setCell ?_ (by simp <;> omega) _)
    exact H5.out.1

end Go.Proofs.Ytbngflmebdchlaa
