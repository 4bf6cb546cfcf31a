/-
  The program's FraudRead.
-/
import Derived.Test.YtpglcbidfghfkaaPkFrBase
namespace Go.Proofs.Ytpglcbidfghfkaa
open Go.RowKit Go.Lib
set_option linter.unusedVariables false
set_option linter.unusedSimpArgs false

set_option maxHeartbeats 4000000 in
set_option maxRecDepth 10000 in
theorem implFR_none (s : ByteArray) (w : World) (hz : s.size ≤ 1048576) (hs : ¬ 20000 < (s.size : Int)) (HN0 : Hid ((fraudAt s).2 = none)) :
    Calls Try.prog 6 #[.string s] w fun e w' => FrOut s w e w' := by
  obtain ⟨W, hW⟩ : ∃ W, W = (w.alloc (.cells #[.string ⟨#[]⟩, .int .i64 0, .string ⟨#[]⟩, .int .i64 0, .int .i64 0, .slice none 0 0, .slice none 0 0, .string ⟨#[]⟩, .int .i64 0, .string ⟨#[]⟩, .int .i64 0, .int .i64 0, .slice none 0 0, .slice none 0 0, .slice none 0 0, .int .i64 0] 30)).alloc (.cells #[.string s, .int .i64 0, .nilIface] 52) := ⟨_, rfl⟩
  have hbW : Below w.heap.size w W := by rw [hW]; exact ((Below.refl _ _).alloc (Nat.le_refl _) _).alloc (by simp) _
  have H0 : Hid (Rd s (w.heap.size + 1) (some 0) W ∧ W.heap[w.heap.size]? = some (.cells #[.string ⟨#[]⟩, .int .i64 0, .string ⟨#[]⟩, .int .i64 0, .int .i64 0, .slice none 0 0, .slice none 0 0, .string ⟨#[]⟩, .int .i64 0, .string ⟨#[]⟩, .int .i64 0, .int .i64 0, .slice none 0 0, .slice none 0 0, .slice none 0 0, .int .i64 0] 30 (0, 0)) ∧ Below w.heap.size w W ∧ W.heap.size = w.heap.size + 2) := ⟨⟨0, .nilIface, by rw [hW]; exact heap_alloc2_new w _ _, .inl ⟨rfl, rfl, Int.le_refl _, Int.natCast_nonneg _⟩⟩, by rw [hW]; exact heap_alloc2_old w _ _, hbW, by rw [hW]; simp⟩
  have HW : Hid (W = (w.alloc (.cells #[.string ⟨#[]⟩, .int .i64 0, .string ⟨#[]⟩, .int .i64 0, .int .i64 0, .slice none 0 0, .slice none 0 0, .string ⟨#[]⟩, .int .i64 0, .string ⟨#[]⟩, .int .i64 0, .int .i64 0, .slice none 0 0, .slice none 0 0, .slice none 0 0, .int .i64 0] 30)).alloc (.cells #[.string s, .int .i64 0, .nilIface] 52)) := hW
  have E0 : Hid (Calls Try.prog 19 #[.pointer (some ⟨w.heap.size + 1, 0, none⟩)] W fun e w' => FraudRd s (w.heap.size + 1) W e w') := rdFraud_any s hs _ W H0.out.1
  have HS : Hid (¬ 20000 < (s.size : Int)) := hs
  clear hbW hW hz
  go_enter Try.func6, Try.ntmps6
  go_wp2_with fail
  rw [← HW.out]
  clear HW
  refine E0.out.mono ?_
  rintro e w1 ⟨x, y, l, vex, vpx, vey, vpy, vl, n1, n2, n3, n4, rfl, ho, hr, hgr, heq, hlx, hly, hll⟩
  obtain ⟨ax, cx, hv⟩ := ho.1.1.len
  subst hv
  obtain ⟨bx, dx, hv⟩ := ho.1.2.1.len
  subst hv
  obtain ⟨ay, cy, hv⟩ := ho.1.2.2.1.len
  subst hv
  obtain ⟨by', dy, hv⟩ := ho.1.2.2.2.1.len
  subst hv
  obtain ⟨al, cl, hv⟩ := ho.1.2.2.2.2.len
  subst hv
  obtain ⟨W4, hW4⟩ : ∃ W4, W4 = w1.alloc (.cells #[.string x.log, .int .i64 x.size, .string x.root, .int .i64 x.time, .int .i64 x.k, .slice ax x.el.length cx, .slice bx x.pl.length dx, .string y.log, .int .i64 y.size, .string y.root, .int .i64 y.time, .int .i64 y.k, .slice ay y.el.length cy, .slice by' y.pl.length dy, .slice al l.length cl] 28) := ⟨_, rfl⟩
  have hb4 : Below w1.heap.size w1 W4 := by rw [hW4]; exact (Below.refl _ _).alloc (Nat.le_refl _) _
  have HW4 : Hid (W4 = w1.alloc (.cells #[.string x.log, .int .i64 x.size, .string x.root, .int .i64 x.time, .int .i64 x.k, .slice ax x.el.length cx, .slice bx x.pl.length dx, .string y.log, .int .i64 y.size, .string y.root, .int .i64 y.time, .int .i64 y.k, .slice ay y.el.length cy, .slice by' y.pl.length dy, .slice al l.length cl] 28)) := hW4
  have H4 : Hid (Rd s (w.heap.size + 1) (fraudAt s).2 W4 ∧ W4.heap[w.heap.size]? = some (.cells #[.string ⟨#[]⟩, .int .i64 0, .string ⟨#[]⟩, .int .i64 0, .int .i64 0, .slice none 0 0, .slice none 0 0, .string ⟨#[]⟩, .int .i64 0, .string ⟨#[]⟩, .int .i64 0, .int .i64 0, .slice none 0 0, .slice none 0 0, .slice none 0 0, .int .i64 0] 30 (0, 0)) ∧ W4.heap[w1.heap.size]? = some (.cells #[.string x.log, .int .i64 x.size, .string x.root, .int .i64 x.time, .int .i64 x.k, .slice ax x.el.length cx, .slice bx x.pl.length dx, .string y.log, .int .i64 y.size, .string y.root, .int .i64 y.time, .int .i64 y.k, .slice ay y.el.length cy, .slice by' y.pl.length dy, .slice al l.length cl] 28 (0, 0)) ∧ Below w.heap.size w W4 ∧ Owns5 W4 w.heap.size n1 n2 n3 n4 (.slice ax x.el.length cx) (.slice bx x.pl.length dx) (.slice ay y.el.length cy) (.slice by' y.pl.length dy) (.slice al l.length cl) x.el x.pl y.el y.pl l ∧ w.heap.size + 2 ≤ w1.heap.size) := by
    obtain ⟨p1, p2, p3, p4⟩ := H0.out
    have hz := hgr.size
    have l2 := (Array.getElem?_eq_some_iff.1 p2).1
    refine ⟨hr.block (hb4.block _ hr.lt), (hb4.block _ (by omega)).trans ((hgr.block _ l2 (by simp)).trans p2), by rw [hW4]; exact heap_alloc_new w1 _, ?_, (ho.lower (by omega)).below hb4 (Nat.le_refl _), by omega⟩
    exact (p3.trans ⟨hgr.os, hgr.tape, hgr.output, hgr.size, fun k hk => hgr.block k (by omega) (by simp; omega)⟩).trans (hb4.mono (by omega))
  have HR1 : Hid (Rd s (w.heap.size + 1) (fraudAt s).2 w1) := hr
  have HQ : Hid (((fraudAt s).2 ≠ none → x = (headsAt s).1.1 ∧ y = (headsAt s).2.1 ∧ l = (fraudAt s).1) ∧ x.Lim ∧ y.Lim ∧ l.length ≤ 1048576) := ⟨heq, ⟨by omega, by omega, by omega, by omega⟩, ⟨by omega, by omega, by omega, by omega⟩, by omega⟩
  clear ho hr hgr heq hlx hly hll hb4 hW4 H0 E0
  obtain ⟨ha, hv, hrow, hcase⟩ := HR1.out
  obtain ⟨⟨c0, c1, c2⟩, f1, f2⟩ := Rd.cells hrow
  have hlt1 : w.heap.size + 1 < w1.heap.size := by have := H4.out.2.2.2.2.2; omega
  clear hrow
  rcases hcase with ⟨e1, rfl, h0, h1⟩ | ⟨e1, c, rfl⟩
  · rw [HN0.out] at e1
    exact absurd e1 (by simp)
  have HA : Hid (∀ w', Below w.heap.size w w' → FrOut s w (.returned (.agg #[.string ⟨#[]⟩, .int .i64 0, .string ⟨#[]⟩, .int .i64 0, .int .i64 0, .slice none 0 0, .slice none 0 0, .string ⟨#[]⟩, .int .i64 0, .string ⟨#[]⟩, .int .i64 0, .int .i64 0, .slice none 0 0, .slice none 0 0, .slice none 0 0, .int .i64 3])) w') := fun w' hb => FrOut.zero (frR_no (by have := HS.out; omega) (fun h => ((fraudOk_iff s).1 h).1 e1)) hb
  have r2 := row_here H4.out.2.1
  have q2 := row_free H4.out.2.1
  obtain ⟨s0, s1, s2, s3, s4, s5, s6, s7, s8, s9, s10, s11, s12, s13, s14, s15⟩ : W4.cell? ⟨w.heap.size, 0, none⟩ = some (.string ⟨#[]⟩) ∧ W4.cell? ⟨w.heap.size, 1, none⟩ = some (.int .i64 0) ∧ W4.cell? ⟨w.heap.size, 2, none⟩ = some (.string ⟨#[]⟩) ∧ W4.cell? ⟨w.heap.size, 3, none⟩ = some (.int .i64 0) ∧ W4.cell? ⟨w.heap.size, 4, none⟩ = some (.int .i64 0) ∧ W4.cell? ⟨w.heap.size, 5, none⟩ = some (.slice none 0 0) ∧ W4.cell? ⟨w.heap.size, 6, none⟩ = some (.slice none 0 0) ∧ W4.cell? ⟨w.heap.size, 7, none⟩ = some (.string ⟨#[]⟩) ∧ W4.cell? ⟨w.heap.size, 8, none⟩ = some (.int .i64 0) ∧ W4.cell? ⟨w.heap.size, 9, none⟩ = some (.string ⟨#[]⟩) ∧ W4.cell? ⟨w.heap.size, 10, none⟩ = some (.int .i64 0) ∧ W4.cell? ⟨w.heap.size, 11, none⟩ = some (.int .i64 0) ∧ W4.cell? ⟨w.heap.size, 12, none⟩ = some (.slice none 0 0) ∧ W4.cell? ⟨w.heap.size, 13, none⟩ = some (.slice none 0 0) ∧ W4.cell? ⟨w.heap.size, 14, none⟩ = some (.slice none 0 0) ∧ W4.cell? ⟨w.heap.size, 15, none⟩ = some (.int .i64 0) := ⟨r2 0 _ rfl, r2 1 _ rfl, r2 2 _ rfl, r2 3 _ rfl, r2 4 _ rfl, r2 5 _ rfl, r2 6 _ rfl, r2 7 _ rfl, r2 8 _ rfl, r2 9 _ rfl, r2 10 _ rfl, r2 11 _ rfl, r2 12 _ rfl, r2 13 _ rfl, r2 14 _ rfl, r2 15 _ rfl⟩
  obtain ⟨g0, g1, g2, g3, g4, g5, g6, g7, g8, g9, g10, g11, g12, g13, g14, g15⟩ : W4.frozen? ⟨w.heap.size, 0, none⟩ = false ∧ W4.frozen? ⟨w.heap.size, 1, none⟩ = false ∧ W4.frozen? ⟨w.heap.size, 2, none⟩ = false ∧ W4.frozen? ⟨w.heap.size, 3, none⟩ = false ∧ W4.frozen? ⟨w.heap.size, 4, none⟩ = false ∧ W4.frozen? ⟨w.heap.size, 5, none⟩ = false ∧ W4.frozen? ⟨w.heap.size, 6, none⟩ = false ∧ W4.frozen? ⟨w.heap.size, 7, none⟩ = false ∧ W4.frozen? ⟨w.heap.size, 8, none⟩ = false ∧ W4.frozen? ⟨w.heap.size, 9, none⟩ = false ∧ W4.frozen? ⟨w.heap.size, 10, none⟩ = false ∧ W4.frozen? ⟨w.heap.size, 11, none⟩ = false ∧ W4.frozen? ⟨w.heap.size, 12, none⟩ = false ∧ W4.frozen? ⟨w.heap.size, 13, none⟩ = false ∧ W4.frozen? ⟨w.heap.size, 14, none⟩ = false ∧ W4.frozen? ⟨w.heap.size, 15, none⟩ = false := ⟨q2 0, q2 1, q2 2, q2 3, q2 4, q2 5, q2 6, q2 7, q2 8, q2 9, q2 10, q2 11, q2 12, q2 13, q2 14, q2 15⟩
  have HBL : Hid (Below w.heap.size w W4) := H4.out.2.2.2.1
  rw [HW4.out] at s0 s1 s2 s3 s4 s5 s6 s7 s8 s9 s10 s11 s12 s13 s14 s15 g0 g1 g2 g3 g4 g5 g6 g7 g8 g9 g10 g11 g12 g13 g14 g15 HBL
  clear r2 q2 H4 e1 HQ HR1 HW4
  go_wp2
  refine bodyPost_ret (v := .agg #[.string ⟨#[]⟩, .int .i64 0, .string ⟨#[]⟩, .int .i64 0, .int .i64 0, .slice none 0 0, .slice none 0 0, .string ⟨#[]⟩, .int .i64 0, .string ⟨#[]⟩, .int .i64 0, .int .i64 0, .slice none 0 0, .slice none 0 0, .slice none 0 0, .int .i64 3]) (by simp [results, Try.results6, go_sem, s0, s1, s2, s3, s4, s5, s6, s7, s8, s9, s10, s11, s12, s13, s14, s15, g0, g1, g2, g3, g4, g5, g6, g7, g8, g9, g10, g11, g12, g13, g14, g15]) rfl (HA.out _ (below_own HBL.out (r := w.heap.size) ?_ (Nat.le_refl _)))
  iterate 16 (refine grown_cell ?_ _ _)
  exact rd_refl _ _
end Go.Proofs.Ytpglcbidfghfkaa

/-
  The program's FraudRead.
-/
namespace Go.Proofs.Ytpglcbidfghfkaa
open Go.RowKit Go.Lib
set_option linter.unusedVariables false
set_option linter.unusedSimpArgs false

set_option maxHeartbeats 4000000 in
set_option maxRecDepth 10000 in
theorem implFraudRead_any (s : ByteArray) (w : World) (hz : s.size ≤ 1048576) :
    Calls Try.prog 6 #[.string s] w fun e w' => FrOut s w e w' := by
  by_cases hs : 20000 < (s.size : Int)
  · have HA : Hid (∀ w', Below w.heap.size w w' → FrOut s w (.returned (.agg #[.string ⟨#[]⟩, .int .i64 0, .string ⟨#[]⟩, .int .i64 0, .int .i64 0, .slice none 0 0, .slice none 0 0, .string ⟨#[]⟩, .int .i64 0, .string ⟨#[]⟩, .int .i64 0, .int .i64 0, .slice none 0 0, .slice none 0 0, .slice none 0 0, .int .i64 2])) w') := fun w' hb => FrOut.zero (frR_big hs) hb
    clear hz
    go_enter Try.func6, Try.ntmps6
    go_wp2
    exact bodyPost_ret (v := .agg #[.string ⟨#[]⟩, .int .i64 0, .string ⟨#[]⟩, .int .i64 0, .int .i64 0, .slice none 0 0, .slice none 0 0, .string ⟨#[]⟩, .int .i64 0, .string ⟨#[]⟩, .int .i64 0, .int .i64 0, .slice none 0 0, .slice none 0 0, .slice none 0 0, .int .i64 2]) (by simp [results, Try.results6, go_sem]) rfl (HA.out _ ((Below.refl _ _).alloc (Nat.le_refl _) _))
  by_cases h0 : (fraudAt s).2 = none
  · exact implFR_none s w hz hs h0
  by_cases h1 : fraudOk s = true
  · exact implFR_ok s w hz hs h1
  · exact implFR_bad s w hz hs h0 h1
end Go.Proofs.Ytpglcbidfghfkaa
