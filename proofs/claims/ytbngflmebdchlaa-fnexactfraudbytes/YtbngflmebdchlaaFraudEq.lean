/-
  Frauds held against each other.
-/
import Derived.Test.YtbngflmebdchlaaHdV
namespace Go.Proofs.Ytbngflmebdchlaa
open Go.RowKit Go.Lib
set_option linter.unusedVariables false
set_option linter.unusedSimpArgs false

set_option maxHeartbeats 4000000 in
set_option maxRecDepth 10000 in
theorem eqFraud_any (x y : Hd) (l : List ByteArray) (a1 b1 a2 b2 a3 a4 b4 a5 b5 a6 : Option Addr) (c1 d1 c2 d2 c3 c4 d4 c5 d5 c6 : Nat) (w : World) (h1 : x.In (.slice a1 x.el.length c1) (.slice b1 x.pl.length d1) w w.heap.size) (h2 : y.In (.slice a2 y.el.length c2) (.slice b2 y.pl.length d2) w w.heap.size) (h3 : Texts w w.heap.size (.slice a3 l.length c3) l) (h4 : x.In (.slice a4 x.el.length c4) (.slice b4 x.pl.length d4) w w.heap.size) (h5 : y.In (.slice a5 y.el.length c5) (.slice b5 y.pl.length d5) w w.heap.size) (h6 : Texts w w.heap.size (.slice a6 l.length c6) l) (hlx : x.Lim) (hly : y.Lim) (hll : l.length ≤ 1048577) :
    Calls Try.prog 9 #[.agg #[.string x.log, .int .i64 x.size, .string x.root, .int .i64 x.time, .int .i64 x.k, .slice a1 x.el.length c1, .slice b1 x.pl.length d1, .string y.log, .int .i64 y.size, .string y.root, .int .i64 y.time, .int .i64 y.k, .slice a2 y.el.length c2, .slice b2 y.pl.length d2, .slice a3 l.length c3], .agg #[.string x.log, .int .i64 x.size, .string x.root, .int .i64 x.time, .int .i64 x.k, .slice a4 x.el.length c4, .slice b4 x.pl.length d4, .string y.log, .int .i64 y.size, .string y.root, .int .i64 y.time, .int .i64 y.k, .slice a5 y.el.length c5, .slice b5 y.pl.length d5, .slice a6 l.length c6]] w fun e w' => e = .returned (.bool true) ∧ Below w.heap.size w w' := by
  obtain ⟨W, hW⟩ : ∃ W, W = (w.alloc (.cells #[.string x.log, .int .i64 x.size, .string x.root, .int .i64 x.time, .int .i64 x.k, .slice a1 x.el.length c1, .slice b1 x.pl.length d1, .string y.log, .int .i64 y.size, .string y.root, .int .i64 y.time, .int .i64 y.k, .slice a2 y.el.length c2, .slice b2 y.pl.length d2, .slice a3 l.length c3] 35)).alloc (.cells #[.string x.log, .int .i64 x.size, .string x.root, .int .i64 x.time, .int .i64 x.k, .slice a4 x.el.length c4, .slice b4 x.pl.length d4, .string y.log, .int .i64 y.size, .string y.root, .int .i64 y.time, .int .i64 y.k, .slice a5 y.el.length c5, .slice b5 y.pl.length d5, .slice a6 l.length c6] 35) := ⟨_, rfl⟩
  have hbW : Below w.heap.size w W := by rw [hW]; exact ((Below.refl _ _).alloc (Nat.le_refl _) _).alloc (by simp) _
  have hgW : W.heap[w.heap.size]? = some (.cells #[.string x.log, .int .i64 x.size, .string x.root, .int .i64 x.time, .int .i64 x.k, .slice a1 x.el.length c1, .slice b1 x.pl.length d1, .string y.log, .int .i64 y.size, .string y.root, .int .i64 y.time, .int .i64 y.k, .slice a2 y.el.length c2, .slice b2 y.pl.length d2, .slice a3 l.length c3] 35 (0, 0)) := by rw [hW]; exact heap_alloc2_old w _ _
  have hoW : W.heap[w.heap.size + 1]? = some (.cells #[.string x.log, .int .i64 x.size, .string x.root, .int .i64 x.time, .int .i64 x.k, .slice a4 x.el.length c4, .slice b4 x.pl.length d4, .string y.log, .int .i64 y.size, .string y.root, .int .i64 y.time, .int .i64 y.k, .slice a5 y.el.length c5, .slice b5 y.pl.length d5, .slice a6 l.length c6] 35 (0, 0)) := by rw [hW]; exact heap_alloc2_new w _ _
  have HW : Hid (W = (w.alloc (.cells #[.string x.log, .int .i64 x.size, .string x.root, .int .i64 x.time, .int .i64 x.k, .slice a1 x.el.length c1, .slice b1 x.pl.length d1, .string y.log, .int .i64 y.size, .string y.root, .int .i64 y.time, .int .i64 y.k, .slice a2 y.el.length c2, .slice b2 y.pl.length d2, .slice a3 l.length c3] 35)).alloc (.cells #[.string x.log, .int .i64 x.size, .string x.root, .int .i64 x.time, .int .i64 x.k, .slice a4 x.el.length c4, .slice b4 x.pl.length d4, .string y.log, .int .i64 y.size, .string y.root, .int .i64 y.time, .int .i64 y.k, .slice a5 y.el.length c5, .slice b5 y.pl.length d5, .slice a6 l.length c6] 35)) := hW
  have HC : Hid (∀ W', Below W.heap.size W W' → (W'.cell? ⟨w.heap.size, 0, none⟩ = some (.string x.log) ∧ W'.cell? ⟨w.heap.size, 1, none⟩ = some (.int .i64 x.size) ∧ W'.cell? ⟨w.heap.size, 2, none⟩ = some (.string x.root) ∧ W'.cell? ⟨w.heap.size, 3, none⟩ = some (.int .i64 x.time) ∧ W'.cell? ⟨w.heap.size, 4, none⟩ = some (.int .i64 x.k) ∧ W'.cell? ⟨w.heap.size, 5, none⟩ = some (.slice a1 x.el.length c1) ∧ W'.cell? ⟨w.heap.size, 6, none⟩ = some (.slice b1 x.pl.length d1) ∧ W'.cell? ⟨w.heap.size, 7, none⟩ = some (.string y.log) ∧ W'.cell? ⟨w.heap.size, 8, none⟩ = some (.int .i64 y.size) ∧ W'.cell? ⟨w.heap.size, 9, none⟩ = some (.string y.root) ∧ W'.cell? ⟨w.heap.size, 10, none⟩ = some (.int .i64 y.time) ∧ W'.cell? ⟨w.heap.size, 11, none⟩ = some (.int .i64 y.k) ∧ W'.cell? ⟨w.heap.size, 12, none⟩ = some (.slice a2 y.el.length c2) ∧ W'.cell? ⟨w.heap.size, 13, none⟩ = some (.slice b2 y.pl.length d2) ∧ W'.cell? ⟨w.heap.size, 14, none⟩ = some (.slice a3 l.length c3)) ∧ (W'.cell? ⟨w.heap.size + 1, 0, none⟩ = some (.string x.log) ∧ W'.cell? ⟨w.heap.size + 1, 1, none⟩ = some (.int .i64 x.size) ∧ W'.cell? ⟨w.heap.size + 1, 2, none⟩ = some (.string x.root) ∧ W'.cell? ⟨w.heap.size + 1, 3, none⟩ = some (.int .i64 x.time) ∧ W'.cell? ⟨w.heap.size + 1, 4, none⟩ = some (.int .i64 x.k) ∧ W'.cell? ⟨w.heap.size + 1, 5, none⟩ = some (.slice a4 x.el.length c4) ∧ W'.cell? ⟨w.heap.size + 1, 6, none⟩ = some (.slice b4 x.pl.length d4) ∧ W'.cell? ⟨w.heap.size + 1, 7, none⟩ = some (.string y.log) ∧ W'.cell? ⟨w.heap.size + 1, 8, none⟩ = some (.int .i64 y.size) ∧ W'.cell? ⟨w.heap.size + 1, 9, none⟩ = some (.string y.root) ∧ W'.cell? ⟨w.heap.size + 1, 10, none⟩ = some (.int .i64 y.time) ∧ W'.cell? ⟨w.heap.size + 1, 11, none⟩ = some (.int .i64 y.k) ∧ W'.cell? ⟨w.heap.size + 1, 12, none⟩ = some (.slice a5 y.el.length c5) ∧ W'.cell? ⟨w.heap.size + 1, 13, none⟩ = some (.slice b5 y.pl.length d5) ∧ W'.cell? ⟨w.heap.size + 1, 14, none⟩ = some (.slice a6 l.length c6))) := fun W' hb => by
    have c := row_cells hb (Array.getElem?_eq_some_iff.1 hgW).1 hgW
    have d := row_cells hb (Array.getElem?_eq_some_iff.1 hoW).1 hoW
    exact ⟨⟨c 0 _ rfl, c 1 _ rfl, c 2 _ rfl, c 3 _ rfl, c 4 _ rfl, c 5 _ rfl, c 6 _ rfl, c 7 _ rfl, c 8 _ rfl, c 9 _ rfl, c 10 _ rfl, c 11 _ rfl, c 12 _ rfl, c 13 _ rfl, c 14 _ rfl⟩, ⟨d 0 _ rfl, d 1 _ rfl, d 2 _ rfl, d 3 _ rfl, d 4 _ rfl, d 5 _ rfl, d 6 _ rfl, d 7 _ rfl, d 8 _ rfl, d 9 _ rfl, d 10 _ rfl, d 11 _ rfl, d 12 _ rfl, d 13 _ rfl, d 14 _ rfl⟩⟩
  have E1 : Hid (∀ W', Below W.heap.size W W' → Calls Try.prog 31 #[.agg #[.string x.log, .int .i64 x.size, .string x.root, .int .i64 x.time, .int .i64 x.k, .slice a1 x.el.length c1, .slice b1 x.pl.length d1], .agg #[.string x.log, .int .i64 x.size, .string x.root, .int .i64 x.time, .int .i64 x.k, .slice a4 x.el.length c4, .slice b4 x.pl.length d4]] W' fun e w' => e = .returned (.bool true) ∧ Below W'.heap.size W' w') := fun W' hb => eqHead_any x.log x.root x.size x.time x.k _ _ _ _ x.el x.pl W' ((h1.1.on hbW).on hb) ((h1.2.on hbW).on hb) ((h4.1.on hbW).on hb) ((h4.2.on hbW).on hb) (Nat.le_succ_of_le hlx.2.2.1) (Nat.le_succ_of_le hlx.2.2.2)
  have E2 : Hid (∀ W', Below W.heap.size W W' → Calls Try.prog 31 #[.agg #[.string y.log, .int .i64 y.size, .string y.root, .int .i64 y.time, .int .i64 y.k, .slice a2 y.el.length c2, .slice b2 y.pl.length d2], .agg #[.string y.log, .int .i64 y.size, .string y.root, .int .i64 y.time, .int .i64 y.k, .slice a5 y.el.length c5, .slice b5 y.pl.length d5]] W' fun e w' => e = .returned (.bool true) ∧ Below W'.heap.size W' w') := fun W' hb => eqHead_any y.log y.root y.size y.time y.k _ _ _ _ y.el y.pl W' ((h2.1.on hbW).on hb) ((h2.2.on hbW).on hb) ((h5.1.on hbW).on hb) ((h5.2.on hbW).on hb) (Nat.le_succ_of_le hly.2.2.1) (Nat.le_succ_of_le hly.2.2.2)
  have E3 : Hid (∀ W', Below W.heap.size W W' → Calls Try.prog 32 #[.slice a3 l.length c3, .slice a6 l.length c6] W' fun e w' => e = .returned (.bool true) ∧ Below W'.heap.size W' w') := fun W' hb => eqTexts_any _ _ l W' W'.heap.size ((h3.on hbW).on hb) ((h6.on hbW).on hb) hll
  have H0 : Hid (Below w.heap.size w W ∧ Below W.heap.size W W) := ⟨hbW, Below.refl _ _⟩
  clear h1 h2 h3 h4 h5 h6 hbW hgW hoW hW
  obtain ⟨⟨c0, c1, c2, c3, c4, c5, c6, c7, c8, c9, c10, c11, c12, c13, c14⟩, ⟨d0, d1, d2, d3, d4, d5, d6, d7, d8, d9, d10, d11, d12, d13, d14⟩⟩ := HC.out W H0.out.2
  go_enter Try.func9, Try.ntmps9
  go_wp2_with fail
  rw [← HW.out]
  clear HW
  refine (E1.out _ H0.out.2).mono ?_
  rintro e w1 ⟨rfl, hb1⟩
  have B1 : Hid (Below W.heap.size W w1) := hb1
  clear c0 c1 c2 c3 c4 c5 c6 c7 c8 c9 c10 c11 c12 c13 c14 d0 d1 d2 d3 d4 d5 d6 d7 d8 d9 d10 d11 d12 d13 d14
  obtain ⟨⟨c0, c1, c2, c3, c4, c5, c6, c7, c8, c9, c10, c11, c12, c13, c14⟩, ⟨d0, d1, d2, d3, d4, d5, d6, d7, d8, d9, d10, d11, d12, d13, d14⟩⟩ := HC.out _ hb1
  clear hb1
  go_wp2_with fail
  refine (E2.out _ B1.out).mono ?_
  rintro e w2 ⟨rfl, hb2⟩
  have B2 : Hid (Below W.heap.size W w2) := B1.out.trans (hb2.mono B1.out.size)
  clear c0 c1 c2 c3 c4 c5 c6 c7 c8 c9 c10 c11 c12 c13 c14 d0 d1 d2 d3 d4 d5 d6 d7 d8 d9 d10 d11 d12 d13 d14 hb2
  obtain ⟨⟨c0, c1, c2, c3, c4, c5, c6, c7, c8, c9, c10, c11, c12, c13, c14⟩, ⟨d0, d1, d2, d3, d4, d5, d6, d7, d8, d9, d10, d11, d12, d13, d14⟩⟩ := HC.out _ B2.out
  go_wp2_with fail
  refine (E3.out _ B2.out).mono ?_
  rintro e w3 ⟨rfl, hb3⟩
  have B3 : Hid (Below W.heap.size W w3) := B2.out.trans (hb3.mono B2.out.size)
  clear c0 c1 c2 c3 c4 c5 c6 c7 c8 c9 c10 c11 c12 c13 c14 d0 d1 d2 d3 d4 d5 d6 d7 d8 d9 d10 d11 d12 d13 d14 hb3
  go_wp2
  go_ret
  exact ⟨rfl, H0.out.1.trans (B3.out.mono H0.out.1.size)⟩

end Go.Proofs.Ytbngflmebdchlaa
