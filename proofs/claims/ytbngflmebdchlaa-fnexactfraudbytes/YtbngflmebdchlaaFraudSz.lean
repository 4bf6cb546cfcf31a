/-
  A fraud that came in: its size.
-/
import Derived.Test.YtbngflmebdchlaaHdV
namespace Go.Proofs.Ytbngflmebdchlaa
open Go.RowKit Go.Lib
set_option linter.unusedVariables false
set_option linter.unusedSimpArgs false

set_option maxHeartbeats 4000000 in
set_option maxRecDepth 10000 in
theorem szFraud_any (x y : Hd) (xe xp ye yp ve : Value) (l : List ByteArray) (left : Int) (w : World) (hx : x.Arg xe xp w) (hy : y.Arg ye yp w) (h3 : TextsArg w ve l) (h0 : 0 ≤ left) (hle : left ≤ 1048576) :
    Calls Try.prog 5 #[.agg #[.string x.log, .int .i64 x.size, .string x.root, .int .i64 x.time, .int .i64 x.k, xe, xp, .string y.log, .int .i64 y.size, .string y.root, .int .i64 y.time, .int .i64 y.k, ye, yp, ve], .int .i64 left] w fun e w' => ∃ r : Int, e = .returned (.int .i64 r) ∧ -1048577 ≤ r ∧ r ≤ 1048576 ∧ (r < 0 ∨ (x.Lim ∧ y.Lim ∧ l.length ≤ 1048576)) ∧ Below w.heap.size w w' := by
  obtain ⟨a1, c1, b1, d1, rfl, rfl⟩ := hx.1.parts
  obtain ⟨a2, c2, b2, d2, rfl, rfl⟩ := hy.1.parts
  obtain ⟨ae, ce, rfl, _⟩ := id h3.1
  obtain ⟨W, hW⟩ : ∃ W, W = w.alloc (.cells #[.string x.log, .int .i64 x.size, .string x.root, .int .i64 x.time, .int .i64 x.k, .slice a1 x.el.length c1, .slice b1 x.pl.length d1, .string y.log, .int .i64 y.size, .string y.root, .int .i64 y.time, .int .i64 y.k, .slice a2 y.el.length c2, .slice b2 y.pl.length d2, .slice ae l.length ce] 28) := ⟨_, rfl⟩
  have hbW : Below w.heap.size w W := by rw [hW]; exact (Below.refl _ _).alloc (Nat.le_refl _) _
  have hgW : W.heap[w.heap.size]? = some (.cells #[.string x.log, .int .i64 x.size, .string x.root, .int .i64 x.time, .int .i64 x.k, .slice a1 x.el.length c1, .slice b1 x.pl.length d1, .string y.log, .int .i64 y.size, .string y.root, .int .i64 y.time, .int .i64 y.k, .slice a2 y.el.length c2, .slice b2 y.pl.length d2, .slice ae l.length ce] 28 (0, 0)) := by rw [hW]; exact heap_alloc_new w _
  have hlW : w.heap.size < W.heap.size := (Array.getElem?_eq_some_iff.1 hgW).1
  have HC : Hid (∀ W', Below W.heap.size W W' → W'.cell? ⟨w.heap.size, 0, none⟩ = some (.string x.log) ∧ W'.cell? ⟨w.heap.size, 1, none⟩ = some (.int .i64 x.size) ∧ W'.cell? ⟨w.heap.size, 2, none⟩ = some (.string x.root) ∧ W'.cell? ⟨w.heap.size, 3, none⟩ = some (.int .i64 x.time) ∧ W'.cell? ⟨w.heap.size, 4, none⟩ = some (.int .i64 x.k) ∧ W'.cell? ⟨w.heap.size, 5, none⟩ = some (.slice a1 x.el.length c1) ∧ W'.cell? ⟨w.heap.size, 6, none⟩ = some (.slice b1 x.pl.length d1) ∧ W'.cell? ⟨w.heap.size, 7, none⟩ = some (.string y.log) ∧ W'.cell? ⟨w.heap.size, 8, none⟩ = some (.int .i64 y.size) ∧ W'.cell? ⟨w.heap.size, 9, none⟩ = some (.string y.root) ∧ W'.cell? ⟨w.heap.size, 10, none⟩ = some (.int .i64 y.time) ∧ W'.cell? ⟨w.heap.size, 11, none⟩ = some (.int .i64 y.k) ∧ W'.cell? ⟨w.heap.size, 12, none⟩ = some (.slice a2 y.el.length c2) ∧ W'.cell? ⟨w.heap.size, 13, none⟩ = some (.slice b2 y.pl.length d2) ∧ W'.cell? ⟨w.heap.size, 14, none⟩ = some (.slice ae l.length ce)) := fun W' hb => by
    have c := row_cells hb hlW hgW
    exact ⟨c 0 _ rfl, c 1 _ rfl, c 2 _ rfl, c 3 _ rfl, c 4 _ rfl, c 5 _ rfl, c 6 _ rfl, c 7 _ rfl, c 8 _ rfl, c 9 _ rfl, c 10 _ rfl, c 11 _ rfl, c 12 _ rfl, c 13 _ rfl, c 14 _ rfl⟩
  have E1 : Hid (∀ r : Int, 0 ≤ r → r ≤ 1048576 → Calls Try.prog 15 #[.agg #[.string x.log, .int .i64 x.size, .string x.root, .int .i64 x.time, .int .i64 x.k, .slice a1 x.el.length c1, .slice b1 x.pl.length d1], .int .i64 r] W fun e w' => ∃ r : Int, e = .returned (.int .i64 r) ∧ -1048577 ≤ r ∧ r ≤ 1048576 ∧ (r < 0 ∨ x.Lim) ∧ Below W.heap.size W w') := fun r a b => szHd_any x _ _ r W (hx.on hbW) a b
  have E2 : Hid (∀ W', Below W.heap.size W W' → ∀ r : Int, 0 ≤ r → r ≤ 1048576 → Calls Try.prog 15 #[.agg #[.string y.log, .int .i64 y.size, .string y.root, .int .i64 y.time, .int .i64 y.k, .slice a2 y.el.length c2, .slice b2 y.pl.length d2], .int .i64 r] W' fun e w' => ∃ r : Int, e = .returned (.int .i64 r) ∧ -1048577 ≤ r ∧ r ≤ 1048576 ∧ (r < 0 ∨ y.Lim) ∧ Below W'.heap.size W' w') := fun W' hb r a b => szHd_any y _ _ r W' ((hy.on hbW).on hb) a b
  have E3 : Hid (∀ W', Below W.heap.size W W' → ∀ r : Int, 0 ≤ r → r ≤ 1048576 → Calls Try.prog 16 #[.slice ae l.length ce, .int .i64 r] W' fun e w' => SzAns l e ∧ w' = W') := fun W' hb r a b => sz_any _ l r W' W'.heap.size ((h3.on hbW).on hb).1 h3.2.1 h3.2.2 a b
  have H0 : Hid (Below w.heap.size w W) := hbW
  have HW : Hid (W = w.alloc (.cells #[.string x.log, .int .i64 x.size, .string x.root, .int .i64 x.time, .int .i64 x.k, .slice a1 x.el.length c1, .slice b1 x.pl.length d1, .string y.log, .int .i64 y.size, .string y.root, .int .i64 y.time, .int .i64 y.k, .slice a2 y.el.length c2, .slice b2 y.pl.length d2, .slice ae l.length ce] 28)) := hW
  clear hx hy h3 hbW hgW hW
  go_enter Try.func5, Try.ntmps5
  go_wp2_with fail
  rw [← HW.out]
  refine (E1.out _ h0 hle).mono ?_
  rintro e w1 ⟨r1, rfl, p0, p1, q1, hb1⟩
  have Q1 : Hid (r1 < 0 ∨ x.Lim) := q1
  have B1 : Hid (Below W.heap.size W w1) := hb1
  obtain ⟨c0, c1, c2, c3, c4, c5, c6, c7, c8, c9, c10, c11, c12, c13, c14⟩ := HC.out _ hb1
  clear q1 hb1 E1 HW
  by_cases n1 : r1 < 0
  · go_wp2
    go_ret
    exact ⟨-1, rfl, by omega, by omega, .inl (by omega), H0.out.trans (B1.out.mono H0.out.size)⟩
  go_wp2_with fail
  refine (E2.out _ B1.out _ (by omega) (by omega)).mono ?_
  rintro e w2 ⟨r2, rfl, p2, p3, q2, hb2⟩
  have Q2 : Hid (r2 < 0 ∨ y.Lim) := q2
  have hb3 := B1.out.trans (hb2.mono B1.out.size)
  have B2 : Hid (Below W.heap.size W w2) := hb3
  clear c0 c1 c2 c3 c4 c5 c6 c7 c8 c9 c10 c11 c12 c13 c14
  obtain ⟨c0, c1, c2, c3, c4, c5, c6, c7, c8, c9, c10, c11, c12, c13, c14⟩ := HC.out _ hb3
  clear q2 hb2 hb3 E2
  by_cases n2 : r2 < 0
  · go_wp2
    go_ret
    exact ⟨-1, rfl, by omega, by omega, .inl (by omega), H0.out.trans (B2.out.mono H0.out.size)⟩
  go_wp2_with fail
  refine (E3.out _ B2.out _ (by omega) (by omega)).mono ?_
  rintro e w3 ⟨⟨r3, rfl, p4, p5, q3⟩, rfl⟩
  have Q3 : Hid (r3 < 0 ∨ l.length ≤ 1048576) := q3.imp id And.left
  clear q3 E3
  by_cases n3 : r3 < 0
  · go_wp2
    go_ret
    exact ⟨-1, rfl, by omega, by omega, .inl (by omega), H0.out.trans (B2.out.mono H0.out.size)⟩
  · go_wp2
    go_ret
    exact ⟨r3, rfl, by omega, by omega, .inr ⟨Q1.out.resolve_left (by omega), Q2.out.resolve_left (by omega), Q3.out.resolve_left (by omega)⟩, H0.out.trans (B2.out.mono H0.out.size)⟩

end Go.Proofs.Ytbngflmebdchlaa
