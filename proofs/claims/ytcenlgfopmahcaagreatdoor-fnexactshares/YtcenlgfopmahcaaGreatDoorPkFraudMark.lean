/-
  Frauds marked, and held to their marks.
-/
import Derived.Test.YtcenlgfopmahcaaGreatDoorPkSigLaws
import Derived.Test.YtcenlgfopmahcaaGreatDoorPkHdV
namespace Go.Proofs.YtcenlgfopmahcaaGreatDoor
open Go.RowKit Go.Lib
set_option linter.unusedVariables false
set_option linter.unusedSimpArgs false

theorem Spared.inside {w w' : World} {v u : Value} {B C : Nat} (h : Spared w w' v u) (hv : ∀ g, v.ownBlock = some g → B ≤ g ∧ g < C) (hu : ∀ g, u.ownBlock = some g → B ≤ g ∧ g < C) : Inside w w' B C :=
  ⟨h.1, h.2.1, h.2.2.1, h.2.2.2.1, fun b hb ho => h.2.2.2.2 b hb (fun e => by have := hv b e; omega) (fun e => by have := hu b e; omega)⟩

set_option maxHeartbeats 4000000 in
set_option maxRecDepth 10000 in
theorem markFraud_any (x y : Hd) (vex vpx vey vpy vl : Value) (l : List ByteArray) (j : Nat) (w : World) (n0 n1 n2 n3 n4 n5 : Nat) (h : Owns5 w n0 n1 n2 n3 n4 vex vpx vey vpy vl x.el x.pl y.el y.pl l) (h5 : ∀ g, vl.ownBlock = some g → g < n5) (h45 : n4 ≤ n5 ∧ n5 ≤ w.heap.size) (hj0 : 1 ≤ j) (hj1 : j ≤ 80000000000000) (hl1 : x.el.length ≤ 2000000 ∧ x.pl.length ≤ 2000000) (hl2 : y.el.length ≤ 2000000 ∧ y.pl.length ≤ 2000000) (hl3 : l.length ≤ 2000000) :
    Calls Tryz.prog 32 #[.agg #[.string x.log, .int .i64 x.size, .string x.root, .int .i64 x.time, .int .i64 x.k, vex, vpx, .string y.log, .int .i64 y.size, .string y.root, .int .i64 y.time, .int .i64 y.k, vey, vpy, vl], .int .i64 j] w fun e w' => e = .returned (.int .i64 ((j + x.el.length + x.pl.length + y.el.length + y.pl.length + l.length : Nat) : Int)) ∧ Owns5 w' n0 n1 n2 n3 n4 vex vpx vey vpy vl (marks (j) x.el.length) (marks (j + x.el.length) x.pl.length) (marks (j + x.el.length + x.pl.length) y.el.length) (marks (j + x.el.length + x.pl.length + y.el.length) y.pl.length) (marks (j + x.el.length + x.pl.length + y.el.length + y.pl.length) l.length) ∧ Inside w w' n0 n5 := by
  obtain ⟨ax, cx, rfl⟩ := h.1.1.len
  obtain ⟨bx, dx, rfl⟩ := h.1.2.1.len
  obtain ⟨ay, cy, rfl⟩ := h.1.2.2.1.len
  obtain ⟨by', dy, rfl⟩ := h.1.2.2.2.1.len
  obtain ⟨al, cl, rfl⟩ := h.1.2.2.2.2.len
  obtain ⟨W, hW⟩ : ∃ W, W = w.alloc (.cells #[.string x.log, .int .i64 x.size, .string x.root, .int .i64 x.time, .int .i64 x.k, .slice ax x.el.length cx, .slice bx x.pl.length dx, .string y.log, .int .i64 y.size, .string y.root, .int .i64 y.time, .int .i64 y.k, .slice ay y.el.length cy, .slice by' y.pl.length dy, .slice al l.length cl] 39) := ⟨_, rfl⟩
  have hbW : Below w.heap.size w W := by rw [hW]; exact (Below.refl _ _).alloc (Nat.le_refl _) _
  have H0 : Hid (Owns5 W n0 n1 n2 n3 n4 (.slice ax x.el.length cx) (.slice bx x.pl.length dx) (.slice ay y.el.length cy) (.slice by' y.pl.length dy) (.slice al l.length cl) x.el x.pl y.el y.pl l ∧ W.heap[w.heap.size]? = some (.cells #[.string x.log, .int .i64 x.size, .string x.root, .int .i64 x.time, .int .i64 x.k, .slice ax x.el.length cx, .slice bx x.pl.length dx, .string y.log, .int .i64 y.size, .string y.root, .int .i64 y.time, .int .i64 y.k, .slice ay y.el.length cy, .slice by' y.pl.length dy, .slice al l.length cl] 39 (0, 0)) ∧ Inside w W n0 n5) := ⟨h.below hbW (Nat.le_refl _), by rw [hW]; exact heap_alloc_new w _, Inside.of_below hbW⟩
  have HW : Hid (W = w.alloc (.cells #[.string x.log, .int .i64 x.size, .string x.root, .int .i64 x.time, .int .i64 x.k, .slice ax x.el.length cx, .slice bx x.pl.length dx, .string y.log, .int .i64 y.size, .string y.root, .int .i64 y.time, .int .i64 y.k, .slice ay y.el.length cy, .slice by' y.pl.length dy, .slice al l.length cl] 39)) := hW
  have HN : Hid ((∀ g, (Value.slice al l.length cl).ownBlock = some g → g < n5) ∧ n4 ≤ n5 ∧ n5 ≤ w.heap.size ∧ (n0 ≤ n1 ∧ n1 ≤ n2 ∧ n2 ≤ n3 ∧ n3 ≤ n4)) := ⟨h5, h45.1, h45.2, h.2.2.1, h.2.2.2.1, h.2.2.2.2.1, h.2.2.2.2.2.1⟩
  have HL : Hid ((x.el.length ≤ 2000000 ∧ x.pl.length ≤ 2000000) ∧ (y.el.length ≤ 2000000 ∧ y.pl.length ≤ 2000000) ∧ l.length ≤ 2000000 ∧ 1 ≤ j ∧ j ≤ 80000000000000) := ⟨hl1, hl2, hl3, hj0, hj1⟩
  have E0 : Hid (Calls Tryz.prog 31 #[.agg #[.string x.log, .int .i64 x.size, .string x.root, .int .i64 x.time, .int .i64 x.k, .slice ax x.el.length cx, .slice bx x.pl.length dx], .int .i64 j] W fun e w' => e = .returned (.int .i64 ((j + x.el.length + x.pl.length : Nat) : Int)) ∧ OwnT w' n0 (.slice ax x.el.length cx) (marks (j) x.el.length) ∧ OwnT w' n1 (.slice bx x.pl.length dx) (marks (j + x.el.length) x.pl.length) ∧ Spared W w' (.slice ax x.el.length cx) (.slice bx x.pl.length dx)) := markHead_any _ _ _ _ _ _ _ x.el x.pl j W n0 n1 H0.out.1.1.1 H0.out.1.1.2.1 H0.out.1.2.1.1 hj0 (by omega) (by omega) (by omega)
  clear h h5 h45 hW hbW hl1 hl2 hl3 hj0 hj1
  obtain ⟨k5, hk5⟩ : ∃ k5 : Int, k5 = ((j + x.el.length + x.pl.length + y.el.length + y.pl.length + l.length : Nat) : Int) := ⟨_, rfl⟩
  rw [← hk5]
  have HK5 : Hid (k5 = ((j + x.el.length + x.pl.length + y.el.length + y.pl.length + l.length : Nat) : Int)) := hk5
  clear hk5
  go_enter Tryz.func32, Tryz.ntmps32
  go_wp2_with fail
  rw [← HW.out]
  clear HW
  refine E0.out.mono ?_
  rintro e w1 ⟨rfl, ho0, ho1, hsp⟩
  have hin : Inside W w1 n0 n2 := hsp.inside (fun g hg => by have := H0.out.1.1.1.block_lt g hg; have := H0.out.1.2.1.1 g hg; have := HN.out.2.2.2; omega) (fun g hg => by have := H0.out.1.1.2.1.block_lt g hg; have := H0.out.1.2.1.2.1 g hg; have := HN.out.2.2.2; omega)
  have H1 : Hid (Owns5 w1 n0 n1 n2 n3 n4 (.slice ax x.el.length cx) (.slice bx x.pl.length dx) (.slice ay y.el.length cy) (.slice by' y.pl.length dy) (.slice al l.length cl) (marks (j) x.el.length) (marks (j + x.el.length) x.pl.length) y.el y.pl l ∧ w1.heap[w.heap.size]? = some (.cells #[.string x.log, .int .i64 x.size, .string x.root, .int .i64 x.time, .int .i64 x.k, .slice ax x.el.length cx, .slice bx x.pl.length dx, .string y.log, .int .i64 y.size, .string y.root, .int .i64 y.time, .int .i64 y.k, .slice ay y.el.length cy, .slice by' y.pl.length dy, .slice al l.length cl] 39 (0, 0)) ∧ Inside w w1 n0 n5) := by
    obtain ⟨⟨⟨o0, o1, o2, o3, o4⟩, ⟨q0, q1, q2, q3⟩, b1, b2, b3, b4, b5⟩, hrow, hi⟩ := H0.out
    obtain ⟨z1, z2, z3, z4⟩ := HN.out
    have hz := (Array.getElem?_eq_some_iff.1 hrow).1
    exact ⟨⟨⟨ho0, ho1, o2.aside hin (fun g hg => .inr (o2.block_lt g hg).1), o3.aside hin (fun g hg => .inr (by have := (o3.block_lt g hg).1; omega)), o4.aside hin (fun g hg => .inr (by have := (o4.block_lt g hg).1; omega))⟩, ⟨q0, q1, q2, q3⟩, b1, b2, b3, b4, Nat.le_trans b5 hin.2.2.2.1⟩, (hin.2.2.2.2 _ hz (.inr (by omega))).trans hrow, hi.trans (hin.wide (Nat.le_refl _) (by omega))⟩
  clear ho0 ho1 hsp hin H0 E0
  have E1 : Hid (Calls Tryz.prog 31 #[.agg #[.string y.log, .int .i64 y.size, .string y.root, .int .i64 y.time, .int .i64 y.k, .slice ay y.el.length cy, .slice by' y.pl.length dy], .int .i64 ((j + x.el.length + x.pl.length : Nat) : Int)] w1 fun e w' => e = .returned (.int .i64 ((j + x.el.length + x.pl.length + y.el.length + y.pl.length : Nat) : Int)) ∧ OwnT w' n2 (.slice ay y.el.length cy) (marks (j + x.el.length + x.pl.length) y.el.length) ∧ OwnT w' n3 (.slice by' y.pl.length dy) (marks (j + x.el.length + x.pl.length + y.el.length) y.pl.length) ∧ Spared w1 w' (.slice ay y.el.length cy) (.slice by' y.pl.length dy)) := markHead_any _ _ _ _ _ _ _ y.el y.pl (j + x.el.length + x.pl.length) w1 n2 n3 H1.out.1.1.2.2.1 H1.out.1.1.2.2.2.1 H1.out.1.2.1.2.2.1 (by have := HL.out; omega) (by have := HL.out; omega) (by have := HL.out; omega) (by have := HL.out; omega)
  obtain ⟨c0, c1, c2, c3, c4, c5, c6, c7, c8, c9, c10, c11, c12, c13, c14⟩ : w1.cell? ⟨w.heap.size, 0, none⟩ = some (.string x.log) ∧ w1.cell? ⟨w.heap.size, 1, none⟩ = some (.int .i64 x.size) ∧ w1.cell? ⟨w.heap.size, 2, none⟩ = some (.string x.root) ∧ w1.cell? ⟨w.heap.size, 3, none⟩ = some (.int .i64 x.time) ∧ w1.cell? ⟨w.heap.size, 4, none⟩ = some (.int .i64 x.k) ∧ w1.cell? ⟨w.heap.size, 5, none⟩ = some (.slice ax x.el.length cx) ∧ w1.cell? ⟨w.heap.size, 6, none⟩ = some (.slice bx x.pl.length dx) ∧ w1.cell? ⟨w.heap.size, 7, none⟩ = some (.string y.log) ∧ w1.cell? ⟨w.heap.size, 8, none⟩ = some (.int .i64 y.size) ∧ w1.cell? ⟨w.heap.size, 9, none⟩ = some (.string y.root) ∧ w1.cell? ⟨w.heap.size, 10, none⟩ = some (.int .i64 y.time) ∧ w1.cell? ⟨w.heap.size, 11, none⟩ = some (.int .i64 y.k) ∧ w1.cell? ⟨w.heap.size, 12, none⟩ = some (.slice ay y.el.length cy) ∧ w1.cell? ⟨w.heap.size, 13, none⟩ = some (.slice by' y.pl.length dy) ∧ w1.cell? ⟨w.heap.size, 14, none⟩ = some (.slice al l.length cl) := ⟨row_here H1.out.2.1 0 _ rfl, row_here H1.out.2.1 1 _ rfl, row_here H1.out.2.1 2 _ rfl, row_here H1.out.2.1 3 _ rfl, row_here H1.out.2.1 4 _ rfl, row_here H1.out.2.1 5 _ rfl, row_here H1.out.2.1 6 _ rfl, row_here H1.out.2.1 7 _ rfl, row_here H1.out.2.1 8 _ rfl, row_here H1.out.2.1 9 _ rfl, row_here H1.out.2.1 10 _ rfl, row_here H1.out.2.1 11 _ rfl, row_here H1.out.2.1 12 _ rfl, row_here H1.out.2.1 13 _ rfl, row_here H1.out.2.1 14 _ rfl⟩
  generalize hk2 : ((j + x.el.length + x.pl.length : Nat) : Int) = k2 at E1 ⊢
  clear hk2
  go_wp2_with fail
  refine E1.out.mono ?_
  rintro e w2 ⟨rfl, ho0, ho1, hsp⟩
  have hin : Inside w1 w2 n2 n4 := hsp.inside (fun g hg => by have := H1.out.1.1.2.2.1.block_lt g hg; have := H1.out.1.2.1.2.2.1 g hg; have := HN.out.2.2.2; omega) (fun g hg => by have := H1.out.1.1.2.2.2.1.block_lt g hg; have := H1.out.1.2.1.2.2.2 g hg; have := HN.out.2.2.2; omega)
  have H2 : Hid (Owns5 w2 n0 n1 n2 n3 n4 (.slice ax x.el.length cx) (.slice bx x.pl.length dx) (.slice ay y.el.length cy) (.slice by' y.pl.length dy) (.slice al l.length cl) (marks (j) x.el.length) (marks (j + x.el.length) x.pl.length) (marks (j + x.el.length + x.pl.length) y.el.length) (marks (j + x.el.length + x.pl.length + y.el.length) y.pl.length) l ∧ w2.heap[w.heap.size]? = some (.cells #[.string x.log, .int .i64 x.size, .string x.root, .int .i64 x.time, .int .i64 x.k, .slice ax x.el.length cx, .slice bx x.pl.length dx, .string y.log, .int .i64 y.size, .string y.root, .int .i64 y.time, .int .i64 y.k, .slice ay y.el.length cy, .slice by' y.pl.length dy, .slice al l.length cl] 39 (0, 0)) ∧ Inside w w2 n0 n5) := by
    obtain ⟨⟨⟨o0, o1, o2, o3, o4⟩, ⟨q0, q1, q2, q3⟩, b1, b2, b3, b4, b5⟩, hrow, hi⟩ := H1.out
    obtain ⟨z1, z2, z3, z4⟩ := HN.out
    have hz := (Array.getElem?_eq_some_iff.1 hrow).1
    exact ⟨⟨⟨o0.aside hin (fun g hg => .inl (by have := q0 g hg; omega)), o1.aside hin (fun g hg => .inl (q1 g hg)), ho0, ho1, o4.aside hin (fun g hg => .inr (o4.block_lt g hg).1)⟩, ⟨q0, q1, q2, q3⟩, b1, b2, b3, b4, Nat.le_trans b5 hin.2.2.2.1⟩, (hin.2.2.2.2 _ hz (.inr (by omega))).trans hrow, hi.trans (hin.wide (by omega) (by omega))⟩
  clear ho0 ho1 hsp hin H1 E1 c0 c1 c2 c3 c4 c5 c6 c7 c8 c9 c10 c11 c12 c13 c14
  have E2 : Hid (Calls Tryz.prog 30 #[.slice al l.length cl, .int .i64 ((j + x.el.length + x.pl.length + y.el.length + y.pl.length : Nat) : Int)] w2 fun e w' => e = .returned (.int .i64 k5) ∧ OwnT w' n4 (.slice al l.length cl) (marks (j + x.el.length + x.pl.length + y.el.length + y.pl.length) l.length) ∧ w2.grownBy w' (Value.slice al l.length cl).ownBlock) := by rw [HK5.out]; exact mark_any _ l (j + x.el.length + x.pl.length + y.el.length + y.pl.length) w2 n4 H2.out.1.1.2.2.2.2 (by have := HL.out; omega) (by have := HL.out; omega) (by have := HL.out; omega)
  obtain ⟨c0, c1, c2, c3, c4, c5, c6, c7, c8, c9, c10, c11, c12, c13, c14⟩ : w2.cell? ⟨w.heap.size, 0, none⟩ = some (.string x.log) ∧ w2.cell? ⟨w.heap.size, 1, none⟩ = some (.int .i64 x.size) ∧ w2.cell? ⟨w.heap.size, 2, none⟩ = some (.string x.root) ∧ w2.cell? ⟨w.heap.size, 3, none⟩ = some (.int .i64 x.time) ∧ w2.cell? ⟨w.heap.size, 4, none⟩ = some (.int .i64 x.k) ∧ w2.cell? ⟨w.heap.size, 5, none⟩ = some (.slice ax x.el.length cx) ∧ w2.cell? ⟨w.heap.size, 6, none⟩ = some (.slice bx x.pl.length dx) ∧ w2.cell? ⟨w.heap.size, 7, none⟩ = some (.string y.log) ∧ w2.cell? ⟨w.heap.size, 8, none⟩ = some (.int .i64 y.size) ∧ w2.cell? ⟨w.heap.size, 9, none⟩ = some (.string y.root) ∧ w2.cell? ⟨w.heap.size, 10, none⟩ = some (.int .i64 y.time) ∧ w2.cell? ⟨w.heap.size, 11, none⟩ = some (.int .i64 y.k) ∧ w2.cell? ⟨w.heap.size, 12, none⟩ = some (.slice ay y.el.length cy) ∧ w2.cell? ⟨w.heap.size, 13, none⟩ = some (.slice by' y.pl.length dy) ∧ w2.cell? ⟨w.heap.size, 14, none⟩ = some (.slice al l.length cl) := ⟨row_here H2.out.2.1 0 _ rfl, row_here H2.out.2.1 1 _ rfl, row_here H2.out.2.1 2 _ rfl, row_here H2.out.2.1 3 _ rfl, row_here H2.out.2.1 4 _ rfl, row_here H2.out.2.1 5 _ rfl, row_here H2.out.2.1 6 _ rfl, row_here H2.out.2.1 7 _ rfl, row_here H2.out.2.1 8 _ rfl, row_here H2.out.2.1 9 _ rfl, row_here H2.out.2.1 10 _ rfl, row_here H2.out.2.1 11 _ rfl, row_here H2.out.2.1 12 _ rfl, row_here H2.out.2.1 13 _ rfl, row_here H2.out.2.1 14 _ rfl⟩
  generalize hk4 : ((j + x.el.length + x.pl.length + y.el.length + y.pl.length : Nat) : Int) = k4 at E2 ⊢
  clear hk4
  go_wp2_with fail
  refine E2.out.mono ?_
  rintro e w3 ⟨rfl, ho0, hg⟩
  have hin : Inside w2 w3 n4 n5 := inside_row hg (fun g hg => ⟨(H2.out.1.1.2.2.2.2.block_lt g hg).1, HN.out.1 g hg⟩)
  have HF : Hid (Owns5 w3 n0 n1 n2 n3 n4 (.slice ax x.el.length cx) (.slice bx x.pl.length dx) (.slice ay y.el.length cy) (.slice by' y.pl.length dy) (.slice al l.length cl) (marks (j) x.el.length) (marks (j + x.el.length) x.pl.length) (marks (j + x.el.length + x.pl.length) y.el.length) (marks (j + x.el.length + x.pl.length + y.el.length) y.pl.length) (marks (j + x.el.length + x.pl.length + y.el.length + y.pl.length) l.length) ∧ Inside w w3 n0 n5) := by
    obtain ⟨⟨⟨o0, o1, o2, o3, o4⟩, ⟨q0, q1, q2, q3⟩, b1, b2, b3, b4, b5⟩, hrow, hi⟩ := H2.out
    obtain ⟨z1, z2, z3, z4⟩ := HN.out
    exact ⟨⟨⟨o0.aside hin (fun g hg => .inl (by have := q0 g hg; omega)), o1.aside hin (fun g hg => .inl (by have := q1 g hg; omega)), o2.aside hin (fun g hg => .inl (by have := q2 g hg; omega)), o3.aside hin (fun g hg => .inl (q3 g hg)), ho0⟩, ⟨q0, q1, q2, q3⟩, b1, b2, b3, b4, Nat.le_trans b5 hin.2.2.2.1⟩, hi.trans (hin.wide (by omega) (Nat.le_refl _))⟩
  clear ho0 hg hin H2 E2 c0 c1 c2 c3 c4 c5 c6 c7 c8 c9 c10 c11 c12 c13 c14
  go_wp2
  go_ret
  exact ⟨rfl, HF.out⟩

end Go.Proofs.YtcenlgfopmahcaaGreatDoor
