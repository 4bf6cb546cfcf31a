/-
  The laws' marks in a range's nodes.
-/
import Derived.Test.YtbfejeeebfknjaaDoorPkMarks
import Derived.Test.YtbfejeeebfknjaaDoorPkCells
import Derived.Test.YtbfejeeebfknjaaDoorPkStepLaws
import Derived.Test.YtbfejeeebfknjaaDoorPkTextRows
namespace Go.Proofs.YtbfejeeebfknjaaDoor
open Go.RowKit Go.Lib
set_option linter.unusedVariables false
set_option linter.unusedSimpArgs false

set_option maxHeartbeats 1000000 in
theorem markRange_any (size : Int) (v : Value) (l : List ByteArray) (k : Nat) (w : World) (B : Nat) (h : OwnT w B v l) (hk0 : 1 ≤ k) (hk1 : k ≤ 100000000) (hl : l.length ≤ 100000000) :
    Calls Tryd.prog 11 #[.agg #[.int .i64 size, v], .int .i64 (k : Int)] w fun e w' => e = .returned (.int .i64 ((k + l.length : Nat) : Int)) ∧ OwnT w' B v (marks k l.length) ∧ w.grownBy w' v.ownBlock := by
  obtain ⟨W, hW⟩ : ∃ W, W = w.alloc (.cells #[.int .i64 size, v] 26) := ⟨_, rfl⟩
  have hb : Below w.heap.size w W := by subst hW; exact (Below.refl _ _).alloc (Nat.le_refl _) _
  have E : Hid (Calls Tryd.prog 19 #[v, .int .i64 (k : Int)] W fun e w' => e = .returned (.int .i64 ((k + l.length : Nat) : Int)) ∧ OwnT w' B v (marks k l.length) ∧ W.grownBy w' v.ownBlock) := mark_any v l k W B (h.below hb (Nat.le_refl _)) hk0 hk1 hl
  have HB : Hid (w.grownBy W v.ownBlock) := row_below hb _
  have HWE : Hid (W = w.alloc (.cells #[.int .i64 size, v] 26)) := hW
  obtain ⟨a, cap, rfl⟩ := h.len
  clear h hb hW hk0 hk1 hl
  generalize ((k + l.length : Nat) : Int) = r at *
  generalize marks k l.length = M at *
  generalize l.length = L at *
  go_enter Tryd.func11, Tryd.ntmps11
  go_wp2_with fail
  rw [← HWE.out]
  clear HWE
  refine E.out.mono ?_
  rintro e w1 ⟨rfl, ho, hg⟩
  have H1 : Hid (OwnT w1 B (.slice a L cap) M ∧ w.grownBy w1 (Value.slice a L cap).ownBlock) := ⟨ho, row_trans HB.out hg⟩
  clear ho hg E HB
  go_wp2
  go_ret
  exact ⟨rfl, H1.out.1, H1.out.2⟩
set_option maxHeartbeats 1000000 in
theorem heldRange_any (size : Int) (v : Value) (k n : Nat) (w : World) (B : Nat) (h : OwnT w B v (marks k n)) (hk0 : 1 ≤ k) (hk1 : k ≤ 100000000) (hl : n ≤ 100000000) :
    Calls Tryd.prog 12 #[.agg #[.int .i64 size, v], .int .i64 (k : Int)] w fun e w' => e = .returned (.int .i64 ((k + n : Nat) : Int)) ∧ Below w.heap.size w w' := by
  obtain ⟨W, hW⟩ : ∃ W, W = w.alloc (.cells #[.int .i64 size, v] 26) := ⟨_, rfl⟩
  have hb : Below w.heap.size w W := by subst hW; exact (Below.refl _ _).alloc (Nat.le_refl _) _
  have E : Hid (Calls Tryd.prog 34 #[v, .int .i64 (k : Int)] W fun e w' => e = .returned (.int .i64 ((k + n : Nat) : Int)) ∧ Below W.heap.size W w') := held_any v k n W B (h.below hb (Nat.le_refl _)) hk0 hk1 hl
  have HB : Hid (Below w.heap.size w W) := hb
  have HWE : Hid (W = w.alloc (.cells #[.int .i64 size, v] 26)) := hW
  have hr : ¬ ((k + n : Nat) : Int) < 0 := by omega
  obtain ⟨a, cap, rfl⟩ := h.len
  clear h hb hW hk0 hk1 hl
  generalize ((k + n : Nat) : Int) = r at *
  generalize (marks k n).length = L at *
  go_enter Tryd.func12, Tryd.ntmps12
  go_wp2_with fail
  rw [← HWE.out]
  clear HWE
  refine E.out.mono ?_
  rintro e w1 ⟨rfl, hb1⟩
  have H1 : Hid (Below w.heap.size w w1) := HB.out.trans (hb1.mono HB.out.size)
  clear hb1 E HB
  go_wp2
  go_ret
  exact ⟨rfl, H1.out⟩
end Go.Proofs.YtbfejeeebfknjaaDoor

/-
  What the exact law of RangeAdd holds in between.
-/
namespace Go.Proofs.YtbfejeeebfknjaaDoor
open Go.RowKit Go.Lib
set_option linter.unusedVariables false
set_option linter.unusedSimpArgs false

theorem OwnT.apart {w w' : World} {B : Nat} {v : Value} {l : List ByteArray} {row : Option Nat} (h : OwnT w B v l) (hg : w.grownBy w' row) (hne : ∀ g, v.ownBlock = some g → some g ≠ row) : OwnT w' B v l := by
  rcases h with ⟨h1, ⟨rfl, h2⟩ | ⟨g, cap, cur, rfl, hB, hc, hnc, hcc, hcs, ht⟩⟩
  · exact ⟨h1, .inl ⟨rfl, h2⟩⟩
  · exact ⟨h1, .inr ⟨g, cap, cur, rfl, hB, (hg.block g (Array.getElem?_eq_some_iff.1 hc).1 (hne g rfl)).trans hc, hnc, hcc, hcs, ht⟩⟩
/-- The boxes: the law's own argument, the document's answer (b6), the program's argument (b7) and its answer (b8), its rows its own. -/
def MidR (w wX : World) (size S : Int) (v vs vx vg : Value) (b6 b7 n8 b8 : Nat) (L xl gl : List ByteArray) : Prop :=
  (wX.heap[w.heap.size]? = some (.cells #[.int .i64 size, v] 24 (0, 0)) ∧ Below w.heap.size w wX) ∧ (w.heap.size < b6 ∧ b6 < b7 ∧ b7 < n8 ∧ n8 ≤ b8 ∧ b8 < wX.heap.size) ∧
  (wX.heap[b6]? = some (.cells #[.int .i64 S, vs] 26 (0, 0)) ∧ wX.heap[b7]? = some (.cells #[.int .i64 size, vx] 26 (0, 0)) ∧ wX.heap[b8]? = some (.cells #[.int .i64 S, vg] 26 (0, 0))) ∧
  Texts wX b6 vs L ∧ (OwnT wX (b6 + 1) vx xl ∧ ∀ g, vx.ownBlock = some g → g < b7) ∧ (OwnT wX n8 vg gl ∧ ∀ g, vg.ownBlock = some g → g < b8)
section
variable {w wX wY : World} {size S : Int} {v vs vx vg : Value} {b6 b7 n8 b8 : Nat} {L xl gl l' : List ByteArray}
theorem MidR.below (h : MidR w wX size S v vs vx vg b6 b7 n8 b8 L xl gl) (hb : Below wX.heap.size wX wY) : MidR w wY size S v vs vx vg b6 b7 n8 b8 L xl gl := by
  obtain ⟨⟨h1, h2⟩, ⟨o1, o2, o3, o4, o5⟩, ⟨p1, p2, p3⟩, t1, ⟨x1, x2⟩, g1, g2⟩ := h
  exact ⟨⟨(hb.block _ (by omega)).trans h1, h2.trans (hb.mono h2.size)⟩, ⟨o1, o2, o3, o4, Nat.lt_of_lt_of_le o5 hb.size⟩, ⟨(hb.block _ (by omega)).trans p1, (hb.block _ (by omega)).trans p2, (hb.block _ (by omega)).trans p3⟩, t1.below (hb.mono (by omega)), ⟨x1.below hb (Nat.le_refl _), x2⟩, g1.below hb (Nat.le_refl _), g2⟩
theorem MidR.markX (h : MidR w wX size S v vs vx vg b6 b7 n8 b8 L xl gl) (hg : wX.grownBy wY vx.ownBlock) (ho : OwnT wY (b6 + 1) vx l') : MidR w wY size S v vs vx vg b6 b7 n8 b8 L l' gl := by
  obtain ⟨⟨h1, h2⟩, ⟨o1, o2, o3, o4, o5⟩, ⟨p1, p2, p3⟩, t1, ⟨x1, x2⟩, g1, g2⟩ := h
  have hb := x1.below_of hg (by omega)
  exact ⟨⟨(hb.block _ (by omega)).trans h1, h2.trans (hb.mono (by omega))⟩, ⟨o1, o2, o3, o4, Nat.lt_of_lt_of_le o5 hg.size⟩, ⟨(hb.block _ (by omega)).trans p1, (hg.block _ (by omega) (fun e => by have := x2 _ e.symm; omega)).trans p2, (hg.block _ (by omega) (fun e => by have := x2 _ e.symm; omega)).trans p3⟩, t1.below (hb.mono (by omega)), ⟨ho, x2⟩,
    g1.apart hg (fun g e e' => by have := x2 _ e'.symm; have := (World.ownsRow.lt g1 g e).1; omega), g2⟩
theorem MidR.markG (h : MidR w wX size S v vs vx vg b6 b7 n8 b8 L xl gl) (hg : wX.grownBy wY vg.ownBlock) (ho : OwnT wY n8 vg l') : MidR w wY size S v vs vx vg b6 b7 n8 b8 L xl l' := by
  obtain ⟨⟨h1, h2⟩, ⟨o1, o2, o3, o4, o5⟩, ⟨p1, p2, p3⟩, t1, ⟨x1, x2⟩, g1, g2⟩ := h
  have hb := g1.below_of hg (by omega)
  exact ⟨⟨(hb.block _ (by omega)).trans h1, h2.trans (hb.mono (by omega))⟩, ⟨o1, o2, o3, o4, Nat.lt_of_lt_of_le o5 hg.size⟩, ⟨(hb.block _ (by omega)).trans p1, (hb.block _ (by omega)).trans p2, (hg.block _ (by omega) (fun e => by have := g2 _ e.symm; omega)).trans p3⟩, t1.below (hb.mono (by omega)), ⟨x1.apart hg (fun g e e' => by have := x2 _ e; have := (World.ownsRow.lt g1 g e'.symm).1; omega), x2⟩, ho, g2⟩
theorem MidR.reads (h : MidR w wX size S v vs vx vg b6 b7 n8 b8 L xl gl) :
    (wX.cell? ⟨w.heap.size, 0, none⟩ = some (.int .i64 size) ∧ wX.cell? ⟨w.heap.size, 1, none⟩ = some v) ∧ (wX.cell? ⟨b6, 0, none⟩ = some (.int .i64 S) ∧ wX.cell? ⟨b6, 1, none⟩ = some vs) ∧ (wX.cell? ⟨b7, 0, none⟩ = some (.int .i64 size) ∧ wX.cell? ⟨b7, 1, none⟩ = some vx) ∧ (wX.cell? ⟨b8, 0, none⟩ = some (.int .i64 S) ∧ wX.cell? ⟨b8, 1, none⟩ = some vg) := by
  obtain ⟨⟨h1, h2⟩, ⟨o1, o2, o3, o4, o5⟩, ⟨p1, p2, p3⟩, _⟩ := h
  exact ⟨(two_cells' (Below.refl wX.heap.size wX) (by omega) h1).1, (two_cells' (Below.refl wX.heap.size wX) (by omega) p1).1, (two_cells' (Below.refl wX.heap.size wX) (by omega) p2).1, (two_cells' (Below.refl wX.heap.size wX) (by omega) p3).1⟩
theorem MidR.answers (h : MidR w wX size S v vs vx vg b6 b7 n8 b8 L xl gl) : Texts wX wX.heap.size vs L ∧ Texts wX wX.heap.size vx xl ∧ Texts wX wX.heap.size vg gl := by
  obtain ⟨⟨h1, h2⟩, ⟨o1, o2, o3, o4, o5⟩, ⟨p1, p2, p3⟩, t1, ⟨x1, x2⟩, g1, g2⟩ := h
  exact ⟨t1.up (by omega), x1.texts, g1.texts⟩
end
end Go.Proofs.YtbfejeeebfknjaaDoor
