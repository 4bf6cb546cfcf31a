/-
  What the laws do with signatures: held against each other, marked, and held to their marks.
-/
import Derived.Test.YtcenlgfopmahcaaGreatDoorPkMarks
import Derived.Test.YtcenlgfopmahcaaGreatDoorPkWaiting
import Derived.Test.YtcenlgfopmahcaaGreatDoorPkTexts
import Derived.Test.YtcenlgfopmahcaaGreatDoorPkTextRows
namespace Go.Proofs.YtcenlgfopmahcaaGreatDoor
open Go.RowKit Go.Lib
set_option linter.unusedVariables false
set_option linter.unusedSimpArgs false

/-- Of what was there nothing has turned but the two rows of v and u. -/
def Spared (w w' : World) (v u : Value) : Prop := w'.os = w.os ∧ w'.tape = w.tape ∧ w'.output = w.output ∧ w.heap.size ≤ w'.heap.size ∧ ∀ b, b < w.heap.size → v.ownBlock ≠ some b → u.ownBlock ≠ some b → w'.heap[b]? = w.heap[b]?
theorem Spared.below {w w' : World} {v u : Value} (h : Spared w w' v u) (B : Nat) (hB : B ≤ w.heap.size) (hv : ∀ g, v.ownBlock = some g → B ≤ g) (hu : ∀ g, u.ownBlock = some g → B ≤ g) : Below B w w' :=
  ⟨h.1, h.2.1, h.2.2.1, h.2.2.2.1, fun b hb => h.2.2.2.2 b (by omega) (fun e => by have := hv b e; omega) (fun e => by have := hu b e; omega)⟩
theorem OwnT.grownOther {w w' : World} {B : Nat} {v : Value} {l : List ByteArray} {row : Option Nat} (h : OwnT w B v l) (hg : w.grownBy w' row) (hne : ∀ g, v.ownBlock = some g → row ≠ some g) : OwnT w' B v l := by
  rcases h with ⟨h1, ⟨rfl, h2⟩ | ⟨g', cap, cur, rfl, hB', hg', hnc, hcc, hcs, ht⟩⟩
  · exact ⟨h1, .inl ⟨rfl, h2⟩⟩
  · exact ⟨h1, .inr ⟨g', cap, cur, rfl, hB', (hg.block g' (Array.getElem?_eq_some_iff.1 hg').1 (fun e => hne g' rfl e.symm)).trans hg', hnc, hcc, hcs, ht⟩⟩

set_option maxHeartbeats 1000000 in
set_option maxRecDepth 10000 in
theorem markSig_any (k : Int) (ve vp : Value) (el pl : List ByteArray) (j : Nat) (w : World) (B n : Nat) (h1 : OwnT w B ve el) (h2 : OwnT w n vp pl) (hlt : ∀ g, ve.ownBlock = some g → g < n) (hj0 : 1 ≤ j) (hj1 : j ≤ 90000000000000) (hl1 : el.length ≤ 10000000) (hl2 : pl.length ≤ 10000000) :
    Calls Tryz.prog 51 #[.agg #[.int .i64 k, ve, vp], .int .i64 j] w fun e w' => e = .returned (.int .i64 ((j + el.length + pl.length : Nat) : Int)) ∧ OwnT w' B ve (marks j el.length) ∧ OwnT w' n vp (marks (j + el.length) pl.length) ∧ Spared w w' ve vp := by
  obtain ⟨W, hW⟩ : ∃ W, W = w.alloc (.cells #[.int .i64 k, ve, vp] 35) := ⟨_, rfl⟩
  have hbW : Below w.heap.size w W := by rw [hW]; exact (Below.refl _ _).alloc (Nat.le_refl _) _
  have hg : W.heap[w.heap.size]? = some (.cells #[.int .i64 k, ve, vp] 35 (0, 0)) := by rw [hW]; exact heap_alloc_new w _
  have hve : ∀ g, ve.ownBlock = some g → g < w.heap.size := fun g hg => (World.ownsRow.lt h1 g hg).2
  have hvp : ∀ g, vp.ownBlock = some g → g < w.heap.size := fun g hg => (World.ownsRow.lt h2 g hg).2
  have E1 : Hid (Calls Tryz.prog 30 #[ve, .int .i64 j] W fun e w' => e = .returned (.int .i64 ((j + el.length : Nat) : Int)) ∧ OwnT w' B ve (marks j el.length) ∧ W.grownBy w' ve.ownBlock) := mark_any ve el j W B (h1.below hbW (Nat.le_refl _)) hj0 (by omega) (by omega)
  have H0 : Hid (OwnT W n vp pl ∧ W.heap[w.heap.size]? = some (.cells #[.int .i64 k, ve, vp] 35 (0, 0)) ∧ Below w.heap.size w W) := ⟨h2.below hbW (Nat.le_refl _), hg, hbW⟩
  have HW : Hid (W = w.alloc (.cells #[.int .i64 k, ve, vp] 35)) := hW
  have HV : Hid ((∀ g, ve.ownBlock = some g → g < n) ∧ (∀ g, ve.ownBlock = some g → g < w.heap.size) ∧ (∀ g, vp.ownBlock = some g → g < w.heap.size) ∧ (∀ g, vp.ownBlock = some g → n ≤ g)) := ⟨hlt, hve, hvp, fun g hg => (World.ownsRow.lt h2 g hg).1⟩
  obtain ⟨⟨c0, c1, c2⟩, _⟩ := three_cells (Below.refl W.heap.size W) (show w.heap.size < W.heap.size from (Array.getElem?_eq_some_iff.1 hg).1) hg
  clear h1 h2 hlt hve hvp hW hbW hg
  go_enter Tryz.func51, Tryz.ntmps51
  go_wp2_with fail
  rw [← HW.out]
  refine E1.out.mono ?_
  rintro e w1 ⟨rfl, ho1, hg1⟩
  have hbox : w1.heap[w.heap.size]? = some (.cells #[.int .i64 k, ve, vp] 35 (0, 0)) := (hg1.block _ (Array.getElem?_eq_some_iff.1 H0.out.2.1).1 (fun e => by have := HV.out.2.1 _ e.symm; omega)).trans H0.out.2.1
  have ho2 : OwnT w1 n vp pl := H0.out.1.grownOther hg1 (fun g hg e => by have := HV.out.1 g e; have := HV.out.2.2.2 g hg; omega)
  have E2 : Hid (Calls Tryz.prog 30 #[vp, .int .i64 ((j + el.length : Nat) : Int)] w1 fun e w' => e = .returned (.int .i64 ((j + el.length + pl.length : Nat) : Int)) ∧ OwnT w' n vp (marks (j + el.length) pl.length) ∧ w1.grownBy w' vp.ownBlock) := mark_any vp pl (j + el.length) w1 n ho2 (by omega) (by omega) (by omega)
  have H1 : Hid (OwnT w1 B ve (marks j el.length) ∧ W.grownBy w1 ve.ownBlock) := ⟨ho1, hg1⟩
  clear c0 c1 c2
  obtain ⟨⟨c0, c1, c2⟩, _⟩ := three_cells (Below.refl w1.heap.size w1) (show w.heap.size < w1.heap.size from (Array.getElem?_eq_some_iff.1 hbox).1) hbox
  clear ho1 hg1 ho2 hbox E1
  obtain ⟨A, hA⟩ : ∃ A : Int, A = ((j + el.length : Nat) : Int) := ⟨_, rfl⟩
  obtain ⟨C, hC⟩ : ∃ C : Int, C = ((j + el.length + pl.length : Nat) : Int) := ⟨_, rfl⟩
  rw [← hA, ← hC] at E2
  rw [← hA]
  have HC : Hid (C = ((j + el.length + pl.length : Nat) : Int)) := hC
  clear hA hC
  go_wp2_with fail
  refine E2.out.mono ?_
  rintro e w2 ⟨rfl, ho2, hg2⟩
  have H2 : Hid (OwnT w2 B ve (marks j el.length) ∧ OwnT w2 n vp (marks (j + el.length) pl.length) ∧ Spared w w2 ve vp) := by
    have b0 := H0.out.2.2
    have g1 := H1.out.2
    refine ⟨H1.out.1.grownOther hg2 (fun g hg e => by have := HV.out.1 g hg; have := HV.out.2.2.2 g e; omega), ho2, hg2.os.trans (g1.os.trans b0.os), hg2.tape.trans (g1.tape.trans b0.tape), hg2.output.trans (g1.output.trans b0.output), Nat.le_trans b0.size (Nat.le_trans g1.size hg2.size), fun b hb n1 n2 => ?_⟩
    exact (hg2.block b (Nat.lt_of_lt_of_le hb (Nat.le_trans b0.size g1.size)) (fun e => n2 e.symm)).trans ((g1.block b (Nat.lt_of_lt_of_le hb b0.size) (fun e => n1 e.symm)).trans (b0.block b hb))
  clear ho2 hg2 E2
  go_wp2
  go_ret
  exact ⟨ret_num HC.out, H2.out.1, H2.out.2.1, H2.out.2.2⟩

end Go.Proofs.YtcenlgfopmahcaaGreatDoor

/-
  Heads marked, and held to their marks.
-/
namespace Go.Proofs.YtcenlgfopmahcaaGreatDoor
open Go.RowKit Go.Lib
set_option linter.unusedVariables false
set_option linter.unusedSimpArgs false

set_option maxHeartbeats 2000000 in
set_option maxRecDepth 10000 in
theorem markHead_any (log root : ByteArray) (size time k : Int) (ve vp : Value) (el pl : List ByteArray) (j : Nat) (w : World) (B n : Nat) (h1 : OwnT w B ve el) (h2 : OwnT w n vp pl) (hlt : ∀ g, ve.ownBlock = some g → g < n) (hj0 : 1 ≤ j) (hj1 : j ≤ 90000000000000) (hl1 : el.length ≤ 10000000) (hl2 : pl.length ≤ 10000000) :
    Calls Tryz.prog 31 #[.agg #[.string log, .int .i64 size, .string root, .int .i64 time, .int .i64 k, ve, vp], .int .i64 j] w fun e w' => e = .returned (.int .i64 ((j + el.length + pl.length : Nat) : Int)) ∧ OwnT w' B ve (marks j el.length) ∧ OwnT w' n vp (marks (j + el.length) pl.length) ∧ Spared w w' ve vp := by
  obtain ⟨a1, c1, rfl⟩ := h1.len
  obtain ⟨a2, c2, rfl⟩ := h2.len
  obtain ⟨W, hW⟩ : ∃ W, W = w.alloc (.cells #[.string log, .int .i64 size, .string root, .int .i64 time, .int .i64 k, .slice a1 el.length c1, .slice a2 pl.length c2] 37) := ⟨_, rfl⟩
  have hbW : Below w.heap.size w W := by rw [hW]; exact (Below.refl _ _).alloc (Nat.le_refl _) _
  have E0 : Hid (Calls Tryz.prog 51 #[.agg #[.int .i64 k, .slice a1 el.length c1, .slice a2 pl.length c2], .int .i64 j] W fun e w' => e = .returned (.int .i64 ((j + el.length + pl.length : Nat) : Int)) ∧ OwnT w' B (.slice a1 el.length c1) (marks j el.length) ∧ OwnT w' n (.slice a2 pl.length c2) (marks (j + el.length) pl.length) ∧ Spared w w' (.slice a1 el.length c1) (.slice a2 pl.length c2)) :=
    (markSig_any k _ _ el pl j W B n (h1.below hbW (Nat.le_refl _)) (h2.below hbW (Nat.le_refl _)) hlt hj0 hj1 hl1 hl2).mono fun e w' h => ⟨h.1, h.2.1, h.2.2.1, h.2.2.2.1.trans hbW.os, h.2.2.2.2.1.trans hbW.tape, h.2.2.2.2.2.1.trans hbW.output, Nat.le_trans hbW.size h.2.2.2.2.2.2.1, fun b hb hv hu => (h.2.2.2.2.2.2.2 b (Nat.lt_of_lt_of_le hb hbW.size) hv hu).trans (hbW.block b hb)⟩
  have HW : Hid (W = w.alloc (.cells #[.string log, .int .i64 size, .string root, .int .i64 time, .int .i64 k, .slice a1 el.length c1, .slice a2 pl.length c2] 37)) := hW
  clear h1 h2 hlt hW hbW
  go_enter Tryz.func31, Tryz.ntmps31
  go_wp2_with fail
  rw [← HW.out]
  refine E0.out.mono ?_
  rintro e w1 ⟨rfl, hp⟩
  have HP : Hid (_ ∧ _) := hp
  clear hp
  go_wp2
  go_ret
  exact ⟨rfl, HP.out⟩

end Go.Proofs.YtcenlgfopmahcaaGreatDoor
