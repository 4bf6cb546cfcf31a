/-
  Whole watches marked, and held to their marks; of the pool contracts are laid.
-/
import Derived.Test.YtcenlgfopmahcaaGreatDoorPkCopyHead
import Derived.Test.YtcenlgfopmahcaaGreatDoorPkFraudMark
namespace Go.Proofs.YtcenlgfopmahcaaGreatDoor
open Go.RowKit Go.Lib
set_option linter.unusedVariables false
set_option linter.unusedSimpArgs false

theorem OwnT.same {w w' : World} {B : Nat} {v : Value} {l : List ByteArray} (h : OwnT w B v l) (hs : ∀ g, v.ownBlock = some g → w'.heap[g]? = w.heap[g]?) : OwnT w' B v l := by
  rcases h with ⟨h1, ⟨rfl, h2⟩ | ⟨g', cap, cur, rfl, hB', hg', hnc, hcc, hcs, ht⟩⟩
  · exact ⟨h1, .inl ⟨rfl, h2⟩⟩
  · exact ⟨h1, .inr ⟨g', cap, cur, rfl, hB', (hs g' rfl).trans hg', hnc, hcc, hcs, ht⟩⟩
theorem OwnT.loc {w w' : World} {B C : Nat} {v : Value} {l : List ByteArray} (h : OwnT w B v l) (hC : ∀ g, v.ownBlock = some g → g < C) (hs : ∀ b, B ≤ b → b < C → w'.heap[b]? = w.heap[b]?) : OwnT w' B v l :=
  h.same fun g hg => hs g (World.ownsRow.lt h g hg).1 (hC g hg)

theorem Owns5.loc {w w' : World} {n0 n1 n2 n3 n4 C : Nat} {v0 v1 v2 v3 v4 : Value} {l0 l1 l2 l3 l4 : List ByteArray} (h : Owns5 w n0 n1 n2 n3 n4 v0 v1 v2 v3 v4 l0 l1 l2 l3 l4) (hC : ∀ g, v4.ownBlock = some g → g < C) (hn : n4 ≤ C) (hz : w.heap.size ≤ w'.heap.size) (hs : ∀ b, n0 ≤ b → b < C → w'.heap[b]? = w.heap[b]?) : Owns5 w' n0 n1 n2 n3 n4 v0 v1 v2 v3 v4 l0 l1 l2 l3 l4 := by
  obtain ⟨⟨o0, o1, o2, o3, o4⟩, ⟨q0, q1, q2, q3⟩, b1, b2, b3, b4, b5⟩ := h
  exact ⟨⟨o0.loc q0 (fun b x y => hs b x (by omega)), o1.loc q1 (fun b x y => hs b (by omega) (by omega)), o2.loc q2 (fun b x y => hs b (by omega) (by omega)), o3.loc q3 (fun b x y => hs b (by omega) (by omega)), o4.loc hC (fun b x y => hs b (by omega) y)⟩, ⟨q0, q1, q2, q3⟩, b1, b2, b3, b4, Nat.le_trans b5 hz⟩

/-- The marks that a watch bears. -/
def WMarks (t : Wt) (a0 a1 a2 a3 a4 a5 a6 a7 : Option Addr) (c0 c1 c2 c3 c4 c5 c6 c7 : Nat) (j pm n0 n1 n2 n4 n5 n6 n7 n8 : Nat) (X : World) : Prop :=
  OwnT X n0 (.slice a0 t.en.length c0) (marks (j) t.en.length) ∧ OwnT X n1 (.slice a1 t.h.el.length c1) (marks (j + t.en.length) t.h.el.length) ∧ OwnT X n2 (.slice a2 t.h.pl.length c2) (marks (j + t.en.length + t.h.el.length) t.h.pl.length) ∧ Owns5 X n4 n5 n6 n7 n8 (.slice a3 t.a.el.length c3) (.slice a4 t.a.pl.length c4) (.slice a5 t.b.el.length c5) (.slice a6 t.b.pl.length c6) (.slice a7 t.fl.length c7) (marks (j + t.en.length + t.h.el.length + t.h.pl.length + pm) t.a.el.length) (marks (j + t.en.length + t.h.el.length + t.h.pl.length + pm + t.a.el.length) t.a.pl.length) (marks (j + t.en.length + t.h.el.length + t.h.pl.length + pm + t.a.el.length + t.a.pl.length) t.b.el.length) (marks (j + t.en.length + t.h.el.length + t.h.pl.length + pm + t.a.el.length + t.a.pl.length + t.b.el.length) t.b.pl.length) (marks (j + t.en.length + t.h.el.length + t.h.pl.length + pm + t.a.el.length + t.a.pl.length + t.b.el.length + t.b.pl.length) t.fl.length)
theorem sp_in {w w' : World} {v u : Value} {l m : List ByteArray} {n1 n2 n3 : Nat} (h1 : OwnT w n1 v l) (h2 : OwnT w n2 u m) (q1 : ∀ g, v.ownBlock = some g → g < n2) (q2 : ∀ g, u.ownBlock = some g → g < n3) (hn : n1 ≤ n2 ∧ n2 ≤ n3) (hsp : Spared w w' v u) : Inside w w' n1 n3 :=
  hsp.inside (fun g hg => by have := World.ownsRow.lt h1 g hg; have := q1 g hg; omega) (fun g hg => by have := World.ownsRow.lt h2 g hg; have := q2 g hg; omega)

set_option maxHeartbeats 4000000 in
set_option maxRecDepth 10000 in
theorem markW_any (t : Wt) (a0 a1 a2 a3 a4 a5 a6 a7 : Option Addr) (c0 c1 c2 c3 c4 c5 c6 c7 : Nat) (ap : Option Addr) (mp cp : Nat) (w : World) (j pm n0 n1 n2 n3 n4 n5 n6 n7 n8 n9 : Nat) (PA PB : World → Prop) (lA : LocalP PA n3 n4) (lB : LocalP PB n3 n4)
    (h0 : OwnT w n0 (.slice a0 t.en.length c0) t.en) (h1 : OwnT w n1 (.slice a1 t.h.el.length c1) t.h.el) (h2 : OwnT w n2 (.slice a2 t.h.pl.length c2) t.h.pl) (hp : PA w) (h3 : Owns5 w n4 n5 n6 n7 n8 (.slice a3 t.a.el.length c3) (.slice a4 t.a.pl.length c4) (.slice a5 t.b.el.length c5) (.slice a6 t.b.pl.length c6) (.slice a7 t.fl.length c7) t.a.el t.a.pl t.b.el t.b.pl t.fl)
    (q0 : ∀ g, (Value.slice a0 t.en.length c0).ownBlock = some g → g < n1) (q1 : ∀ g, (Value.slice a1 t.h.el.length c1).ownBlock = some g → g < n2) (q2 : ∀ g, (Value.slice a2 t.h.pl.length c2).ownBlock = some g → g < n3) (q7 : ∀ g, (Value.slice a7 t.fl.length c7).ownBlock = some g → g < n9) (hn : n0 ≤ n1 ∧ n1 ≤ n2 ∧ n2 ≤ n3 ∧ n3 ≤ n4 ∧ n8 ≤ n9 ∧ n9 ≤ w.heap.size)
    (hj : 1 ≤ j ∧ j ≤ 10) (hl : t.en.length ≤ 2000000 ∧ t.h.el.length ≤ 2000000 ∧ t.h.pl.length ≤ 2000000 ∧ t.a.el.length ≤ 2000000 ∧ t.a.pl.length ≤ 2000000 ∧ t.b.el.length ≤ 2000000 ∧ t.b.pl.length ≤ 2000000 ∧ t.fl.length ≤ 2000000 ∧ pm ≤ 10000000000000)
    (MP : ∀ X, PA X → n9 ≤ X.heap.size → Calls Tryz.prog 11 #[.slice ap mp cp, .int .i64 ((j + t.en.length + t.h.el.length + t.h.pl.length : Nat) : Int)] X fun e w' => e = .returned (.int .i64 ((j + t.en.length + t.h.el.length + t.h.pl.length + pm : Nat) : Int)) ∧ PB w' ∧ Inside X w' n3 n4) :
    Calls Tryz.prog 10 #[.agg #[.string t.log, .string t.key, .slice a0 t.en.length c0, .string t.h.log, .int .i64 t.h.size, .string t.h.root, .int .i64 t.h.time, .int .i64 t.h.k, .slice a1 t.h.el.length c1, .slice a2 t.h.pl.length c2, .slice ap mp cp, .bool t.found, .string t.a.log, .int .i64 t.a.size, .string t.a.root, .int .i64 t.a.time, .int .i64 t.a.k, .slice a3 t.a.el.length c3, .slice a4 t.a.pl.length c4, .string t.b.log, .int .i64 t.b.size, .string t.b.root, .int .i64 t.b.time, .int .i64 t.b.k, .slice a5 t.b.el.length c5, .slice a6 t.b.pl.length c6, .slice a7 t.fl.length c7], .int .i64 ((j : Nat) : Int)] w fun e w' => e = .returned (.int .i64 ((j + t.en.length + t.h.el.length + t.h.pl.length + pm + t.a.el.length + t.a.pl.length + t.b.el.length + t.b.pl.length + t.fl.length : Nat) : Int)) ∧ (WMarks t a0 a1 a2 a3 a4 a5 a6 a7 c0 c1 c2 c3 c4 c5 c6 c7 j pm n0 n1 n2 n4 n5 n6 n7 n8 w' ∧ PB w') ∧ Inside w w' n0 n9 := by
  have l1 := h3.2.2
  refine (markWatch_ab t _ _ _ _ _ _ _ _ _ _ _ _ _ _ _ _ _ _ _ _ _ _ _ _ _ _ _ w
    (fun X => OwnT X n0 (.slice a0 t.en.length c0) t.en) (fun X => OwnT X n1 (.slice a1 t.h.el.length c1) t.h.el ∧ OwnT X n2 (.slice a2 t.h.pl.length c2) t.h.pl) PA (fun X => Owns5 X n4 n5 n6 n7 n8 (.slice a3 t.a.el.length c3) (.slice a4 t.a.pl.length c4) (.slice a5 t.b.el.length c5) (.slice a6 t.b.pl.length c6) (.slice a7 t.fl.length c7) t.a.el t.a.pl t.b.el t.b.pl t.fl)
    (fun X => OwnT X n0 (.slice a0 t.en.length c0) (marks (j) t.en.length)) (fun X => OwnT X n1 (.slice a1 t.h.el.length c1) (marks (j + t.en.length) t.h.el.length) ∧ OwnT X n2 (.slice a2 t.h.pl.length c2) (marks (j + t.en.length + t.h.el.length) t.h.pl.length)) PB (fun X => Owns5 X n4 n5 n6 n7 n8 (.slice a3 t.a.el.length c3) (.slice a4 t.a.pl.length c4) (.slice a5 t.b.el.length c5) (.slice a6 t.b.pl.length c6) (.slice a7 t.fl.length c7) (marks (j + t.en.length + t.h.el.length + t.h.pl.length + pm) t.a.el.length) (marks (j + t.en.length + t.h.el.length + t.h.pl.length + pm + t.a.el.length) t.a.pl.length) (marks (j + t.en.length + t.h.el.length + t.h.pl.length + pm + t.a.el.length + t.a.pl.length) t.b.el.length) (marks (j + t.en.length + t.h.el.length + t.h.pl.length + pm + t.a.el.length + t.a.pl.length + t.b.el.length) t.b.pl.length) (marks (j + t.en.length + t.h.el.length + t.h.pl.length + pm + t.a.el.length + t.a.pl.length + t.b.el.length + t.b.pl.length) t.fl.length))
    n0 n1 n3 n4 n9 ((j : Nat) : Int) ((j + t.en.length : Nat) : Int) ((j + t.en.length + t.h.el.length + t.h.pl.length : Nat) : Int) ((j + t.en.length + t.h.el.length + t.h.pl.length + pm : Nat) : Int) ((j + t.en.length + t.h.el.length + t.h.pl.length + pm + t.a.el.length + t.a.pl.length + t.b.el.length + t.b.pl.length + t.fl.length : Nat) : Int) ⟨by omega, by omega, by omega, by omega, by omega⟩ ⟨h0, ⟨h1, h2⟩, hp, h3⟩ ⟨?_, ?_, lA, ?_⟩ ⟨?_, ?_, lB, ?_⟩ ?_ ?_ MP ?_).mono fun e w' h => ⟨h.1, ⟨⟨h.2.1.1, h.2.1.2.1.1, h.2.1.2.1.2, h.2.1.2.2.2⟩, h.2.1.2.2.1⟩, h.2.2⟩
  · exact fun X X' h _ hs => h.loc q0 hs
  · exact fun X X' h _ hs => ⟨h.1.loc q1 (fun b b1 b2 => hs b b1 (by omega)), h.2.loc q2 (fun b b1 b2 => hs b (by omega) b2)⟩
  · exact fun X X' h hz hs => h.loc q7 (by omega) hz hs
  · exact fun X X' h _ hs => h.loc q0 hs
  · exact fun X X' h _ hs => ⟨h.1.loc q1 (fun b b1 b2 => hs b b1 (by omega)), h.2.loc q2 (fun b b1 b2 => hs b (by omega) b2)⟩
  · exact fun X X' h hz hs => h.loc q7 (by omega) hz hs
  · intro X hX hz
    refine (mark_any _ t.en j X n0 hX hj.1 (by omega) (by omega)).mono fun e w' h => ⟨h.1, h.2.1, inside_row h.2.2 (fun g hg => ⟨(World.ownsRow.lt hX g hg).1, q0 g hg⟩)⟩
  · intro X hX hz
    refine (markHead_any _ _ _ _ _ _ _ t.h.el t.h.pl (j + t.en.length) X n1 n2 hX.1 hX.2 q1 (by omega) (by omega) (by omega) (by omega)).mono fun e w' h => ⟨h.1, ⟨h.2.1, h.2.2.1⟩, sp_in hX.1 hX.2 q1 q2 (by omega) h.2.2.2⟩
  · intro X hX hz
    exact markFraud_any t.a t.b _ _ _ _ _ t.fl (j + t.en.length + t.h.el.length + t.h.pl.length + pm) X n4 n5 n6 n7 n8 n9 hX q7 (by omega) (by omega) (by omega) ⟨by omega, by omega⟩ ⟨by omega, by omega⟩ (by omega)

end Go.Proofs.YtcenlgfopmahcaaGreatDoor
