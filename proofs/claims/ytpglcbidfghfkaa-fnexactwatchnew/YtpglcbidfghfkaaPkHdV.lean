/-
  A head as a record: its texts, its numbers, its rows.
-/
import Derived.Test.YtpglcbidfghfkaaPkHeadArg
import Derived.Test.YtpglcbidfghfkaaPkHeadOpen
import Derived.Test.YtpglcbidfghfkaaPkTextRows
namespace Go.Proofs.Ytpglcbidfghfkaa
open Go.RowKit Go.Lib
set_option linter.unusedVariables false
set_option linter.unusedSimpArgs false

/-- A head as it lies in memory. -/
structure Hd where
  log : ByteArray
  root : ByteArray
  size : Int
  time : Int
  k : Int
  el : List ByteArray
  pl : List ByteArray
/-- Its rows can be read. -/
def Hd.In (x : Hd) (ve vp : Value) (w : World) (B : Nat) : Prop := Texts w B ve x.el ∧ Texts w B vp x.pl
theorem Hd.In.below {x : Hd} {ve vp : Value} {w w' : World} {B : Nat} (h : x.In ve vp w B) (hb : Below B w w') : x.In ve vp w' B := ⟨h.1.below hb, h.2.below hb⟩
theorem Hd.In.up {x : Hd} {ve vp : Value} {w : World} {B B' : Nat} (h : x.In ve vp w B) (hB : B ≤ B') : x.In ve vp w B' := ⟨h.1.up hB, h.2.up hB⟩
theorem Hd.In.on {x : Hd} {ve vp : Value} {w w' : World} (h : x.In ve vp w w.heap.size) (hb : Below w.heap.size w w') : x.In ve vp w' w'.heap.size := (h.below hb).up hb.size
theorem Hd.In.parts {x : Hd} {ve vp : Value} {w : World} {B : Nat} (h : x.In ve vp w B) : ∃ a c b d, ve = .slice a x.el.length c ∧ vp = .slice b x.pl.length d := by
  obtain ⟨a, c, h1, _⟩ := h.1
  obtain ⟨b, d, h2, _⟩ := h.2
  exact ⟨a, c, b, d, h1, h2⟩
/-- It is of no more than the law looks at. -/
def Hd.Lim (x : Hd) : Prop := x.log.size ≤ 1048576 ∧ x.root.size ≤ 1048576 ∧ x.el.length ≤ 1048576 ∧ x.pl.length ≤ 1048576
/-- Its numbers are numbers of 64 bits. -/
def Hd.Num (x : Hd) : Prop := (-9223372036854775808 ≤ x.size ∧ x.size ≤ 9223372036854775807) ∧ -9223372036854775808 ≤ x.time ∧ x.time ≤ 9223372036854775807
def Hd.right (x : Hd) : Bool := headRB x.log x.size x.root x.time x.k x.el x.pl
/-- A head that came in. -/
def Hd.Arg (x : Hd) (ve vp : Value) (w : World) : Prop := x.In ve vp w w.heap.size ∧ x.Num ∧ x.log.size ≤ 9223372036854775807 ∧ x.root.size ≤ 9223372036854775807 ∧ (x.el.length ≤ 9223372036854775807 ∧ ∀ j (hj : j < x.el.length), x.el[j].size ≤ 9223372036854775807) ∧ (x.pl.length ≤ 9223372036854775807 ∧ ∀ j (hj : j < x.pl.length), x.pl[j].size ≤ 9223372036854775807)
theorem Hd.Arg.on {x : Hd} {ve vp : Value} {w w' : World} (h : x.Arg ve vp w) (hb : Below w.heap.size w w') : x.Arg ve vp w' := ⟨h.1.on hb, h.2⟩
theorem TextsArg.on {w w' : World} {v : Value} {l : List ByteArray} (h : TextsArg w v l) (hb : Below w.heap.size w w') : TextsArg w' v l := ⟨(h.1.below hb).up hb.size, h.2⟩
theorem Texts.on {w w' : World} {v : Value} {l : List ByteArray} (h : Texts w w.heap.size v l) (hb : Below w.heap.size w w') : Texts w' w'.heap.size v l := (h.below hb).up hb.size
/-- The cells of a block that was laid ahead of a call. -/
theorem row_cells {B g : Nat} {W w1 : World} {cs : Array Value} {t : TypeId} (hb : Below B W w1) (hB : g < B) (hW : W.heap[g]? = some (.cells cs t (0, 0))) :
    ∀ i v, cs[i]? = some v → w1.cell? ⟨g, i, none⟩ = some v := fun i v h => by
  have hx := (hb.block g hB).trans hW
  simp [World.cell?, hx, h]
theorem row_here {g : Nat} {w1 : World} {cs : Array Value} {t : TypeId} (hW : w1.heap[g]? = some (.cells cs t (0, 0))) :
    ∀ i v, cs[i]? = some v → w1.cell? ⟨g, i, none⟩ = some v := fun i v h => by
  simp [World.cell?, hW, h]
theorem row_free {g : Nat} {w1 : World} {cs : Array Value} {t : TypeId} (hW : w1.heap[g]? = some (.cells cs t (0, 0))) :
    ∀ i, w1.frozen? ⟨g, i, none⟩ = false := fun i => by
  simp [World.frozen?, hW]
theorem heap_put {w : World} {g i : Nat} {cs : Array Value} {t : TypeId} {v : Value} (h : w.heap[g]? = some (.cells cs t (0, 0))) :
    (w.setCell ⟨g, i, none⟩ v).heap[g]? = some (.cells (cs.setIfInBounds i v) t (0, 0)) := by
  have hlt := (Array.getElem?_eq_some_iff.1 h).1
  have h1 : w.heap[g] = .cells cs t (0, 0) := (Array.getElem?_eq_some_iff.1 h).2
  simp [World.setCell, hlt, Array.getElem_modify, h1]
theorem heap_put2 {w : World} {g i : Nat} {cs : Array Value} (cs' : Array Value) {t : TypeId} {v : Value} (h : w.heap[g]? = some (.cells cs t (0, 0))) (e : cs.setIfInBounds i v = cs') :
    (w.setCell ⟨g, i, none⟩ v).heap[g]? = some (.cells cs' t (0, 0)) := by
  rw [← e]
  exact heap_put h
theorem heap_pass {w : World} {g i k : Nat} {v : Value} {o : Option Obj} (hne : k ≠ g) (h : w.heap[k]? = o) : (w.setCell ⟨g, i, none⟩ v).heap[k]? = o := by
  rw [heap_setCell_other w ⟨g, i, none⟩ k v hne]
  exact h
theorem size_put (w : World) (p : Addr) (v : Value) : (w.setCell p v).heap.size = w.heap.size := by simp [World.setCell]
end Go.Proofs.Ytpglcbidfghfkaa

/-
  Five rows of texts that a call has made, one behind the other.
-/
namespace Go.Proofs.Ytpglcbidfghfkaa
open Go.RowKit Go.Lib
set_option linter.unusedVariables false
set_option linter.unusedSimpArgs false

/-- The zero head. -/
def hd0 : Hd := ⟨⟨#[]⟩, ⟨#[]⟩, 0, 0, 0, [], []⟩
theorem ba_ne {a b : ByteArray} (h : ¬ a = b) : (a.toList == b.toList) = false := by
  rw [beq_eq_false_iff_ne, toList_data, toList_data]
  intro e
  exact h (ByteArray.ext (Array.toList_inj.1 e))
/-- Rows of texts that a call has made, one behind the other. -/
def Owns5 (w : World) (n0 n1 n2 n3 n4 : Nat) (v0 v1 v2 v3 v4 : Value) (l0 l1 l2 l3 l4 : List ByteArray) : Prop :=
  (OwnT w n0 v0 l0 ∧ OwnT w n1 v1 l1 ∧ OwnT w n2 v2 l2 ∧ OwnT w n3 v3 l3 ∧ OwnT w n4 v4 l4) ∧ ((∀ g, v0.ownBlock = some g → g < n1) ∧ (∀ g, v1.ownBlock = some g → g < n2) ∧ (∀ g, v2.ownBlock = some g → g < n3) ∧ (∀ g, v3.ownBlock = some g → g < n4)) ∧ (n0 ≤ n1 ∧ n1 ≤ n2 ∧ n2 ≤ n3 ∧ n3 ≤ n4 ∧ n4 ≤ w.heap.size)
theorem Owns5.below {w w' : World} {C n0 n1 n2 n3 n4 : Nat} {v0 v1 v2 v3 v4 : Value} {l0 l1 l2 l3 l4 : List ByteArray} (h : Owns5 w n0 n1 n2 n3 n4 v0 v1 v2 v3 v4 l0 l1 l2 l3 l4) (hb : Below C w w') (hC : w.heap.size ≤ C) : Owns5 w' n0 n1 n2 n3 n4 v0 v1 v2 v3 v4 l0 l1 l2 l3 l4 := by
  obtain ⟨⟨o1, o2, o3, o4, o5⟩, q, b1, b2, b3, b4, b5⟩ := h
  exact ⟨⟨o1.below hb hC, o2.below hb hC, o3.below hb hC, o4.below hb hC, o5.below hb hC⟩, q, b1, b2, b3, b4, Nat.le_trans b5 hb.size⟩
theorem Owns5.lower {w : World} {C n0 n1 n2 n3 n4 : Nat} {v0 v1 v2 v3 v4 : Value} {l0 l1 l2 l3 l4 : List ByteArray} (h : Owns5 w n0 n1 n2 n3 n4 v0 v1 v2 v3 v4 l0 l1 l2 l3 l4) (hC : C ≤ n0) : Owns5 w C n1 n2 n3 n4 v0 v1 v2 v3 v4 l0 l1 l2 l3 l4 := by
  obtain ⟨⟨o1, o2, o3, o4, o5⟩, q, b1, b2, b3, b4, b5⟩ := h
  exact ⟨⟨o1.lower hC, o2, o3, o4, o5⟩, q, Nat.le_trans hC b1, b2, b3, b4, b5⟩
theorem Owns5.nil (w : World) (B : Nat) (hB : B ≤ w.heap.size) : Owns5 w B B B B B (.slice none 0 0) (.slice none 0 0) (.slice none 0 0) (.slice none 0 0) (.slice none 0 0) [] [] [] [] [] := by
  have hz : ∀ g, (Value.slice none 0 0).ownBlock = some g → g < B := fun g hg => absurd hg (by simp [Value.ownBlock])
  exact ⟨⟨OwnT.nil _ _, OwnT.nil _ _, OwnT.nil _ _, OwnT.nil _ _, OwnT.nil _ _⟩, ⟨hz, hz, hz, hz⟩, Nat.le_refl _, Nat.le_refl _, Nat.le_refl _, Nat.le_refl _, hB⟩
end Go.Proofs.Ytpglcbidfghfkaa

/-
  Frauds held against each other.
-/
namespace Go.Proofs.Ytpglcbidfghfkaa
open Go.RowKit Go.Lib
set_option linter.unusedVariables false
set_option linter.unusedSimpArgs false

set_option maxHeartbeats 4000000 in
set_option maxRecDepth 10000 in
theorem eqFraud_any (x y : Hd) (l : List ByteArray) (a1 b1 a2 b2 a3 a4 b4 a5 b5 a6 : Option Addr) (c1 d1 c2 d2 c3 c4 d4 c5 d5 c6 : Nat) (w : World) (h1 : x.In (.slice a1 x.el.length c1) (.slice b1 x.pl.length d1) w w.heap.size) (h2 : y.In (.slice a2 y.el.length c2) (.slice b2 y.pl.length d2) w w.heap.size) (h3 : Texts w w.heap.size (.slice a3 l.length c3) l) (h4 : x.In (.slice a4 x.el.length c4) (.slice b4 x.pl.length d4) w w.heap.size) (h5 : y.In (.slice a5 y.el.length c5) (.slice b5 y.pl.length d5) w w.heap.size) (h6 : Texts w w.heap.size (.slice a6 l.length c6) l) (hlx : x.Lim) (hly : y.Lim) (hll : l.length ≤ 1048577) :
    Calls Try.prog 21 #[.agg #[.string x.log, .int .i64 x.size, .string x.root, .int .i64 x.time, .int .i64 x.k, .slice a1 x.el.length c1, .slice b1 x.pl.length d1, .string y.log, .int .i64 y.size, .string y.root, .int .i64 y.time, .int .i64 y.k, .slice a2 y.el.length c2, .slice b2 y.pl.length d2, .slice a3 l.length c3], .agg #[.string x.log, .int .i64 x.size, .string x.root, .int .i64 x.time, .int .i64 x.k, .slice a4 x.el.length c4, .slice b4 x.pl.length d4, .string y.log, .int .i64 y.size, .string y.root, .int .i64 y.time, .int .i64 y.k, .slice a5 y.el.length c5, .slice b5 y.pl.length d5, .slice a6 l.length c6]] w fun e w' => e = .returned (.bool true) ∧ Below w.heap.size w w' := by
  obtain ⟨W, hW⟩ : ∃ W, W = (w.alloc (.cells #[.string x.log, .int .i64 x.size, .string x.root, .int .i64 x.time, .int .i64 x.k, .slice a1 x.el.length c1, .slice b1 x.pl.length d1, .string y.log, .int .i64 y.size, .string y.root, .int .i64 y.time, .int .i64 y.k, .slice a2 y.el.length c2, .slice b2 y.pl.length d2, .slice a3 l.length c3] 28)).alloc (.cells #[.string x.log, .int .i64 x.size, .string x.root, .int .i64 x.time, .int .i64 x.k, .slice a4 x.el.length c4, .slice b4 x.pl.length d4, .string y.log, .int .i64 y.size, .string y.root, .int .i64 y.time, .int .i64 y.k, .slice a5 y.el.length c5, .slice b5 y.pl.length d5, .slice a6 l.length c6] 28) := ⟨_, rfl⟩
  have hbW : Below w.heap.size w W := by rw [hW]; exact ((Below.refl _ _).alloc (Nat.le_refl _) _).alloc (by simp) _
  have hgW : W.heap[w.heap.size]? = some (.cells #[.string x.log, .int .i64 x.size, .string x.root, .int .i64 x.time, .int .i64 x.k, .slice a1 x.el.length c1, .slice b1 x.pl.length d1, .string y.log, .int .i64 y.size, .string y.root, .int .i64 y.time, .int .i64 y.k, .slice a2 y.el.length c2, .slice b2 y.pl.length d2, .slice a3 l.length c3] 28 (0, 0)) := by rw [hW]; exact heap_alloc2_old w _ _
  have hoW : W.heap[w.heap.size + 1]? = some (.cells #[.string x.log, .int .i64 x.size, .string x.root, .int .i64 x.time, .int .i64 x.k, .slice a4 x.el.length c4, .slice b4 x.pl.length d4, .string y.log, .int .i64 y.size, .string y.root, .int .i64 y.time, .int .i64 y.k, .slice a5 y.el.length c5, .slice b5 y.pl.length d5, .slice a6 l.length c6] 28 (0, 0)) := by rw [hW]; exact heap_alloc2_new w _ _
  have HW : Hid (W = (w.alloc (.cells #[.string x.log, .int .i64 x.size, .string x.root, .int .i64 x.time, .int .i64 x.k, .slice a1 x.el.length c1, .slice b1 x.pl.length d1, .string y.log, .int .i64 y.size, .string y.root, .int .i64 y.time, .int .i64 y.k, .slice a2 y.el.length c2, .slice b2 y.pl.length d2, .slice a3 l.length c3] 28)).alloc (.cells #[.string x.log, .int .i64 x.size, .string x.root, .int .i64 x.time, .int .i64 x.k, .slice a4 x.el.length c4, .slice b4 x.pl.length d4, .string y.log, .int .i64 y.size, .string y.root, .int .i64 y.time, .int .i64 y.k, .slice a5 y.el.length c5, .slice b5 y.pl.length d5, .slice a6 l.length c6] 28)) := hW
  have HC : Hid (∀ W', Below W.heap.size W W' → (W'.cell? ⟨w.heap.size, 0, none⟩ = some (.string x.log) ∧ W'.cell? ⟨w.heap.size, 1, none⟩ = some (.int .i64 x.size) ∧ W'.cell? ⟨w.heap.size, 2, none⟩ = some (.string x.root) ∧ W'.cell? ⟨w.heap.size, 3, none⟩ = some (.int .i64 x.time) ∧ W'.cell? ⟨w.heap.size, 4, none⟩ = some (.int .i64 x.k) ∧ W'.cell? ⟨w.heap.size, 5, none⟩ = some (.slice a1 x.el.length c1) ∧ W'.cell? ⟨w.heap.size, 6, none⟩ = some (.slice b1 x.pl.length d1) ∧ W'.cell? ⟨w.heap.size, 7, none⟩ = some (.string y.log) ∧ W'.cell? ⟨w.heap.size, 8, none⟩ = some (.int .i64 y.size) ∧ W'.cell? ⟨w.heap.size, 9, none⟩ = some (.string y.root) ∧ W'.cell? ⟨w.heap.size, 10, none⟩ = some (.int .i64 y.time) ∧ W'.cell? ⟨w.heap.size, 11, none⟩ = some (.int .i64 y.k) ∧ W'.cell? ⟨w.heap.size, 12, none⟩ = some (.slice a2 y.el.length c2) ∧ W'.cell? ⟨w.heap.size, 13, none⟩ = some (.slice b2 y.pl.length d2) ∧ W'.cell? ⟨w.heap.size, 14, none⟩ = some (.slice a3 l.length c3)) ∧ (W'.cell? ⟨w.heap.size + 1, 0, none⟩ = some (.string x.log) ∧ W'.cell? ⟨w.heap.size + 1, 1, none⟩ = some (.int .i64 x.size) ∧ W'.cell? ⟨w.heap.size + 1, 2, none⟩ = some (.string x.root) ∧ W'.cell? ⟨w.heap.size + 1, 3, none⟩ = some (.int .i64 x.time) ∧ W'.cell? ⟨w.heap.size + 1, 4, none⟩ = some (.int .i64 x.k) ∧ W'.cell? ⟨w.heap.size + 1, 5, none⟩ = some (.slice a4 x.el.length c4) ∧ W'.cell? ⟨w.heap.size + 1, 6, none⟩ = some (.slice b4 x.pl.length d4) ∧ W'.cell? ⟨w.heap.size + 1, 7, none⟩ = some (.string y.log) ∧ W'.cell? ⟨w.heap.size + 1, 8, none⟩ = some (.int .i64 y.size) ∧ W'.cell? ⟨w.heap.size + 1, 9, none⟩ = some (.string y.root) ∧ W'.cell? ⟨w.heap.size + 1, 10, none⟩ = some (.int .i64 y.time) ∧ W'.cell? ⟨w.heap.size + 1, 11, none⟩ = some (.int .i64 y.k) ∧ W'.cell? ⟨w.heap.size + 1, 12, none⟩ = some (.slice a5 y.el.length c5) ∧ W'.cell? ⟨w.heap.size + 1, 13, none⟩ = some (.slice b5 y.pl.length d5) ∧ W'.cell? ⟨w.heap.size + 1, 14, none⟩ = some (.slice a6 l.length c6))) := fun W' hb => by
    have c := row_cells hb (Array.getElem?_eq_some_iff.1 hgW).1 hgW
    have d := row_cells hb (Array.getElem?_eq_some_iff.1 hoW).1 hoW
    exact ⟨⟨c 0 _ rfl, c 1 _ rfl, c 2 _ rfl, c 3 _ rfl, c 4 _ rfl, c 5 _ rfl, c 6 _ rfl, c 7 _ rfl, c 8 _ rfl, c 9 _ rfl, c 10 _ rfl, c 11 _ rfl, c 12 _ rfl, c 13 _ rfl, c 14 _ rfl⟩, ⟨d 0 _ rfl, d 1 _ rfl, d 2 _ rfl, d 3 _ rfl, d 4 _ rfl, d 5 _ rfl, d 6 _ rfl, d 7 _ rfl, d 8 _ rfl, d 9 _ rfl, d 10 _ rfl, d 11 _ rfl, d 12 _ rfl, d 13 _ rfl, d 14 _ rfl⟩⟩
  have E1 : Hid (∀ W', Below W.heap.size W W' → Calls Try.prog 28 #[.agg #[.string x.log, .int .i64 x.size, .string x.root, .int .i64 x.time, .int .i64 x.k, .slice a1 x.el.length c1, .slice b1 x.pl.length d1], .agg #[.string x.log, .int .i64 x.size, .string x.root, .int .i64 x.time, .int .i64 x.k, .slice a4 x.el.length c4, .slice b4 x.pl.length d4]] W' fun e w' => e = .returned (.bool true) ∧ Below W'.heap.size W' w') := fun W' hb => eqHead_any x.log x.root x.size x.time x.k _ _ _ _ x.el x.pl W' ((h1.1.on hbW).on hb) ((h1.2.on hbW).on hb) ((h4.1.on hbW).on hb) ((h4.2.on hbW).on hb) (Nat.le_succ_of_le hlx.2.2.1) (Nat.le_succ_of_le hlx.2.2.2)
  have E2 : Hid (∀ W', Below W.heap.size W W' → Calls Try.prog 28 #[.agg #[.string y.log, .int .i64 y.size, .string y.root, .int .i64 y.time, .int .i64 y.k, .slice a2 y.el.length c2, .slice b2 y.pl.length d2], .agg #[.string y.log, .int .i64 y.size, .string y.root, .int .i64 y.time, .int .i64 y.k, .slice a5 y.el.length c5, .slice b5 y.pl.length d5]] W' fun e w' => e = .returned (.bool true) ∧ Below W'.heap.size W' w') := fun W' hb => eqHead_any y.log y.root y.size y.time y.k _ _ _ _ y.el y.pl W' ((h2.1.on hbW).on hb) ((h2.2.on hbW).on hb) ((h5.1.on hbW).on hb) ((h5.2.on hbW).on hb) (Nat.le_succ_of_le hly.2.2.1) (Nat.le_succ_of_le hly.2.2.2)
  have E3 : Hid (∀ W', Below W.heap.size W W' → Calls Try.prog 27 #[.slice a3 l.length c3, .slice a6 l.length c6] W' fun e w' => e = .returned (.bool true) ∧ Below W'.heap.size W' w') := fun W' hb => eqTexts_any _ _ l W' W'.heap.size ((h3.on hbW).on hb) ((h6.on hbW).on hb) hll
  have H0 : Hid (Below w.heap.size w W ∧ Below W.heap.size W W) := ⟨hbW, Below.refl _ _⟩
  clear h1 h2 h3 h4 h5 h6 hbW hgW hoW hW
  obtain ⟨⟨c0, c1, c2, c3, c4, c5, c6, c7, c8, c9, c10, c11, c12, c13, c14⟩, ⟨d0, d1, d2, d3, d4, d5, d6, d7, d8, d9, d10, d11, d12, d13, d14⟩⟩ := HC.out W H0.out.2
  go_enter Try.func21, Try.ntmps21
  go_wp2_with fail
  rw [← HW.out]
  clear HW
  refine (E1.out _ H0.out.2).mono ?_
  rintro e w1 ⟨rfl, hb1⟩
  have B1 : Hid (Below W.heap.size W w1) := hb1
  clear c0 c1 c2 c3 c4 c5 c6 c7 c8 c9 c10 c11 c12 c13 c14 d0 d1 d2 d3 d4 d5 d6 d7 d8 d9 d10 d11 d12 d13 d14
  obtain ⟨⟨c0, c1, c2, c3, c4, c5, c6, c7, c8, c9, c10, c11, c12, c13, c14⟩, ⟨d0, d1, d2, d3, d4, d5, d6, d7, d8, d9, d10, d11, d12, d13, d14⟩⟩ := HC.out _ hb1
  clear hb1
  go_wp2_with fail
  refine (E2.out _ B1.out).mono ?_
  rintro e w2 ⟨rfl, hb2⟩
  have B2 : Hid (Below W.heap.size W w2) := B1.out.trans (hb2.mono B1.out.size)
  clear c0 c1 c2 c3 c4 c5 c6 c7 c8 c9 c10 c11 c12 c13 c14 d0 d1 d2 d3 d4 d5 d6 d7 d8 d9 d10 d11 d12 d13 d14 hb2
  obtain ⟨⟨c0, c1, c2, c3, c4, c5, c6, c7, c8, c9, c10, c11, c12, c13, c14⟩, ⟨d0, d1, d2, d3, d4, d5, d6, d7, d8, d9, d10, d11, d12, d13, d14⟩⟩ := HC.out _ B2.out
  go_wp2_with fail
  refine (E3.out _ B2.out).mono ?_
  rintro e w3 ⟨rfl, hb3⟩
  have B3 : Hid (Below W.heap.size W w3) := B2.out.trans (hb3.mono B2.out.size)
  clear c0 c1 c2 c3 c4 c5 c6 c7 c8 c9 c10 c11 c12 c13 c14 d0 d1 d2 d3 d4 d5 d6 d7 d8 d9 d10 d11 d12 d13 d14 hb3
  go_wp2
  go_ret
  exact ⟨rfl, H0.out.1.trans (B3.out.mono H0.out.1.size)⟩

end Go.Proofs.Ytpglcbidfghfkaa
