/-
  A head as a record: its texts, its numbers, its rows.
-/
import Derived.Test.YtpglcbidfghfkaaGreatDoorPkHeadArg
import Derived.Test.YtpglcbidfghfkaaGreatDoorPkHeadOpen
import Derived.Test.YtpglcbidfghfkaaGreatDoorPkTextRows
namespace Go.Proofs.YtpglcbidfghfkaaGreatDoor
open Go.RowKit Go.Lib
set_option linter.unusedVariables false
set_option linter.unusedSimpArgs false

/-- A head as it lies in memory. -/
structure Hd where
  log : ByteArray
  root : ByteArray
  size : Int
  time : Int
  k : Int
  el : List ByteArray
  pl : List ByteArray
/-- Its rows can be read. -/
def Hd.In (x : Hd) (ve vp : Value) (w : World) (B : Nat) : Prop := Texts w B ve x.el ∧ Texts w B vp x.pl
theorem Hd.In.below {x : Hd} {ve vp : Value} {w w' : World} {B : Nat} (h : x.In ve vp w B) (hb : Below B w w') : x.In ve vp w' B := ⟨h.1.below hb, h.2.below hb⟩
theorem Hd.In.up {x : Hd} {ve vp : Value} {w : World} {B B' : Nat} (h : x.In ve vp w B) (hB : B ≤ B') : x.In ve vp w B' := ⟨h.1.up hB, h.2.up hB⟩
theorem Hd.In.on {x : Hd} {ve vp : Value} {w w' : World} (h : x.In ve vp w w.heap.size) (hb : Below w.heap.size w w') : x.In ve vp w' w'.heap.size := (h.below hb).up hb.size
theorem Hd.In.parts {x : Hd} {ve vp : Value} {w : World} {B : Nat} (h : x.In ve vp w B) : ∃ a c b d, ve = .slice a x.el.length c ∧ vp = .slice b x.pl.length d := by
  obtain ⟨a, c, h1, _⟩ := h.1
  obtain ⟨b, d, h2, _⟩ := h.2
  exact ⟨a, c, b, d, h1, h2⟩
/-- It is of no more than the law looks at. -/
def Hd.Lim (x : Hd) : Prop := x.log.size ≤ 1048576 ∧ x.root.size ≤ 1048576 ∧ x.el.length ≤ 1048576 ∧ x.pl.length ≤ 1048576
/-- Its numbers are numbers of 64 bits. -/
def Hd.Num (x : Hd) : Prop := (-9223372036854775808 ≤ x.size ∧ x.size ≤ 9223372036854775807) ∧ -9223372036854775808 ≤ x.time ∧ x.time ≤ 9223372036854775807
def Hd.right (x : Hd) : Bool := headRB x.log x.size x.root x.time x.k x.el x.pl
/-- A head that came in. -/
def Hd.Arg (x : Hd) (ve vp : Value) (w : World) : Prop := x.In ve vp w w.heap.size ∧ x.Num ∧ x.log.size ≤ 9223372036854775807 ∧ x.root.size ≤ 9223372036854775807 ∧ (x.el.length ≤ 9223372036854775807 ∧ ∀ j (hj : j < x.el.length), x.el[j].size ≤ 9223372036854775807) ∧ (x.pl.length ≤ 9223372036854775807 ∧ ∀ j (hj : j < x.pl.length), x.pl[j].size ≤ 9223372036854775807)
theorem Hd.Arg.on {x : Hd} {ve vp : Value} {w w' : World} (h : x.Arg ve vp w) (hb : Below w.heap.size w w') : x.Arg ve vp w' := ⟨h.1.on hb, h.2⟩
theorem TextsArg.on {w w' : World} {v : Value} {l : List ByteArray} (h : TextsArg w v l) (hb : Below w.heap.size w w') : TextsArg w' v l := ⟨(h.1.below hb).up hb.size, h.2⟩
theorem Texts.on {w w' : World} {v : Value} {l : List ByteArray} (h : Texts w w.heap.size v l) (hb : Below w.heap.size w w') : Texts w' w'.heap.size v l := (h.below hb).up hb.size
/-- The cells of a block that was laid ahead of a call. -/
theorem row_cells {B g : Nat} {W w1 : World} {cs : Array Value} {t : TypeId} (hb : Below B W w1) (hB : g < B) (hW : W.heap[g]? = some (.cells cs t (0, 0))) :
    ∀ i v, cs[i]? = some v → w1.cell? ⟨g, i, none⟩ = some v := fun i v h => by
  have hx := (hb.block g hB).trans hW
  simp [World.cell?, hx, h]
theorem row_here {g : Nat} {w1 : World} {cs : Array Value} {t : TypeId} (hW : w1.heap[g]? = some (.cells cs t (0, 0))) :
    ∀ i v, cs[i]? = some v → w1.cell? ⟨g, i, none⟩ = some v := fun i v h => by
  simp [World.cell?, hW, h]
theorem row_free {g : Nat} {w1 : World} {cs : Array Value} {t : TypeId} (hW : w1.heap[g]? = some (.cells cs t (0, 0))) :
    ∀ i, w1.frozen? ⟨g, i, none⟩ = false := fun i => by
  simp [World.frozen?, hW]
theorem heap_put {w : World} {g i : Nat} {cs : Array Value} {t : TypeId} {v : Value} (h : w.heap[g]? = some (.cells cs t (0, 0))) :
    (w.setCell ⟨g, i, none⟩ v).heap[g]? = some (.cells (cs.setIfInBounds i v) t (0, 0)) := by
  have hlt := (Array.getElem?_eq_some_iff.1 h).1
  have h1 : w.heap[g] = .cells cs t (0, 0) := (Array.getElem?_eq_some_iff.1 h).2
  simp [World.setCell, hlt, Array.getElem_modify, h1]
theorem heap_put2 {w : World} {g i : Nat} {cs : Array Value} (cs' : Array Value) {t : TypeId} {v : Value} (h : w.heap[g]? = some (.cells cs t (0, 0))) (e : cs.setIfInBounds i v = cs') :
    (w.setCell ⟨g, i, none⟩ v).heap[g]? = some (.cells cs' t (0, 0)) := by
  rw [← e]
  exact heap_put h
theorem heap_pass {w : World} {g i k : Nat} {v : Value} {o : Option Obj} (hne : k ≠ g) (h : w.heap[k]? = o) : (w.setCell ⟨g, i, none⟩ v).heap[k]? = o := by
  rw [heap_setCell_other w ⟨g, i, none⟩ k v hne]
  exact h
theorem size_put (w : World) (p : Addr) (v : Value) : (w.setCell p v).heap.size = w.heap.size := by simp [World.setCell]
theorem szHd_any (x : Hd) (xe xp : Value) (left : Int) (w : World) (h : x.Arg xe xp w) (h0 : 0 ≤ left) (hle : left ≤ 1048576) :
    Calls Tryz.prog 125 #[.agg #[.string x.log, .int .i64 x.size, .string x.root, .int .i64 x.time, .int .i64 x.k, xe, xp], .int .i64 left] w fun e w' => ∃ r : Int, e = .returned (.int .i64 r) ∧ -1048577 ≤ r ∧ r ≤ 1048576 ∧ (r < 0 ∨ x.Lim) ∧ Below w.heap.size w w' :=
  szHead_any x.log x.root x.size x.time x.k _ _ x.el x.pl left w ⟨h.1.1, h.2.2.2.2.1⟩ ⟨h.1.2, h.2.2.2.2.2⟩ h0 hle h.2.2.1 h.2.2.2.1
theorem toHd_any (x : Hd) (xe xp : Value) (w : World) (h : x.In xe xp w w.heap.size) (hl : x.Lim) :
    Calls Tryz.prog 129 #[.agg #[.string x.log, .int .i64 x.size, .string x.root, .int .i64 x.time, .int .i64 x.k, xe, xp]] w fun e w' => HeadOwn w x.log x.size x.root x.time x.k x.el x.pl e w' :=
  toHead_any x.log x.root x.size x.time x.k _ _ x.el x.pl w h.1 h.2 hl.2.2.1 hl.2.2.2
end Go.Proofs.YtpglcbidfghfkaaGreatDoor

/-
  Two heads held against each other by the promises.
-/
namespace Go.Proofs.YtpglcbidfghfkaaGreatDoor
open Go.RowKit Go.Lib
set_option linter.unusedVariables false
set_option linter.unusedSimpArgs false

set_option maxHeartbeats 4000000 in
set_option maxRecDepth 10000 in
theorem lwHead_any (x : Hd) (a1 b1 a2 b2 : Option Addr) (s1 t1 s2 t2 : Nat) (w : World) (h1 : x.In (.slice a1 x.el.length s1) (.slice b1 x.pl.length t1) w w.heap.size) (h2 : x.In (.slice a2 x.el.length s2) (.slice b2 x.pl.length t2) w w.heap.size) (hl1 : x.el.length ≤ 1048577) (hl2 : x.pl.length ≤ 1048577) :
    Calls Tryz.prog 9 #[.agg #[.string x.log, .int .i64 x.size, .string x.root, .int .i64 x.time, .int .i64 x.k, .slice a1 x.el.length s1, .slice b1 x.pl.length t1], .agg #[.string x.log, .int .i64 x.size, .string x.root, .int .i64 x.time, .int .i64 x.k, .slice a2 x.el.length s2, .slice b2 x.pl.length t2]] w fun e w' => e = .returned (.bool true) ∧ Below w.heap.size w w' := by
  obtain ⟨W, hW⟩ : ∃ W, W = (w.alloc (.cells #[.string x.log, .int .i64 x.size, .string x.root, .int .i64 x.time, .int .i64 x.k, .slice a1 x.el.length s1, .slice b1 x.pl.length t1] 29)).alloc (.cells #[.string x.log, .int .i64 x.size, .string x.root, .int .i64 x.time, .int .i64 x.k, .slice a2 x.el.length s2, .slice b2 x.pl.length t2] 29) := ⟨_, rfl⟩
  have hbW : Below w.heap.size w W := by rw [hW]; exact ((Below.refl _ _).alloc (Nat.le_refl _) _).alloc (by simp) _
  have E1 : Hid (Calls Tryz.prog 69 #[.agg #[.int .i64 x.k, .slice a1 x.el.length s1, .slice b1 x.pl.length t1], .agg #[.int .i64 x.k, .slice a2 x.el.length s2, .slice b2 x.pl.length t2]] W fun e w' => e = .returned (.bool true) ∧ Below w.heap.size w w') := (lwSig_any x.k _ _ _ _ x.el x.pl W (h1.on hbW).1 (h1.on hbW).2 (h2.on hbW).1 (h2.on hbW).2 hl1 hl2).mono fun e w' h => ⟨h.1, hbW.trans (h.2.mono hbW.size)⟩
  have HW : Hid (W = (w.alloc (.cells #[.string x.log, .int .i64 x.size, .string x.root, .int .i64 x.time, .int .i64 x.k, .slice a1 x.el.length s1, .slice b1 x.pl.length t1] 29)).alloc (.cells #[.string x.log, .int .i64 x.size, .string x.root, .int .i64 x.time, .int .i64 x.k, .slice a2 x.el.length s2, .slice b2 x.pl.length t2] 29)) := hW
  have q1 : (x.log.toList == x.log.toList) = true := by simp
  have q2 : (x.root.toList == x.root.toList) = true := by simp
  have q3 : (x.size == x.size) = true := by simp
  have q4 : (x.time == x.time) = true := by simp
  clear h1 h2 hW hbW
  go_enter Tryz.func9, Tryz.ntmps9
  go_wp2_with fail
  rw [← HW.out]
  refine E1.out.mono ?_
  rintro e w1 ⟨rfl, hb1⟩
  have HB : Hid (Below w.heap.size w w1) := hb1
  clear hb1
  go_wp2
  go_ret
  exact ⟨rfl, HB.out⟩
end Go.Proofs.YtpglcbidfghfkaaGreatDoor
