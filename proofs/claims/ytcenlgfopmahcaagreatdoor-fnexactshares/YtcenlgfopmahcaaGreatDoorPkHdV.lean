/-
  A head as a record: its texts, its numbers, its rows.
-/
import Derived.Test.YtcenlgfopmahcaaGreatDoorPkTextRows
import Derived.Test.YtcenlgfopmahcaaGreatDoorPkHeadOpen
namespace Go.Proofs.YtcenlgfopmahcaaGreatDoor
open Go.RowKit Go.Lib
set_option linter.unusedVariables false
set_option linter.unusedSimpArgs false

/-- A head as it lies in memory. -/
structure Hd where
  log : ByteArray
  root : ByteArray
  size : Int
  time : Int
  k : Int
  el : List ByteArray
  pl : List ByteArray
/-- Its rows can be read. -/
def Hd.In (x : Hd) (ve vp : Value) (w : World) (B : Nat) : Prop := Texts w B ve x.el ∧ Texts w B vp x.pl
theorem Hd.In.below {x : Hd} {ve vp : Value} {w w' : World} {B : Nat} (h : x.In ve vp w B) (hb : Below B w w') : x.In ve vp w' B := ⟨h.1.below hb, h.2.below hb⟩
theorem Hd.In.up {x : Hd} {ve vp : Value} {w : World} {B B' : Nat} (h : x.In ve vp w B) (hB : B ≤ B') : x.In ve vp w B' := ⟨h.1.up hB, h.2.up hB⟩
theorem Hd.In.on {x : Hd} {ve vp : Value} {w w' : World} (h : x.In ve vp w w.heap.size) (hb : Below w.heap.size w w') : x.In ve vp w' w'.heap.size := (h.below hb).up hb.size
theorem Hd.In.parts {x : Hd} {ve vp : Value} {w : World} {B : Nat} (h : x.In ve vp w B) : ∃ a c b d, ve = .slice a x.el.length c ∧ vp = .slice b x.pl.length d := by
  obtain ⟨a, c, h1, _⟩ := h.1
  obtain ⟨b, d, h2, _⟩ := h.2
  exact ⟨a, c, b, d, h1, h2⟩
/-- It is of no more than the law looks at. -/
def Hd.Lim (x : Hd) : Prop := x.log.size ≤ 1048576 ∧ x.root.size ≤ 1048576 ∧ x.el.length ≤ 1048576 ∧ x.pl.length ≤ 1048576
/-- Its numbers are numbers of 64 bits. -/
def Hd.Num (x : Hd) : Prop := (-9223372036854775808 ≤ x.size ∧ x.size ≤ 9223372036854775807) ∧ -9223372036854775808 ≤ x.time ∧ x.time ≤ 9223372036854775807
def Hd.right (x : Hd) : Bool := headRB x.log x.size x.root x.time x.k x.el x.pl
/-- A head that came in. -/
def Hd.Arg (x : Hd) (ve vp : Value) (w : World) : Prop := x.In ve vp w w.heap.size ∧ x.Num ∧ x.log.size ≤ 9223372036854775807 ∧ x.root.size ≤ 9223372036854775807 ∧ (x.el.length ≤ 9223372036854775807 ∧ ∀ j (hj : j < x.el.length), x.el[j].size ≤ 9223372036854775807) ∧ (x.pl.length ≤ 9223372036854775807 ∧ ∀ j (hj : j < x.pl.length), x.pl[j].size ≤ 9223372036854775807)
theorem Hd.Arg.on {x : Hd} {ve vp : Value} {w w' : World} (h : x.Arg ve vp w) (hb : Below w.heap.size w w') : x.Arg ve vp w' := ⟨h.1.on hb, h.2⟩
theorem TextsArg.on {w w' : World} {v : Value} {l : List ByteArray} (h : TextsArg w v l) (hb : Below w.heap.size w w') : TextsArg w' v l := ⟨(h.1.below hb).up hb.size, h.2⟩
theorem Texts.on {w w' : World} {v : Value} {l : List ByteArray} (h : Texts w w.heap.size v l) (hb : Below w.heap.size w w') : Texts w' w'.heap.size v l := (h.below hb).up hb.size
/-- The cells of a block that was laid ahead of a call. -/
theorem row_cells {B g : Nat} {W w1 : World} {cs : Array Value} {t : TypeId} (hb : Below B W w1) (hB : g < B) (hW : W.heap[g]? = some (.cells cs t (0, 0))) :
    ∀ i v, cs[i]? = some v → w1.cell? ⟨g, i, none⟩ = some v := fun i v h => by
  have hx := (hb.block g hB).trans hW
  simp [World.cell?, hx, h]
theorem row_here {g : Nat} {w1 : World} {cs : Array Value} {t : TypeId} (hW : w1.heap[g]? = some (.cells cs t (0, 0))) :
    ∀ i v, cs[i]? = some v → w1.cell? ⟨g, i, none⟩ = some v := fun i v h => by
  simp [World.cell?, hW, h]
theorem row_free {g : Nat} {w1 : World} {cs : Array Value} {t : TypeId} (hW : w1.heap[g]? = some (.cells cs t (0, 0))) :
    ∀ i, w1.frozen? ⟨g, i, none⟩ = false := fun i => by
  simp [World.frozen?, hW]
theorem heap_put {w : World} {g i : Nat} {cs : Array Value} {t : TypeId} {v : Value} (h : w.heap[g]? = some (.cells cs t (0, 0))) :
    (w.setCell ⟨g, i, none⟩ v).heap[g]? = some (.cells (cs.setIfInBounds i v) t (0, 0)) := by
  have hlt := (Array.getElem?_eq_some_iff.1 h).1
  have h1 : w.heap[g] = .cells cs t (0, 0) := (Array.getElem?_eq_some_iff.1 h).2
  simp [World.setCell, hlt, Array.getElem_modify, h1]
theorem heap_put2 {w : World} {g i : Nat} {cs : Array Value} (cs' : Array Value) {t : TypeId} {v : Value} (h : w.heap[g]? = some (.cells cs t (0, 0))) (e : cs.setIfInBounds i v = cs') :
    (w.setCell ⟨g, i, none⟩ v).heap[g]? = some (.cells cs' t (0, 0)) := by
  rw [← e]
  exact heap_put h
theorem heap_pass {w : World} {g i k : Nat} {v : Value} {o : Option Obj} (hne : k ≠ g) (h : w.heap[k]? = o) : (w.setCell ⟨g, i, none⟩ v).heap[k]? = o := by
  rw [heap_setCell_other w ⟨g, i, none⟩ k v hne]
  exact h
theorem size_put (w : World) (p : Addr) (v : Value) : (w.setCell p v).heap.size = w.heap.size := by simp [World.setCell]
theorem szHd_any (x : Hd) (xe xp : Value) (left : Int) (w : World) (h : x.Arg xe xp w) (h0 : 0 ≤ left) (hle : left ≤ 1048576) :
    Calls Tryz.prog 14 #[.agg #[.string x.log, .int .i64 x.size, .string x.root, .int .i64 x.time, .int .i64 x.k, xe, xp], .int .i64 left] w fun e w' => ∃ r : Int, e = .returned (.int .i64 r) ∧ -1048577 ≤ r ∧ r ≤ 1048576 ∧ (r < 0 ∨ x.Lim) ∧ Below w.heap.size w w' :=
  szHead_any x.log x.root x.size x.time x.k _ _ x.el x.pl left w ⟨h.1.1, h.2.2.2.2.1⟩ ⟨h.1.2, h.2.2.2.2.2⟩ h0 hle h.2.2.1 h.2.2.2.1
theorem toHd_any (x : Hd) (xe xp : Value) (w : World) (h : x.In xe xp w w.heap.size) (hl : x.Lim) :
    Calls Tryz.prog 21 #[.agg #[.string x.log, .int .i64 x.size, .string x.root, .int .i64 x.time, .int .i64 x.k, xe, xp]] w fun e w' => HeadOwn w x.log x.size x.root x.time x.k x.el x.pl e w' :=
  toHead_any x.log x.root x.size x.time x.k _ _ x.el x.pl w h.1 h.2 hl.2.2.1 hl.2.2.2
end Go.Proofs.YtcenlgfopmahcaaGreatDoor

/-
  A fraud that came in, opened from its cells.
-/
namespace Go.Proofs.YtcenlgfopmahcaaGreatDoor
open Go.RowKit Go.Lib
set_option linter.unusedVariables false
set_option linter.unusedSimpArgs false

open Go.ChangeShapes Go.WideShapes

theorem Hd.of_open {W : World} {log root : ByteArray} {size time k : Int} {ve vp : Value} {el pl : List ByteArray} (hl : log.size ≤ maxLen) (hr : root.size ≤ maxLen) (hs : (Lit.int .i64 size).wf = true) (ht : (Lit.int .i64 time).wf = true) (h1 : TextsArg W ve el) (h2 : TextsArg W vp pl) :
    Hd.Arg ⟨log, root, size, time, k, el, pl⟩ ve vp W := by
  unfold maxLen at hl hr
  exact ⟨⟨h1.1, h2.1⟩, ⟨int_bd hs, int_bd ht⟩, hl, hr, h1.2, h2.2⟩
theorem hd_open {H : Type} {enc : TypeId × Value → H} {W : World} {n : Nat} {cs : List Value} {x : DataW H × List MemPlace} (h : DataW.trod enc Tryz.prog W 0 (fun _ => true) true n 26 cs = some x) :
    ∃ (x : Hd) (ve vp : Value), cs = [.string x.log, .int .i64 x.size, .string x.root, .int .i64 x.time, .int .i64 x.k, ve, vp] ∧ x.Arg ve vp W := by
  obtain ⟨log, root, size, time, k, ve, vp, el, pl, e, hl, hr, hs, ht, _, h1, h2⟩ := head_open h
  exact ⟨⟨log, root, size, time, k, el, pl⟩, ve, vp, e, Hd.of_open hl hr hs ht h1 h2⟩
theorem fraud_open {H : Type} {enc : TypeId × Value → H} {W : World} {n : Nat} {cs : List Value} {x : DataW H × List MemPlace} (h : DataW.trod enc Tryz.prog W 0 (fun _ => true) true n 29 cs = some x) :
    ∃ (x y : Hd) (xe xp ye yp ve : Value) (l : List ByteArray), cs = [.string x.log, .int .i64 x.size, .string x.root, .int .i64 x.time, .int .i64 x.k, xe, xp, .string y.log, .int .i64 y.size, .string y.root, .int .i64 y.time, .int .i64 y.k, ye, yp, ve] ∧ x.Arg xe xp W ∧ y.Arg ye yp W ∧ TextsArg W ve l := by
  obtain ⟨xs, n, _, _, hl, hlen, hf⟩ := DataW.trod_struct Tryz.underlying29 h
  match xs, hlen with
  | [y0, y1, y2], _ =>
    have q0 : Tryz.prog.cellsOf 26 = 7 := by kernel_rfl
    have q1 : Tryz.prog.cellsOf 22 = 1 := by kernel_rfl
    have q2 : Tryz.prog.cellsOf 29 = 15 := by kernel_rfl
    have t0 : DataW.trod enc Tryz.prog W 0 (fun _ => true) true n 26 ((cs.drop 0).take (Tryz.prog.cellsOf 26)) = some y0 := hf 0 _ rfl
    have t1 : DataW.trod enc Tryz.prog W 0 (fun _ => true) true n 26 ((cs.drop 7).take (Tryz.prog.cellsOf 26)) = some y1 := hf 1 _ rfl
    have t2 : DataW.trod enc Tryz.prog W 0 (fun _ => true) true n 22 ((cs.drop 14).take (Tryz.prog.cellsOf 22)) = some y2 := hf 2 _ rfl
    obtain ⟨x, xe, xp, e0, hx⟩ := hd_open t0
    obtain ⟨y, ye, yp, e1, hy⟩ := hd_open t1
    obtain ⟨ve, l, e2, h3⟩ := texts_open t2
    rw [q0] at e0 e1
    rw [q1] at e2
    rw [q2] at hl
    refine ⟨x, y, xe, xp, ye, yp, ve, l, ?_, hx, hy, h3⟩
    exact (seg (o := 0) e0).trans (congrArg ([_, _, _, _, _, _, _] ++ ·) ((seg e1).trans (congrArg ([_, _, _, _, _, _, _] ++ ·) ((seg e2).trans (congrArg ([_] ++ ·) (seg_end hl))))))
theorem fraud_arg {H : Type} {enc : TypeId × Value → H} {W : World} {n : Nat} {cs : Array Value} {x : DataW H × List MemPlace} (h : DataW.trod enc Tryz.prog W 0 (fun _ => true) true n 29 (Value.agg cs).cells.toList = some x) :
    ∃ (x y : Hd) (xe xp ye yp ve : Value) (l : List ByteArray), cs = #[.string x.log, .int .i64 x.size, .string x.root, .int .i64 x.time, .int .i64 x.k, xe, xp, .string y.log, .int .i64 y.size, .string y.root, .int .i64 y.time, .int .i64 y.k, ye, yp, ve] ∧ x.Arg xe xp W ∧ y.Arg ye yp W ∧ TextsArg W ve l := by
  obtain ⟨x, y, xe, xp, ye, yp, ve, l, e, h⟩ := fraud_open h
  exact ⟨x, y, xe, xp, ye, yp, ve, l, Array.toList_inj.1 e, h⟩
end Go.Proofs.YtcenlgfopmahcaaGreatDoor

/-
  Five rows of texts that a call has made, one behind the other.
-/
namespace Go.Proofs.YtcenlgfopmahcaaGreatDoor
open Go.RowKit Go.Lib
set_option linter.unusedVariables false
set_option linter.unusedSimpArgs false

/-- The zero head. -/
def hd0 : Hd := ⟨⟨#[]⟩, ⟨#[]⟩, 0, 0, 0, [], []⟩
theorem ba_ne {a b : ByteArray} (h : ¬ a = b) : (a.toList == b.toList) = false := by
  rw [beq_eq_false_iff_ne, toList_data, toList_data]
  intro e
  exact h (ByteArray.ext (Array.toList_inj.1 e))
/-- Rows of texts that a call has made, one behind the other. -/
def Owns5 (w : World) (n0 n1 n2 n3 n4 : Nat) (v0 v1 v2 v3 v4 : Value) (l0 l1 l2 l3 l4 : List ByteArray) : Prop :=
  (OwnT w n0 v0 l0 ∧ OwnT w n1 v1 l1 ∧ OwnT w n2 v2 l2 ∧ OwnT w n3 v3 l3 ∧ OwnT w n4 v4 l4) ∧ ((∀ g, v0.ownBlock = some g → g < n1) ∧ (∀ g, v1.ownBlock = some g → g < n2) ∧ (∀ g, v2.ownBlock = some g → g < n3) ∧ (∀ g, v3.ownBlock = some g → g < n4)) ∧ (n0 ≤ n1 ∧ n1 ≤ n2 ∧ n2 ≤ n3 ∧ n3 ≤ n4 ∧ n4 ≤ w.heap.size)
theorem Owns5.below {w w' : World} {C n0 n1 n2 n3 n4 : Nat} {v0 v1 v2 v3 v4 : Value} {l0 l1 l2 l3 l4 : List ByteArray} (h : Owns5 w n0 n1 n2 n3 n4 v0 v1 v2 v3 v4 l0 l1 l2 l3 l4) (hb : Below C w w') (hC : w.heap.size ≤ C) : Owns5 w' n0 n1 n2 n3 n4 v0 v1 v2 v3 v4 l0 l1 l2 l3 l4 := by
  obtain ⟨⟨o1, o2, o3, o4, o5⟩, q, b1, b2, b3, b4, b5⟩ := h
  exact ⟨⟨o1.below hb hC, o2.below hb hC, o3.below hb hC, o4.below hb hC, o5.below hb hC⟩, q, b1, b2, b3, b4, Nat.le_trans b5 hb.size⟩
theorem Owns5.lower {w : World} {C n0 n1 n2 n3 n4 : Nat} {v0 v1 v2 v3 v4 : Value} {l0 l1 l2 l3 l4 : List ByteArray} (h : Owns5 w n0 n1 n2 n3 n4 v0 v1 v2 v3 v4 l0 l1 l2 l3 l4) (hC : C ≤ n0) : Owns5 w C n1 n2 n3 n4 v0 v1 v2 v3 v4 l0 l1 l2 l3 l4 := by
  obtain ⟨⟨o1, o2, o3, o4, o5⟩, q, b1, b2, b3, b4, b5⟩ := h
  exact ⟨⟨o1.lower hC, o2, o3, o4, o5⟩, q, Nat.le_trans hC b1, b2, b3, b4, b5⟩
theorem Owns5.nil (w : World) (B : Nat) (hB : B ≤ w.heap.size) : Owns5 w B B B B B (.slice none 0 0) (.slice none 0 0) (.slice none 0 0) (.slice none 0 0) (.slice none 0 0) [] [] [] [] [] := by
  have hz : ∀ g, (Value.slice none 0 0).ownBlock = some g → g < B := fun g hg => absurd hg (by simp [Value.ownBlock])
  exact ⟨⟨OwnT.nil _ _, OwnT.nil _ _, OwnT.nil _ _, OwnT.nil _ _, OwnT.nil _ _⟩, ⟨hz, hz, hz, hz⟩, Nat.le_refl _, Nat.le_refl _, Nat.le_refl _, Nat.le_refl _, hB⟩
end Go.Proofs.YtcenlgfopmahcaaGreatDoor

/-
  Is a head the zero one? The document's test and the program's.
-/
namespace Go.Proofs.YtcenlgfopmahcaaGreatDoor
open Go.RowKit Go.Lib
set_option linter.unusedVariables false
set_option linter.unusedSimpArgs false

theorem ne_list {s : ByteArray} (h : ¬ s = ⟨#[]⟩) : s.toList.isEmpty = false := by
  rw [ByteArray.toList_eq]
  cases h2 : s.data.toList with
  | nil => exact absurd (ByteArray.ext (Array.toList_inj.1 h2)) h
  | cons x y => rfl
/-- Is it the zero head? -/
def zeroHB (log : ByteArray) (size : Int) (root : ByteArray) (time k : Int) (m n : Nat) : Bool := decide (log = ⟨#[]⟩ ∧ size = 0 ∧ root = ⟨#[]⟩ ∧ time = 0 ∧ k = 0 ∧ m = 0 ∧ n = 0)
def Hd.zeroHB (x : Hd) : Bool := Go.Proofs.YtcenlgfopmahcaaGreatDoor.zeroHB x.log x.size x.root x.time x.k x.el.length x.pl.length

set_option maxHeartbeats 2000000 in
theorem specZero_any (log : ByteArray) (size : Int) (root : ByteArray) (time k : Int) (a b : Option Addr) (m c n d : Nat) (w : World) :
    Calls Tryz.prog 19 #[.agg #[.string log, .int .i64 size, .string root, .int .i64 time, .int .i64 k, .slice a m c, .slice b n d]] w fun e w' => e = .returned (.bool (zeroHB log size root time k m n)) ∧ Below w.heap.size w w' := by
  unfold zeroHB
  by_cases h0 : log = (⟨#[]⟩ : ByteArray)
  · subst h0
    by_cases h1 : size = 0
    · subst h1
      by_cases h2 : root = (⟨#[]⟩ : ByteArray)
      · subst h2
        by_cases h3 : time = 0
        · subst h3
          by_cases h4 : k = 0
          · subst h4
            by_cases h5 : m = 0
            · subst h5
              by_cases h6 : n = 0
              · subst h6
                go_enter Tryz.func19, Tryz.ntmps19
                go_wp2
                go_ret
                exact ⟨ret_bool (by simp), (Below.refl _ _).alloc (Nat.le_refl _) _⟩
              · have q6 : ¬ (n : Int) = 0 := by omega
                have r6 : ((n : Int) == 0) = false := by simp [h6]
                go_enter Tryz.func19, Tryz.ntmps19
                go_wp2
                go_ret
                exact ⟨ret_bool (by simp [h6]), (Below.refl _ _).alloc (Nat.le_refl _) _⟩
            · have q5 : ¬ (m : Int) = 0 := by omega
              have r5 : ((m : Int) == 0) = false := by simp [h5]
              go_enter Tryz.func19, Tryz.ntmps19
              go_wp2
              go_ret
              exact ⟨ret_bool (by simp [h5]), (Below.refl _ _).alloc (Nat.le_refl _) _⟩
          · have q4 : ¬ (k : Int) = 0 := by omega
            have r4 : ((k : Int) == 0) = false := by simp [h4]
            go_enter Tryz.func19, Tryz.ntmps19
            go_wp2
            go_ret
            exact ⟨ret_bool (by simp [h4]), (Below.refl _ _).alloc (Nat.le_refl _) _⟩
        · have q3 : ¬ (time : Int) = 0 := by omega
          have r3 : ((time : Int) == 0) = false := by simp [h3]
          go_enter Tryz.func19, Tryz.ntmps19
          go_wp2
          go_ret
          exact ⟨ret_bool (by simp [h3]), (Below.refl _ _).alloc (Nat.le_refl _) _⟩
      · have q2 : root.toList.isEmpty = false := ne_list h2
        go_enter Tryz.func19, Tryz.ntmps19
        go_wp2
        go_ret
        exact ⟨ret_bool (by simp [h2]), (Below.refl _ _).alloc (Nat.le_refl _) _⟩
    · have q1 : ¬ (size : Int) = 0 := by omega
      have r1 : ((size : Int) == 0) = false := by simp [h1]
      go_enter Tryz.func19, Tryz.ntmps19
      go_wp2
      go_ret
      exact ⟨ret_bool (by simp [h1]), (Below.refl _ _).alloc (Nat.le_refl _) _⟩
  · have q0 : log.toList.isEmpty = false := ne_list h0
    go_enter Tryz.func19, Tryz.ntmps19
    go_wp2
    go_ret
    exact ⟨ret_bool (by simp [h0]), (Below.refl _ _).alloc (Nat.le_refl _) _⟩

set_option maxHeartbeats 2000000 in
theorem implZero_any (log : ByteArray) (size : Int) (root : ByteArray) (time k : Int) (a b : Option Addr) (m c n d : Nat) (w : World) :
    Calls Tryz.prog 65 #[.agg #[.string log, .int .i64 size, .string root, .int .i64 time, .int .i64 k, .slice a m c, .slice b n d]] w fun e w' => e = .returned (.bool (zeroHB log size root time k m n)) ∧ Below w.heap.size w w' := by
  have E0 : Hid (∀ log size root time k m n, Calls Tryz.prog 83 #[.agg #[.string log, .int .i64 size, .string root, .int .i64 time, .int .i64 k, .slice a m c, .slice b n d]] (w.alloc (.cells #[.string log, .int .i64 size, .string root, .int .i64 time, .int .i64 k, .slice a m c, .slice b n d] 37)) fun e w' => e = .returned (.agg #[.string log, .int .i64 size, .string root, .int .i64 time]) ∧ Below (w.alloc (.cells #[.string log, .int .i64 size, .string root, .int .i64 time, .int .i64 k, .slice a m c, .slice b n d] 37)).heap.size (w.alloc (.cells #[.string log, .int .i64 size, .string root, .int .i64 time, .int .i64 k, .slice a m c, .slice b n d] 37)) w') := fun log size root time k m n => claimOf_any log root size time k a b m c n d _
  have B0 : Hid (∀ log size root time k m n, Below w.heap.size w (w.alloc (.cells #[.string log, .int .i64 size, .string root, .int .i64 time, .int .i64 k, .slice a m c, .slice b n d] 37))) := fun _ _ _ _ _ _ _ => (Below.refl _ _).alloc (Nat.le_refl _) _
  unfold zeroHB
  by_cases h0 : log = (⟨#[]⟩ : ByteArray)
  · subst h0
    by_cases h1 : size = 0
    · subst h1
      by_cases h2 : root = (⟨#[]⟩ : ByteArray)
      · subst h2
        by_cases h3 : time = 0
        · subst h3
          by_cases h4 : k = 0
          · subst h4
            by_cases h5 : m = 0
            · subst h5
              by_cases h6 : n = 0
              · subst h6
                go_enter Tryz.func65, Tryz.ntmps65
                go_wp2_with fail
                refine (E0.out _ _ _ _ _ _ _).mono ?_
                rintro e w1 ⟨rfl, hb⟩
                have HB := (B0.out _ _ _ _ _ _ _).trans (hb.mono (B0.out _ _ _ _ _ _ _).size)
                have f4 : w1.cell? ⟨w.heap.size, 4, none⟩ = some (.int .i64 0) := row_here ((hb.block _ (by simp)).trans (heap_alloc_new w _)) 4 _ rfl
                have f5 : w1.cell? ⟨w.heap.size, 5, none⟩ = some (.slice a 0 c) := row_here ((hb.block _ (by simp)).trans (heap_alloc_new w _)) 5 _ rfl
                have f6 : w1.cell? ⟨w.heap.size, 6, none⟩ = some (.slice b 0 d) := row_here ((hb.block _ (by simp)).trans (heap_alloc_new w _)) 6 _ rfl
                clear hb
                have HBB : Hid (Below w.heap.size w w1) := HB
                clear HB
                go_wp2
                go_ret
                exact ⟨ret_bool (by simp), HBB.out⟩
              · have q6 : ¬ (n : Int) = 0 := by omega
                have r6 : ((n : Int) == 0) = false := by simp [h6]
                go_enter Tryz.func65, Tryz.ntmps65
                go_wp2_with fail
                refine (E0.out _ _ _ _ _ _ _).mono ?_
                rintro e w1 ⟨rfl, hb⟩
                have HB := (B0.out _ _ _ _ _ _ _).trans (hb.mono (B0.out _ _ _ _ _ _ _).size)
                have f4 : w1.cell? ⟨w.heap.size, 4, none⟩ = some (.int .i64 0) := row_here ((hb.block _ (by simp)).trans (heap_alloc_new w _)) 4 _ rfl
                have f5 : w1.cell? ⟨w.heap.size, 5, none⟩ = some (.slice a 0 c) := row_here ((hb.block _ (by simp)).trans (heap_alloc_new w _)) 5 _ rfl
                have f6 : w1.cell? ⟨w.heap.size, 6, none⟩ = some (.slice b n d) := row_here ((hb.block _ (by simp)).trans (heap_alloc_new w _)) 6 _ rfl
                clear hb
                have HBB : Hid (Below w.heap.size w w1) := HB
                clear HB
                go_wp2
                go_ret
                exact ⟨ret_bool (by simp [h6]), HBB.out⟩
            · have q5 : ¬ (m : Int) = 0 := by omega
              have r5 : ((m : Int) == 0) = false := by simp [h5]
              go_enter Tryz.func65, Tryz.ntmps65
              go_wp2_with fail
              refine (E0.out _ _ _ _ _ _ _).mono ?_
              rintro e w1 ⟨rfl, hb⟩
              have HB := (B0.out _ _ _ _ _ _ _).trans (hb.mono (B0.out _ _ _ _ _ _ _).size)
              have f4 : w1.cell? ⟨w.heap.size, 4, none⟩ = some (.int .i64 0) := row_here ((hb.block _ (by simp)).trans (heap_alloc_new w _)) 4 _ rfl
              have f5 : w1.cell? ⟨w.heap.size, 5, none⟩ = some (.slice a m c) := row_here ((hb.block _ (by simp)).trans (heap_alloc_new w _)) 5 _ rfl
              have f6 : w1.cell? ⟨w.heap.size, 6, none⟩ = some (.slice b n d) := row_here ((hb.block _ (by simp)).trans (heap_alloc_new w _)) 6 _ rfl
              clear hb
              have HBB : Hid (Below w.heap.size w w1) := HB
              clear HB
              go_wp2
              go_ret
              exact ⟨ret_bool (by simp [h5]), HBB.out⟩
          · have q4 : ¬ (k : Int) = 0 := by omega
            have r4 : ((k : Int) == 0) = false := by simp [h4]
            go_enter Tryz.func65, Tryz.ntmps65
            go_wp2_with fail
            refine (E0.out _ _ _ _ _ _ _).mono ?_
            rintro e w1 ⟨rfl, hb⟩
            have HB := (B0.out _ _ _ _ _ _ _).trans (hb.mono (B0.out _ _ _ _ _ _ _).size)
            have f4 : w1.cell? ⟨w.heap.size, 4, none⟩ = some (.int .i64 k) := row_here ((hb.block _ (by simp)).trans (heap_alloc_new w _)) 4 _ rfl
            have f5 : w1.cell? ⟨w.heap.size, 5, none⟩ = some (.slice a m c) := row_here ((hb.block _ (by simp)).trans (heap_alloc_new w _)) 5 _ rfl
            have f6 : w1.cell? ⟨w.heap.size, 6, none⟩ = some (.slice b n d) := row_here ((hb.block _ (by simp)).trans (heap_alloc_new w _)) 6 _ rfl
            clear hb
            have HBB : Hid (Below w.heap.size w w1) := HB
            clear HB
            go_wp2
            go_ret
            exact ⟨ret_bool (by simp [h4]), HBB.out⟩
        · have q3 : ¬ (time : Int) = 0 := by omega
          have r3 : ((time : Int) == 0) = false := by simp [h3]
          go_enter Tryz.func65, Tryz.ntmps65
          go_wp2_with fail
          refine (E0.out _ _ _ _ _ _ _).mono ?_
          rintro e w1 ⟨rfl, hb⟩
          have HB := (B0.out _ _ _ _ _ _ _).trans (hb.mono (B0.out _ _ _ _ _ _ _).size)
          have f4 : w1.cell? ⟨w.heap.size, 4, none⟩ = some (.int .i64 k) := row_here ((hb.block _ (by simp)).trans (heap_alloc_new w _)) 4 _ rfl
          have f5 : w1.cell? ⟨w.heap.size, 5, none⟩ = some (.slice a m c) := row_here ((hb.block _ (by simp)).trans (heap_alloc_new w _)) 5 _ rfl
          have f6 : w1.cell? ⟨w.heap.size, 6, none⟩ = some (.slice b n d) := row_here ((hb.block _ (by simp)).trans (heap_alloc_new w _)) 6 _ rfl
          clear hb
          have HBB : Hid (Below w.heap.size w w1) := HB
          clear HB
          go_wp2
          go_ret
          exact ⟨ret_bool (by simp [h3]), HBB.out⟩
      · have q2 : root.toList.isEmpty = false := ne_list h2
        go_enter Tryz.func65, Tryz.ntmps65
        go_wp2_with fail
        refine (E0.out _ _ _ _ _ _ _).mono ?_
        rintro e w1 ⟨rfl, hb⟩
        have HB := (B0.out _ _ _ _ _ _ _).trans (hb.mono (B0.out _ _ _ _ _ _ _).size)
        have f4 : w1.cell? ⟨w.heap.size, 4, none⟩ = some (.int .i64 k) := row_here ((hb.block _ (by simp)).trans (heap_alloc_new w _)) 4 _ rfl
        have f5 : w1.cell? ⟨w.heap.size, 5, none⟩ = some (.slice a m c) := row_here ((hb.block _ (by simp)).trans (heap_alloc_new w _)) 5 _ rfl
        have f6 : w1.cell? ⟨w.heap.size, 6, none⟩ = some (.slice b n d) := row_here ((hb.block _ (by simp)).trans (heap_alloc_new w _)) 6 _ rfl
        clear hb
        have HBB : Hid (Below w.heap.size w w1) := HB
        clear HB
        go_wp2
        go_ret
        exact ⟨ret_bool (by simp [h2]), HBB.out⟩
    · have q1 : ¬ (size : Int) = 0 := by omega
      have r1 : ((size : Int) == 0) = false := by simp [h1]
      go_enter Tryz.func65, Tryz.ntmps65
      go_wp2_with fail
      refine (E0.out _ _ _ _ _ _ _).mono ?_
      rintro e w1 ⟨rfl, hb⟩
      have HB := (B0.out _ _ _ _ _ _ _).trans (hb.mono (B0.out _ _ _ _ _ _ _).size)
      have f4 : w1.cell? ⟨w.heap.size, 4, none⟩ = some (.int .i64 k) := row_here ((hb.block _ (by simp)).trans (heap_alloc_new w _)) 4 _ rfl
      have f5 : w1.cell? ⟨w.heap.size, 5, none⟩ = some (.slice a m c) := row_here ((hb.block _ (by simp)).trans (heap_alloc_new w _)) 5 _ rfl
      have f6 : w1.cell? ⟨w.heap.size, 6, none⟩ = some (.slice b n d) := row_here ((hb.block _ (by simp)).trans (heap_alloc_new w _)) 6 _ rfl
      clear hb
      have HBB : Hid (Below w.heap.size w w1) := HB
      clear HB
      go_wp2
      go_ret
      exact ⟨ret_bool (by simp [h1]), HBB.out⟩
  · have q0 : log.toList.isEmpty = false := ne_list h0
    go_enter Tryz.func65, Tryz.ntmps65
    go_wp2_with fail
    refine (E0.out _ _ _ _ _ _ _).mono ?_
    rintro e w1 ⟨rfl, hb⟩
    have HB := (B0.out _ _ _ _ _ _ _).trans (hb.mono (B0.out _ _ _ _ _ _ _).size)
    have f4 : w1.cell? ⟨w.heap.size, 4, none⟩ = some (.int .i64 k) := row_here ((hb.block _ (by simp)).trans (heap_alloc_new w _)) 4 _ rfl
    have f5 : w1.cell? ⟨w.heap.size, 5, none⟩ = some (.slice a m c) := row_here ((hb.block _ (by simp)).trans (heap_alloc_new w _)) 5 _ rfl
    have f6 : w1.cell? ⟨w.heap.size, 6, none⟩ = some (.slice b n d) := row_here ((hb.block _ (by simp)).trans (heap_alloc_new w _)) 6 _ rfl
    clear hb
    have HBB : Hid (Below w.heap.size w w1) := HB
    clear HB
    go_wp2
    go_ret
    exact ⟨ret_bool (by simp [h0]), HBB.out⟩

end Go.Proofs.YtcenlgfopmahcaaGreatDoor

/-
  Is a fraud the zero one? The program's test.
-/
namespace Go.Proofs.YtcenlgfopmahcaaGreatDoor
open Go.RowKit Go.Lib
set_option linter.unusedVariables false
set_option linter.unusedSimpArgs false

def zeroX (x : Hd) (m n : Nat) : Bool := zeroHB x.log x.size x.root x.time x.k m n
set_option maxHeartbeats 4000000 in
set_option maxRecDepth 10000 in
theorem implFraudZero_any (x y : Hd) (a b a' b' e : Option Addr) (m c n d m' c' n' d' k f : Nat) (w : World) :
    Calls Tryz.prog 63 #[.agg #[.string x.log, .int .i64 x.size, .string x.root, .int .i64 x.time, .int .i64 x.k, .slice a m c, .slice b n d, .string y.log, .int .i64 y.size, .string y.root, .int .i64 y.time, .int .i64 y.k, .slice a' m' c', .slice b' n' d', .slice e k f]] w fun e w' => e = .returned (.bool (zeroX x m n && zeroX y m' n' && decide (k = 0))) ∧ Below w.heap.size w w' := by
  obtain ⟨W, hW⟩ : ∃ W, W = w.alloc (.cells #[.string x.log, .int .i64 x.size, .string x.root, .int .i64 x.time, .int .i64 x.k, .slice a m c, .slice b n d, .string y.log, .int .i64 y.size, .string y.root, .int .i64 y.time, .int .i64 y.k, .slice a' m' c', .slice b' n' d', .slice e k f] 39) := ⟨_, rfl⟩
  have hbW : Below w.heap.size w W := by rw [hW]; exact (Below.refl _ _).alloc (Nat.le_refl _) _
  have hgW : W.heap[w.heap.size]? = some (.cells #[.string x.log, .int .i64 x.size, .string x.root, .int .i64 x.time, .int .i64 x.k, .slice a m c, .slice b n d, .string y.log, .int .i64 y.size, .string y.root, .int .i64 y.time, .int .i64 y.k, .slice a' m' c', .slice b' n' d', .slice e k f] 39 (0, 0)) := by rw [hW]; exact heap_alloc_new w _
  have E0 : Hid (∀ X, Calls Tryz.prog 65 #[.agg #[.string x.log, .int .i64 x.size, .string x.root, .int .i64 x.time, .int .i64 x.k, .slice a m c, .slice b n d]] X fun e w' => e = .returned (.bool (zeroX x m n)) ∧ Below X.heap.size X w') := fun X => implZero_any _ _ _ _ _ _ _ _ _ _ _ X
  have E1 : Hid (∀ X, Calls Tryz.prog 65 #[.agg #[.string y.log, .int .i64 y.size, .string y.root, .int .i64 y.time, .int .i64 y.k, .slice a' m' c', .slice b' n' d']] X fun e w' => e = .returned (.bool (zeroX y m' n')) ∧ Below X.heap.size X w') := fun X => implZero_any _ _ _ _ _ _ _ _ _ _ _ X
  have H0 : Hid (Below w.heap.size w W ∧ W.heap[w.heap.size]? = some (.cells #[.string x.log, .int .i64 x.size, .string x.root, .int .i64 x.time, .int .i64 x.k, .slice a m c, .slice b n d, .string y.log, .int .i64 y.size, .string y.root, .int .i64 y.time, .int .i64 y.k, .slice a' m' c', .slice b' n' d', .slice e k f] 39 (0, 0))) := ⟨hbW, hgW⟩
  have HW : Hid (W = w.alloc (.cells #[.string x.log, .int .i64 x.size, .string x.root, .int .i64 x.time, .int .i64 x.k, .slice a m c, .slice b n d, .string y.log, .int .i64 y.size, .string y.root, .int .i64 y.time, .int .i64 y.k, .slice a' m' c', .slice b' n' d', .slice e k f] 39)) := hW
  generalize zeroX x m n = z1 at *
  generalize zeroX y m' n' = z2 at *
  clear hW hbW hgW
  go_enter Tryz.func63, Tryz.ntmps63
  go_wp2_with fail
  rw [← HW.out]
  clear HW
  refine (E0.out _).mono ?_
  rintro e' w1 ⟨rfl, hb⟩
  have r1 := (hb.block _ (Array.getElem?_eq_some_iff.1 H0.out.2).1).trans H0.out.2
  have f7 : w1.cell? ⟨w.heap.size, 7, none⟩ = some (.string y.log) := row_here r1 7 _ rfl
  have f8 : w1.cell? ⟨w.heap.size, 8, none⟩ = some (.int .i64 y.size) := row_here r1 8 _ rfl
  have f9 : w1.cell? ⟨w.heap.size, 9, none⟩ = some (.string y.root) := row_here r1 9 _ rfl
  have f10 : w1.cell? ⟨w.heap.size, 10, none⟩ = some (.int .i64 y.time) := row_here r1 10 _ rfl
  have f11 : w1.cell? ⟨w.heap.size, 11, none⟩ = some (.int .i64 y.k) := row_here r1 11 _ rfl
  have f12 : w1.cell? ⟨w.heap.size, 12, none⟩ = some (.slice a' m' c') := row_here r1 12 _ rfl
  have f13 : w1.cell? ⟨w.heap.size, 13, none⟩ = some (.slice b' n' d') := row_here r1 13 _ rfl
  have f14 : w1.cell? ⟨w.heap.size, 14, none⟩ = some (.slice e k f) := row_here r1 14 _ rfl
  have B1 : Hid (Below w.heap.size w w1 ∧ w1.heap[w.heap.size]? = some (.cells #[.string x.log, .int .i64 x.size, .string x.root, .int .i64 x.time, .int .i64 x.k, .slice a m c, .slice b n d, .string y.log, .int .i64 y.size, .string y.root, .int .i64 y.time, .int .i64 y.k, .slice a' m' c', .slice b' n' d', .slice e k f] 39 (0, 0))) := ⟨H0.out.1.trans (hb.mono H0.out.1.size), r1⟩
  clear hb r1 E0 H0
  cases z1 with
  | false =>
    clear E1
    go_wp2
    go_ret
    exact ⟨rfl, B1.out.1⟩
  | true =>
    go_wp2_with fail
    refine (E1.out _).mono ?_
    rintro e' w2 ⟨rfl, hb⟩
    have r2 := (hb.block _ (Array.getElem?_eq_some_iff.1 B1.out.2).1).trans B1.out.2
    have g14 : w2.cell? ⟨w.heap.size, 14, none⟩ = some (.slice e k f) := row_here r2 14 _ rfl
    have B2 : Hid (Below w.heap.size w w2) := B1.out.1.trans (hb.mono B1.out.1.size)
    clear hb r2 E1 B1 f7 f8 f9 f10 f11 f12 f13 f14
    cases z2 with
    | false =>
      go_wp2
      go_ret
      exact ⟨rfl, B2.out⟩
    | true =>
      by_cases hk : k = 0
      · subst hk
        go_wp2
        go_ret
        exact ⟨rfl, B2.out⟩
      · have hk2 : ((k : Int) == 0) = false := by simp [hk]
        have hk3 : ¬ (k : Int) = 0 := by omega
        go_wp2
        go_ret
        exact ⟨ret_bool (by simp [hk]), B2.out⟩
end Go.Proofs.YtcenlgfopmahcaaGreatDoor

/-
  A fraud that came in: its copy.
-/
namespace Go.Proofs.YtcenlgfopmahcaaGreatDoor
open Go.RowKit Go.Lib
set_option linter.unusedVariables false
set_option linter.unusedSimpArgs false

set_option maxHeartbeats 4000000 in
set_option maxRecDepth 10000 in
theorem toFraud_own5 (x y : Hd) (xe xp ye yp ve : Value) (l : List ByteArray) (w : World) (hx : x.In xe xp w w.heap.size) (hy : y.In ye yp w w.heap.size) (h3 : Texts w w.heap.size ve l) (hlx : x.Lim) (hly : y.Lim) (hll : l.length ≤ 1048576) :
    Calls Tryz.prog 23 #[.agg #[.string x.log, .int .i64 x.size, .string x.root, .int .i64 x.time, .int .i64 x.k, xe, xp, .string y.log, .int .i64 y.size, .string y.root, .int .i64 y.time, .int .i64 y.k, ye, yp, ve]] w fun e w' => ∃ a5 c5 b5 d5 a6 c6 b6 d6 a7 c7 n0 n1 n2 n3 n4, e = .returned (.agg #[.string x.log, .int .i64 x.size, .string x.root, .int .i64 x.time, .int .i64 x.k, .slice a5 x.el.length c5, .slice b5 x.pl.length d5, .string y.log, .int .i64 y.size, .string y.root, .int .i64 y.time, .int .i64 y.k, .slice a6 y.el.length c6, .slice b6 y.pl.length d6, .slice a7 l.length c7]) ∧ Owns5 w' n0 n1 n2 n3 n4 (.slice a5 x.el.length c5) (.slice b5 x.pl.length d5) (.slice a6 y.el.length c6) (.slice b6 y.pl.length d6) (.slice a7 l.length c7) x.el x.pl y.el y.pl l ∧ w.heap.size ≤ n0 ∧ Below w.heap.size w w' := by
  obtain ⟨a1, c1, b1, d1, rfl, rfl⟩ := hx.parts
  obtain ⟨a2, c2, b2, d2, rfl, rfl⟩ := hy.parts
  obtain ⟨ae, ce, rfl, _⟩ := id h3
  obtain ⟨W, hW⟩ : ∃ W, W = ((w.alloc (.cells #[.string x.log, .int .i64 x.size, .string x.root, .int .i64 x.time, .int .i64 x.k, .slice a1 x.el.length c1, .slice b1 x.pl.length d1, .string y.log, .int .i64 y.size, .string y.root, .int .i64 y.time, .int .i64 y.k, .slice a2 y.el.length c2, .slice b2 y.pl.length d2, .slice ae l.length ce] 29)).alloc (.cells #[.string ⟨#[]⟩, .int .i64 0, .string ⟨#[]⟩, .int .i64 0, .int .i64 0, .slice none 0 0, .slice none 0 0, .string ⟨#[]⟩, .int .i64 0, .string ⟨#[]⟩, .int .i64 0, .int .i64 0, .slice none 0 0, .slice none 0 0, .slice none 0 0] 39)).alloc (.cells #[.string ⟨#[]⟩, .int .i64 0, .string ⟨#[]⟩, .int .i64 0, .int .i64 0, .slice none 0 0, .slice none 0 0, .string ⟨#[]⟩, .int .i64 0, .string ⟨#[]⟩, .int .i64 0, .int .i64 0, .slice none 0 0, .slice none 0 0, .slice none 0 0] 39) := ⟨_, rfl⟩
  have hbW : Below w.heap.size w W := by rw [hW]; exact (((Below.refl _ _).alloc (Nat.le_refl _) _).alloc (by simp) _).alloc (by simp; omega) _
  have hzW : W.heap.size = w.heap.size + 3 := by rw [hW]; simp
  have hgW : W.heap[w.heap.size]? = some (.cells #[.string x.log, .int .i64 x.size, .string x.root, .int .i64 x.time, .int .i64 x.k, .slice a1 x.el.length c1, .slice b1 x.pl.length d1, .string y.log, .int .i64 y.size, .string y.root, .int .i64 y.time, .int .i64 y.k, .slice a2 y.el.length c2, .slice b2 y.pl.length d2, .slice ae l.length ce] 29 (0, 0)) := by rw [hW]; exact (heap_alloc_old _ _ (by simp; omega)).trans (heap_alloc2_old w _ _)
  have hpW : W.heap[w.heap.size + 1]? = some (.cells #[.string ⟨#[]⟩, .int .i64 0, .string ⟨#[]⟩, .int .i64 0, .int .i64 0, .slice none 0 0, .slice none 0 0, .string ⟨#[]⟩, .int .i64 0, .string ⟨#[]⟩, .int .i64 0, .int .i64 0, .slice none 0 0, .slice none 0 0, .slice none 0 0] 39 (0, 0)) := by rw [hW]; exact (heap_alloc_old _ _ (by simp)).trans (heap_alloc2_new w _ _)
  have hoW : W.heap[w.heap.size + 1 + 1]? = some (.cells #[.string ⟨#[]⟩, .int .i64 0, .string ⟨#[]⟩, .int .i64 0, .int .i64 0, .slice none 0 0, .slice none 0 0, .string ⟨#[]⟩, .int .i64 0, .string ⟨#[]⟩, .int .i64 0, .int .i64 0, .slice none 0 0, .slice none 0 0, .slice none 0 0] 39 (0, 0)) := by
    rw [hW]
    have := heap_alloc_new ((w.alloc (.cells #[.string x.log, .int .i64 x.size, .string x.root, .int .i64 x.time, .int .i64 x.k, .slice a1 x.el.length c1, .slice b1 x.pl.length d1, .string y.log, .int .i64 y.size, .string y.root, .int .i64 y.time, .int .i64 y.k, .slice a2 y.el.length c2, .slice b2 y.pl.length d2, .slice ae l.length ce] 29)).alloc (.cells #[.string ⟨#[]⟩, .int .i64 0, .string ⟨#[]⟩, .int .i64 0, .int .i64 0, .slice none 0 0, .slice none 0 0, .string ⟨#[]⟩, .int .i64 0, .string ⟨#[]⟩, .int .i64 0, .int .i64 0, .slice none 0 0, .slice none 0 0, .slice none 0 0] 39)) (.cells #[.string ⟨#[]⟩, .int .i64 0, .string ⟨#[]⟩, .int .i64 0, .int .i64 0, .slice none 0 0, .slice none 0 0, .string ⟨#[]⟩, .int .i64 0, .string ⟨#[]⟩, .int .i64 0, .int .i64 0, .slice none 0 0, .slice none 0 0, .slice none 0 0] 39)
    simpa using this
  have HW : Hid (W = ((w.alloc (.cells #[.string x.log, .int .i64 x.size, .string x.root, .int .i64 x.time, .int .i64 x.k, .slice a1 x.el.length c1, .slice b1 x.pl.length d1, .string y.log, .int .i64 y.size, .string y.root, .int .i64 y.time, .int .i64 y.k, .slice a2 y.el.length c2, .slice b2 y.pl.length d2, .slice ae l.length ce] 29)).alloc (.cells #[.string ⟨#[]⟩, .int .i64 0, .string ⟨#[]⟩, .int .i64 0, .int .i64 0, .slice none 0 0, .slice none 0 0, .string ⟨#[]⟩, .int .i64 0, .string ⟨#[]⟩, .int .i64 0, .int .i64 0, .slice none 0 0, .slice none 0 0, .slice none 0 0] 39)).alloc (.cells #[.string ⟨#[]⟩, .int .i64 0, .string ⟨#[]⟩, .int .i64 0, .int .i64 0, .slice none 0 0, .slice none 0 0, .string ⟨#[]⟩, .int .i64 0, .string ⟨#[]⟩, .int .i64 0, .int .i64 0, .slice none 0 0, .slice none 0 0, .slice none 0 0] 39)) := hW
  have E1 : Hid (∀ w', Below w.heap.size w w' → Calls Tryz.prog 21 #[.agg #[.string x.log, .int .i64 x.size, .string x.root, .int .i64 x.time, .int .i64 x.k, .slice a1 x.el.length c1, .slice b1 x.pl.length d1]] w' fun e w'' => HeadOwn w' x.log x.size x.root x.time x.k x.el x.pl e w'') := fun w' hb => toHd_any x _ _ w' (hx.on hb) hlx
  have E2 : Hid (∀ w', Below w.heap.size w w' → Calls Tryz.prog 21 #[.agg #[.string y.log, .int .i64 y.size, .string y.root, .int .i64 y.time, .int .i64 y.k, .slice a2 y.el.length c2, .slice b2 y.pl.length d2]] w' fun e w'' => HeadOwn w' y.log y.size y.root y.time y.k y.el y.pl e w'') := fun w' hb => toHd_any y _ _ w' (hy.on hb) hly
  have E3 : Hid (∀ w', Below w.heap.size w w' → Calls Tryz.prog 20 #[.slice ae l.length ce] w' fun e w'' => ∃ v', e = .returned v' ∧ OwnS w'' w'.heap.size v' l ∧ Below w'.heap.size w' w'') := fun w' hb => toTexts_any _ l w' (h3.on hb) hll
  have H0 : Hid (Below w.heap.size w W ∧ W.heap.size = w.heap.size + 3 ∧ W.heap[w.heap.size]? = some (.cells #[.string x.log, .int .i64 x.size, .string x.root, .int .i64 x.time, .int .i64 x.k, .slice a1 x.el.length c1, .slice b1 x.pl.length d1, .string y.log, .int .i64 y.size, .string y.root, .int .i64 y.time, .int .i64 y.k, .slice a2 y.el.length c2, .slice b2 y.pl.length d2, .slice ae l.length ce] 29 (0, 0)) ∧ W.heap[w.heap.size + 1 + 1]? = some (.cells #[.string ⟨#[]⟩, .int .i64 0, .string ⟨#[]⟩, .int .i64 0, .int .i64 0, .slice none 0 0, .slice none 0 0, .string ⟨#[]⟩, .int .i64 0, .string ⟨#[]⟩, .int .i64 0, .int .i64 0, .slice none 0 0, .slice none 0 0, .slice none 0 0] 39 (0, 0)) ∧ W.heap[w.heap.size + 1]? = some (.cells #[.string ⟨#[]⟩, .int .i64 0, .string ⟨#[]⟩, .int .i64 0, .int .i64 0, .slice none 0 0, .slice none 0 0, .string ⟨#[]⟩, .int .i64 0, .string ⟨#[]⟩, .int .i64 0, .int .i64 0, .slice none 0 0, .slice none 0 0, .slice none 0 0] 39 (0, 0))) := ⟨hbW, hzW, hgW, hoW, hpW⟩
  clear hx hy h3 hbW hzW hgW hoW hpW hW
  go_enter Tryz.func23, Tryz.ntmps23
  go_wp2_with fail
  rw [← HW.out]
  refine (E1.out _ H0.out.1).mono ?_
  rintro e w1 ⟨ue, up, n1, rfl, ho1, ho2, hq1, hn0, hm1, hb1⟩
  obtain ⟨a5, c5, rfl⟩ := ho1.len
  obtain ⟨b5, d5, rfl⟩ := ho2.len
  obtain ⟨w2, hw2⟩ : ∃ w2, w2 = (((((((w1.setCell ⟨w.heap.size + 1 + 1, 0, none⟩ (.string x.log)).setCell ⟨w.heap.size + 1 + 1, 1, none⟩ (.int .i64 x.size)).setCell ⟨w.heap.size + 1 + 1, 2, none⟩ (.string x.root)).setCell ⟨w.heap.size + 1 + 1, 3, none⟩ (.int .i64 x.time)).setCell ⟨w.heap.size + 1 + 1, 4, none⟩ (.int .i64 x.k)).setCell ⟨w.heap.size + 1 + 1, 5, none⟩ (.slice a5 x.el.length c5)).setCell ⟨w.heap.size + 1 + 1, 6, none⟩ (.slice b5 x.pl.length d5)) := ⟨_, rfl⟩
  have hz := H0.out.2.1
  have k0 := (hb1.block _ (show w.heap.size < W.heap.size by omega)).trans H0.out.2.2.1
  have k1 := (hb1.block _ (show w.heap.size + 1 + 1 < W.heap.size by omega)).trans H0.out.2.2.2.1
  have kp := (hb1.block _ (show w.heap.size + 1 < W.heap.size by omega)).trans H0.out.2.2.2.2
  have f1 := row_free k1
  have H2 : Hid (Below w.heap.size w w2 ∧ w.heap.size + 3 ≤ w2.heap.size ∧ w2.heap[w.heap.size]? = some (.cells #[.string x.log, .int .i64 x.size, .string x.root, .int .i64 x.time, .int .i64 x.k, .slice a1 x.el.length c1, .slice b1 x.pl.length d1, .string y.log, .int .i64 y.size, .string y.root, .int .i64 y.time, .int .i64 y.k, .slice a2 y.el.length c2, .slice b2 y.pl.length d2, .slice ae l.length ce] 29 (0, 0)) ∧ w2.heap[w.heap.size + 1 + 1]? = some (.cells #[.string x.log, .int .i64 x.size, .string x.root, .int .i64 x.time, .int .i64 x.k, .slice a5 x.el.length c5, .slice b5 x.pl.length d5, .string ⟨#[]⟩, .int .i64 0, .string ⟨#[]⟩, .int .i64 0, .int .i64 0, .slice none 0 0, .slice none 0 0, .slice none 0 0] 39 (0, 0)) ∧ w2.heap[w.heap.size + 1]? = some (.cells #[.string ⟨#[]⟩, .int .i64 0, .string ⟨#[]⟩, .int .i64 0, .int .i64 0, .slice none 0 0, .slice none 0 0, .string ⟨#[]⟩, .int .i64 0, .string ⟨#[]⟩, .int .i64 0, .int .i64 0, .slice none 0 0, .slice none 0 0, .slice none 0 0] 39 (0, 0)) ∧ OwnT w2 (w.heap.size + 3) (.slice a5 x.el.length c5) x.el ∧ OwnT w2 n1 (.slice b5 x.pl.length d5) x.pl) := by
    rw [hw2]
    refine ⟨?_, ?_, ?_, ?_, ?_, ?_, ?_⟩
    · iterate 7 (refine Below.setCell ?_ (by simp <;> omega) _)
      exact H0.out.1.trans (hb1.mono H0.out.1.size)
    · simp only [size_put]
      have := hb1.size
      omega
    · iterate 7 (refine heap_pass (by omega) ?_)
      exact k0
    · exact heap_put2 #[.string x.log, .int .i64 x.size, .string x.root, .int .i64 x.time, .int .i64 x.k, .slice a5 x.el.length c5, .slice b5 x.pl.length d5, .string ⟨#[]⟩, .int .i64 0, .string ⟨#[]⟩, .int .i64 0, .int .i64 0, .slice none 0 0, .slice none 0 0, .slice none 0 0] (heap_put2 #[.string x.log, .int .i64 x.size, .string x.root, .int .i64 x.time, .int .i64 x.k, .slice a5 x.el.length c5, .slice none 0 0, .string ⟨#[]⟩, .int .i64 0, .string ⟨#[]⟩, .int .i64 0, .int .i64 0, .slice none 0 0, .slice none 0 0, .slice none 0 0] (heap_put2 #[.string x.log, .int .i64 x.size, .string x.root, .int .i64 x.time, .int .i64 x.k, .slice none 0 0, .slice none 0 0, .string ⟨#[]⟩, .int .i64 0, .string ⟨#[]⟩, .int .i64 0, .int .i64 0, .slice none 0 0, .slice none 0 0, .slice none 0 0] (heap_put2 #[.string x.log, .int .i64 x.size, .string x.root, .int .i64 x.time, .int .i64 0, .slice none 0 0, .slice none 0 0, .string ⟨#[]⟩, .int .i64 0, .string ⟨#[]⟩, .int .i64 0, .int .i64 0, .slice none 0 0, .slice none 0 0, .slice none 0 0] (heap_put2 #[.string x.log, .int .i64 x.size, .string x.root, .int .i64 0, .int .i64 0, .slice none 0 0, .slice none 0 0, .string ⟨#[]⟩, .int .i64 0, .string ⟨#[]⟩, .int .i64 0, .int .i64 0, .slice none 0 0, .slice none 0 0, .slice none 0 0] (heap_put2 #[.string x.log, .int .i64 x.size, .string ⟨#[]⟩, .int .i64 0, .int .i64 0, .slice none 0 0, .slice none 0 0, .string ⟨#[]⟩, .int .i64 0, .string ⟨#[]⟩, .int .i64 0, .int .i64 0, .slice none 0 0, .slice none 0 0, .slice none 0 0] (heap_put2 #[.string x.log, .int .i64 0, .string ⟨#[]⟩, .int .i64 0, .int .i64 0, .slice none 0 0, .slice none 0 0, .string ⟨#[]⟩, .int .i64 0, .string ⟨#[]⟩, .int .i64 0, .int .i64 0, .slice none 0 0, .slice none 0 0, .slice none 0 0] (k1) rfl) rfl) rfl) rfl) rfl) rfl) rfl
    · iterate 7 (refine heap_pass (by omega) ?_)
      exact kp
    · iterate 7 (refine OwnT.far ?_ (by omega))
      exact ho1.lower (by omega)
    · iterate 7 (refine OwnT.far ?_ (by omega))
      exact ho2
  have HO1 : Hid ((∀ g, (Value.slice a5 x.el.length c5).ownBlock = some g → g < n1) ∧ w.heap.size + 3 ≤ n1 ∧ n1 ≤ w2.heap.size ∧ (∀ g, (Value.slice b5 x.pl.length d5).ownBlock = some g → g < w2.heap.size)) := ⟨hq1, by omega, by rw [hw2]; simp only [size_put]; exact hm1, fun g hg => (World.ownsRow.lt H2.out.2.2.2.2.2.2 g hg).2⟩
  have HW2 : Hid (w2 = (((((((w1.setCell ⟨w.heap.size + 1 + 1, 0, none⟩ (.string x.log)).setCell ⟨w.heap.size + 1 + 1, 1, none⟩ (.int .i64 x.size)).setCell ⟨w.heap.size + 1 + 1, 2, none⟩ (.string x.root)).setCell ⟨w.heap.size + 1 + 1, 3, none⟩ (.int .i64 x.time)).setCell ⟨w.heap.size + 1 + 1, 4, none⟩ (.int .i64 x.k)).setCell ⟨w.heap.size + 1 + 1, 5, none⟩ (.slice a5 x.el.length c5)).setCell ⟨w.heap.size + 1 + 1, 6, none⟩ (.slice b5 x.pl.length d5))) := hw2
  clear ho1 ho2 hn0 k0 kp E1 HW hw2 hq1 hm1
  have hc := row_here ((hb1.block _ (show w.heap.size < W.heap.size by omega)).trans H0.out.2.2.1)
  have q0 := hc 0 _ rfl
  have q1 := hc 1 _ rfl
  have q2 := hc 2 _ rfl
  have q3 := hc 3 _ rfl
  have q4 := hc 4 _ rfl
  have q5 := hc 5 _ rfl
  have q6 := hc 6 _ rfl
  have q7 := hc 7 _ rfl
  have q8 := hc 8 _ rfl
  have q9 := hc 9 _ rfl
  have q10 := hc 10 _ rfl
  have q11 := hc 11 _ rfl
  have q12 := hc 12 _ rfl
  have q13 := hc 13 _ rfl
  have q14 := hc 14 _ rfl
  have f20 := f1 0
  have f21 := f1 1
  have f22 := f1 2
  have f23 := f1 3
  have f24 := f1 4
  have f25 := f1 5
  have f26 := f1 6
  have u0 := row_here k1 0 _ rfl
  have u1 := row_here k1 1 _ rfl
  have u2 := row_here k1 2 _ rfl
  have u3 := row_here k1 3 _ rfl
  have u4 := row_here k1 4 _ rfl
  have u5 := row_here k1 5 _ rfl
  have u6 := row_here k1 6 _ rfl
  clear hc f1 k1 hb1 hz
  go_wp2_with fail
  rw [← HW2.out]
  clear HW2 q0 q1 q2 q3 q4 q5 q6 q7 q8 q9 q10 q11 q12 q13 q14 f20 f21 f22 f23 f24 f25 f26 u0 u1 u2 u3 u4 u5 u6 H0
  refine (E2.out _ H2.out.1).mono ?_
  rintro e w3 ⟨xe, xp, n3, rfl, ho1, ho2, hq3, hn0, hm3, hb3⟩
  have hy1 := HO1.out.2.1
  obtain ⟨a6, c6, rfl⟩ := ho1.len
  obtain ⟨b6, d6, rfl⟩ := ho2.len
  obtain ⟨w4, hw4⟩ : ∃ w4, w4 = (((((((w3.setCell ⟨w.heap.size + 1 + 1, 7, none⟩ (.string y.log)).setCell ⟨w.heap.size + 1 + 1, 8, none⟩ (.int .i64 y.size)).setCell ⟨w.heap.size + 1 + 1, 9, none⟩ (.string y.root)).setCell ⟨w.heap.size + 1 + 1, 10, none⟩ (.int .i64 y.time)).setCell ⟨w.heap.size + 1 + 1, 11, none⟩ (.int .i64 y.k)).setCell ⟨w.heap.size + 1 + 1, 12, none⟩ (.slice a6 y.el.length c6)).setCell ⟨w.heap.size + 1 + 1, 13, none⟩ (.slice b6 y.pl.length d6)) := ⟨_, rfl⟩
  have hz := H2.out.2.1
  have k0 := (hb3.block _ (show w.heap.size < w2.heap.size by omega)).trans H2.out.2.2.1
  have k1 := (hb3.block _ (show w.heap.size + 1 + 1 < w2.heap.size by omega)).trans H2.out.2.2.2.1
  have kp := (hb3.block _ (show w.heap.size + 1 < w2.heap.size by omega)).trans H2.out.2.2.2.2.1
  have f1 := row_free k1
  have H4 : Hid (Below w.heap.size w w4 ∧ w.heap.size + 3 ≤ w4.heap.size ∧ w4.heap[w.heap.size]? = some (.cells #[.string x.log, .int .i64 x.size, .string x.root, .int .i64 x.time, .int .i64 x.k, .slice a1 x.el.length c1, .slice b1 x.pl.length d1, .string y.log, .int .i64 y.size, .string y.root, .int .i64 y.time, .int .i64 y.k, .slice a2 y.el.length c2, .slice b2 y.pl.length d2, .slice ae l.length ce] 29 (0, 0)) ∧ w4.heap[w.heap.size + 1 + 1]? = some (.cells #[.string x.log, .int .i64 x.size, .string x.root, .int .i64 x.time, .int .i64 x.k, .slice a5 x.el.length c5, .slice b5 x.pl.length d5, .string y.log, .int .i64 y.size, .string y.root, .int .i64 y.time, .int .i64 y.k, .slice a6 y.el.length c6, .slice b6 y.pl.length d6, .slice none 0 0] 39 (0, 0)) ∧ w4.heap[w.heap.size + 1]? = some (.cells #[.string ⟨#[]⟩, .int .i64 0, .string ⟨#[]⟩, .int .i64 0, .int .i64 0, .slice none 0 0, .slice none 0 0, .string ⟨#[]⟩, .int .i64 0, .string ⟨#[]⟩, .int .i64 0, .int .i64 0, .slice none 0 0, .slice none 0 0, .slice none 0 0] 39 (0, 0)) ∧ (OwnT w4 (w.heap.size + 3) (.slice a5 x.el.length c5) x.el ∧ OwnT w4 n1 (.slice b5 x.pl.length d5) x.pl) ∧ OwnT w4 w2.heap.size (.slice a6 y.el.length c6) y.el ∧ OwnT w4 n3 (.slice b6 y.pl.length d6) y.pl) := by
    rw [hw4]
    refine ⟨?_, ?_, ?_, ?_, ?_, ⟨?_, ?_⟩, ?_, ?_⟩
    · iterate 7 (refine Below.setCell ?_ (by simp <;> omega) _)
      exact H2.out.1.trans (hb3.mono H2.out.1.size)
    · simp only [size_put]
      have := hb3.size
      omega
    · iterate 7 (refine heap_pass (by omega) ?_)
      exact k0
    · exact heap_put2 #[.string x.log, .int .i64 x.size, .string x.root, .int .i64 x.time, .int .i64 x.k, .slice a5 x.el.length c5, .slice b5 x.pl.length d5, .string y.log, .int .i64 y.size, .string y.root, .int .i64 y.time, .int .i64 y.k, .slice a6 y.el.length c6, .slice b6 y.pl.length d6, .slice none 0 0] (heap_put2 #[.string x.log, .int .i64 x.size, .string x.root, .int .i64 x.time, .int .i64 x.k, .slice a5 x.el.length c5, .slice b5 x.pl.length d5, .string y.log, .int .i64 y.size, .string y.root, .int .i64 y.time, .int .i64 y.k, .slice a6 y.el.length c6, .slice none 0 0, .slice none 0 0] (heap_put2 #[.string x.log, .int .i64 x.size, .string x.root, .int .i64 x.time, .int .i64 x.k, .slice a5 x.el.length c5, .slice b5 x.pl.length d5, .string y.log, .int .i64 y.size, .string y.root, .int .i64 y.time, .int .i64 y.k, .slice none 0 0, .slice none 0 0, .slice none 0 0] (heap_put2 #[.string x.log, .int .i64 x.size, .string x.root, .int .i64 x.time, .int .i64 x.k, .slice a5 x.el.length c5, .slice b5 x.pl.length d5, .string y.log, .int .i64 y.size, .string y.root, .int .i64 y.time, .int .i64 0, .slice none 0 0, .slice none 0 0, .slice none 0 0] (heap_put2 #[.string x.log, .int .i64 x.size, .string x.root, .int .i64 x.time, .int .i64 x.k, .slice a5 x.el.length c5, .slice b5 x.pl.length d5, .string y.log, .int .i64 y.size, .string y.root, .int .i64 0, .int .i64 0, .slice none 0 0, .slice none 0 0, .slice none 0 0] (heap_put2 #[.string x.log, .int .i64 x.size, .string x.root, .int .i64 x.time, .int .i64 x.k, .slice a5 x.el.length c5, .slice b5 x.pl.length d5, .string y.log, .int .i64 y.size, .string ⟨#[]⟩, .int .i64 0, .int .i64 0, .slice none 0 0, .slice none 0 0, .slice none 0 0] (heap_put2 #[.string x.log, .int .i64 x.size, .string x.root, .int .i64 x.time, .int .i64 x.k, .slice a5 x.el.length c5, .slice b5 x.pl.length d5, .string y.log, .int .i64 0, .string ⟨#[]⟩, .int .i64 0, .int .i64 0, .slice none 0 0, .slice none 0 0, .slice none 0 0] (k1) rfl) rfl) rfl) rfl) rfl) rfl) rfl
    · iterate 7 (refine heap_pass (by omega) ?_)
      exact kp
    · iterate 7 (refine OwnT.far ?_ (by omega))
      exact H2.out.2.2.2.2.2.1.below hb3 (Nat.le_refl _)
    · iterate 7 (refine OwnT.far ?_ (by omega))
      exact H2.out.2.2.2.2.2.2.below hb3 (Nat.le_refl _)
    · iterate 7 (refine OwnT.far ?_ (by omega))
      exact ho1
    · iterate 7 (refine OwnT.far ?_ (by omega))
      exact ho2
  have HO3 : Hid ((∀ g, (Value.slice a6 y.el.length c6).ownBlock = some g → g < n3) ∧ w2.heap.size ≤ n3 ∧ n3 ≤ w4.heap.size ∧ (∀ g, (Value.slice b6 y.pl.length d6).ownBlock = some g → g < w4.heap.size) ∧ w.heap.size + 3 ≤ w2.heap.size) := ⟨hq3, hn0, by rw [hw4]; simp only [size_put]; exact hm3, fun g hg => (World.ownsRow.lt H4.out.2.2.2.2.2.2.2 g hg).2, hz⟩
  have HW4 : Hid (w4 = (((((((w3.setCell ⟨w.heap.size + 1 + 1, 7, none⟩ (.string y.log)).setCell ⟨w.heap.size + 1 + 1, 8, none⟩ (.int .i64 y.size)).setCell ⟨w.heap.size + 1 + 1, 9, none⟩ (.string y.root)).setCell ⟨w.heap.size + 1 + 1, 10, none⟩ (.int .i64 y.time)).setCell ⟨w.heap.size + 1 + 1, 11, none⟩ (.int .i64 y.k)).setCell ⟨w.heap.size + 1 + 1, 12, none⟩ (.slice a6 y.el.length c6)).setCell ⟨w.heap.size + 1 + 1, 13, none⟩ (.slice b6 y.pl.length d6))) := hw4
  clear ho1 ho2 hn0 kp E2 hw4 hq3 hm3 hy1
  have hc := row_here k0
  have q0 := hc 0 _ rfl
  have q1 := hc 1 _ rfl
  have q2 := hc 2 _ rfl
  have q3 := hc 3 _ rfl
  have q4 := hc 4 _ rfl
  have q5 := hc 5 _ rfl
  have q6 := hc 6 _ rfl
  have q7 := hc 7 _ rfl
  have q8 := hc 8 _ rfl
  have q9 := hc 9 _ rfl
  have q10 := hc 10 _ rfl
  have q11 := hc 11 _ rfl
  have q12 := hc 12 _ rfl
  have q13 := hc 13 _ rfl
  have q14 := hc 14 _ rfl
  have f27 := f1 7
  have f28 := f1 8
  have f29 := f1 9
  have f30 := f1 10
  have f31 := f1 11
  have f32 := f1 12
  have f33 := f1 13
  have u7 := row_here k1 7 _ rfl
  have u8 := row_here k1 8 _ rfl
  have u9 := row_here k1 9 _ rfl
  have u10 := row_here k1 10 _ rfl
  have u11 := row_here k1 11 _ rfl
  have u12 := row_here k1 12 _ rfl
  have u13 := row_here k1 13 _ rfl
  clear hc f1 k1 hb3 hz k0
  go_wp2_with fail
  rw [← HW4.out]
  clear HW4 q0 q1 q2 q3 q4 q5 q6 q7 q8 q9 q10 q11 q12 q13 q14 f27 f28 f29 f30 f31 f32 f33 u7 u8 u9 u10 u11 u12 u13 H2
  refine (E3.out _ H4.out.1).mono ?_
  rintro e w5 ⟨u, rfl, hos, hb5⟩
  have ho := (hos.own hll).1
  obtain ⟨a7, c7, rfl⟩ := ho.len
  have hz := H4.out.2.1
  have k1 := (hb5.block _ (show w.heap.size + 1 + 1 < w4.heap.size by omega)).trans H4.out.2.2.2.1
  have kp := (hb5.block _ (show w.heap.size + 1 < w4.heap.size by omega)).trans H4.out.2.2.2.2.1
  have fq := row_free kp
  have hcp := row_here kp
  have r0 := hcp 0 _ rfl
  have r1 := hcp 1 _ rfl
  have r2 := hcp 2 _ rfl
  have r3 := hcp 3 _ rfl
  have r4 := hcp 4 _ rfl
  have r5 := hcp 5 _ rfl
  have r6 := hcp 6 _ rfl
  have r7 := hcp 7 _ rfl
  have r8 := hcp 8 _ rfl
  have r9 := hcp 9 _ rfl
  have r10 := hcp 10 _ rfl
  have r11 := hcp 11 _ rfl
  have r12 := hcp 12 _ rfl
  have r13 := hcp 13 _ rfl
  have r14 := hcp 14 _ rfl
  have g0 := fq 0
  have g1 := fq 1
  have g2 := fq 2
  have g3 := fq 3
  have g4 := fq 4
  have g5 := fq 5
  have g6 := fq 6
  have g7 := fq 7
  have g8 := fq 8
  have g9 := fq 9
  have g10 := fq 10
  have g11 := fq 11
  have g12 := fq 12
  have g13 := fq 13
  have g14 := fq 14
  have hn12 : ¬ w.heap.size + 1 = w.heap.size + 1 + 1 := by omega
  have hn21 : ¬ w.heap.size + 1 + 1 = w.heap.size + 1 := by omega
  have f14 := row_free k1 14
  have hc := row_here k1
  have p0 := hc 0 _ rfl
  have p1 := hc 1 _ rfl
  have p2 := hc 2 _ rfl
  have p3 := hc 3 _ rfl
  have p4 := hc 4 _ rfl
  have p5 := hc 5 _ rfl
  have p6 := hc 6 _ rfl
  have p7 := hc 7 _ rfl
  have p8 := hc 8 _ rfl
  have p9 := hc 9 _ rfl
  have p10 := hc 10 _ rfl
  have p11 := hc 11 _ rfl
  have p12 := hc 12 _ rfl
  have p13 := hc 13 _ rfl
  have p14 := hc 14 _ rfl
  have H5 : Hid (Below w.heap.size w w5 ∧ (OwnT w5 (w.heap.size + 3) (.slice a5 x.el.length c5) x.el ∧ OwnT w5 n1 (.slice b5 x.pl.length d5) x.pl) ∧ (OwnT w5 w2.heap.size (.slice a6 y.el.length c6) y.el ∧ OwnT w5 n3 (.slice b6 y.pl.length d6) y.pl) ∧ OwnT w5 w4.heap.size (.slice a7 l.length c7) l ∧ w4.heap.size ≤ w5.heap.size) :=
    ⟨H4.out.1.trans (hb5.mono H4.out.1.size), ⟨H4.out.2.2.2.2.2.1.1.below hb5 (Nat.le_refl _), H4.out.2.2.2.2.2.1.2.below hb5 (Nat.le_refl _)⟩, ⟨H4.out.2.2.2.2.2.2.1.below hb5 (Nat.le_refl _), H4.out.2.2.2.2.2.2.2.below hb5 (Nat.le_refl _)⟩, ho, hb5.size⟩
  clear hos ho hz k1 kp hc hcp fq hb5 H4 E3
  go_wp2
  have hy1 := HO1.out.2.1
  have hy2 := HO1.out.2.2.1
  have hy3 := HO3.out.2.1
  have hy4 := HO3.out.2.2.1
  have hy5 := HO3.out.2.2.2.2
  refine bodyPost_ret (v := .agg #[.string x.log, .int .i64 x.size, .string x.root, .int .i64 x.time, .int .i64 x.k, .slice a5 x.el.length c5, .slice b5 x.pl.length d5, .string y.log, .int .i64 y.size, .string y.root, .int .i64 y.time, .int .i64 y.k, .slice a6 y.el.length c6, .slice b6 y.pl.length d6, .slice a7 l.length c7]) (by simp [results, Tryz.results23, go_sem, p0, p1, p2, p3, p4, p5, p6, p7, p8, p9, p10, p11, p12, p13, r0, r1, r2, r3, r4, r5, r6, r7, r8, r9, r10, r11, r12, r13, r14, g0, g1, g2, g3, g4, g5, g6, g7, g8, g9, g10, g11, g12, g13, g14, f14, hn12, hn21]) rfl ⟨_, _, _, _, _, _, _, _, _, _, w.heap.size + 3, n1, w2.heap.size, n3, w4.heap.size, rfl, ⟨⟨?_, ?_, ?_, ?_, ?_⟩, ⟨HO1.out.1, HO1.out.2.2.2, HO3.out.1, HO3.out.2.2.2.1⟩, hy1, hy2, hy3, hy4, by simp only [size_put]; exact H5.out.2.2.2.2⟩, by omega, ?_⟩
  · iterate 16 (refine OwnT.far ?_ (by omega))
    exact H5.out.2.1.1
  · iterate 16 (refine OwnT.far ?_ (by omega))
    exact H5.out.2.1.2
  · iterate 16 (refine OwnT.far ?_ (by omega))
    exact H5.out.2.2.1.1
  · iterate 16 (refine OwnT.far ?_ (by omega))
    exact H5.out.2.2.1.2
  · iterate 16 (refine OwnT.far ?_ (by omega))
    exact H5.out.2.2.2.1
  · iterate 16 (refine Below.setCell ?_ (by simp <;> omega) _)
    exact H5.out.1
theorem toFraud_own (x y : Hd) (xe xp ye yp ve : Value) (l : List ByteArray) (w : World) (hx : x.In xe xp w w.heap.size) (hy : y.In ye yp w w.heap.size) (h3 : Texts w w.heap.size ve l) (hlx : x.Lim) (hly : y.Lim) (hll : l.length ≤ 1048576) :
    Calls Tryz.prog 23 #[.agg #[.string x.log, .int .i64 x.size, .string x.root, .int .i64 x.time, .int .i64 x.k, xe, xp, .string y.log, .int .i64 y.size, .string y.root, .int .i64 y.time, .int .i64 y.k, ye, yp, ve]] w fun e w' => ∃ a5 c5 b5 d5 a6 c6 b6 d6 a7 c7, e = .returned (.agg #[.string x.log, .int .i64 x.size, .string x.root, .int .i64 x.time, .int .i64 x.k, .slice a5 x.el.length c5, .slice b5 x.pl.length d5, .string y.log, .int .i64 y.size, .string y.root, .int .i64 y.time, .int .i64 y.k, .slice a6 y.el.length c6, .slice b6 y.pl.length d6, .slice a7 l.length c7]) ∧ (OwnT w' w.heap.size (.slice a5 x.el.length c5) x.el ∧ OwnT w' w.heap.size (.slice b5 x.pl.length d5) x.pl) ∧ (OwnT w' w.heap.size (.slice a6 y.el.length c6) y.el ∧ OwnT w' w.heap.size (.slice b6 y.pl.length d6) y.pl) ∧ OwnT w' w.heap.size (.slice a7 l.length c7) l ∧ Below w.heap.size w w' :=
  (toFraud_own5 x y xe xp ye yp ve l w hx hy h3 hlx hly hll).mono fun e w' ⟨a5, c5, b5, d5, a6, c6, b6, d6, a7, c7, n0, n1, n2, n3, n4, he, ⟨⟨o0, o1, o2, o3, o4⟩, _, l1, l2, l3, l4, _⟩, hn, hb⟩ => ⟨a5, c5, b5, d5, a6, c6, b6, d6, a7, c7, he, ⟨o0.lower hn, o1.lower (by omega)⟩, ⟨o2.lower (by omega), o3.lower (by omega)⟩, o4.lower (by omega), hb⟩
theorem toFraud_any (x y : Hd) (xe xp ye yp ve : Value) (l : List ByteArray) (w : World) (hx : x.In xe xp w w.heap.size) (hy : y.In ye yp w w.heap.size) (h3 : Texts w w.heap.size ve l) (hlx : x.Lim) (hly : y.Lim) (hll : l.length ≤ 1048576) :
    Calls Tryz.prog 23 #[.agg #[.string x.log, .int .i64 x.size, .string x.root, .int .i64 x.time, .int .i64 x.k, xe, xp, .string y.log, .int .i64 y.size, .string y.root, .int .i64 y.time, .int .i64 y.k, ye, yp, ve]] w fun e w' => ∃ a5 c5 b5 d5 a6 c6 b6 d6 a7 c7, e = .returned (.agg #[.string x.log, .int .i64 x.size, .string x.root, .int .i64 x.time, .int .i64 x.k, .slice a5 x.el.length c5, .slice b5 x.pl.length d5, .string y.log, .int .i64 y.size, .string y.root, .int .i64 y.time, .int .i64 y.k, .slice a6 y.el.length c6, .slice b6 y.pl.length d6, .slice a7 l.length c7]) ∧ x.In (.slice a5 x.el.length c5) (.slice b5 x.pl.length d5) w' w'.heap.size ∧ y.In (.slice a6 y.el.length c6) (.slice b6 y.pl.length d6) w' w'.heap.size ∧ Texts w' w'.heap.size (.slice a7 l.length c7) l ∧ Below w.heap.size w w' :=
  (toFraud_own x y xe xp ye yp ve l w hx hy h3 hlx hly hll).mono fun e w' ⟨a5, c5, b5, d5, a6, c6, b6, d6, a7, c7, he, h1, h2, h3, hb⟩ => ⟨a5, c5, b5, d5, a6, c6, b6, d6, a7, c7, he, ⟨h1.1.texts, h1.2.texts⟩, ⟨h2.1.texts, h2.2.texts⟩, h3.texts, hb⟩
end Go.Proofs.YtcenlgfopmahcaaGreatDoor

/-
  A fraud that came in: its size.
-/
namespace Go.Proofs.YtcenlgfopmahcaaGreatDoor
open Go.RowKit Go.Lib
set_option linter.unusedVariables false
set_option linter.unusedSimpArgs false

set_option maxHeartbeats 4000000 in
set_option maxRecDepth 10000 in
theorem szFraud_any (x y : Hd) (xe xp ye yp ve : Value) (l : List ByteArray) (left : Int) (w : World) (hx : x.Arg xe xp w) (hy : y.Arg ye yp w) (h3 : TextsArg w ve l) (h0 : 0 ≤ left) (hle : left ≤ 1048576) :
    Calls Tryz.prog 16 #[.agg #[.string x.log, .int .i64 x.size, .string x.root, .int .i64 x.time, .int .i64 x.k, xe, xp, .string y.log, .int .i64 y.size, .string y.root, .int .i64 y.time, .int .i64 y.k, ye, yp, ve], .int .i64 left] w fun e w' => ∃ r : Int, e = .returned (.int .i64 r) ∧ -1048577 ≤ r ∧ r ≤ 1048576 ∧ (r < 0 ∨ (x.Lim ∧ y.Lim ∧ l.length ≤ 1048576)) ∧ Below w.heap.size w w' := by
  obtain ⟨a1, c1, b1, d1, rfl, rfl⟩ := hx.1.parts
  obtain ⟨a2, c2, b2, d2, rfl, rfl⟩ := hy.1.parts
  obtain ⟨ae, ce, rfl, _⟩ := id h3.1
  obtain ⟨W, hW⟩ : ∃ W, W = w.alloc (.cells #[.string x.log, .int .i64 x.size, .string x.root, .int .i64 x.time, .int .i64 x.k, .slice a1 x.el.length c1, .slice b1 x.pl.length d1, .string y.log, .int .i64 y.size, .string y.root, .int .i64 y.time, .int .i64 y.k, .slice a2 y.el.length c2, .slice b2 y.pl.length d2, .slice ae l.length ce] 29) := ⟨_, rfl⟩
  have hbW : Below w.heap.size w W := by rw [hW]; exact (Below.refl _ _).alloc (Nat.le_refl _) _
  have hgW : W.heap[w.heap.size]? = some (.cells #[.string x.log, .int .i64 x.size, .string x.root, .int .i64 x.time, .int .i64 x.k, .slice a1 x.el.length c1, .slice b1 x.pl.length d1, .string y.log, .int .i64 y.size, .string y.root, .int .i64 y.time, .int .i64 y.k, .slice a2 y.el.length c2, .slice b2 y.pl.length d2, .slice ae l.length ce] 29 (0, 0)) := by rw [hW]; exact heap_alloc_new w _
  have hlW : w.heap.size < W.heap.size := (Array.getElem?_eq_some_iff.1 hgW).1
  have HC : Hid (∀ W', Below W.heap.size W W' → W'.cell? ⟨w.heap.size, 0, none⟩ = some (.string x.log) ∧ W'.cell? ⟨w.heap.size, 1, none⟩ = some (.int .i64 x.size) ∧ W'.cell? ⟨w.heap.size, 2, none⟩ = some (.string x.root) ∧ W'.cell? ⟨w.heap.size, 3, none⟩ = some (.int .i64 x.time) ∧ W'.cell? ⟨w.heap.size, 4, none⟩ = some (.int .i64 x.k) ∧ W'.cell? ⟨w.heap.size, 5, none⟩ = some (.slice a1 x.el.length c1) ∧ W'.cell? ⟨w.heap.size, 6, none⟩ = some (.slice b1 x.pl.length d1) ∧ W'.cell? ⟨w.heap.size, 7, none⟩ = some (.string y.log) ∧ W'.cell? ⟨w.heap.size, 8, none⟩ = some (.int .i64 y.size) ∧ W'.cell? ⟨w.heap.size, 9, none⟩ = some (.string y.root) ∧ W'.cell? ⟨w.heap.size, 10, none⟩ = some (.int .i64 y.time) ∧ W'.cell? ⟨w.heap.size, 11, none⟩ = some (.int .i64 y.k) ∧ W'.cell? ⟨w.heap.size, 12, none⟩ = some (.slice a2 y.el.length c2) ∧ W'.cell? ⟨w.heap.size, 13, none⟩ = some (.slice b2 y.pl.length d2) ∧ W'.cell? ⟨w.heap.size, 14, none⟩ = some (.slice ae l.length ce)) := fun W' hb => by
    have c := row_cells hb hlW hgW
    exact ⟨c 0 _ rfl, c 1 _ rfl, c 2 _ rfl, c 3 _ rfl, c 4 _ rfl, c 5 _ rfl, c 6 _ rfl, c 7 _ rfl, c 8 _ rfl, c 9 _ rfl, c 10 _ rfl, c 11 _ rfl, c 12 _ rfl, c 13 _ rfl, c 14 _ rfl⟩
  have E1 : Hid (∀ r : Int, 0 ≤ r → r ≤ 1048576 → Calls Tryz.prog 14 #[.agg #[.string x.log, .int .i64 x.size, .string x.root, .int .i64 x.time, .int .i64 x.k, .slice a1 x.el.length c1, .slice b1 x.pl.length d1], .int .i64 r] W fun e w' => ∃ r : Int, e = .returned (.int .i64 r) ∧ -1048577 ≤ r ∧ r ≤ 1048576 ∧ (r < 0 ∨ x.Lim) ∧ Below W.heap.size W w') := fun r a b => szHd_any x _ _ r W (hx.on hbW) a b
  have E2 : Hid (∀ W', Below W.heap.size W W' → ∀ r : Int, 0 ≤ r → r ≤ 1048576 → Calls Tryz.prog 14 #[.agg #[.string y.log, .int .i64 y.size, .string y.root, .int .i64 y.time, .int .i64 y.k, .slice a2 y.el.length c2, .slice b2 y.pl.length d2], .int .i64 r] W' fun e w' => ∃ r : Int, e = .returned (.int .i64 r) ∧ -1048577 ≤ r ∧ r ≤ 1048576 ∧ (r < 0 ∨ y.Lim) ∧ Below W'.heap.size W' w') := fun W' hb r a b => szHd_any y _ _ r W' ((hy.on hbW).on hb) a b
  have E3 : Hid (∀ W', Below W.heap.size W W' → ∀ r : Int, 0 ≤ r → r ≤ 1048576 → Calls Tryz.prog 13 #[.slice ae l.length ce, .int .i64 r] W' fun e w' => SzAns l e ∧ w' = W') := fun W' hb r a b => sz_any _ l r W' W'.heap.size ((h3.on hbW).on hb).1 h3.2.1 h3.2.2 a b
  have H0 : Hid (Below w.heap.size w W) := hbW
  have HW : Hid (W = w.alloc (.cells #[.string x.log, .int .i64 x.size, .string x.root, .int .i64 x.time, .int .i64 x.k, .slice a1 x.el.length c1, .slice b1 x.pl.length d1, .string y.log, .int .i64 y.size, .string y.root, .int .i64 y.time, .int .i64 y.k, .slice a2 y.el.length c2, .slice b2 y.pl.length d2, .slice ae l.length ce] 29)) := hW
  clear hx hy h3 hbW hgW hW
  go_enter Tryz.func16, Tryz.ntmps16
  go_wp2_with fail
  rw [← HW.out]
  refine (E1.out _ h0 hle).mono ?_
  rintro e w1 ⟨r1, rfl, p0, p1, q1, hb1⟩
  have Q1 : Hid (r1 < 0 ∨ x.Lim) := q1
  have B1 : Hid (Below W.heap.size W w1) := hb1
  obtain ⟨c0, c1, c2, c3, c4, c5, c6, c7, c8, c9, c10, c11, c12, c13, c14⟩ := HC.out _ hb1
  clear q1 hb1 E1 HW
  by_cases n1 : r1 < 0
  · go_wp2
    go_ret
    exact ⟨-1, rfl, by omega, by omega, .inl (by omega), H0.out.trans (B1.out.mono H0.out.size)⟩
  go_wp2_with fail
  refine (E2.out _ B1.out _ (by omega) (by omega)).mono ?_
  rintro e w2 ⟨r2, rfl, p2, p3, q2, hb2⟩
  have Q2 : Hid (r2 < 0 ∨ y.Lim) := q2
  have hb3 := B1.out.trans (hb2.mono B1.out.size)
  have B2 : Hid (Below W.heap.size W w2) := hb3
  clear c0 c1 c2 c3 c4 c5 c6 c7 c8 c9 c10 c11 c12 c13 c14
  obtain ⟨c0, c1, c2, c3, c4, c5, c6, c7, c8, c9, c10, c11, c12, c13, c14⟩ := HC.out _ hb3
  clear q2 hb2 hb3 E2
  by_cases n2 : r2 < 0
  · go_wp2
    go_ret
    exact ⟨-1, rfl, by omega, by omega, .inl (by omega), H0.out.trans (B2.out.mono H0.out.size)⟩
  go_wp2_with fail
  refine (E3.out _ B2.out _ (by omega) (by omega)).mono ?_
  rintro e w3 ⟨⟨r3, rfl, p4, p5, q3⟩, rfl⟩
  have Q3 : Hid (r3 < 0 ∨ l.length ≤ 1048576) := q3.imp id And.left
  clear q3 E3
  by_cases n3 : r3 < 0
  · go_wp2
    go_ret
    exact ⟨-1, rfl, by omega, by omega, .inl (by omega), H0.out.trans (B2.out.mono H0.out.size)⟩
  · go_wp2
    go_ret
    exact ⟨r3, rfl, by omega, by omega, .inr ⟨Q1.out.resolve_left (by omega), Q2.out.resolve_left (by omega), Q3.out.resolve_left (by omega)⟩, H0.out.trans (B2.out.mono H0.out.size)⟩

end Go.Proofs.YtcenlgfopmahcaaGreatDoor

/-
  Frauds held against each other.
-/
namespace Go.Proofs.YtcenlgfopmahcaaGreatDoor
open Go.RowKit Go.Lib
set_option linter.unusedVariables false
set_option linter.unusedSimpArgs false

set_option maxHeartbeats 4000000 in
set_option maxRecDepth 10000 in
theorem eqFraud_any (x y : Hd) (l : List ByteArray) (a1 b1 a2 b2 a3 a4 b4 a5 b5 a6 : Option Addr) (c1 d1 c2 d2 c3 c4 d4 c5 d5 c6 : Nat) (w : World) (h1 : x.In (.slice a1 x.el.length c1) (.slice b1 x.pl.length d1) w w.heap.size) (h2 : y.In (.slice a2 y.el.length c2) (.slice b2 y.pl.length d2) w w.heap.size) (h3 : Texts w w.heap.size (.slice a3 l.length c3) l) (h4 : x.In (.slice a4 x.el.length c4) (.slice b4 x.pl.length d4) w w.heap.size) (h5 : y.In (.slice a5 y.el.length c5) (.slice b5 y.pl.length d5) w w.heap.size) (h6 : Texts w w.heap.size (.slice a6 l.length c6) l) (hlx : x.Lim) (hly : y.Lim) (hll : l.length ≤ 1048577) :
    Calls Tryz.prog 29 #[.agg #[.string x.log, .int .i64 x.size, .string x.root, .int .i64 x.time, .int .i64 x.k, .slice a1 x.el.length c1, .slice b1 x.pl.length d1, .string y.log, .int .i64 y.size, .string y.root, .int .i64 y.time, .int .i64 y.k, .slice a2 y.el.length c2, .slice b2 y.pl.length d2, .slice a3 l.length c3], .agg #[.string x.log, .int .i64 x.size, .string x.root, .int .i64 x.time, .int .i64 x.k, .slice a4 x.el.length c4, .slice b4 x.pl.length d4, .string y.log, .int .i64 y.size, .string y.root, .int .i64 y.time, .int .i64 y.k, .slice a5 y.el.length c5, .slice b5 y.pl.length d5, .slice a6 l.length c6]] w fun e w' => e = .returned (.bool true) ∧ Below w.heap.size w w' := by
  obtain ⟨W, hW⟩ : ∃ W, W = (w.alloc (.cells #[.string x.log, .int .i64 x.size, .string x.root, .int .i64 x.time, .int .i64 x.k, .slice a1 x.el.length c1, .slice b1 x.pl.length d1, .string y.log, .int .i64 y.size, .string y.root, .int .i64 y.time, .int .i64 y.k, .slice a2 y.el.length c2, .slice b2 y.pl.length d2, .slice a3 l.length c3] 39)).alloc (.cells #[.string x.log, .int .i64 x.size, .string x.root, .int .i64 x.time, .int .i64 x.k, .slice a4 x.el.length c4, .slice b4 x.pl.length d4, .string y.log, .int .i64 y.size, .string y.root, .int .i64 y.time, .int .i64 y.k, .slice a5 y.el.length c5, .slice b5 y.pl.length d5, .slice a6 l.length c6] 39) := ⟨_, rfl⟩
  have hbW : Below w.heap.size w W := by rw [hW]; exact ((Below.refl _ _).alloc (Nat.le_refl _) _).alloc (by simp) _
  have hgW : W.heap[w.heap.size]? = some (.cells #[.string x.log, .int .i64 x.size, .string x.root, .int .i64 x.time, .int .i64 x.k, .slice a1 x.el.length c1, .slice b1 x.pl.length d1, .string y.log, .int .i64 y.size, .string y.root, .int .i64 y.time, .int .i64 y.k, .slice a2 y.el.length c2, .slice b2 y.pl.length d2, .slice a3 l.length c3] 39 (0, 0)) := by rw [hW]; exact heap_alloc2_old w _ _
  have hoW : W.heap[w.heap.size + 1]? = some (.cells #[.string x.log, .int .i64 x.size, .string x.root, .int .i64 x.time, .int .i64 x.k, .slice a4 x.el.length c4, .slice b4 x.pl.length d4, .string y.log, .int .i64 y.size, .string y.root, .int .i64 y.time, .int .i64 y.k, .slice a5 y.el.length c5, .slice b5 y.pl.length d5, .slice a6 l.length c6] 39 (0, 0)) := by rw [hW]; exact heap_alloc2_new w _ _
  have HW : Hid (W = (w.alloc (.cells #[.string x.log, .int .i64 x.size, .string x.root, .int .i64 x.time, .int .i64 x.k, .slice a1 x.el.length c1, .slice b1 x.pl.length d1, .string y.log, .int .i64 y.size, .string y.root, .int .i64 y.time, .int .i64 y.k, .slice a2 y.el.length c2, .slice b2 y.pl.length d2, .slice a3 l.length c3] 39)).alloc (.cells #[.string x.log, .int .i64 x.size, .string x.root, .int .i64 x.time, .int .i64 x.k, .slice a4 x.el.length c4, .slice b4 x.pl.length d4, .string y.log, .int .i64 y.size, .string y.root, .int .i64 y.time, .int .i64 y.k, .slice a5 y.el.length c5, .slice b5 y.pl.length d5, .slice a6 l.length c6] 39)) := hW
  have HC : Hid (∀ W', Below W.heap.size W W' → (W'.cell? ⟨w.heap.size, 0, none⟩ = some (.string x.log) ∧ W'.cell? ⟨w.heap.size, 1, none⟩ = some (.int .i64 x.size) ∧ W'.cell? ⟨w.heap.size, 2, none⟩ = some (.string x.root) ∧ W'.cell? ⟨w.heap.size, 3, none⟩ = some (.int .i64 x.time) ∧ W'.cell? ⟨w.heap.size, 4, none⟩ = some (.int .i64 x.k) ∧ W'.cell? ⟨w.heap.size, 5, none⟩ = some (.slice a1 x.el.length c1) ∧ W'.cell? ⟨w.heap.size, 6, none⟩ = some (.slice b1 x.pl.length d1) ∧ W'.cell? ⟨w.heap.size, 7, none⟩ = some (.string y.log) ∧ W'.cell? ⟨w.heap.size, 8, none⟩ = some (.int .i64 y.size) ∧ W'.cell? ⟨w.heap.size, 9, none⟩ = some (.string y.root) ∧ W'.cell? ⟨w.heap.size, 10, none⟩ = some (.int .i64 y.time) ∧ W'.cell? ⟨w.heap.size, 11, none⟩ = some (.int .i64 y.k) ∧ W'.cell? ⟨w.heap.size, 12, none⟩ = some (.slice a2 y.el.length c2) ∧ W'.cell? ⟨w.heap.size, 13, none⟩ = some (.slice b2 y.pl.length d2) ∧ W'.cell? ⟨w.heap.size, 14, none⟩ = some (.slice a3 l.length c3)) ∧ (W'.cell? ⟨w.heap.size + 1, 0, none⟩ = some (.string x.log) ∧ W'.cell? ⟨w.heap.size + 1, 1, none⟩ = some (.int .i64 x.size) ∧ W'.cell? ⟨w.heap.size + 1, 2, none⟩ = some (.string x.root) ∧ W'.cell? ⟨w.heap.size + 1, 3, none⟩ = some (.int .i64 x.time) ∧ W'.cell? ⟨w.heap.size + 1, 4, none⟩ = some (.int .i64 x.k) ∧ W'.cell? ⟨w.heap.size + 1, 5, none⟩ = some (.slice a4 x.el.length c4) ∧ W'.cell? ⟨w.heap.size + 1, 6, none⟩ = some (.slice b4 x.pl.length d4) ∧ W'.cell? ⟨w.heap.size + 1, 7, none⟩ = some (.string y.log) ∧ W'.cell? ⟨w.heap.size + 1, 8, none⟩ = some (.int .i64 y.size) ∧ W'.cell? ⟨w.heap.size + 1, 9, none⟩ = some (.string y.root) ∧ W'.cell? ⟨w.heap.size + 1, 10, none⟩ = some (.int .i64 y.time) ∧ W'.cell? ⟨w.heap.size + 1, 11, none⟩ = some (.int .i64 y.k) ∧ W'.cell? ⟨w.heap.size + 1, 12, none⟩ = some (.slice a5 y.el.length c5) ∧ W'.cell? ⟨w.heap.size + 1, 13, none⟩ = some (.slice b5 y.pl.length d5) ∧ W'.cell? ⟨w.heap.size + 1, 14, none⟩ = some (.slice a6 l.length c6))) := fun W' hb => by
    have c := row_cells hb (Array.getElem?_eq_some_iff.1 hgW).1 hgW
    have d := row_cells hb (Array.getElem?_eq_some_iff.1 hoW).1 hoW
    exact ⟨⟨c 0 _ rfl, c 1 _ rfl, c 2 _ rfl, c 3 _ rfl, c 4 _ rfl, c 5 _ rfl, c 6 _ rfl, c 7 _ rfl, c 8 _ rfl, c 9 _ rfl, c 10 _ rfl, c 11 _ rfl, c 12 _ rfl, c 13 _ rfl, c 14 _ rfl⟩, ⟨d 0 _ rfl, d 1 _ rfl, d 2 _ rfl, d 3 _ rfl, d 4 _ rfl, d 5 _ rfl, d 6 _ rfl, d 7 _ rfl, d 8 _ rfl, d 9 _ rfl, d 10 _ rfl, d 11 _ rfl, d 12 _ rfl, d 13 _ rfl, d 14 _ rfl⟩⟩
  have E1 : Hid (∀ W', Below W.heap.size W W' → Calls Tryz.prog 27 #[.agg #[.string x.log, .int .i64 x.size, .string x.root, .int .i64 x.time, .int .i64 x.k, .slice a1 x.el.length c1, .slice b1 x.pl.length d1], .agg #[.string x.log, .int .i64 x.size, .string x.root, .int .i64 x.time, .int .i64 x.k, .slice a4 x.el.length c4, .slice b4 x.pl.length d4]] W' fun e w' => e = .returned (.bool true) ∧ Below W'.heap.size W' w') := fun W' hb => eqHead_any x.log x.root x.size x.time x.k _ _ _ _ x.el x.pl W' ((h1.1.on hbW).on hb) ((h1.2.on hbW).on hb) ((h4.1.on hbW).on hb) ((h4.2.on hbW).on hb) (Nat.le_succ_of_le hlx.2.2.1) (Nat.le_succ_of_le hlx.2.2.2)
  have E2 : Hid (∀ W', Below W.heap.size W W' → Calls Tryz.prog 27 #[.agg #[.string y.log, .int .i64 y.size, .string y.root, .int .i64 y.time, .int .i64 y.k, .slice a2 y.el.length c2, .slice b2 y.pl.length d2], .agg #[.string y.log, .int .i64 y.size, .string y.root, .int .i64 y.time, .int .i64 y.k, .slice a5 y.el.length c5, .slice b5 y.pl.length d5]] W' fun e w' => e = .returned (.bool true) ∧ Below W'.heap.size W' w') := fun W' hb => eqHead_any y.log y.root y.size y.time y.k _ _ _ _ y.el y.pl W' ((h2.1.on hbW).on hb) ((h2.2.on hbW).on hb) ((h5.1.on hbW).on hb) ((h5.2.on hbW).on hb) (Nat.le_succ_of_le hly.2.2.1) (Nat.le_succ_of_le hly.2.2.2)
  have E3 : Hid (∀ W', Below W.heap.size W W' → Calls Tryz.prog 28 #[.slice a3 l.length c3, .slice a6 l.length c6] W' fun e w' => e = .returned (.bool true) ∧ Below W'.heap.size W' w') := fun W' hb => eqTexts_any _ _ l W' W'.heap.size ((h3.on hbW).on hb) ((h6.on hbW).on hb) hll
  have H0 : Hid (Below w.heap.size w W ∧ Below W.heap.size W W) := ⟨hbW, Below.refl _ _⟩
  clear h1 h2 h3 h4 h5 h6 hbW hgW hoW hW
  obtain ⟨⟨c0, c1, c2, c3, c4, c5, c6, c7, c8, c9, c10, c11, c12, c13, c14⟩, ⟨d0, d1, d2, d3, d4, d5, d6, d7, d8, d9, d10, d11, d12, d13, d14⟩⟩ := HC.out W H0.out.2
  go_enter Tryz.func29, Tryz.ntmps29
  go_wp2_with fail
  rw [← HW.out]
  clear HW
  refine (E1.out _ H0.out.2).mono ?_
  rintro e w1 ⟨rfl, hb1⟩
  have B1 : Hid (Below W.heap.size W w1) := hb1
  clear c0 c1 c2 c3 c4 c5 c6 c7 c8 c9 c10 c11 c12 c13 c14 d0 d1 d2 d3 d4 d5 d6 d7 d8 d9 d10 d11 d12 d13 d14
  obtain ⟨⟨c0, c1, c2, c3, c4, c5, c6, c7, c8, c9, c10, c11, c12, c13, c14⟩, ⟨d0, d1, d2, d3, d4, d5, d6, d7, d8, d9, d10, d11, d12, d13, d14⟩⟩ := HC.out _ hb1
  clear hb1
  go_wp2_with fail
  refine (E2.out _ B1.out).mono ?_
  rintro e w2 ⟨rfl, hb2⟩
  have B2 : Hid (Below W.heap.size W w2) := B1.out.trans (hb2.mono B1.out.size)
  clear c0 c1 c2 c3 c4 c5 c6 c7 c8 c9 c10 c11 c12 c13 c14 d0 d1 d2 d3 d4 d5 d6 d7 d8 d9 d10 d11 d12 d13 d14 hb2
  obtain ⟨⟨c0, c1, c2, c3, c4, c5, c6, c7, c8, c9, c10, c11, c12, c13, c14⟩, ⟨d0, d1, d2, d3, d4, d5, d6, d7, d8, d9, d10, d11, d12, d13, d14⟩⟩ := HC.out _ B2.out
  go_wp2_with fail
  refine (E3.out _ B2.out).mono ?_
  rintro e w3 ⟨rfl, hb3⟩
  have B3 : Hid (Below W.heap.size W w3) := B2.out.trans (hb3.mono B2.out.size)
  clear c0 c1 c2 c3 c4 c5 c6 c7 c8 c9 c10 c11 c12 c13 c14 d0 d1 d2 d3 d4 d5 d6 d7 d8 d9 d10 d11 d12 d13 d14 hb3
  go_wp2
  go_ret
  exact ⟨rfl, H0.out.1.trans (B3.out.mono H0.out.1.size)⟩

end Go.Proofs.YtcenlgfopmahcaaGreatDoor
