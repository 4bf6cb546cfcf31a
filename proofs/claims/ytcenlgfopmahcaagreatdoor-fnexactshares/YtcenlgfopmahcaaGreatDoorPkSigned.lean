/-
  Is a head of this log, and good under this key? The program's test.
-/
import Derived.Test.YtcenlgfopmahcaaGreatDoorPkImplHeadG
import Derived.Test.YtcenlgfopmahcaaGreatDoorPkHdV
import Derived.Test.YtcenlgfopmahcaaGreatDoorPkTextRows
import Derived.Test.YtcenlgfopmahcaaGreatDoorPkPutText
import Derived.Test.YtcenlgfopmahcaaGreatDoorPkImplTree
import Derived.Test.YtcenlgfopmahcaaGreatDoorPkAgrees
import Derived.Test.YtcenlgfopmahcaaGreatDoorPkCopyHead
namespace Go.Proofs.YtcenlgfopmahcaaGreatDoor
open Go.RowKit Go.Lib
set_option linter.unusedVariables false
set_option linter.unusedSimpArgs false

/-- A head of the log lg that is good under the key ky. -/
def sgB (lg ky : ByteArray) (x : Hd) : Bool := (x.log.toList == lg.toList) && headGB ky x.log x.size x.root x.time x.k x.el x.pl
set_option maxHeartbeats 4000000 in
set_option maxRecDepth 10000 in
theorem signed_any (lg ky : ByteArray) (x : Hd) (ve vp : Value) (w : World) (hx : x.In ve vp w w.heap.size) (hl : x.Lim) (hn : x.Num) (hk : ky.size ≤ 1048576) (hK : Keys w) :
    Calls Tryz.prog 62 #[.agg #[.string lg, .string ky], .agg #[.string x.log, .int .i64 x.size, .string x.root, .int .i64 x.time, .int .i64 x.k, ve, vp]] w fun e w' => e = .returned (.bool (sgB lg ky x)) ∧ Below w.heap.size w w' := by
  obtain ⟨a, c, b, d, rfl, rfl⟩ := hx.parts
  obtain ⟨W, hW⟩ : ∃ W, W = (w.alloc (.cells #[.string lg, .string ky] 77)).alloc (.cells #[.string x.log, .int .i64 x.size, .string x.root, .int .i64 x.time, .int .i64 x.k, .slice a x.el.length c, .slice b x.pl.length d] 37) := ⟨_, rfl⟩
  have hbW : Below w.heap.size w W := by rw [hW]; exact ((Below.refl _ _).alloc (Nat.le_refl _) _).alloc (by simp) _
  have E0 : Hid (Calls Tryz.prog 79 #[.string ky, .agg #[.string x.log, .int .i64 x.size, .string x.root, .int .i64 x.time, .int .i64 x.k, .slice a x.el.length c, .slice b x.pl.length d]] W fun e w' => e = .returned (.bool (headGB ky x.log x.size x.root x.time x.k x.el x.pl)) ∧ Below W.heap.size W w') := implHeadGood_any ky x.log x.root x.size x.time x.k _ _ x.el x.pl W (hx.on hbW).1 (hx.on hbW).2 hl.2.2.1 hl.2.2.2 hl.1 hl.2.1 hk hn.1 hn.2 (hK.below hbW hK.lt)
  have H0 : Hid (Below w.heap.size w W) := hbW
  have HW : Hid (W = (w.alloc (.cells #[.string lg, .string ky] 77)).alloc (.cells #[.string x.log, .int .i64 x.size, .string x.root, .int .i64 x.time, .int .i64 x.k, .slice a x.el.length c, .slice b x.pl.length d] 37)) := hW
  clear hx hl hn hk hK hW hbW
  unfold sgB
  generalize headGB ky x.log x.size x.root x.time x.k x.el x.pl = G at *
  cases hq : (x.log.toList == lg.toList) with
  | false =>
    clear E0
    go_enter Tryz.func62, Tryz.ntmps62
    go_wp2
    rw [← HW.out]
    go_ret
    exact ⟨rfl, H0.out⟩
  | true =>
    go_enter Tryz.func62, Tryz.ntmps62
    go_wp2_with fail
    rw [← HW.out]
    refine E0.out.mono ?_
    rintro e w1 ⟨rfl, hb⟩
    have H1 : Hid (Below w.heap.size w w1) := H0.out.trans (hb.mono H0.out.size)
    clear hb E0 H0 HW
    go_wp2
    go_ret
    exact ⟨rfl, H1.out⟩
end Go.Proofs.YtcenlgfopmahcaaGreatDoor

/-
  What Conflict answers.
-/
namespace Go.Proofs.YtcenlgfopmahcaaGreatDoor
open Go.RowKit Go.Lib
set_option linter.unusedVariables false
set_option linter.unusedSimpArgs false

/-- What Conflict answers of two heads, of which each is right or not. -/
def confB (ra rb : Bool) (log1 log2 : ByteArray) (size1 size2 : Int) (root1 root2 : ByteArray) : Bool := ra && rb && (log1.toList == log2.toList) && (size1 == size2) && !(root1.toList == root2.toList)
end Go.Proofs.YtcenlgfopmahcaaGreatDoor

/-
  What Judge answers.
-/
namespace Go.Proofs.YtcenlgfopmahcaaGreatDoor
open Go.RowKit Go.Lib
set_option linter.unusedVariables false
set_option linter.unusedSimpArgs false

def Hd.good (x : Hd) (r : ByteArray) : Bool := headGB r x.log x.size x.root x.time x.k x.el x.pl
/-- Are two heads in conflict? -/
def twoB (x y : Hd) : Bool := confB x.right y.right x.log y.log x.size y.size x.root y.root
/-- Does the row l, of B's size, not go on from A's? -/
def rewB (x y : Hd) (l : List ByteArray) : Bool := rightB l && ((l.length : Int) == y.size) && decide (x.size < y.size) && ((treeB l).toList == y.root.toList) && !((treeB (l.take x.size.toNat)).toList == x.root.toList)
/-- What Judge answers. -/
def judgeB (r : ByteArray) (x y : Hd) (l : List ByteArray) : Bool := x.good r && y.good r && (x.log.toList == y.log.toList) && (if l.length = 0 then twoB x y else rewB x y l)
theorem Hd.good_right {x : Hd} {r : ByteArray} (h : x.good r = true) : x.right = true := by
  unfold Hd.good headGB at h
  exact (Bool.and_eq_true_iff.1 h).1
theorem Hd.right_size {x : Hd} (h : x.right = true) : 0 ≤ x.size ∧ x.size ≤ 64 := by
  unfold Hd.right headRB at h
  exact (claimB_yes (Bool.and_eq_true_iff.1 h).1).2.1
end Go.Proofs.YtcenlgfopmahcaaGreatDoor

/-
  What WatchRight asks, as booleans.
-/
namespace Go.Proofs.YtcenlgfopmahcaaGreatDoor
open Go.RowKit Go.Lib
set_option linter.unusedVariables false
set_option linter.unusedSimpArgs false

/-- Is what was read of the log? -/
def Wt.readB (t : Wt) : Bool := agreesB t.en t.h t.h.el.length t.h.pl.length && (zeroX t.h t.h.el.length t.h.pl.length || sgB t.log t.key t.h)
/-- Are the heads of the log, and do their sizes rise from last on? -/
def poolB (lg ky : ByteArray) : Int → List Hv → Bool
  | _, [] => true
  | last, q :: r => decide (last < q.x.size) && (sgB lg ky q.x && poolB lg ky q.x.size r)
/-- Is what was found a fraud, or none where none was found? -/
def Wt.findB (t : Wt) : Bool := if t.found = true then (t.a.log.toList == t.log.toList) && judgeB t.key t.a t.b t.fl else zeroX t.a t.a.el.length t.a.pl.length && zeroX t.b t.b.el.length t.b.pl.length && decide (t.fl.length = 0)
/-- Is the watch, with its pool, right? -/
def Wt.rightB (t : Wt) (l : List Hv) : Bool := namedB t.log t.key && (t.readB && ((decide (l.length ≤ 5) && poolB t.log t.key t.en.length l) && t.findB))
theorem poolB_step {lg ky : ByteArray} {last : Int} {l : List Hv} {k : Nat} (hk : k < l.length) : poolB lg ky last (l.drop k) = (decide (last < l[k].x.size) && (sgB lg ky l[k].x && poolB lg ky l[k].x.size (l.drop (k + 1)))) := by
  rw [List.drop_eq_getElem_cons hk]
  rfl
theorem poolB_end {lg ky : ByteArray} {last : Int} {l : List Hv} {k : Nat} (hk : l.length ≤ k) : poolB lg ky last (l.drop k) = true := by
  rw [List.drop_eq_nil_of_le hk]
  rfl
/-- A struct read whole behind a guard that lets it. -/
theorem load_row_g {P : Program} {ops : Array Oper} {rest : List Oper} {o : Oper} {a : Act} {w : World} {Q : Exit → Act → World → Prop} (hw : Region.wanted o (yielded ops a.tmps) = true) (ty : TypeId) (x : Operand) (ho : o.op = .load ty x)
    (g : Nat) (hx : a.eval x = .pointer (some ⟨g, 0, none⟩)) (t : TypeId) (cs : Array Value) (fr : Nat × Nat) (d : TypeDesc) (hg : w.heap[g]? = some (.cells cs t fr))
    (hu : P.underlying ty = some d) (hd : (match d with | .struct _ | .array _ _ => true | _ => false) = true) (hi : (P.info? ty).map (·.size) = some cs.size)
    (h : wpList P ops Q rest (a.put o.dst (.agg cs)) w) : wpList P ops Q (o :: rest) a w := by
  unfold wpList
  rw [if_pos hw]
  exact Or.inl (wp_load_row ty x ho g hx t cs fr d hg hu hd hi h)
/-- The heads' numbers are numbers of 64 bits. -/
def HdsNum (l : List Hv) : Prop := ∀ j (hj : j < l.length), l[j].x.Num
/-- The watch's numbers are numbers of 64 bits. -/
def Wt.Nums (t : Wt) : Prop := t.h.Num ∧ t.a.Num ∧ t.b.Num
end Go.Proofs.YtcenlgfopmahcaaGreatDoor

/-
  Is what was read of the log? The program's test.
-/
namespace Go.Proofs.YtcenlgfopmahcaaGreatDoor
open Go.RowKit Go.Lib
set_option linter.unusedVariables false
set_option linter.unusedSimpArgs false

set_option maxHeartbeats 4000000 in
set_option maxRecDepth 10000 in
theorem readRight_any (t : Wt) (l : List Hv) (v0 v1 v2 vp v3 v4 v5 v6 v7 : Value) (w : World) (hi : t.In v0 v1 v2 v3 v4 v5 v6 v7 w w.heap.size) (hh : Heads w w.heap.size vp l) (hf : t.Lens) (hn : t.Nums) (hK : Keys w) :
    Calls Tryz.prog 44 #[.agg #[.string t.log, .string t.key, v0, .string t.h.log, .int .i64 t.h.size, .string t.h.root, .int .i64 t.h.time, .int .i64 t.h.k, v1, v2, vp, .bool t.found, .string t.a.log, .int .i64 t.a.size, .string t.a.root, .int .i64 t.a.time, .int .i64 t.a.k, v3, v4, .string t.b.log, .int .i64 t.b.size, .string t.b.root, .int .i64 t.b.time, .int .i64 t.b.k, v5, v6, v7], .agg #[.string t.log, .string t.key]] w fun e w' => e = .returned (.bool t.readB) ∧ Below w.heap.size w w' := by
  obtain ⟨a0, c0, rfl, z0⟩ := id hi.1
  obtain ⟨a1, c1, a2, c2, rfl, rfl⟩ := hi.2.1.parts
  obtain ⟨⟨ap, cp, rfl, zp⟩, zq⟩ := id hh
  obtain ⟨a3, c3, a4, c4, rfl, rfl⟩ := hi.2.2.1.parts
  obtain ⟨a5, c5, a6, c6, rfl, rfl⟩ := hi.2.2.2.1.parts
  obtain ⟨a7, c7, rfl, z7⟩ := id hi.2.2.2.2
  clear z0 zp zq z7
  obtain ⟨W, hW⟩ : ∃ W, W = ((w.alloc (.cells #[.string t.log, .string t.key, .slice a0 t.en.length c0, .string t.h.log, .int .i64 t.h.size, .string t.h.root, .int .i64 t.h.time, .int .i64 t.h.k, .slice a1 t.h.el.length c1, .slice a2 t.h.pl.length c2, .slice ap l.length cp, .bool t.found, .string t.a.log, .int .i64 t.a.size, .string t.a.root, .int .i64 t.a.time, .int .i64 t.a.k, .slice a3 t.a.el.length c3, .slice a4 t.a.pl.length c4, .string t.b.log, .int .i64 t.b.size, .string t.b.root, .int .i64 t.b.time, .int .i64 t.b.k, .slice a5 t.b.el.length c5, .slice a6 t.b.pl.length c6, .slice a7 t.fl.length c7] 41)).alloc (.cells #[.string t.log, .string t.key] 77)).alloc (.cells #[.slice a0 t.en.length c0, .string t.h.log, .int .i64 t.h.size, .string t.h.root, .int .i64 t.h.time, .int .i64 t.h.k, .slice a1 t.h.el.length c1, .slice a2 t.h.pl.length c2] 82) := ⟨_, rfl⟩
  have hbW : Below w.heap.size w W := by rw [hW]; exact (((Below.refl _ _).alloc (Nat.le_refl _) _).alloc (by simp) _).alloc (by simp; omega) _
  have hzW : W.heap.size = w.heap.size + 3 := by rw [hW]; simp
  have k0 : W.heap[w.heap.size]? = some (.cells #[.string t.log, .string t.key, .slice a0 t.en.length c0, .string t.h.log, .int .i64 t.h.size, .string t.h.root, .int .i64 t.h.time, .int .i64 t.h.k, .slice a1 t.h.el.length c1, .slice a2 t.h.pl.length c2, .slice ap l.length cp, .bool t.found, .string t.a.log, .int .i64 t.a.size, .string t.a.root, .int .i64 t.a.time, .int .i64 t.a.k, .slice a3 t.a.el.length c3, .slice a4 t.a.pl.length c4, .string t.b.log, .int .i64 t.b.size, .string t.b.root, .int .i64 t.b.time, .int .i64 t.b.k, .slice a5 t.b.el.length c5, .slice a6 t.b.pl.length c6, .slice a7 t.fl.length c7] 41 (0, 0)) := by rw [hW]; exact (heap_alloc_old _ _ (by simp; omega)).trans (heap_alloc2_old w _ _)
  have k1 : W.heap[w.heap.size + 1]? = some (.cells #[.string t.log, .string t.key] 77 (0, 0)) := by rw [hW]; exact (heap_alloc_old _ _ (by simp)).trans (heap_alloc2_new w _ _)
  have k2 : W.heap[w.heap.size + 1 + 1]? = some (.cells #[.slice a0 t.en.length c0, .string t.h.log, .int .i64 t.h.size, .string t.h.root, .int .i64 t.h.time, .int .i64 t.h.k, .slice a1 t.h.el.length c1, .slice a2 t.h.pl.length c2] 82 (0, 0)) := by
    rw [hW]
    have := heap_alloc_new ((w.alloc (.cells #[.string t.log, .string t.key, .slice a0 t.en.length c0, .string t.h.log, .int .i64 t.h.size, .string t.h.root, .int .i64 t.h.time, .int .i64 t.h.k, .slice a1 t.h.el.length c1, .slice a2 t.h.pl.length c2, .slice ap l.length cp, .bool t.found, .string t.a.log, .int .i64 t.a.size, .string t.a.root, .int .i64 t.a.time, .int .i64 t.a.k, .slice a3 t.a.el.length c3, .slice a4 t.a.pl.length c4, .string t.b.log, .int .i64 t.b.size, .string t.b.root, .int .i64 t.b.time, .int .i64 t.b.k, .slice a5 t.b.el.length c5, .slice a6 t.b.pl.length c6, .slice a7 t.fl.length c7] 41)).alloc (.cells #[.string t.log, .string t.key] 77)) (.cells #[.slice a0 t.en.length c0, .string t.h.log, .int .i64 t.h.size, .string t.h.root, .int .i64 t.h.time, .int .i64 t.h.k, .slice a1 t.h.el.length c1, .slice a2 t.h.pl.length c2] 82)
    simpa using this
  have hKW : Keys W := hK.below hbW hK.lt
  have E1 : Hid (Calls Tryz.prog 61 #[.agg #[.slice a0 t.en.length c0, .string t.h.log, .int .i64 t.h.size, .string t.h.root, .int .i64 t.h.time, .int .i64 t.h.k, .slice a1 t.h.el.length c1, .slice a2 t.h.pl.length c2]] W fun e w' => e = .returned (.bool (agreesB t.en t.h t.h.el.length t.h.pl.length)) ∧ Below W.heap.size W w') := agrees_any t.h _ t.en a1 a2 _ c1 _ c2 W (hi.1.on hbW) hf.2.2.1 hKW
  have E2 : Hid (∀ X, Below W.heap.size W X → Calls Tryz.prog 47 #[.agg #[.slice a0 t.en.length c0, .string t.h.log, .int .i64 t.h.size, .string t.h.root, .int .i64 t.h.time, .int .i64 t.h.k, .slice a1 t.h.el.length c1, .slice a2 t.h.pl.length c2]] X fun e w' => e = .returned (.bool (zeroX t.h t.h.el.length t.h.pl.length)) ∧ Below W.heap.size W w') := fun X q => (headless_any t.h a0 a1 a2 _ c0 _ c1 _ c2 X).mono fun e w' h => ⟨h.1, q.trans (h.2.mono q.size)⟩
  have E3 : Hid (∀ X, Below W.heap.size W X → Calls Tryz.prog 62 #[.agg #[.string t.log, .string t.key], .agg #[.string t.h.log, .int .i64 t.h.size, .string t.h.root, .int .i64 t.h.time, .int .i64 t.h.k, .slice a1 t.h.el.length c1, .slice a2 t.h.pl.length c2]] X fun e w' => e = .returned (.bool (sgB t.log t.key t.h)) ∧ Below W.heap.size W w') := fun X q => (signed_any t.log t.key t.h _ _ X ((hi.2.1.on hbW).on q) hf.2.2.2.1 hn.1 hf.2.1 (hKW.below q hKW.lt)).mono fun e w' h => ⟨h.1, q.trans (h.2.mono q.size)⟩
  have HR : Hid (∀ X, Below W.heap.size W X → X.heap[w.heap.size]? = some (.cells #[.string t.log, .string t.key, .slice a0 t.en.length c0, .string t.h.log, .int .i64 t.h.size, .string t.h.root, .int .i64 t.h.time, .int .i64 t.h.k, .slice a1 t.h.el.length c1, .slice a2 t.h.pl.length c2, .slice ap l.length cp, .bool t.found, .string t.a.log, .int .i64 t.a.size, .string t.a.root, .int .i64 t.a.time, .int .i64 t.a.k, .slice a3 t.a.el.length c3, .slice a4 t.a.pl.length c4, .string t.b.log, .int .i64 t.b.size, .string t.b.root, .int .i64 t.b.time, .int .i64 t.b.k, .slice a5 t.b.el.length c5, .slice a6 t.b.pl.length c6, .slice a7 t.fl.length c7] 41 (0, 0)) ∧ X.heap[w.heap.size + 1]? = some (.cells #[.string t.log, .string t.key] 77 (0, 0)) ∧ X.heap[w.heap.size + 1 + 1]? = some (.cells #[.slice a0 t.en.length c0, .string t.h.log, .int .i64 t.h.size, .string t.h.root, .int .i64 t.h.time, .int .i64 t.h.k, .slice a1 t.h.el.length c1, .slice a2 t.h.pl.length c2] 82 (0, 0))) := fun X q => ⟨(q.block _ (by omega)).trans k0, (q.block _ (by omega)).trans k1, (q.block _ (by omega)).trans k2⟩
  have H0 : Hid (Below w.heap.size w W) := hbW
  have HW : Hid (W = ((w.alloc (.cells #[.string t.log, .string t.key, .slice a0 t.en.length c0, .string t.h.log, .int .i64 t.h.size, .string t.h.root, .int .i64 t.h.time, .int .i64 t.h.k, .slice a1 t.h.el.length c1, .slice a2 t.h.pl.length c2, .slice ap l.length cp, .bool t.found, .string t.a.log, .int .i64 t.a.size, .string t.a.root, .int .i64 t.a.time, .int .i64 t.a.k, .slice a3 t.a.el.length c3, .slice a4 t.a.pl.length c4, .string t.b.log, .int .i64 t.b.size, .string t.b.root, .int .i64 t.b.time, .int .i64 t.b.k, .slice a5 t.b.el.length c5, .slice a6 t.b.pl.length c6, .slice a7 t.fl.length c7] 41)).alloc (.cells #[.string t.log, .string t.key] 77)).alloc (.cells #[.slice a0 t.en.length c0, .string t.h.log, .int .i64 t.h.size, .string t.h.root, .int .i64 t.h.time, .int .i64 t.h.k, .slice a1 t.h.el.length c1, .slice a2 t.h.pl.length c2] 82)) := hW
  unfold Wt.readB
  generalize agreesB t.en t.h t.h.el.length t.h.pl.length = bA at *
  generalize zeroX t.h t.h.el.length t.h.pl.length = bZ at *
  generalize sgB t.log t.key t.h = bS at *
  clear hi hh hf hn hK hKW hW hbW hzW k0 k1 k2
  go_enter Tryz.func44, Tryz.ntmps44
  go_wp2_with fail
  rw [← HW.out]
  clear HW
  refine E1.out.mono ?_
  rintro e w1 ⟨rfl, hb⟩
  have B1 : Hid (Below W.heap.size W w1) := hb
  clear hb E1
  cases bA with
  | false =>
    clear E2 E3 HR
    go_wp2
    go_ret
    exact ⟨rfl, H0.out.trans (B1.out.mono H0.out.size)⟩
  | true =>
    obtain ⟨r0, r1, r2⟩ := HR.out _ B1.out
    have x0 : w1.cell? ⟨w.heap.size + 1 + 1, 0, none⟩ = some (.slice a0 t.en.length c0) := row_here r2 0 _ rfl
    have x1 : w1.cell? ⟨w.heap.size + 1 + 1, 1, none⟩ = some (.string t.h.log) := row_here r2 1 _ rfl
    have x2 : w1.cell? ⟨w.heap.size + 1 + 1, 2, none⟩ = some (.int .i64 t.h.size) := row_here r2 2 _ rfl
    have x3 : w1.cell? ⟨w.heap.size + 1 + 1, 3, none⟩ = some (.string t.h.root) := row_here r2 3 _ rfl
    have x4 : w1.cell? ⟨w.heap.size + 1 + 1, 4, none⟩ = some (.int .i64 t.h.time) := row_here r2 4 _ rfl
    have x5 : w1.cell? ⟨w.heap.size + 1 + 1, 5, none⟩ = some (.int .i64 t.h.k) := row_here r2 5 _ rfl
    have x6 : w1.cell? ⟨w.heap.size + 1 + 1, 6, none⟩ = some (.slice a1 t.h.el.length c1) := row_here r2 6 _ rfl
    have x7 : w1.cell? ⟨w.heap.size + 1 + 1, 7, none⟩ = some (.slice a2 t.h.pl.length c2) := row_here r2 7 _ rfl
    clear r0 r1 r2
    go_wp2_with fail
    refine (E2.out _ B1.out).mono ?_
    rintro e w2 ⟨rfl, hb⟩
    have B2 : Hid (Below W.heap.size W w2) := hb
    clear hb E2 x0 x1 x2 x3 x4 x5 x6 x7
    cases bZ with
    | true =>
      clear E3 HR
      go_wp2
      go_ret
      exact ⟨rfl, H0.out.trans (B2.out.mono H0.out.size)⟩
    | false =>
      obtain ⟨r0, r1, r2⟩ := HR.out _ B2.out
      have x3 : w2.cell? ⟨w.heap.size, 3, none⟩ = some (.string t.h.log) := row_here r0 3 _ rfl
      have x4 : w2.cell? ⟨w.heap.size, 4, none⟩ = some (.int .i64 t.h.size) := row_here r0 4 _ rfl
      have x5 : w2.cell? ⟨w.heap.size, 5, none⟩ = some (.string t.h.root) := row_here r0 5 _ rfl
      have x6 : w2.cell? ⟨w.heap.size, 6, none⟩ = some (.int .i64 t.h.time) := row_here r0 6 _ rfl
      have x7 : w2.cell? ⟨w.heap.size, 7, none⟩ = some (.int .i64 t.h.k) := row_here r0 7 _ rfl
      have x8 : w2.cell? ⟨w.heap.size, 8, none⟩ = some (.slice a1 t.h.el.length c1) := row_here r0 8 _ rfl
      have x9 : w2.cell? ⟨w.heap.size, 9, none⟩ = some (.slice a2 t.h.pl.length c2) := row_here r0 9 _ rfl
      have y0 : w2.cell? ⟨w.heap.size + 1, 0, none⟩ = some (.string t.log) := row_here r1 0 _ rfl
      have y1 : w2.cell? ⟨w.heap.size + 1, 1, none⟩ = some (.string t.key) := row_here r1 1 _ rfl
      clear r0 r1 r2
      go_wp2_with fail
      refine (E3.out _ B2.out).mono ?_
      rintro e w3 ⟨rfl, hb⟩
      have B3 : Hid (Below W.heap.size W w3) := hb
      clear hb E3 HR x3 x4 x5 x6 x7 x8 x9 y0 y1
      go_wp2
      go_ret
      exact ⟨rfl, H0.out.trans (B3.out.mono H0.out.size)⟩
end Go.Proofs.YtcenlgfopmahcaaGreatDoor

/-
  Are the heads that wait of the log, and do their sizes rise? The program's test.
-/
namespace Go.Proofs.YtcenlgfopmahcaaGreatDoor
open Go.RowKit Go.Lib
set_option linter.unusedVariables false
set_option linter.unusedSimpArgs false

set_option maxHeartbeats 4000000 in
set_option maxRecDepth 10000 in
theorem poolRight_any (t : Wt) (l : List Hv) (v0 v1 v2 vp v3 v4 v5 v6 v7 : Value) (w : World) (hi : t.In v0 v1 v2 v3 v4 v5 v6 v7 w w.heap.size) (hh : Heads w w.heap.size vp l) (hf : t.Lens) (hl : HdsLim l) (hn : HdsNum l) (hK : Keys w) :
    Calls Tryz.prog 45 #[.agg #[.string t.log, .string t.key, v0, .string t.h.log, .int .i64 t.h.size, .string t.h.root, .int .i64 t.h.time, .int .i64 t.h.k, v1, v2, vp, .bool t.found, .string t.a.log, .int .i64 t.a.size, .string t.a.root, .int .i64 t.a.time, .int .i64 t.a.k, v3, v4, .string t.b.log, .int .i64 t.b.size, .string t.b.root, .int .i64 t.b.time, .int .i64 t.b.k, v5, v6, v7], .agg #[.string t.log, .string t.key]] w fun e w' => e = .returned (.bool (decide (l.length ≤ 5) && poolB t.log t.key t.en.length l)) ∧ Below w.heap.size w w' := by
  obtain ⟨a0, c0, rfl, z0⟩ := id hi.1
  obtain ⟨a1, c1, a2, c2, rfl, rfl⟩ := hi.2.1.parts
  obtain ⟨⟨ap, cp, rfl, hcap, hc⟩, hin⟩ := hh
  obtain ⟨a3, c3, a4, c4, rfl, rfl⟩ := hi.2.2.1.parts
  obtain ⟨a5, c5, a6, c6, rfl, rfl⟩ := hi.2.2.2.1.parts
  obtain ⟨a7, c7, rfl, z7⟩ := id hi.2.2.2.2
  clear z0 z7 hcap
  obtain ⟨W, hW⟩ : ∃ W, W = (w.alloc (.cells #[.string t.log, .string t.key, .slice a0 t.en.length c0, .string t.h.log, .int .i64 t.h.size, .string t.h.root, .int .i64 t.h.time, .int .i64 t.h.k, .slice a1 t.h.el.length c1, .slice a2 t.h.pl.length c2, .slice ap l.length cp, .bool t.found, .string t.a.log, .int .i64 t.a.size, .string t.a.root, .int .i64 t.a.time, .int .i64 t.a.k, .slice a3 t.a.el.length c3, .slice a4 t.a.pl.length c4, .string t.b.log, .int .i64 t.b.size, .string t.b.root, .int .i64 t.b.time, .int .i64 t.b.k, .slice a5 t.b.el.length c5, .slice a6 t.b.pl.length c6, .slice a7 t.fl.length c7] 41)).alloc (.cells #[.string t.log, .string t.key] 77) := ⟨_, rfl⟩
  have hbW : Below w.heap.size w W := by rw [hW]; exact ((Below.refl _ _).alloc (Nat.le_refl _) _).alloc (by simp) _
  have hzW : W.heap.size = w.heap.size + 2 := by rw [hW]; simp
  have k1 : W.heap[w.heap.size + 1]? = some (.cells #[.string t.log, .string t.key] 77 (0, 0)) := by rw [hW]; exact heap_alloc2_new w _ _
  have hKW : Keys W := hK.below hbW hK.lt
  have HC : Hid (l.length = 0 ∨ ∃ b off, ap = some ⟨b, off, none⟩ ∧ b < w.heap.size ∧ ∀ j (hj : j < l.length), l[j].At w b (off + j * 7)) := hc
  have HI : Hid (∀ j (hj : j < l.length), l[j].x.In l[j].e l[j].p W W.heap.size) := fun j hj => (hin j hj).on hbW
  have E1 : Hid (∀ (x : Hd) (ve vp : Value) X, Below W.heap.size W X → x.In ve vp X X.heap.size → x.Lim → x.Num → Calls Tryz.prog 62 #[.agg #[.string t.log, .string t.key], .agg #[.string x.log, .int .i64 x.size, .string x.root, .int .i64 x.time, .int .i64 x.k, ve, vp]] X fun e w' => e = .returned (.bool (sgB t.log t.key x)) ∧ Below X.heap.size X w') := fun x ve vp X q i1 i2 i3 => signed_any t.log t.key x ve vp X i1 i2 i3 hf.2.1 (hKW.below q hKW.lt)
  have HL : Hid (∀ j (hj : j < l.length), l[j].x.Lim ∧ l[j].x.Num) := fun j hj => ⟨hl.2 j hj, hn j hj⟩
  have HR : Hid (∀ X, Below W.heap.size W X → X.heap[w.heap.size + 1]? = some (.cells #[.string t.log, .string t.key] 77 (0, 0))) := fun X q => (q.block _ (by omega)).trans k1
  have H0 : Hid (Below w.heap.size w W ∧ W.heap.size = w.heap.size + 2) := ⟨hbW, hzW⟩
  have HW : Hid (W = (w.alloc (.cells #[.string t.log, .string t.key, .slice a0 t.en.length c0, .string t.h.log, .int .i64 t.h.size, .string t.h.root, .int .i64 t.h.time, .int .i64 t.h.k, .slice a1 t.h.el.length c1, .slice a2 t.h.pl.length c2, .slice ap l.length cp, .bool t.found, .string t.a.log, .int .i64 t.a.size, .string t.a.root, .int .i64 t.a.time, .int .i64 t.a.k, .slice a3 t.a.el.length c3, .slice a4 t.a.pl.length c4, .string t.b.log, .int .i64 t.b.size, .string t.b.root, .int .i64 t.b.time, .int .i64 t.b.k, .slice a5 t.b.el.length c5, .slice a6 t.b.pl.length c6, .slice a7 t.fl.length c7] 41)).alloc (.cells #[.string t.log, .string t.key] 77)) := hW
  have hlen := hl.1
  have henl := hf.2.2.1
  clear hi hin hc hf hl hn hK hKW hW hbW hzW k1
  by_cases h5 : 5 < l.length
  · have hd : decide (l.length ≤ 5) = false := decide_eq_false (by omega)
    have h5I : (5 : Int) < (l.length : Int) := by omega
    rw [hd]
    clear HC HI HL hd E1 HR
    go_enter Tryz.func45, Tryz.ntmps45
    go_wp2
    rw [← HW.out]
    go_ret
    exact ⟨rfl, H0.out.1⟩
  have hd : decide (l.length ≤ 5) = true := decide_eq_true (by omega)
  have h5I : ¬ (5 : Int) < (l.length : Int) := by omega
  rw [hd, Bool.true_and]
  clear hd
  obtain ⟨P, hP⟩ : ∃ P, P = poolB t.log t.key t.en.length l := ⟨_, rfl⟩
  rw [← hP]
  have HP : Hid (P = poolB t.log t.key t.en.length l) := hP
  clear hP
  obtain ⟨n, hn⟩ : ∃ n, n = l.length := ⟨_, rfl⟩
  have HN : Hid (n = l.length) := hn
  rw [← hn] at h5 h5I hlen HW
  rw [← hn]
  clear hn
  go_enter Tryz.func45, Tryz.ntmps45
  go_wp2_with fail
  rw [← HW.out]
  go_loopw [5, 18] (fun lv iv wr => ∃ (k : Nat) (last : Int), k ≤ n ∧ iv = .int .i64 k ∧ lv = .int .i64 last ∧ P = poolB t.log t.key last (l.drop k) ∧ Below W.heap.size W wr) (fun _ iv _ => n - (RowKit.intOf iv).toNat)
  case atStart => exact ⟨0, _, Nat.zero_le _, rfl, rfl, by rw [HP.out]; rfl, Below.refl _ _⟩
  case round =>
    obtain ⟨k, last, hk, rfl, rfl, hpl, hb⟩ := hrel
    have HB : Hid (Below W.heap.size W wr) := hb
    have HPL : Hid (P = poolB t.log t.key last (l.drop k)) := hpl
    clear hpl HP HW
    by_cases hkn : k < n
    · have hkl : k < l.length := by rw [← HN.out]; exact hkn
      rcases HC.out with h0 | ⟨b, off, rfl, hB, hat⟩
      · omega
      have hbw : Below w.heap.size w wr := H0.out.1.trans (hb.mono H0.out.1.size)
      have hseven := ((hat k hkl).same (hbw.block b hB)).seven
      have hpk := poolB_step (lg := t.log) (ky := t.key) (last := last) hkl
      rw [← HPL.out] at hpk
      have hin := (HI.out k hkl).on hb
      have hlim := HL.out k hkl
      clear HPL HC HI HL HN hat
      generalize l[k] = q at *
      obtain ⟨x, ve, vp⟩ := q
      dsimp only at hseven hpk hin hlim
      obtain ⟨qa, qc, qb, qd, rfl, rfl⟩ := hin.parts
      obtain ⟨s0, s1, s2, s3, s4, s5, s6⟩ := hseven
      have hr1 := HR.out _ hb
      have y0 : wr.cell? ⟨w.heap.size + 1, 0, none⟩ = some (.string t.log) := row_here hr1 0 _ rfl
      have y1 : wr.cell? ⟨w.heap.size + 1, 1, none⟩ = some (.string t.key) := row_here hr1 1 _ rfl
      have hlt1 : w.heap.size + 1 < wr.heap.size := (Array.getElem?_eq_some_iff.1 hr1).1
      have hne1 : ¬ wr.heap.size = w.heap.size + 1 := by omega
      have hltb : b < wr.heap.size := Nat.lt_of_lt_of_le hB hbw.size
      have hneb : ¬ wr.heap.size = b := by omega
      have hne2 : ¬ w.heap.size + 1 = wr.heap.size := by omega
      have hne3 : ¬ b = wr.heap.size := by omega
      obtain ⟨X, hX⟩ : ∃ X, X = wr.alloc (.cells #[.string x.log, .int .i64 x.size, .string x.root, .int .i64 x.time, .int .i64 x.k, .slice qa x.el.length qc, .slice qb x.pl.length qd] 37) := ⟨_, rfl⟩
      have hbX : Below wr.heap.size wr X := by rw [hX]; exact (Below.refl _ _).alloc (Nat.le_refl _) _
      have E2 : Hid (Calls Tryz.prog 62 #[.agg #[.string t.log, .string t.key], .agg #[.string x.log, .int .i64 x.size, .string x.root, .int .i64 x.time, .int .i64 x.k, .slice qa x.el.length qc, .slice qb x.pl.length qd]] X fun e w' => e = .returned (.bool (sgB t.log t.key x)) ∧ Below X.heap.size X w') := E1.out x _ _ X (hb.trans (hbX.mono hb.size)) (hin.on hbX) hlim.1 hlim.2
      have HX : Hid (X.heap[wr.heap.size]? = some (.cells #[.string x.log, .int .i64 x.size, .string x.root, .int .i64 x.time, .int .i64 x.k, .slice qa x.el.length qc, .slice qb x.pl.length qd] 37 (0, 0)) ∧ Below W.heap.size W X) := ⟨by rw [hX]; exact heap_alloc_new wr _, hb.trans (hbX.mono hb.size)⟩
      have HXE : Hid (X = wr.alloc (.cells #[.string x.log, .int .i64 x.size, .string x.root, .int .i64 x.time, .int .i64 x.k, .slice qa x.el.length qc, .slice qb x.pl.length qd] 37)) := hX
      have HPK : Hid (P = (decide (last < x.size) && (sgB t.log t.key x && poolB t.log t.key x.size (l.drop (k + 1))))) := hpk
      have hknI : (k : Int) < (n : Int) := by omega
      have hk0 : (0 : Int) ≤ (k : Int) := by omega
      clear hbw hb hin hlim hpk hr1 hX hbX E1 HR
      generalize sgB t.log t.key x = bS at *
      by_cases hle : x.size ≤ last
      · have HF : Hid (P = false) := by show _ = _; rw [HPK.out, decide_eq_false (by omega : ¬ last < x.size)]; rfl
        clear HPK E2
        go_wp2
        rw [← HXE.out]
        go_ret
        exact ⟨ret_bool HF.out.symm, H0.out.1.trans (HX.out.2.mono H0.out.1.size)⟩
      · have HS : Hid (P = (bS && poolB t.log t.key x.size (l.drop (k + 1)))) := by show _ = _; rw [HPK.out, decide_eq_true (by omega : last < x.size), Bool.true_and]
        clear HPK
        go_wp2_with fail
        rw [← HXE.out]
        clear HXE s0 s1 s2 s3 s4 s5 s6 y0 y1
        refine E2.out.mono ?_
        rintro e w1 ⟨rfl, hb1⟩
        have z1 : w1.cell? ⟨wr.heap.size, 1, none⟩ = some (.int .i64 x.size) := row_here ((hb1.block _ (Array.getElem?_eq_some_iff.1 HX.out.1).1).trans HX.out.1) 1 _ rfl
        have HB1 : Hid (Below W.heap.size W w1) := HX.out.2.trans (hb1.mono HX.out.2.size)
        clear hb1 E2 HX HB
        cases bS with
        | false =>
          have HF : Hid (P = false) := HS.out
          clear HS
          go_wp2
          go_ret
          exact ⟨ret_bool HF.out.symm, H0.out.1.trans (HB1.out.mono H0.out.1.size)⟩
        | true =>
          have HF : Hid (P = poolB t.log t.key x.size (l.drop (k + 1))) := HS.out
          clear HS
          go_wp2
          go_roundw
          case rel => exact ⟨k + 1, x.size, by omega, by go_num, rfl, HF.out, HB1.out⟩
          case measure => simp [RowKit.intOf]; omega
    · have HF : Hid (P = true) := by show _ = _; rw [HPL.out]; exact poolB_end (by have := HN.out; omega)
      clear HPL HC HI HL HN hb E1 HR
      go_wp2
      go_ret
      exact ⟨ret_bool HF.out.symm, H0.out.1.trans (HB.out.mono H0.out.1.size)⟩
end Go.Proofs.YtcenlgfopmahcaaGreatDoor
