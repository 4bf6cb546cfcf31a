/-
  A fraud that came in, opened from its cells.
-/
import Derived.Test.YtbngflmebdchlaaHdV
namespace Go.Proofs.Ytbngflmebdchlaa
open Go.RowKit Go.Lib
set_option linter.unusedVariables false
set_option linter.unusedSimpArgs false

open Go.ChangeShapes Go.WideShapes

theorem Hd.of_open {W : World} {log root : ByteArray} {size time k : Int} {ve vp : Value} {el pl : List ByteArray} (hl : log.size ≤ maxLen) (hr : root.size ≤ maxLen) (hs : (Lit.int .i64 size).wf = true) (ht : (Lit.int .i64 time).wf = true) (h1 : TextsArg W ve el) (h2 : TextsArg W vp pl) :
    Hd.Arg ⟨log, root, size, time, k, el, pl⟩ ve vp W := by
  unfold maxLen at hl hr
  exact ⟨⟨h1.1, h2.1⟩, ⟨int_bd hs, int_bd ht⟩, hl, hr, h1.2, h2.2⟩
theorem hd_open {H : Type} {enc : TypeId × Value → H} {W : World} {n : Nat} {cs : List Value} {x : DataW H × List MemPlace} (h : DataW.trod enc Try.prog W 0 (fun _ => true) true n 26 cs = some x) :
    ∃ (x : Hd) (ve vp : Value), cs = [.string x.log, .int .i64 x.size, .string x.root, .int .i64 x.time, .int .i64 x.k, ve, vp] ∧ x.Arg ve vp W := by
  obtain ⟨log, root, size, time, k, ve, vp, el, pl, e, hl, hr, hs, ht, _, h1, h2⟩ := head_open h
  exact ⟨⟨log, root, size, time, k, el, pl⟩, ve, vp, e, Hd.of_open hl hr hs ht h1 h2⟩
theorem fraud_open {H : Type} {enc : TypeId × Value → H} {W : World} {n : Nat} {cs : List Value} {x : DataW H × List MemPlace} (h : DataW.trod enc Try.prog W 0 (fun _ => true) true n 28 cs = some x) :
    ∃ (x y : Hd) (xe xp ye yp ve : Value) (l : List ByteArray), cs = [.string x.log, .int .i64 x.size, .string x.root, .int .i64 x.time, .int .i64 x.k, xe, xp, .string y.log, .int .i64 y.size, .string y.root, .int .i64 y.time, .int .i64 y.k, ye, yp, ve] ∧ x.Arg xe xp W ∧ y.Arg ye yp W ∧ TextsArg W ve l := by
  obtain ⟨xs, n, _, _, hl, hlen, hf⟩ := DataW.trod_struct Try.underlying28 h
  match xs, hlen with
  | [y0, y1, y2], _ =>
    have q0 : Try.prog.cellsOf 26 = 7 := by kernel_rfl
    have q1 : Try.prog.cellsOf 22 = 1 := by kernel_rfl
    have q2 : Try.prog.cellsOf 28 = 15 := by kernel_rfl
    have t0 : DataW.trod enc Try.prog W 0 (fun _ => true) true n 26 ((cs.drop 0).take (Try.prog.cellsOf 26)) = some y0 := hf 0 _ rfl
    have t1 : DataW.trod enc Try.prog W 0 (fun _ => true) true n 26 ((cs.drop 7).take (Try.prog.cellsOf 26)) = some y1 := hf 1 _ rfl
    have t2 : DataW.trod enc Try.prog W 0 (fun _ => true) true n 22 ((cs.drop 14).take (Try.prog.cellsOf 22)) = some y2 := hf 2 _ rfl
    obtain ⟨x, xe, xp, e0, hx⟩ := hd_open t0
    obtain ⟨y, ye, yp, e1, hy⟩ := hd_open t1
    obtain ⟨ve, l, e2, h3⟩ := texts_open t2
    rw [q0] at e0 e1
    rw [q1] at e2
    rw [q2] at hl
    refine ⟨x, y, xe, xp, ye, yp, ve, l, ?_, hx, hy, h3⟩
    exact (seg (o := 0) e0).trans (congrArg ([_, _, _, _, _, _, _] ++ ·) ((seg e1).trans (congrArg ([_, _, _, _, _, _, _] ++ ·) ((seg e2).trans (congrArg ([_] ++ ·) (seg_end hl))))))
theorem fraud_arg {H : Type} {enc : TypeId × Value → H} {W : World} {n : Nat} {cs : Array Value} {x : DataW H × List MemPlace} (h : DataW.trod enc Try.prog W 0 (fun _ => true) true n 28 (Value.agg cs).cells.toList = some x) :
    ∃ (x y : Hd) (xe xp ye yp ve : Value) (l : List ByteArray), cs = #[.string x.log, .int .i64 x.size, .string x.root, .int .i64 x.time, .int .i64 x.k, xe, xp, .string y.log, .int .i64 y.size, .string y.root, .int .i64 y.time, .int .i64 y.k, ye, yp, ve] ∧ x.Arg xe xp W ∧ y.Arg ye yp W ∧ TextsArg W ve l := by
  obtain ⟨x, y, xe, xp, ye, yp, ve, l, e, h⟩ := fraud_open h
  exact ⟨x, y, xe, xp, ye, yp, ve, l, Array.toList_inj.1 e, h⟩
end Go.Proofs.Ytbngflmebdchlaa
