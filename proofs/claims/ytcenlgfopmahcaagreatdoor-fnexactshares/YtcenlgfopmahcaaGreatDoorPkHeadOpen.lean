/-
  A head that came in, opened from its cells: its texts, its numbers and its signature's rows.
-/
import Derived.Test.YtcenlgfopmahcaaGreatDoorPkTexts
import Derived.SliceStrings
import Derived.ChangeSame
namespace Go.Proofs.YtcenlgfopmahcaaGreatDoor
open Go.ChangeShapes Go.WideShapes Go.RowKit
set_option linter.unusedVariables false
set_option linter.unusedSimpArgs false

theorem seg {cs s : List Value} {o m : Nat} (h : (cs.drop o).take m = s) : cs.drop o = s ++ cs.drop (o + m) := by
  subst h
  rw [← List.drop_drop]
  exact (List.take_append_drop m (cs.drop o)).symm
theorem seg_end {cs : List Value} {n : Nat} (h : cs.length = n) : cs.drop n = [] := by
  rw [← h]
  exact List.drop_length
theorem texts_open {H : Type} {enc : TypeId × Value → H} {W : World} {n : Nat} {cs : List Value} {x : DataW H × List MemPlace} (h : DataW.trod enc Tryz.prog W 0 (fun _ => true) true n 22 cs = some x) : ∃ (v : Value) (l : List ByteArray), cs = [v] ∧ TextsArg W v l := by
  rcases open_strings Tryz.underlying22 Tryz.underlying9 (by kernel_rfl) h with ⟨hcs, _⟩ | ⟨x, l, c, zs, hcs, _, hl, hm, hzs, _, hcell, hwz⟩
  · exact ⟨_, [], hcs, textsArg_nil W⟩
  · exact ⟨_, _, hcs, textsArg_of hl hm (by simpa using hzs) hcell hwz⟩
theorem sig_open {H : Type} {enc : TypeId × Value → H} {W : World} {n : Nat} {cs : List Value} {x : DataW H × List MemPlace} (h : DataW.trod enc Tryz.prog W 0 (fun _ => true) true n 24 cs = some x) :
    ∃ (k : Int) (ve vp : Value) (el pl : List ByteArray), cs = [.int .i64 k, ve, vp] ∧ (Lit.int .i64 k).wf = true ∧ TextsArg W ve el ∧ TextsArg W vp pl := by
  obtain ⟨xs, n, _, _, hl, hlen, hf⟩ := DataW.trod_struct Tryz.underlying24 h
  match xs, hlen with
  | [y0, y1, y2], _ =>
    have q0 : Tryz.prog.cellsOf 2 = 1 := by kernel_rfl
    have q1 : Tryz.prog.cellsOf 22 = 1 := by kernel_rfl
    have q2 : Tryz.prog.cellsOf 24 = 3 := by kernel_rfl
    have t0 : DataW.trod enc Tryz.prog W 0 (fun _ => true) true n 2 ((cs.drop 0).take (Tryz.prog.cellsOf 2)) = some y0 := hf 0 _ rfl
    have t1 : DataW.trod enc Tryz.prog W 0 (fun _ => true) true n 22 ((cs.drop 1).take (Tryz.prog.cellsOf 22)) = some y1 := hf 1 _ rfl
    have t2 : DataW.trod enc Tryz.prog W 0 (fun _ => true) true n 22 ((cs.drop 2).take (Tryz.prog.cellsOf 22)) = some y2 := hf 2 _ rfl
    obtain ⟨k, e0, _, wk⟩ := DataW.trod_int Tryz.underlying2 t0
    obtain ⟨ve, el, e1, w1⟩ := texts_open t1
    obtain ⟨vp, pl, e2, w2⟩ := texts_open t2
    rw [q0] at e0
    rw [q1] at e1 e2
    rw [q2] at hl
    refine ⟨k, ve, vp, el, pl, ?_, wk, w1, w2⟩
    exact (seg (o := 0) e0).trans (congrArg ([_] ++ ·) ((seg e1).trans (congrArg ([_] ++ ·) ((seg e2).trans (congrArg ([_] ++ ·) (seg_end hl))))))
theorem head_open {H : Type} {enc : TypeId × Value → H} {W : World} {n : Nat} {cs : List Value} {x : DataW H × List MemPlace} (h : DataW.trod enc Tryz.prog W 0 (fun _ => true) true n 26 cs = some x) :
    ∃ (log root : ByteArray) (size time k : Int) (ve vp : Value) (el pl : List ByteArray), cs = [.string log, .int .i64 size, .string root, .int .i64 time, .int .i64 k, ve, vp] ∧ log.size ≤ maxLen ∧ root.size ≤ maxLen ∧ (Lit.int .i64 size).wf = true ∧ (Lit.int .i64 time).wf = true ∧ (Lit.int .i64 k).wf = true ∧ TextsArg W ve el ∧ TextsArg W vp pl := by
  obtain ⟨xs, n, _, _, hl, hlen, hf⟩ := DataW.trod_struct Tryz.underlying26 h
  match xs, hlen with
  | [y0, y1, y2, y3, y4], _ =>
    have q0 : Tryz.prog.cellsOf 2 = 1 := by kernel_rfl
    have q1 : Tryz.prog.cellsOf 9 = 1 := by kernel_rfl
    have q2 : Tryz.prog.cellsOf 24 = 3 := by kernel_rfl
    have q3 : Tryz.prog.cellsOf 26 = 7 := by kernel_rfl
    have t0 : DataW.trod enc Tryz.prog W 0 (fun _ => true) true n 9 ((cs.drop 0).take (Tryz.prog.cellsOf 9)) = some y0 := hf 0 _ rfl
    have t1 : DataW.trod enc Tryz.prog W 0 (fun _ => true) true n 2 ((cs.drop 1).take (Tryz.prog.cellsOf 2)) = some y1 := hf 1 _ rfl
    have t2 : DataW.trod enc Tryz.prog W 0 (fun _ => true) true n 9 ((cs.drop 2).take (Tryz.prog.cellsOf 9)) = some y2 := hf 2 _ rfl
    have t3 : DataW.trod enc Tryz.prog W 0 (fun _ => true) true n 2 ((cs.drop 3).take (Tryz.prog.cellsOf 2)) = some y3 := hf 3 _ rfl
    have t4 : DataW.trod enc Tryz.prog W 0 (fun _ => true) true n 24 ((cs.drop 4).take (Tryz.prog.cellsOf 24)) = some y4 := hf 4 _ rfl
    obtain ⟨log, e0, _, wl⟩ := DataW.trod_string Tryz.underlying9 t0
    obtain ⟨size, e1, _, ws⟩ := DataW.trod_int Tryz.underlying2 t1
    obtain ⟨root, e2, _, wr⟩ := DataW.trod_string Tryz.underlying9 t2
    obtain ⟨time, e3, _, wt⟩ := DataW.trod_int Tryz.underlying2 t3
    obtain ⟨k, ve, vp, el, pl, e4, wk, w1, w2⟩ := sig_open t4
    rw [q0] at e1 e3
    rw [q1] at e0 e2
    rw [q2] at e4
    rw [q3] at hl
    refine ⟨log, root, size, time, k, ve, vp, el, pl, ?_, wl, wr, ws, wt, wk, w1, w2⟩
    exact (seg (o := 0) e0).trans (congrArg ([_] ++ ·) ((seg e1).trans (congrArg ([_] ++ ·) ((seg e2).trans (congrArg ([_] ++ ·) ((seg e3).trans (congrArg ([_] ++ ·) ((seg e4).trans (congrArg ([_, _, _] ++ ·) (seg_end hl))))))))))
theorem head_arg {H : Type} {enc : TypeId × Value → H} {W : World} {n : Nat} {cs : Array Value} {x : DataW H × List MemPlace} (h : DataW.trod enc Tryz.prog W 0 (fun _ => true) true n 26 (Value.agg cs).cells.toList = some x) :
    ∃ (log root : ByteArray) (size time k : Int) (ve vp : Value) (el pl : List ByteArray), cs = #[.string log, .int .i64 size, .string root, .int .i64 time, .int .i64 k, ve, vp] ∧ log.size ≤ maxLen ∧ root.size ≤ maxLen ∧ (Lit.int .i64 size).wf = true ∧ (Lit.int .i64 time).wf = true ∧ (Lit.int .i64 k).wf = true ∧ TextsArg W ve el ∧ TextsArg W vp pl := by
  obtain ⟨log, root, size, time, k, ve, vp, el, pl, e, w⟩ := head_open h
  exact ⟨log, root, size, time, k, ve, vp, el, pl, Array.toList_inj.1 e, w⟩
end Go.Proofs.YtcenlgfopmahcaaGreatDoor
