/-
  A watch at work: its pool is a map from sizes to heads.
-/
import Derived.Test.YtcenlgfopmahcaaGreatDoorPkCopyHead
import Derived.Maps.Own
import Derived.Maps.OwnSet
namespace Go.Proofs.YtcenlgfopmahcaaGreatDoor
open Go.RowKit Go.Lib
set_option linter.unusedVariables false
set_option linter.unusedSimpArgs false

open Go.Maps
/-- What a map holds is told as it is. -/
def heldR (v : Value) : Option (DataW Value × List MemPlace) := some (.held v, [])
def Hv.val (q : Hv) : Value := .agg q.cells.toArray
/-- The map that holds the heads l by their sizes. -/
def poolD (l : List Hv) : DataW Value := l.foldl (fun D q => D.put (.int .i64 q.x.size) (.held q.val)) (.map [])
theorem poolD_step (l : List Hv) {k : Nat} (hk : k < l.length) : poolD (l.take (k + 1)) = (poolD (l.take k)).put (.int .i64 l[k].x.size) (.held l[k].val) := by
  unfold poolD
  rw [List.take_succ_eq_append_getElem hk, List.foldl_append]
  rfl
theorem keys64 : Keyed Tryz.prog 2 := int_keyed Tryz.underlying2
theorem wf_bd {n : Int} (h : -9223372036854775808 ≤ n ∧ n ≤ 9223372036854775807) : (Lit.int .i64 n).wf = true := by simpa [Lit.wf, IntKind.min, IntKind.max, IntKind.bits, IntKind.signed] using h
/-- A watcher at work lies in the block g, its map in the block m. -/
def WAt (w : World) (g m : Nat) (t : Wt) (l : List Hv) (v0 v1 v2 v3 v4 v5 v6 v7 : Value) : Prop :=
  w.heap[g]? = some (.cells #[.string t.log, .string t.key, v0, .string t.h.log, .int .i64 t.h.size, .string t.h.root, .int .i64 t.h.time, .int .i64 t.h.k, v1, v2, .map (some m), .bool t.found, .string t.a.log, .int .i64 t.a.size, .string t.a.root, .int .i64 t.a.time, .int .i64 t.a.k, v3, v4, .string t.b.log, .int .i64 t.b.size, .string t.b.root, .int .i64 t.b.time, .int .i64 t.b.k, v5, v6, v7] 84 (0, 0)) ∧ w.ownsMap Tryz.prog 2 heldR m l.length (poolD l) ∧ m < g

set_option maxHeartbeats 4000000 in
set_option maxRecDepth 10000 in
theorem watcherOf_any (t : Wt) (l : List Hv) (v0 v1 v2 vp v3 v4 v5 v6 v7 : Value) (w : World) (hi : t.In v0 v1 v2 v3 v4 v5 v6 v7 w w.heap.size) (hh : Heads w w.heap.size vp l) (hn : ∀ j (hj : j < l.length), -9223372036854775808 ≤ l[j].x.size ∧ l[j].x.size ≤ 9223372036854775807) (hlen : l.length ≤ 1000000) :
    Calls Tryz.prog 25 #[.agg #[.string t.log, .string t.key, v0, .string t.h.log, .int .i64 t.h.size, .string t.h.root, .int .i64 t.h.time, .int .i64 t.h.k, v1, v2, vp, .bool t.found, .string t.a.log, .int .i64 t.a.size, .string t.a.root, .int .i64 t.a.time, .int .i64 t.a.k, v3, v4, .string t.b.log, .int .i64 t.b.size, .string t.b.root, .int .i64 t.b.time, .int .i64 t.b.k, v5, v6, v7]] w fun e w' => ∃ m g, e = .returned (.pointer (some ⟨g, 0, none⟩)) ∧ WAt w' g m t l v0 v1 v2 v3 v4 v5 v6 v7 ∧ w.heap.size ≤ m ∧ Below w.heap.size w w' := by
  obtain ⟨a0, c0, rfl, z0⟩ := id hi.1
  obtain ⟨a1, c1, a2, c2, rfl, rfl⟩ := hi.2.1.parts
  obtain ⟨⟨ap, cp, rfl, hcap, hc⟩, hin⟩ := hh
  obtain ⟨a3, c3, a4, c4, rfl, rfl⟩ := hi.2.2.1.parts
  obtain ⟨a5, c5, a6, c6, rfl, rfl⟩ := hi.2.2.2.1.parts
  obtain ⟨a7, c7, rfl, z7⟩ := id hi.2.2.2.2
  clear z0 z7 hcap
  obtain ⟨W, hW⟩ : ∃ W, W = (w.alloc (.cells #[.string t.log, .string t.key, .slice a0 t.en.length c0, .string t.h.log, .int .i64 t.h.size, .string t.h.root, .int .i64 t.h.time, .int .i64 t.h.k, .slice a1 t.h.el.length c1, .slice a2 t.h.pl.length c2, .slice ap l.length cp, .bool t.found, .string t.a.log, .int .i64 t.a.size, .string t.a.root, .int .i64 t.a.time, .int .i64 t.a.k, .slice a3 t.a.el.length c3, .slice a4 t.a.pl.length c4, .string t.b.log, .int .i64 t.b.size, .string t.b.root, .int .i64 t.b.time, .int .i64 t.b.k, .slice a5 t.b.el.length c5, .slice a6 t.b.pl.length c6, .slice a7 t.fl.length c7] 41)).alloc (.map #[] 0) := ⟨_, rfl⟩
  have hbW : Below w.heap.size w W := by rw [hW]; exact ((Below.refl _ _).alloc (Nat.le_refl _) _).alloc (by simp) _
  have hzW : W.heap.size = w.heap.size + 2 := by rw [hW]; simp
  have k0 : W.heap[w.heap.size]? = some (.cells #[.string t.log, .string t.key, .slice a0 t.en.length c0, .string t.h.log, .int .i64 t.h.size, .string t.h.root, .int .i64 t.h.time, .int .i64 t.h.k, .slice a1 t.h.el.length c1, .slice a2 t.h.pl.length c2, .slice ap l.length cp, .bool t.found, .string t.a.log, .int .i64 t.a.size, .string t.a.root, .int .i64 t.a.time, .int .i64 t.a.k, .slice a3 t.a.el.length c3, .slice a4 t.a.pl.length c4, .string t.b.log, .int .i64 t.b.size, .string t.b.root, .int .i64 t.b.time, .int .i64 t.b.k, .slice a5 t.b.el.length c5, .slice a6 t.b.pl.length c6, .slice a7 t.fl.length c7] 41 (0, 0)) := by rw [hW]; exact heap_alloc2_old w _ _
  have hmk : W.ownsMap Tryz.prog 2 heldR (w.heap.size + 1) 0 (.map []) := by
    rw [hW]
    have := World.ownsMap_made (w.alloc (.cells #[.string t.log, .string t.key, .slice a0 t.en.length c0, .string t.h.log, .int .i64 t.h.size, .string t.h.root, .int .i64 t.h.time, .int .i64 t.h.k, .slice a1 t.h.el.length c1, .slice a2 t.h.pl.length c2, .slice ap l.length cp, .bool t.found, .string t.a.log, .int .i64 t.a.size, .string t.a.root, .int .i64 t.a.time, .int .i64 t.a.k, .slice a3 t.a.el.length c3, .slice a4 t.a.pl.length c4, .string t.b.log, .int .i64 t.b.size, .string t.b.root, .int .i64 t.b.time, .int .i64 t.b.k, .slice a5 t.b.el.length c5, .slice a6 t.b.pl.length c6, .slice a7 t.fl.length c7] 41)) Tryz.prog 2 heldR
    simpa using this
  have HC : Hid (l.length = 0 ∨ ∃ b off, ap = some ⟨b, off, none⟩ ∧ b < w.heap.size ∧ ∀ j (hj : j < l.length), l[j].At w b (off + j * 7)) := hc
  have HI : Hid (∀ j (hj : j < l.length), l[j].x.In l[j].e l[j].p w w.heap.size ∧ (-9223372036854775808 ≤ l[j].x.size ∧ l[j].x.size ≤ 9223372036854775807)) := fun j hj => ⟨hin j hj, hn j hj⟩
  have H0 : Hid (Below w.heap.size w W ∧ W.heap.size = w.heap.size + 2 ∧ W.heap[w.heap.size]? = some (.cells #[.string t.log, .string t.key, .slice a0 t.en.length c0, .string t.h.log, .int .i64 t.h.size, .string t.h.root, .int .i64 t.h.time, .int .i64 t.h.k, .slice a1 t.h.el.length c1, .slice a2 t.h.pl.length c2, .slice ap l.length cp, .bool t.found, .string t.a.log, .int .i64 t.a.size, .string t.a.root, .int .i64 t.a.time, .int .i64 t.a.k, .slice a3 t.a.el.length c3, .slice a4 t.a.pl.length c4, .string t.b.log, .int .i64 t.b.size, .string t.b.root, .int .i64 t.b.time, .int .i64 t.b.k, .slice a5 t.b.el.length c5, .slice a6 t.b.pl.length c6, .slice a7 t.fl.length c7] 41 (0, 0)) ∧ W.ownsMap Tryz.prog 2 heldR (w.heap.size + 1) 0 (.map [])) := ⟨hbW, hzW, k0, hmk⟩
  have HW : Hid (W = (w.alloc (.cells #[.string t.log, .string t.key, .slice a0 t.en.length c0, .string t.h.log, .int .i64 t.h.size, .string t.h.root, .int .i64 t.h.time, .int .i64 t.h.k, .slice a1 t.h.el.length c1, .slice a2 t.h.pl.length c2, .slice ap l.length cp, .bool t.found, .string t.a.log, .int .i64 t.a.size, .string t.a.root, .int .i64 t.a.time, .int .i64 t.a.k, .slice a3 t.a.el.length c3, .slice a4 t.a.pl.length c4, .string t.b.log, .int .i64 t.b.size, .string t.b.root, .int .i64 t.b.time, .int .i64 t.b.k, .slice a5 t.b.el.length c5, .slice a6 t.b.pl.length c6, .slice a7 t.fl.length c7] 41)).alloc (.map #[] 0)) := hW
  obtain ⟨m, hm⟩ : ∃ m, m = w.heap.size + 1 := ⟨_, rfl⟩
  obtain ⟨b, hb⟩ : ∃ b, b = w.heap.size := ⟨_, rfl⟩
  have HM : Hid (m = w.heap.size + 1) := hm
  have HB : Hid (b = w.heap.size) := hb
  clear hi hin hc hn hW hbW hzW k0 hmk hm hb
  have hmm := @run_makeMap Tryz.prog
  go_enter Tryz.func25, Tryz.ntmps25
  go_wp2_with fail
  rw [← HW.out, ← HM.out, ← HB.out]
  go_loopw [10] (fun iv wr => ∃ k : Nat, k ≤ l.length ∧ iv = .int .i64 k ∧ wr.ownsMap Tryz.prog 2 heldR m k (poolD (l.take k)) ∧ W.grownBy wr (some m)) (fun iv _ => l.length - (RowKit.intOf iv).toNat)
  case atStart => exact ⟨0, Nat.zero_le _, rfl, by rw [List.take_zero, HM.out]; exact H0.out.2.2.2, ⟨rfl, rfl, rfl, Nat.le_refl _, fun _ _ _ => rfl⟩⟩
  case round =>
    clear hmm HW
    obtain ⟨k, hk, rfl, hown, hgr⟩ := hrel
    have HG : Hid (W.grownBy wr (some m)) := hgr
    by_cases hkn : k < l.length
    · rcases HC.out with h0 | ⟨pb, off, rfl, hB, hat⟩
      · omega
      have hzW := H0.out.2.1
      have hpb : wr.heap[pb]? = w.heap[pb]? := (hgr.block pb (by omega) (by have := HM.out; simp; omega)).trans (H0.out.1.block pb hB)
      have hseven := ((hat k hkn).same hpb).seven
      have hstep := poolD_step l hkn
      have hpi := HI.out k hkn
      clear HC HI hat hpb hgr
      generalize hq : l[k] = q at *
      clear hq
      obtain ⟨x, ve, vp⟩ := q
      dsimp only at hseven hstep hpi
      obtain ⟨qa, qc, qb, qd, rfl, rfl⟩ := hpi.1.parts
      obtain ⟨s0, s1, s2, s3, s4, s5, s6⟩ := hseven
      have hkey : keyOf Tryz.prog 2 (.int .i64 x.size) = some (.int .i64 x.size) := keyOf_int_mk Tryz.underlying2 (wf_bd hpi.2)
      have hgrs := HG.out.size
      have hltp : pb < wr.heap.size := by omega
      have hownX := hown.alloc (.cells #[.string x.log, .int .i64 x.size, .string x.root, .int .i64 x.time, .int .i64 x.k, .slice qa x.el.length qc, .slice qb x.pl.length qd] 37)
      have hknI : (k : Int) < (l.length : Int) := by omega
      have hk0 : (0 : Int) ≤ (k : Int) := by omega
      have HST : Hid (poolD (l.take (k + 1)) = (poolD (l.take k)).put (.int .i64 x.size) (.held (.agg #[.string x.log, .int .i64 x.size, .string x.root, .int .i64 x.time, .int .i64 x.k, .slice qa x.el.length qc, .slice qb x.pl.length qd]))) := hstep
      clear hstep hpi hown
      go_wp2_with (first
        | (at_mapUpdate; refine wpList_mapUpdate_own _ rfl _ _ _ 80 rfl 2 37 keys64 Tryz.underlying80 heldR m k _ rfl hownX (by unfold maxLen; omega) _ _ _ rfl rfl hkey (.held (.agg #[.string x.log, .int .i64 x.size, .string x.root, .int .i64 x.time, .int .i64 x.k, .slice qa x.el.length qc, .slice qb x.pl.length qd])) [] rfl ?_; intro w1 hown1 hgrow1))
      have HO : Hid (w1.ownsMap Tryz.prog 2 heldR m (k + 1) (poolD (l.take (k + 1))) ∧ W.grownBy w1 (some m)) := ⟨by rw [HST.out]; exact hown1, ⟨hgrow1.os.trans HG.out.os, hgrow1.tape.trans HG.out.tape, hgrow1.output.trans HG.out.output, Nat.le_trans HG.out.size (Nat.le_trans (by simp) hgrow1.size), fun i hi hne => (hgrow1.block i (Nat.lt_of_lt_of_le (Nat.lt_of_lt_of_le hi HG.out.size) (by simp)) hne).trans ((heap_alloc_old _ _ (Nat.lt_of_lt_of_le hi HG.out.size)).trans (HG.out.block i hi hne))⟩⟩
      clear hown1 hgrow1 hownX HST
      go_roundw
      case rel => exact ⟨k + 1, by omega, by go_num, HO.out.1, HO.out.2⟩
      case measure => simp [RowKit.intOf]; omega
    · have ek : k = l.length := by omega
      have r0 : wr.heap[b]? = some (.cells #[.string t.log, .string t.key, .slice a0 t.en.length c0, .string t.h.log, .int .i64 t.h.size, .string t.h.root, .int .i64 t.h.time, .int .i64 t.h.k, .slice a1 t.h.el.length c1, .slice a2 t.h.pl.length c2, .slice ap l.length cp, .bool t.found, .string t.a.log, .int .i64 t.a.size, .string t.a.root, .int .i64 t.a.time, .int .i64 t.a.k, .slice a3 t.a.el.length c3, .slice a4 t.a.pl.length c4, .string t.b.log, .int .i64 t.b.size, .string t.b.root, .int .i64 t.b.time, .int .i64 t.b.k, .slice a5 t.b.el.length c5, .slice a6 t.b.pl.length c6, .slice a7 t.fl.length c7] 41 (0, 0)) := (hgr.block b (by have := H0.out.2.1; have := HB.out; omega) (by have := HM.out; have := HB.out; simp; omega)).trans (by rw [HB.out]; exact H0.out.2.2.1)
      have y0 : wr.cell? ⟨b, 0, none⟩ = some (.string t.log) := row_here r0 0 _ rfl
      have y1 : wr.cell? ⟨b, 1, none⟩ = some (.string t.key) := row_here r0 1 _ rfl
      have y2 : wr.cell? ⟨b, 2, none⟩ = some (.slice a0 t.en.length c0) := row_here r0 2 _ rfl
      have y3 : wr.cell? ⟨b, 3, none⟩ = some (.string t.h.log) := row_here r0 3 _ rfl
      have y4 : wr.cell? ⟨b, 4, none⟩ = some (.int .i64 t.h.size) := row_here r0 4 _ rfl
      have y5 : wr.cell? ⟨b, 5, none⟩ = some (.string t.h.root) := row_here r0 5 _ rfl
      have y6 : wr.cell? ⟨b, 6, none⟩ = some (.int .i64 t.h.time) := row_here r0 6 _ rfl
      have y7 : wr.cell? ⟨b, 7, none⟩ = some (.int .i64 t.h.k) := row_here r0 7 _ rfl
      have y8 : wr.cell? ⟨b, 8, none⟩ = some (.slice a1 t.h.el.length c1) := row_here r0 8 _ rfl
      have y9 : wr.cell? ⟨b, 9, none⟩ = some (.slice a2 t.h.pl.length c2) := row_here r0 9 _ rfl
      have y10 : wr.cell? ⟨b, 10, none⟩ = some (.slice ap l.length cp) := row_here r0 10 _ rfl
      have y11 : wr.cell? ⟨b, 11, none⟩ = some (.bool t.found) := row_here r0 11 _ rfl
      have y12 : wr.cell? ⟨b, 12, none⟩ = some (.string t.a.log) := row_here r0 12 _ rfl
      have y13 : wr.cell? ⟨b, 13, none⟩ = some (.int .i64 t.a.size) := row_here r0 13 _ rfl
      have y14 : wr.cell? ⟨b, 14, none⟩ = some (.string t.a.root) := row_here r0 14 _ rfl
      have y15 : wr.cell? ⟨b, 15, none⟩ = some (.int .i64 t.a.time) := row_here r0 15 _ rfl
      have y16 : wr.cell? ⟨b, 16, none⟩ = some (.int .i64 t.a.k) := row_here r0 16 _ rfl
      have y17 : wr.cell? ⟨b, 17, none⟩ = some (.slice a3 t.a.el.length c3) := row_here r0 17 _ rfl
      have y18 : wr.cell? ⟨b, 18, none⟩ = some (.slice a4 t.a.pl.length c4) := row_here r0 18 _ rfl
      have y19 : wr.cell? ⟨b, 19, none⟩ = some (.string t.b.log) := row_here r0 19 _ rfl
      have y20 : wr.cell? ⟨b, 20, none⟩ = some (.int .i64 t.b.size) := row_here r0 20 _ rfl
      have y21 : wr.cell? ⟨b, 21, none⟩ = some (.string t.b.root) := row_here r0 21 _ rfl
      have y22 : wr.cell? ⟨b, 22, none⟩ = some (.int .i64 t.b.time) := row_here r0 22 _ rfl
      have y23 : wr.cell? ⟨b, 23, none⟩ = some (.int .i64 t.b.k) := row_here r0 23 _ rfl
      have y24 : wr.cell? ⟨b, 24, none⟩ = some (.slice a5 t.b.el.length c5) := row_here r0 24 _ rfl
      have y25 : wr.cell? ⟨b, 25, none⟩ = some (.slice a6 t.b.pl.length c6) := row_here r0 25 _ rfl
      have y26 : wr.cell? ⟨b, 26, none⟩ = some (.slice a7 t.fl.length c7) := row_here r0 26 _ rfl
      obtain ⟨w2, hw2⟩ : ∃ w2, w2 = wr.alloc (.cells #[.string t.log, .string t.key, .slice a0 t.en.length c0, .string t.h.log, .int .i64 t.h.size, .string t.h.root, .int .i64 t.h.time, .int .i64 t.h.k, .slice a1 t.h.el.length c1, .slice a2 t.h.pl.length c2, .map (some m), .bool t.found, .string t.a.log, .int .i64 t.a.size, .string t.a.root, .int .i64 t.a.time, .int .i64 t.a.k, .slice a3 t.a.el.length c3, .slice a4 t.a.pl.length c4, .string t.b.log, .int .i64 t.b.size, .string t.b.root, .int .i64 t.b.time, .int .i64 t.b.k, .slice a5 t.b.el.length c5, .slice a6 t.b.pl.length c6, .slice a7 t.fl.length c7] 84) := ⟨_, rfl⟩
      have HF : Hid (WAt w2 wr.heap.size m t l (.slice a0 t.en.length c0) (.slice a1 t.h.el.length c1) (.slice a2 t.h.pl.length c2) (.slice a3 t.a.el.length c3) (.slice a4 t.a.pl.length c4) (.slice a5 t.b.el.length c5) (.slice a6 t.b.pl.length c6) (.slice a7 t.fl.length c7) ∧ w.heap.size ≤ m ∧ Below w.heap.size w w2) := by
        have hmz := HM.out
        have hzW := H0.out.2.1
        have hgs := hgr.size
        rw [hw2]
        refine ⟨⟨heap_alloc_new wr _, ?_, by omega⟩, by omega, ?_⟩
        · rw [ek, List.take_length] at hown
          exact hown.alloc _
        · exact (below_own H0.out.1 hgr (by omega)).alloc (by omega) _
      have HW2 : Hid (w2 = wr.alloc (.cells #[.string t.log, .string t.key, .slice a0 t.en.length c0, .string t.h.log, .int .i64 t.h.size, .string t.h.root, .int .i64 t.h.time, .int .i64 t.h.k, .slice a1 t.h.el.length c1, .slice a2 t.h.pl.length c2, .map (some m), .bool t.found, .string t.a.log, .int .i64 t.a.size, .string t.a.root, .int .i64 t.a.time, .int .i64 t.a.k, .slice a3 t.a.el.length c3, .slice a4 t.a.pl.length c4, .string t.b.log, .int .i64 t.b.size, .string t.b.root, .int .i64 t.b.time, .int .i64 t.b.k, .slice a5 t.b.el.length c5, .slice a6 t.b.pl.length c6, .slice a7 t.fl.length c7] 84)) := hw2
      clear HC HI r0 hw2 hown hgr
      go_wp2
      rw [← HW2.out]
      go_ret
      exact ⟨m, wr.heap.size, rfl, HF.out⟩
end Go.Proofs.YtcenlgfopmahcaaGreatDoor
