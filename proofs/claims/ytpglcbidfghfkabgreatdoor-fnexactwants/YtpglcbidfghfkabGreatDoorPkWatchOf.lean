/-
  A watch at work: its pool is a map from sizes to heads.
-/
import Derived.Test.YtpglcbidfghfkabGreatDoorPkCopyHead
import Derived.Test.YtpglcbidfghfkabGreatDoorPkRightV
import Derived.Maps.Own
import Derived.Maps.OwnSet
import Derived.Lib.SlKeysI
namespace Go.Proofs.YtpglcbidfghfkabGreatDoor
open Go.RowKit Go.Lib
set_option linter.unusedVariables false
set_option linter.unusedSimpArgs false

open Go.Maps
/-- What a map holds is told as it is. -/
def heldR (v : Value) : Option (DataW Value × List MemPlace) := some (.held v, [])
def Hv.val (q : Hv) : Value := .agg q.cells.toArray
/-- The map that holds the heads l by their sizes. -/
def poolD (l : List Hv) : DataW Value := l.foldl (fun D q => D.put (.int .i64 q.x.size) (.held q.val)) (.map [])
theorem poolD_step (l : List Hv) {k : Nat} (hk : k < l.length) : poolD (l.take (k + 1)) = (poolD (l.take k)).put (.int .i64 l[k].x.size) (.held l[k].val) := by
  unfold poolD
  rw [List.take_succ_eq_append_getElem hk, List.foldl_append]
  rfl
theorem keys64 : Keyed Tryz.prog 2 := int_keyed Tryz.underlying2
theorem wf_bd {n : Int} (h : -9223372036854775808 ≤ n ∧ n ≤ 9223372036854775807) : (Lit.int .i64 n).wf = true := by simpa [Lit.wf, IntKind.min, IntKind.max, IntKind.bits, IntKind.signed] using h
/-- A watcher at work lies in the block g, its map in the block m. -/
def WAt (w : World) (g m : Nat) (t : Wt) (l : List Hv) (v0 v1 v2 v3 v4 v5 v6 v7 : Value) : Prop :=
  w.heap[g]? = some (.cells #[.string t.log, .string t.key, v0, .string t.h.log, .int .i64 t.h.size, .string t.h.root, .int .i64 t.h.time, .int .i64 t.h.k, v1, v2, .map (some m), .bool t.found, .string t.a.log, .int .i64 t.a.size, .string t.a.root, .int .i64 t.a.time, .int .i64 t.a.k, v3, v4, .string t.b.log, .int .i64 t.b.size, .string t.b.root, .int .i64 t.b.time, .int .i64 t.b.k, v5, v6, v7] 93 (0, 0)) ∧ w.ownsMap Tryz.prog 2 heldR m l.length (poolD l) ∧ m < g

set_option maxHeartbeats 4000000 in
set_option maxRecDepth 10000 in
theorem watcherOf_any (t : Wt) (l : List Hv) (v0 v1 v2 vp v3 v4 v5 v6 v7 : Value) (w : World) (hi : t.In v0 v1 v2 v3 v4 v5 v6 v7 w w.heap.size) (hh : Heads w w.heap.size vp l) (hn : ∀ j (hj : j < l.length), -9223372036854775808 ≤ l[j].x.size ∧ l[j].x.size ≤ 9223372036854775807) (hlen : l.length ≤ 1000000) :
    Calls Tryz.prog 46 #[.agg #[.string t.log, .string t.key, v0, .string t.h.log, .int .i64 t.h.size, .string t.h.root, .int .i64 t.h.time, .int .i64 t.h.k, v1, v2, vp, .bool t.found, .string t.a.log, .int .i64 t.a.size, .string t.a.root, .int .i64 t.a.time, .int .i64 t.a.k, v3, v4, .string t.b.log, .int .i64 t.b.size, .string t.b.root, .int .i64 t.b.time, .int .i64 t.b.k, v5, v6, v7]] w fun e w' => ∃ m g, e = .returned (.pointer (some ⟨g, 0, none⟩)) ∧ WAt w' g m t l v0 v1 v2 v3 v4 v5 v6 v7 ∧ w.heap.size ≤ m ∧ Below w.heap.size w w' := by
  obtain ⟨a0, c0, rfl, z0⟩ := id hi.1
  obtain ⟨a1, c1, a2, c2, rfl, rfl⟩ := hi.2.1.parts
  obtain ⟨⟨ap, cp, rfl, hcap, hc⟩, hin⟩ := hh
  obtain ⟨a3, c3, a4, c4, rfl, rfl⟩ := hi.2.2.1.parts
  obtain ⟨a5, c5, a6, c6, rfl, rfl⟩ := hi.2.2.2.1.parts
  obtain ⟨a7, c7, rfl, z7⟩ := id hi.2.2.2.2
  clear z0 z7 hcap
  obtain ⟨W, hW⟩ : ∃ W, W = (w.alloc (.cells #[.string t.log, .string t.key, .slice a0 t.en.length c0, .string t.h.log, .int .i64 t.h.size, .string t.h.root, .int .i64 t.h.time, .int .i64 t.h.k, .slice a1 t.h.el.length c1, .slice a2 t.h.pl.length c2, .slice ap l.length cp, .bool t.found, .string t.a.log, .int .i64 t.a.size, .string t.a.root, .int .i64 t.a.time, .int .i64 t.a.k, .slice a3 t.a.el.length c3, .slice a4 t.a.pl.length c4, .string t.b.log, .int .i64 t.b.size, .string t.b.root, .int .i64 t.b.time, .int .i64 t.b.k, .slice a5 t.b.el.length c5, .slice a6 t.b.pl.length c6, .slice a7 t.fl.length c7] 41)).alloc (.map #[] 0) := ⟨_, rfl⟩
  have hbW : Below w.heap.size w W := by rw [hW]; exact ((Below.refl _ _).alloc (Nat.le_refl _) _).alloc (by simp) _
  have hzW : W.heap.size = w.heap.size + 2 := by rw [hW]; simp
  have k0 : W.heap[w.heap.size]? = some (.cells #[.string t.log, .string t.key, .slice a0 t.en.length c0, .string t.h.log, .int .i64 t.h.size, .string t.h.root, .int .i64 t.h.time, .int .i64 t.h.k, .slice a1 t.h.el.length c1, .slice a2 t.h.pl.length c2, .slice ap l.length cp, .bool t.found, .string t.a.log, .int .i64 t.a.size, .string t.a.root, .int .i64 t.a.time, .int .i64 t.a.k, .slice a3 t.a.el.length c3, .slice a4 t.a.pl.length c4, .string t.b.log, .int .i64 t.b.size, .string t.b.root, .int .i64 t.b.time, .int .i64 t.b.k, .slice a5 t.b.el.length c5, .slice a6 t.b.pl.length c6, .slice a7 t.fl.length c7] 41 (0, 0)) := by rw [hW]; exact heap_alloc2_old w _ _
  have hmk : W.ownsMap Tryz.prog 2 heldR (w.heap.size + 1) 0 (.map []) := by
    rw [hW]
    have := World.ownsMap_made (w.alloc (.cells #[.string t.log, .string t.key, .slice a0 t.en.length c0, .string t.h.log, .int .i64 t.h.size, .string t.h.root, .int .i64 t.h.time, .int .i64 t.h.k, .slice a1 t.h.el.length c1, .slice a2 t.h.pl.length c2, .slice ap l.length cp, .bool t.found, .string t.a.log, .int .i64 t.a.size, .string t.a.root, .int .i64 t.a.time, .int .i64 t.a.k, .slice a3 t.a.el.length c3, .slice a4 t.a.pl.length c4, .string t.b.log, .int .i64 t.b.size, .string t.b.root, .int .i64 t.b.time, .int .i64 t.b.k, .slice a5 t.b.el.length c5, .slice a6 t.b.pl.length c6, .slice a7 t.fl.length c7] 41)) Tryz.prog 2 heldR
    simpa using this
  have HC : Hid (l.length = 0 ∨ ∃ b off, ap = some ⟨b, off, none⟩ ∧ b < w.heap.size ∧ ∀ j (hj : j < l.length), l[j].At w b (off + j * 7)) := hc
  have HI : Hid (∀ j (hj : j < l.length), l[j].x.In l[j].e l[j].p w w.heap.size ∧ (-9223372036854775808 ≤ l[j].x.size ∧ l[j].x.size ≤ 9223372036854775807)) := fun j hj => ⟨hin j hj, hn j hj⟩
  have H0 : Hid (Below w.heap.size w W ∧ W.heap.size = w.heap.size + 2 ∧ W.heap[w.heap.size]? = some (.cells #[.string t.log, .string t.key, .slice a0 t.en.length c0, .string t.h.log, .int .i64 t.h.size, .string t.h.root, .int .i64 t.h.time, .int .i64 t.h.k, .slice a1 t.h.el.length c1, .slice a2 t.h.pl.length c2, .slice ap l.length cp, .bool t.found, .string t.a.log, .int .i64 t.a.size, .string t.a.root, .int .i64 t.a.time, .int .i64 t.a.k, .slice a3 t.a.el.length c3, .slice a4 t.a.pl.length c4, .string t.b.log, .int .i64 t.b.size, .string t.b.root, .int .i64 t.b.time, .int .i64 t.b.k, .slice a5 t.b.el.length c5, .slice a6 t.b.pl.length c6, .slice a7 t.fl.length c7] 41 (0, 0)) ∧ W.ownsMap Tryz.prog 2 heldR (w.heap.size + 1) 0 (.map [])) := ⟨hbW, hzW, k0, hmk⟩
  have HW : Hid (W = (w.alloc (.cells #[.string t.log, .string t.key, .slice a0 t.en.length c0, .string t.h.log, .int .i64 t.h.size, .string t.h.root, .int .i64 t.h.time, .int .i64 t.h.k, .slice a1 t.h.el.length c1, .slice a2 t.h.pl.length c2, .slice ap l.length cp, .bool t.found, .string t.a.log, .int .i64 t.a.size, .string t.a.root, .int .i64 t.a.time, .int .i64 t.a.k, .slice a3 t.a.el.length c3, .slice a4 t.a.pl.length c4, .string t.b.log, .int .i64 t.b.size, .string t.b.root, .int .i64 t.b.time, .int .i64 t.b.k, .slice a5 t.b.el.length c5, .slice a6 t.b.pl.length c6, .slice a7 t.fl.length c7] 41)).alloc (.map #[] 0)) := hW
  obtain ⟨m, hm⟩ : ∃ m, m = w.heap.size + 1 := ⟨_, rfl⟩
  obtain ⟨b, hb⟩ : ∃ b, b = w.heap.size := ⟨_, rfl⟩
  have HM : Hid (m = w.heap.size + 1) := hm
  have HB : Hid (b = w.heap.size) := hb
  clear hi hin hc hn hW hbW hzW k0 hmk hm hb
  have hmm := @run_makeMap Tryz.prog
  go_enter Tryz.func46, Tryz.ntmps46
  go_wp2_with fail
  rw [← HW.out, ← HM.out, ← HB.out]
  go_loopw [10] (fun iv wr => ∃ k : Nat, k ≤ l.length ∧ iv = .int .i64 k ∧ wr.ownsMap Tryz.prog 2 heldR m k (poolD (l.take k)) ∧ W.grownBy wr (some m)) (fun iv _ => l.length - (RowKit.intOf iv).toNat)
  case atStart => exact ⟨0, Nat.zero_le _, rfl, by rw [List.take_zero, HM.out]; exact H0.out.2.2.2, ⟨rfl, rfl, rfl, Nat.le_refl _, fun _ _ _ => rfl⟩⟩
  case round =>
    clear hmm HW
    obtain ⟨k, hk, rfl, hown, hgr⟩ := hrel
    have HG : Hid (W.grownBy wr (some m)) := hgr
    by_cases hkn : k < l.length
    · rcases HC.out with h0 | ⟨pb, off, rfl, hB, hat⟩
      · omega
      have hzW := H0.out.2.1
      have hpb : wr.heap[pb]? = w.heap[pb]? := (hgr.block pb (by omega) (by have := HM.out; simp; omega)).trans (H0.out.1.block pb hB)
      have hseven := ((hat k hkn).same hpb).seven
      have hstep := poolD_step l hkn
      have hpi := HI.out k hkn
      clear HC HI hat hpb hgr
      generalize hq : l[k] = q at *
      clear hq
      obtain ⟨x, ve, vp⟩ := q
      dsimp only at hseven hstep hpi
      obtain ⟨qa, qc, qb, qd, rfl, rfl⟩ := hpi.1.parts
      obtain ⟨s0, s1, s2, s3, s4, s5, s6⟩ := hseven
      have hkey : keyOf Tryz.prog 2 (.int .i64 x.size) = some (.int .i64 x.size) := keyOf_int_mk Tryz.underlying2 (wf_bd hpi.2)
      have hgrs := HG.out.size
      have hltp : pb < wr.heap.size := by omega
      have hownX := hown.alloc (.cells #[.string x.log, .int .i64 x.size, .string x.root, .int .i64 x.time, .int .i64 x.k, .slice qa x.el.length qc, .slice qb x.pl.length qd] 36)
      have hknI : (k : Int) < (l.length : Int) := by omega
      have hk0 : (0 : Int) ≤ (k : Int) := by omega
      have HST : Hid (poolD (l.take (k + 1)) = (poolD (l.take k)).put (.int .i64 x.size) (.held (.agg #[.string x.log, .int .i64 x.size, .string x.root, .int .i64 x.time, .int .i64 x.k, .slice qa x.el.length qc, .slice qb x.pl.length qd]))) := hstep
      clear hstep hpi hown
      go_wp2_with (first
        | (at_mapUpdate; refine wpList_mapUpdate_own _ rfl _ _ _ 91 rfl 2 36 keys64 Tryz.underlying91 heldR m k _ rfl hownX (by unfold maxLen; omega) _ _ _ rfl rfl hkey (.held (.agg #[.string x.log, .int .i64 x.size, .string x.root, .int .i64 x.time, .int .i64 x.k, .slice qa x.el.length qc, .slice qb x.pl.length qd])) [] rfl ?_; intro w1 hown1 hgrow1))
      have HO : Hid (w1.ownsMap Tryz.prog 2 heldR m (k + 1) (poolD (l.take (k + 1))) ∧ W.grownBy w1 (some m)) := ⟨by rw [HST.out]; exact hown1, ⟨hgrow1.os.trans HG.out.os, hgrow1.tape.trans HG.out.tape, hgrow1.output.trans HG.out.output, Nat.le_trans HG.out.size (Nat.le_trans (by simp) hgrow1.size), fun i hi hne => (hgrow1.block i (Nat.lt_of_lt_of_le (Nat.lt_of_lt_of_le hi HG.out.size) (by simp)) hne).trans ((heap_alloc_old _ _ (Nat.lt_of_lt_of_le hi HG.out.size)).trans (HG.out.block i hi hne))⟩⟩
      clear hown1 hgrow1 hownX HST
      go_roundw
      case rel => exact ⟨k + 1, by omega, by go_num, HO.out.1, HO.out.2⟩
      case measure => simp [RowKit.intOf]; omega
    · have ek : k = l.length := by omega
      have r0 : wr.heap[b]? = some (.cells #[.string t.log, .string t.key, .slice a0 t.en.length c0, .string t.h.log, .int .i64 t.h.size, .string t.h.root, .int .i64 t.h.time, .int .i64 t.h.k, .slice a1 t.h.el.length c1, .slice a2 t.h.pl.length c2, .slice ap l.length cp, .bool t.found, .string t.a.log, .int .i64 t.a.size, .string t.a.root, .int .i64 t.a.time, .int .i64 t.a.k, .slice a3 t.a.el.length c3, .slice a4 t.a.pl.length c4, .string t.b.log, .int .i64 t.b.size, .string t.b.root, .int .i64 t.b.time, .int .i64 t.b.k, .slice a5 t.b.el.length c5, .slice a6 t.b.pl.length c6, .slice a7 t.fl.length c7] 41 (0, 0)) := (hgr.block b (by have := H0.out.2.1; have := HB.out; omega) (by have := HM.out; have := HB.out; simp; omega)).trans (by rw [HB.out]; exact H0.out.2.2.1)
      have y0 : wr.cell? ⟨b, 0, none⟩ = some (.string t.log) := row_here r0 0 _ rfl
      have y1 : wr.cell? ⟨b, 1, none⟩ = some (.string t.key) := row_here r0 1 _ rfl
      have y2 : wr.cell? ⟨b, 2, none⟩ = some (.slice a0 t.en.length c0) := row_here r0 2 _ rfl
      have y3 : wr.cell? ⟨b, 3, none⟩ = some (.string t.h.log) := row_here r0 3 _ rfl
      have y4 : wr.cell? ⟨b, 4, none⟩ = some (.int .i64 t.h.size) := row_here r0 4 _ rfl
      have y5 : wr.cell? ⟨b, 5, none⟩ = some (.string t.h.root) := row_here r0 5 _ rfl
      have y6 : wr.cell? ⟨b, 6, none⟩ = some (.int .i64 t.h.time) := row_here r0 6 _ rfl
      have y7 : wr.cell? ⟨b, 7, none⟩ = some (.int .i64 t.h.k) := row_here r0 7 _ rfl
      have y8 : wr.cell? ⟨b, 8, none⟩ = some (.slice a1 t.h.el.length c1) := row_here r0 8 _ rfl
      have y9 : wr.cell? ⟨b, 9, none⟩ = some (.slice a2 t.h.pl.length c2) := row_here r0 9 _ rfl
      have y10 : wr.cell? ⟨b, 10, none⟩ = some (.slice ap l.length cp) := row_here r0 10 _ rfl
      have y11 : wr.cell? ⟨b, 11, none⟩ = some (.bool t.found) := row_here r0 11 _ rfl
      have y12 : wr.cell? ⟨b, 12, none⟩ = some (.string t.a.log) := row_here r0 12 _ rfl
      have y13 : wr.cell? ⟨b, 13, none⟩ = some (.int .i64 t.a.size) := row_here r0 13 _ rfl
      have y14 : wr.cell? ⟨b, 14, none⟩ = some (.string t.a.root) := row_here r0 14 _ rfl
      have y15 : wr.cell? ⟨b, 15, none⟩ = some (.int .i64 t.a.time) := row_here r0 15 _ rfl
      have y16 : wr.cell? ⟨b, 16, none⟩ = some (.int .i64 t.a.k) := row_here r0 16 _ rfl
      have y17 : wr.cell? ⟨b, 17, none⟩ = some (.slice a3 t.a.el.length c3) := row_here r0 17 _ rfl
      have y18 : wr.cell? ⟨b, 18, none⟩ = some (.slice a4 t.a.pl.length c4) := row_here r0 18 _ rfl
      have y19 : wr.cell? ⟨b, 19, none⟩ = some (.string t.b.log) := row_here r0 19 _ rfl
      have y20 : wr.cell? ⟨b, 20, none⟩ = some (.int .i64 t.b.size) := row_here r0 20 _ rfl
      have y21 : wr.cell? ⟨b, 21, none⟩ = some (.string t.b.root) := row_here r0 21 _ rfl
      have y22 : wr.cell? ⟨b, 22, none⟩ = some (.int .i64 t.b.time) := row_here r0 22 _ rfl
      have y23 : wr.cell? ⟨b, 23, none⟩ = some (.int .i64 t.b.k) := row_here r0 23 _ rfl
      have y24 : wr.cell? ⟨b, 24, none⟩ = some (.slice a5 t.b.el.length c5) := row_here r0 24 _ rfl
      have y25 : wr.cell? ⟨b, 25, none⟩ = some (.slice a6 t.b.pl.length c6) := row_here r0 25 _ rfl
      have y26 : wr.cell? ⟨b, 26, none⟩ = some (.slice a7 t.fl.length c7) := row_here r0 26 _ rfl
      obtain ⟨w2, hw2⟩ : ∃ w2, w2 = wr.alloc (.cells #[.string t.log, .string t.key, .slice a0 t.en.length c0, .string t.h.log, .int .i64 t.h.size, .string t.h.root, .int .i64 t.h.time, .int .i64 t.h.k, .slice a1 t.h.el.length c1, .slice a2 t.h.pl.length c2, .map (some m), .bool t.found, .string t.a.log, .int .i64 t.a.size, .string t.a.root, .int .i64 t.a.time, .int .i64 t.a.k, .slice a3 t.a.el.length c3, .slice a4 t.a.pl.length c4, .string t.b.log, .int .i64 t.b.size, .string t.b.root, .int .i64 t.b.time, .int .i64 t.b.k, .slice a5 t.b.el.length c5, .slice a6 t.b.pl.length c6, .slice a7 t.fl.length c7] 93) := ⟨_, rfl⟩
      have HF : Hid (WAt w2 wr.heap.size m t l (.slice a0 t.en.length c0) (.slice a1 t.h.el.length c1) (.slice a2 t.h.pl.length c2) (.slice a3 t.a.el.length c3) (.slice a4 t.a.pl.length c4) (.slice a5 t.b.el.length c5) (.slice a6 t.b.pl.length c6) (.slice a7 t.fl.length c7) ∧ w.heap.size ≤ m ∧ Below w.heap.size w w2) := by
        have hmz := HM.out
        have hzW := H0.out.2.1
        have hgs := hgr.size
        rw [hw2]
        refine ⟨⟨heap_alloc_new wr _, ?_, by omega⟩, by omega, ?_⟩
        · rw [ek, List.take_length] at hown
          exact hown.alloc _
        · exact (below_own H0.out.1 hgr (by omega)).alloc (by omega) _
      have HW2 : Hid (w2 = wr.alloc (.cells #[.string t.log, .string t.key, .slice a0 t.en.length c0, .string t.h.log, .int .i64 t.h.size, .string t.h.root, .int .i64 t.h.time, .int .i64 t.h.k, .slice a1 t.h.el.length c1, .slice a2 t.h.pl.length c2, .map (some m), .bool t.found, .string t.a.log, .int .i64 t.a.size, .string t.a.root, .int .i64 t.a.time, .int .i64 t.a.k, .slice a3 t.a.el.length c3, .slice a4 t.a.pl.length c4, .string t.b.log, .int .i64 t.b.size, .string t.b.root, .int .i64 t.b.time, .int .i64 t.b.k, .slice a5 t.b.el.length c5, .slice a6 t.b.pl.length c6, .slice a7 t.fl.length c7] 93)) := hw2
      clear HC HI r0 hw2 hown hgr
      go_wp2
      rw [← HW2.out]
      go_ret
      exact ⟨m, wr.heap.size, rfl, HF.out⟩
end Go.Proofs.YtpglcbidfghfkabGreatDoor

/-
  The map of the heads that wait, as a list: their sizes rise.
-/
namespace Go.Proofs.YtpglcbidfghfkabGreatDoor
open Go.RowKit Go.Lib Go.Maps
set_option linter.unusedVariables false
set_option linter.unusedSimpArgs false

/-- The entries that hold the heads. -/
def ents (l : List Hv) : List (Lit × DataW Value) := l.map fun q => (.int .i64 q.x.size, .held q.val)
/-- Their sizes rise from last on. -/
def Rising : Int → List Hv → Prop
  | _, [] => True
  | last, q :: r => last < q.x.size ∧ Rising q.x.size r
theorem Rising.lower {a b : Int} {l : List Hv} (h : Rising b l) (hab : a ≤ b) : Rising a l := by
  cases l with
  | nil => trivial
  | cons q r => exact ⟨Int.lt_of_le_of_lt hab h.1, h.2⟩
theorem Rising.all {last : Int} {l : List Hv} (h : Rising last l) : ∀ q ∈ l, last < q.x.size := by
  induction l generalizing last with
  | nil => intro q hq; simp at hq
  | cons p r ih =>
    intro q hq
    rcases List.mem_cons.1 hq with rfl | hq
    · exact h.1
    · exact ih (h.2.lower (Int.le_of_lt h.1)) q hq
theorem poolB_rising {lg ky : ByteArray} {last : Int} {l : List Hv} (h : poolB lg ky last l = true) : Rising last l := by
  induction l generalizing last with
  | nil => trivial
  | cons q r ih =>
    unfold poolB at h
    rw [Bool.and_eq_true_iff, Bool.and_eq_true_iff] at h
    exact ⟨of_decide_eq_true h.1, ih h.2.2⟩
theorem insert_last {H : Type} (x : Lit × DataW H) : ∀ (es : List (Lit × DataW H)), (∀ p ∈ es, x.1.before p.1 = false) → DataW.insert x es = es ++ [x]
  | [], _ => rfl
  | p :: r, h => by
    unfold DataW.insert
    rw [if_neg (by rw [h p (List.mem_cons_self ..)]; simp), insert_last x r (fun q hq => h q (List.mem_cons_of_mem _ hq))]
    rfl
theorem put_last {H : Type} {es : List (Lit × DataW H)} {z : Int} {d : DataW H} (h : ∀ p ∈ es, ∃ a, p.1 = .int .i64 a ∧ a < z) : (DataW.map es).put (.int .i64 z) d = .map (es ++ [(.int .i64 z, d)]) := by
  rw [DataW.put_eq]
  unfold ChangeMaps.putKey
  have hf : es.filter (ChangeMaps.notKey (.int .i64 z)) = es := List.filter_eq_self.2 fun p hp => by
    obtain ⟨a, ha, hlt⟩ := h p hp
    unfold ChangeMaps.notKey
    rw [ha]
    have : ¬ a = z := by omega
    simp [Lit.sameKey, this]
  rw [hf, insert_last _ es (fun p hp => by
    obtain ⟨a, ha, hlt⟩ := h p hp
    rw [ha]
    have : ¬ z < a := by omega
    simp [Lit.before, this])]
theorem poolD_foldl : ∀ (r l : List Hv) (last : Int), (∀ q ∈ l, q.x.size ≤ last) → Rising last r → r.foldl (fun D q => DataW.put D (.int .i64 q.x.size) (.held q.val)) (.map (ents l)) = .map (ents (l ++ r))
  | [], l, last, _, _ => by simp
  | q :: r, l, last, h, hr => by
    rw [List.foldl_cons, put_last (fun p hp => by
      obtain ⟨q', hq', rfl⟩ := List.mem_map.1 hp
      exact ⟨q'.x.size, rfl, Int.lt_of_le_of_lt (h q' hq') hr.1⟩)]
    have e : ents l ++ [(.int .i64 q.x.size, .held q.val)] = ents (l ++ [q]) := by simp [ents]
    rw [e, poolD_foldl r (l ++ [q]) q.x.size (fun q' hq' => by
      rcases List.mem_append.1 hq' with hq' | hq'
      · exact Int.le_trans (h q' hq') (Int.le_of_lt hr.1)
      · have : q' = q := by simpa using hq'
        rw [this]
        exact Int.le_refl _) hr.2, List.append_assoc]
    rfl
/-- The map of heads whose sizes rise. -/
theorem poolD_rising {l : List Hv} {last : Int} (h : Rising last l) : poolD l = .map (ents l) := by
  have := poolD_foldl l [] last (fun q hq => absurd hq (by simp)) h
  simpa [poolD, ents] using this
theorem poolD_size {l : List Hv} {last : Int} (h : Rising last l) : Maps.size (poolD l) = l.length := by
  rw [poolD_rising h]
  simp [Maps.size, ents]
theorem poolD_keys {l : List Hv} {last : Int} (h : Rising last l) : intKeys (poolD l) = l.map fun q => q.x.size := by
  rw [poolD_rising h]
  show (ents l).map _ = _
  unfold ents
  rw [List.map_map]
  rfl
/-- What rises is sorted already. -/
theorem sort_rising : ∀ {l : List Hv} {last : Int}, Rising last l → (l.map fun q => q.x.size).Pairwise (fun x y => (decide (x ≤ y)) = true)
  | [], _, _ => List.Pairwise.nil
  | q :: r, _, h => List.Pairwise.cons (fun y hy => by
      obtain ⟨q', hq', rfl⟩ := List.mem_map.1 hy
      exact decide_eq_true (Int.le_of_lt (h.2.all q' hq'))) (sort_rising h.2)
theorem sizes_sorted {l : List Hv} {last : Int} {ss : List Int} (h : Rising last l) (hp : ss.Perm (intKeys (poolD l))) : ss.mergeSort (fun x y => decide (x ≤ y)) = l.map fun q => q.x.size := by
  rw [poolD_keys h] at hp
  have h1 : (ss.mergeSort (fun x y => decide (x ≤ y))).Perm (l.map fun q => q.x.size) := (List.mergeSort_perm ss _).trans hp
  have h2 : (ss.mergeSort (fun x y => decide (x ≤ y))).Pairwise (fun x y => (decide (x ≤ y)) = true) := List.pairwise_mergeSort (fun a b c hab hbc => by simp at *; omega) (fun a b => by simp; omega) ss
  exact h1.eq_of_pairwise (fun a b _ _ hab hba => by simp at *; omega) h2 (sort_rising h)
end Go.Proofs.YtpglcbidfghfkabGreatDoor
