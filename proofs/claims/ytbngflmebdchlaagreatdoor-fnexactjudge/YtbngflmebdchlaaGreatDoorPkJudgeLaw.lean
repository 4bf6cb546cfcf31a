/-
  The walk of the exact law of Judge. Conditions: the program's two variables hold the rounds' numbers and the one sentinel.
-/
import Derived.Test.YtbngflmebdchlaaGreatDoorPkHdV
import Derived.Test.YtbngflmebdchlaaGreatDoorPkImplJudge
import Derived.Test.YtbngflmebdchlaaGreatDoorPkSpecJudge
import Derived.Deep.RegionWith
import Derived.Deep.RegionHeld3
namespace Go.Proofs.YtbngflmebdchlaaGreatDoor
open Go.RowKit Go.Lib
set_option linter.unusedVariables false
set_option linter.unusedSimpArgs false

/-- In between: the fraud that came in, in its block. -/
def FrIn (w : World) (cs : Array Value) (W : World) : Prop := Below w.heap.size w W ∧ W.heap[w.heap.size]? = some (.cells cs 59 (0, 0))
theorem FrIn.below {w W W' : World} {cs : Array Value} (h : FrIn w cs W) (hb : Below W.heap.size W W') : FrIn w cs W' := ⟨h.1.trans (hb.mono h.1.size), (hb.block _ (Array.getElem?_eq_some_iff.1 h.2).1).trans h.2⟩
theorem FrIn.drew {w W : World} {cs : Array Value} (h : FrIn w cs W) : FrIn w cs W.drew := ⟨below_drew' h.1, h.2⟩

set_option maxHeartbeats 4000000 in
set_option maxRecDepth 10000 in
theorem lawJudge_any (r : ByteArray) (x y : Hd) (xe xp ye yp ve : Value) (l : List ByteArray) (w : World) (hx : x.Arg xe xp w) (hy : y.Arg ye yp w) (h3 : TextsArg w ve l) (hrl : r.size ≤ maxLen) (hK : Keys w) (hS : Sentinel w) :
    Calls Tryz.prog 5 #[.string r, .agg #[.string x.log, .int .i64 x.size, .string x.root, .int .i64 x.time, .int .i64 x.k, xe, xp, .string y.log, .int .i64 y.size, .string y.root, .int .i64 y.time, .int .i64 y.k, ye, yp, ve]] w fun e w' => e = .returned (.bool true) ∧ Below w.heap.size w w' := by
  unfold maxLen at hrl
  have HKS : Hid (Keys w ∧ Sentinel w) := ⟨hK, hS⟩
  clear hK hS
  obtain ⟨a1, s1, b1, t1, rfl, rfl⟩ := hx.1.parts
  obtain ⟨a2, s2, b2, t2, rfl, rfl⟩ := hy.1.parts
  obtain ⟨ae, ce, rfl, _⟩ := id h3.1
  obtain ⟨W, hW⟩ : ∃ W, W = w.alloc (.cells #[.string x.log, .int .i64 x.size, .string x.root, .int .i64 x.time, .int .i64 x.k, .slice a1 x.el.length s1, .slice b1 x.pl.length t1, .string y.log, .int .i64 y.size, .string y.root, .int .i64 y.time, .int .i64 y.k, .slice a2 y.el.length s2, .slice b2 y.pl.length t2, .slice ae l.length ce] 59) := ⟨_, rfl⟩
  have hi : FrIn w #[.string x.log, .int .i64 x.size, .string x.root, .int .i64 x.time, .int .i64 x.k, .slice a1 x.el.length s1, .slice b1 x.pl.length t1, .string y.log, .int .i64 y.size, .string y.root, .int .i64 y.time, .int .i64 y.k, .slice a2 y.el.length s2, .slice b2 y.pl.length t2, .slice ae l.length ce] W := by rw [hW]; exact ⟨(Below.refl _ _).alloc (Nat.le_refl _) _, heap_alloc_new w _⟩
  have HW : Hid (W = w.alloc (.cells #[.string x.log, .int .i64 x.size, .string x.root, .int .i64 x.time, .int .i64 x.k, .slice a1 x.el.length s1, .slice b1 x.pl.length t1, .string y.log, .int .i64 y.size, .string y.root, .int .i64 y.time, .int .i64 y.k, .slice a2 y.el.length s2, .slice b2 y.pl.length t2, .slice ae l.length ce] 59)) := hW
  have HC : Hid (∀ W', FrIn w #[.string x.log, .int .i64 x.size, .string x.root, .int .i64 x.time, .int .i64 x.k, .slice a1 x.el.length s1, .slice b1 x.pl.length t1, .string y.log, .int .i64 y.size, .string y.root, .int .i64 y.time, .int .i64 y.k, .slice a2 y.el.length s2, .slice b2 y.pl.length t2, .slice ae l.length ce] W' → W'.cell? ⟨w.heap.size, 0, none⟩ = some (.string x.log) ∧ W'.cell? ⟨w.heap.size, 1, none⟩ = some (.int .i64 x.size) ∧ W'.cell? ⟨w.heap.size, 2, none⟩ = some (.string x.root) ∧ W'.cell? ⟨w.heap.size, 3, none⟩ = some (.int .i64 x.time) ∧ W'.cell? ⟨w.heap.size, 4, none⟩ = some (.int .i64 x.k) ∧ W'.cell? ⟨w.heap.size, 5, none⟩ = some (.slice a1 x.el.length s1) ∧ W'.cell? ⟨w.heap.size, 6, none⟩ = some (.slice b1 x.pl.length t1) ∧ W'.cell? ⟨w.heap.size, 7, none⟩ = some (.string y.log) ∧ W'.cell? ⟨w.heap.size, 8, none⟩ = some (.int .i64 y.size) ∧ W'.cell? ⟨w.heap.size, 9, none⟩ = some (.string y.root) ∧ W'.cell? ⟨w.heap.size, 10, none⟩ = some (.int .i64 y.time) ∧ W'.cell? ⟨w.heap.size, 11, none⟩ = some (.int .i64 y.k) ∧ W'.cell? ⟨w.heap.size, 12, none⟩ = some (.slice a2 y.el.length s2) ∧ W'.cell? ⟨w.heap.size, 13, none⟩ = some (.slice b2 y.pl.length t2) ∧ W'.cell? ⟨w.heap.size, 14, none⟩ = some (.slice ae l.length ce)) := fun W' hb => by
    have c := row_here hb.2
    exact ⟨c 0 _ rfl, c 1 _ rfl, c 2 _ rfl, c 3 _ rfl, c 4 _ rfl, c 5 _ rfl, c 6 _ rfl, c 7 _ rfl, c 8 _ rfl, c 9 _ rfl, c 10 _ rfl, c 11 _ rfl, c 12 _ rfl, c 13 _ rfl, c 14 _ rfl⟩
  have E0 : Hid (Calls Tryz.prog 33 #[.agg #[.string x.log, .int .i64 x.size, .string x.root, .int .i64 x.time, .int .i64 x.k, .slice a1 x.el.length s1, .slice b1 x.pl.length t1, .string y.log, .int .i64 y.size, .string y.root, .int .i64 y.time, .int .i64 y.k, .slice a2 y.el.length s2, .slice b2 y.pl.length t2, .slice ae l.length ce], .int .i64 1048576] W fun e w' => ∃ r : Int, e = .returned (.int .i64 r) ∧ -1048577 ≤ r ∧ r ≤ 1048576 ∧ (r < 0 ∨ (x.Lim ∧ y.Lim ∧ l.length ≤ 1048576)) ∧ Below W.heap.size W w') := szFraud_any x y _ _ _ _ _ l 1048576 W (hx.on hi.1) (hy.on hi.1) (h3.on hi.1) (by omega) (by omega)
  have HI : Hid (FrIn w #[.string x.log, .int .i64 x.size, .string x.root, .int .i64 x.time, .int .i64 x.k, .slice a1 x.el.length s1, .slice b1 x.pl.length t1, .string y.log, .int .i64 y.size, .string y.root, .int .i64 y.time, .int .i64 y.k, .slice a2 y.el.length s2, .slice b2 y.pl.length t2, .slice ae l.length ce] W) := hi
  clear hi hW
  by_cases hrs : 1048576 < (r.size : Int)
  · rw [HW.out] at HI
    clear E0 HC hx hy h3
    go_enter Tryz.func5, Tryz.ntmps5
    go_wp2
    go_ret
    exact ⟨rfl, HI.out.1⟩
  have HRR : Hid (r.size ≤ 1048576) := by show _ ≤ _; omega
  obtain ⟨c0, c1, c2, c3, c4, c5, c6, c7, c8, c9, c10, c11, c12, c13, c14⟩ := HC.out W HI.out
  go_enter Tryz.func5, Tryz.ntmps5
  go_wp2_with fail
  rw [← HW.out]
  clear HW
  refine E0.out.mono ?_
  rintro e w1 ⟨r1, rfl, p0, p1, q1, hb1⟩
  have I1 : Hid (FrIn w #[.string x.log, .int .i64 x.size, .string x.root, .int .i64 x.time, .int .i64 x.k, .slice a1 x.el.length s1, .slice b1 x.pl.length t1, .string y.log, .int .i64 y.size, .string y.root, .int .i64 y.time, .int .i64 y.k, .slice a2 y.el.length s2, .slice b2 y.pl.length t2, .slice ae l.length ce] w1) := HI.out.below hb1
  clear hb1 E0 HI c0 c1 c2 c3 c4 c5 c6 c7 c8 c9 c10 c11 c12 c13 c14
  by_cases hn : r1 < 0
  · clear q1
    go_wp2
    go_ret
    exact ⟨rfl, I1.out.1⟩
  obtain ⟨hlx, hly, hll⟩ := q1.resolve_left hn
  have ET : Hid (∀ W', FrIn w #[.string x.log, .int .i64 x.size, .string x.root, .int .i64 x.time, .int .i64 x.k, .slice a1 x.el.length s1, .slice b1 x.pl.length t1, .string y.log, .int .i64 y.size, .string y.root, .int .i64 y.time, .int .i64 y.k, .slice a2 y.el.length s2, .slice b2 y.pl.length t2, .slice ae l.length ce] W' → Calls Tryz.prog 34 #[.agg #[.string x.log, .int .i64 x.size, .string x.root, .int .i64 x.time, .int .i64 x.k, .slice a1 x.el.length s1, .slice b1 x.pl.length t1, .string y.log, .int .i64 y.size, .string y.root, .int .i64 y.time, .int .i64 y.k, .slice a2 y.el.length s2, .slice b2 y.pl.length t2, .slice ae l.length ce]] W' fun e w' => ∃ a8 s8 b8 t8 a9 s9 b9 t9 a10 s10, e = .returned (.agg #[.string x.log, .int .i64 x.size, .string x.root, .int .i64 x.time, .int .i64 x.k, .slice a8 x.el.length s8, .slice b8 x.pl.length t8, .string y.log, .int .i64 y.size, .string y.root, .int .i64 y.time, .int .i64 y.k, .slice a9 y.el.length s9, .slice b9 y.pl.length t9, .slice a10 l.length s10]) ∧ (x.In (.slice a8 x.el.length s8) (.slice b8 x.pl.length t8) w' w'.heap.size ∧ y.In (.slice a9 y.el.length s9) (.slice b9 y.pl.length t9) w' w'.heap.size ∧ Texts w' w'.heap.size (.slice a10 l.length s10) l) ∧ FrIn w #[.string x.log, .int .i64 x.size, .string x.root, .int .i64 x.time, .int .i64 x.k, .slice a1 x.el.length s1, .slice b1 x.pl.length t1, .string y.log, .int .i64 y.size, .string y.root, .int .i64 y.time, .int .i64 y.k, .slice a2 y.el.length s2, .slice b2 y.pl.length t2, .slice ae l.length ce] w' ∧ Below W'.heap.size W' w') := fun W' h => (toFraud_any x y _ _ _ _ _ l W' (hx.1.on h.1) (hy.1.on h.1) (h3.1.on h.1) hlx hly hll).mono fun e w' ⟨a8, s8, b8, t8, a9, s9, b9, t9, a10, s10, e1, e2, e3, e4, e5⟩ => ⟨a8, s8, b8, t8, a9, s9, b9, t9, a10, s10, e1, ⟨e2, e3, e4⟩, h.below e5, e5⟩
  have ES : Hid (∀ W' a5 s5 b5 t5 a6 s6 b6 t6 a7 s7, FrIn w #[.string x.log, .int .i64 x.size, .string x.root, .int .i64 x.time, .int .i64 x.k, .slice a1 x.el.length s1, .slice b1 x.pl.length t1, .string y.log, .int .i64 y.size, .string y.root, .int .i64 y.time, .int .i64 y.k, .slice a2 y.el.length s2, .slice b2 y.pl.length t2, .slice ae l.length ce] W' → (x.In (.slice a5 x.el.length s5) (.slice b5 x.pl.length t5) W' W'.heap.size ∧ y.In (.slice a6 y.el.length s6) (.slice b6 y.pl.length t6) W' W'.heap.size ∧ Texts W' W'.heap.size (.slice a7 l.length s7) l) → Calls Tryz.prog 27 #[.string r, .agg #[.string x.log, .int .i64 x.size, .string x.root, .int .i64 x.time, .int .i64 x.k, .slice a5 x.el.length s5, .slice b5 x.pl.length t5, .string y.log, .int .i64 y.size, .string y.root, .int .i64 y.time, .int .i64 y.k, .slice a6 y.el.length s6, .slice b6 y.pl.length t6, .slice a7 l.length s7]] W' fun e w' => e = .returned (.bool (judgeB r x y l)) ∧ FrIn w #[.string x.log, .int .i64 x.size, .string x.root, .int .i64 x.time, .int .i64 x.k, .slice a1 x.el.length s1, .slice b1 x.pl.length t1, .string y.log, .int .i64 y.size, .string y.root, .int .i64 y.time, .int .i64 y.k, .slice a2 y.el.length s2, .slice b2 y.pl.length t2, .slice ae l.length ce] w') := fun W' a5 s5 b5 t5 a6 s6 b6 t6 a7 s7 h h5 => (specJudge_any r x y _ _ _ _ _ l W' h5.1 h5.2.1 h5.2.2 hlx hly hx.2.1 hy.2.1 hll HRR.out).mono fun e w' g => ⟨g.1, h.below g.2⟩
  have EI : Hid (∀ W' a5 s5 b5 t5 a6 s6 b6 t6 a7 s7, FrIn w #[.string x.log, .int .i64 x.size, .string x.root, .int .i64 x.time, .int .i64 x.k, .slice a1 x.el.length s1, .slice b1 x.pl.length t1, .string y.log, .int .i64 y.size, .string y.root, .int .i64 y.time, .int .i64 y.k, .slice a2 y.el.length s2, .slice b2 y.pl.length t2, .slice ae l.length ce] W' → (x.In (.slice a5 x.el.length s5) (.slice b5 x.pl.length t5) W' W'.heap.size ∧ y.In (.slice a6 y.el.length s6) (.slice b6 y.pl.length t6) W' W'.heap.size ∧ Texts W' W'.heap.size (.slice a7 l.length s7) l) → Calls Tryz.prog 24 #[.string r, .agg #[.string x.log, .int .i64 x.size, .string x.root, .int .i64 x.time, .int .i64 x.k, .slice a5 x.el.length s5, .slice b5 x.pl.length t5, .string y.log, .int .i64 y.size, .string y.root, .int .i64 y.time, .int .i64 y.k, .slice a6 y.el.length s6, .slice b6 y.pl.length t6, .slice a7 l.length s7]] W' fun e w' => e = .returned (.bool (judgeB r x y l)) ∧ Below W'.heap.size W' w') := fun W' a5 s5 b5 t5 a6 s6 b6 t6 a7 s7 h h5 => implJudge_any r x y _ _ _ _ _ l W' h5.1 h5.2.1 h5.2.2 hlx hly hx.2.1 hy.2.1 hll HRR.out (HKS.out.1.below h.1 HKS.out.1.lt) (HKS.out.2.on h.1)
  have EQ : Hid (∀ W' a5 s5 b5 t5 a6 s6 b6 t6 a7 s7 a8 s8 b8 t8 a9 s9 b9 t9 a10 s10, (x.In (.slice a5 x.el.length s5) (.slice b5 x.pl.length t5) W' W'.heap.size ∧ y.In (.slice a6 y.el.length s6) (.slice b6 y.pl.length t6) W' W'.heap.size ∧ Texts W' W'.heap.size (.slice a7 l.length s7) l) → (x.In (.slice a8 x.el.length s8) (.slice b8 x.pl.length t8) W' W'.heap.size ∧ y.In (.slice a9 y.el.length s9) (.slice b9 y.pl.length t9) W' W'.heap.size ∧ Texts W' W'.heap.size (.slice a10 l.length s10) l) → Calls Tryz.prog 35 #[.agg #[.string x.log, .int .i64 x.size, .string x.root, .int .i64 x.time, .int .i64 x.k, .slice a5 x.el.length s5, .slice b5 x.pl.length t5, .string y.log, .int .i64 y.size, .string y.root, .int .i64 y.time, .int .i64 y.k, .slice a6 y.el.length s6, .slice b6 y.pl.length t6, .slice a7 l.length s7], .agg #[.string x.log, .int .i64 x.size, .string x.root, .int .i64 x.time, .int .i64 x.k, .slice a8 x.el.length s8, .slice b8 x.pl.length t8, .string y.log, .int .i64 y.size, .string y.root, .int .i64 y.time, .int .i64 y.k, .slice a9 y.el.length s9, .slice b9 y.pl.length t9, .slice a10 l.length s10]] W' fun e w' => e = .returned (.bool true) ∧ Below W'.heap.size W' w') := fun W' a5 s5 b5 t5 a6 s6 b6 t6 a7 s7 a8 s8 b8 t8 a9 s9 b9 t9 a10 s10 h5 h8 => eqFraud_any x y l _ _ _ _ _ _ _ _ _ _ _ _ _ _ _ _ _ _ _ _ W' h5.1 h5.2.1 h5.2.2 h8.1 h8.2.1 h8.2.2 hlx hly (Nat.le_succ_of_le hll)
  clear q1 hlx hly hll hx hy h3
  generalize judgeB r x y l = V at *
  have hVV : (V != V) = false := by simp
  obtain ⟨c0, c1, c2, c3, c4, c5, c6, c7, c8, c9, c10, c11, c12, c13, c14⟩ := HC.out w1 I1.out
  go_wp2_with fail
  refine (ET.out _ I1.out).mono ?_
  rintro e w2 ⟨a5, s5, b5, t5, a6, s6, b6, t6, a7, s7, rfl, h5, hi2, _⟩
  clear c0 c1 c2 c3 c4 c5 c6 c7 c8 c9 c10 c11 c12 c13 c14 I1
  go_wp2_with fail
  refine (ES.out _ _ _ _ _ _ _ _ _ _ _ hi2 h5).mono ?_
  rintro e w3 ⟨rfl, hi3⟩
  have I3 : Hid (FrIn w #[.string x.log, .int .i64 x.size, .string x.root, .int .i64 x.time, .int .i64 x.k, .slice a1 x.el.length s1, .slice b1 x.pl.length t1, .string y.log, .int .i64 y.size, .string y.root, .int .i64 y.time, .int .i64 y.k, .slice a2 y.el.length s2, .slice b2 y.pl.length t2, .slice ae l.length ce] w3) := hi3
  obtain ⟨c0, c1, c2, c3, c4, c5, c6, c7, c8, c9, c10, c11, c12, c13, c14⟩ := HC.out w3 hi3
  clear hi2 h5 hi3 ES
  go_wp2_with fail
  refine (ET.out _ I3.out).mono ?_
  rintro e w4 ⟨a8, s8, b8, t8, a9, s9, b9, t9, a10, s10, rfl, h8, hi4, _⟩
  obtain ⟨W4, hW4⟩ : ∃ W4, W4 = w4.alloc (.cells #[.string x.log, .int .i64 x.size, .string x.root, .int .i64 x.time, .int .i64 x.k, .slice a8 x.el.length s8, .slice b8 x.pl.length t8, .string y.log, .int .i64 y.size, .string y.root, .int .i64 y.time, .int .i64 y.k, .slice a9 y.el.length s9, .slice b9 y.pl.length t9, .slice a10 l.length s10] 46) := ⟨_, rfl⟩
  have hal : Below w4.heap.size w4 W4 := by rw [hW4]; exact (Below.refl _ _).alloc (Nat.le_refl _) _
  have I4 : Hid (FrIn w #[.string x.log, .int .i64 x.size, .string x.root, .int .i64 x.time, .int .i64 x.k, .slice a1 x.el.length s1, .slice b1 x.pl.length t1, .string y.log, .int .i64 y.size, .string y.root, .int .i64 y.time, .int .i64 y.k, .slice a2 y.el.length s2, .slice b2 y.pl.length t2, .slice ae l.length ce] W4 ∧ W4.heap[w4.heap.size]? = some (.cells #[.string x.log, .int .i64 x.size, .string x.root, .int .i64 x.time, .int .i64 x.k, .slice a8 x.el.length s8, .slice b8 x.pl.length t8, .string y.log, .int .i64 y.size, .string y.root, .int .i64 y.time, .int .i64 y.k, .slice a9 y.el.length s9, .slice b9 y.pl.length t9, .slice a10 l.length s10] 46 (0, 0)) ∧ (x.In (.slice a8 x.el.length s8) (.slice b8 x.pl.length t8) W4 w4.heap.size ∧ y.In (.slice a9 y.el.length s9) (.slice b9 y.pl.length t9) W4 w4.heap.size ∧ Texts W4 w4.heap.size (.slice a10 l.length s10) l)) := ⟨hi4.below hal, by rw [hW4]; exact heap_alloc_new w4 _, h8.1.below hal, h8.2.1.below hal, h8.2.2.below hal⟩
  have HW4 : Hid (W4 = w4.alloc (.cells #[.string x.log, .int .i64 x.size, .string x.root, .int .i64 x.time, .int .i64 x.k, .slice a8 x.el.length s8, .slice b8 x.pl.length t8, .string y.log, .int .i64 y.size, .string y.root, .int .i64 y.time, .int .i64 y.k, .slice a9 y.el.length s9, .slice b9 y.pl.length t9, .slice a10 l.length s10] 46)) := hW4
  have hlt4 : w.heap.size < w4.heap.size := (Array.getElem?_eq_some_iff.1 hi4.2).1
  clear c0 c1 c2 c3 c4 c5 c6 c7 c8 c9 c10 c11 c12 c13 c14 I3 hi4 h8 hal hW4 
  go_wp2_with fail
  rw [← HW4.out]
  clear HW4
  generalize hq : w4.heap.size = q at *
  clear hq
  have hqW : q < W4.heap.size := (Array.getElem?_eq_some_iff.1 I4.out.2.1).1
  refine (EI.out _ _ _ _ _ _ _ _ _ _ _ I4.out.1 ⟨I4.out.2.2.1.up (Nat.le_of_lt hqW), I4.out.2.2.2.1.up (Nat.le_of_lt hqW), I4.out.2.2.2.2.up (Nat.le_of_lt hqW)⟩).mono ?_
  rintro e w5 ⟨rfl, hb5⟩
  have I5 : Hid (FrIn w #[.string x.log, .int .i64 x.size, .string x.root, .int .i64 x.time, .int .i64 x.k, .slice a1 x.el.length s1, .slice b1 x.pl.length t1, .string y.log, .int .i64 y.size, .string y.root, .int .i64 y.time, .int .i64 y.k, .slice a2 y.el.length s2, .slice b2 y.pl.length t2, .slice ae l.length ce] w5 ∧ w5.heap[q]? = some (.cells #[.string x.log, .int .i64 x.size, .string x.root, .int .i64 x.time, .int .i64 x.k, .slice a8 x.el.length s8, .slice b8 x.pl.length t8, .string y.log, .int .i64 y.size, .string y.root, .int .i64 y.time, .int .i64 y.k, .slice a9 y.el.length s9, .slice b9 y.pl.length t9, .slice a10 l.length s10] 46 (0, 0)) ∧ (x.In (.slice a8 x.el.length s8) (.slice b8 x.pl.length t8) w5 q ∧ y.In (.slice a9 y.el.length s9) (.slice b9 y.pl.length t9) w5 q ∧ Texts w5 q (.slice a10 l.length s10) l)) := ⟨I4.out.1.below hb5, (hb5.block _ hqW).trans I4.out.2.1, I4.out.2.2.1.below (hb5.mono (Nat.le_of_lt hqW)), I4.out.2.2.2.1.below (hb5.mono (Nat.le_of_lt hqW)), I4.out.2.2.2.2.below (hb5.mono (Nat.le_of_lt hqW))⟩
  have NX : Hid (∀ X, Below w5.heap.size w5 X → FrIn w #[.string x.log, .int .i64 x.size, .string x.root, .int .i64 x.time, .int .i64 x.k, .slice a1 x.el.length s1, .slice b1 x.pl.length t1, .string y.log, .int .i64 y.size, .string y.root, .int .i64 y.time, .int .i64 y.k, .slice a2 y.el.length s2, .slice b2 y.pl.length t2, .slice ae l.length ce] X ∧ X.heap[q]? = some (.cells #[.string x.log, .int .i64 x.size, .string x.root, .int .i64 x.time, .int .i64 x.k, .slice a8 x.el.length s8, .slice b8 x.pl.length t8, .string y.log, .int .i64 y.size, .string y.root, .int .i64 y.time, .int .i64 y.k, .slice a9 y.el.length s9, .slice b9 y.pl.length t9, .slice a10 l.length s10] 46 (0, 0)) ∧ (x.In (.slice a8 x.el.length s8) (.slice b8 x.pl.length t8) X X.heap.size ∧ y.In (.slice a9 y.el.length s9) (.slice b9 y.pl.length t9) X X.heap.size ∧ Texts X X.heap.size (.slice a10 l.length s10) l)) := fun X hb => by
    have hq5 : q < w5.heap.size := (Array.getElem?_eq_some_iff.1 I5.out.2.1).1
    have hle : q ≤ X.heap.size := Nat.le_trans (Nat.le_of_lt hq5) hb.size
    exact ⟨I5.out.1.below hb, (hb.block _ hq5).trans I5.out.2.1, (I5.out.2.2.1.below (hb.mono (Nat.le_of_lt hq5))).up hle, (I5.out.2.2.2.1.below (hb.mono (Nat.le_of_lt hq5))).up hle, (I5.out.2.2.2.2.below (hb.mono (Nat.le_of_lt hq5))).up hle⟩
  have HS : Hid (∀ X, Below w5.heap.size w5 X → (X.cell? ⟨w.heap.size, 0, none⟩ = some (.string x.log) ∧ X.cell? ⟨w.heap.size, 1, none⟩ = some (.int .i64 x.size) ∧ X.cell? ⟨w.heap.size, 2, none⟩ = some (.string x.root) ∧ X.cell? ⟨w.heap.size, 3, none⟩ = some (.int .i64 x.time) ∧ X.cell? ⟨w.heap.size, 4, none⟩ = some (.int .i64 x.k) ∧ X.cell? ⟨w.heap.size, 5, none⟩ = some (.slice a1 x.el.length s1) ∧ X.cell? ⟨w.heap.size, 6, none⟩ = some (.slice b1 x.pl.length t1) ∧ X.cell? ⟨w.heap.size, 7, none⟩ = some (.string y.log) ∧ X.cell? ⟨w.heap.size, 8, none⟩ = some (.int .i64 y.size) ∧ X.cell? ⟨w.heap.size, 9, none⟩ = some (.string y.root) ∧ X.cell? ⟨w.heap.size, 10, none⟩ = some (.int .i64 y.time) ∧ X.cell? ⟨w.heap.size, 11, none⟩ = some (.int .i64 y.k) ∧ X.cell? ⟨w.heap.size, 12, none⟩ = some (.slice a2 y.el.length s2) ∧ X.cell? ⟨w.heap.size, 13, none⟩ = some (.slice b2 y.pl.length t2) ∧ X.cell? ⟨w.heap.size, 14, none⟩ = some (.slice ae l.length ce)) ∧ (X.cell? ⟨q, 0, none⟩ = some (.string x.log) ∧ X.cell? ⟨q, 1, none⟩ = some (.int .i64 x.size) ∧ X.cell? ⟨q, 2, none⟩ = some (.string x.root) ∧ X.cell? ⟨q, 3, none⟩ = some (.int .i64 x.time) ∧ X.cell? ⟨q, 4, none⟩ = some (.int .i64 x.k) ∧ X.cell? ⟨q, 5, none⟩ = some (.slice a8 x.el.length s8) ∧ X.cell? ⟨q, 6, none⟩ = some (.slice b8 x.pl.length t8) ∧ X.cell? ⟨q, 7, none⟩ = some (.string y.log) ∧ X.cell? ⟨q, 8, none⟩ = some (.int .i64 y.size) ∧ X.cell? ⟨q, 9, none⟩ = some (.string y.root) ∧ X.cell? ⟨q, 10, none⟩ = some (.int .i64 y.time) ∧ X.cell? ⟨q, 11, none⟩ = some (.int .i64 y.k) ∧ X.cell? ⟨q, 12, none⟩ = some (.slice a9 y.el.length s9) ∧ X.cell? ⟨q, 13, none⟩ = some (.slice b9 y.pl.length t9) ∧ X.cell? ⟨q, 14, none⟩ = some (.slice a10 l.length s10))) := fun X hb => by
    have h := NX.out X hb
    have d := row_here h.2.1
    exact ⟨HC.out X h.1, ⟨d 0 _ rfl, d 1 _ rfl, d 2 _ rfl, d 3 _ rfl, d 4 _ rfl, d 5 _ rfl, d 6 _ rfl, d 7 _ rfl, d 8 _ rfl, d 9 _ rfl, d 10 _ rfl, d 11 _ rfl, d 12 _ rfl, d 13 _ rfl, d 14 _ rfl⟩⟩
  have I5d : Hid (FrIn w #[.string x.log, .int .i64 x.size, .string x.root, .int .i64 x.time, .int .i64 x.k, .slice a1 x.el.length s1, .slice b1 x.pl.length t1, .string y.log, .int .i64 y.size, .string y.root, .int .i64 y.time, .int .i64 y.k, .slice a2 y.el.length s2, .slice b2 y.pl.length t2, .slice ae l.length ce] w5.drew) := I5.out.1.drew
  have HB5 : Hid (Below w5.heap.size w5 w5) := Below.refl _ _
  clear hqW hb5 I4 EI hlt4
  obtain ⟨⟨c0, c1, c2, c3, c4, c5, c6, c7, c8, c9, c10, c11, c12, c13, c14⟩, ⟨d0, d1, d2, d3, d4, d5, d6, d7, d8, d9, d10, d11, d12, d13, d14⟩⟩ := HS.out w5 HB5.out
  go_wp2_with fail
  go_region_held3 (fun X => (X.cell? ⟨w.heap.size, 0, none⟩ = some (.string x.log) ∧ X.cell? ⟨w.heap.size, 1, none⟩ = some (.int .i64 x.size) ∧ X.cell? ⟨w.heap.size, 2, none⟩ = some (.string x.root) ∧ X.cell? ⟨w.heap.size, 3, none⟩ = some (.int .i64 x.time) ∧ X.cell? ⟨w.heap.size, 4, none⟩ = some (.int .i64 x.k) ∧ X.cell? ⟨w.heap.size, 5, none⟩ = some (.slice a1 x.el.length s1) ∧ X.cell? ⟨w.heap.size, 6, none⟩ = some (.slice b1 x.pl.length t1) ∧ X.cell? ⟨w.heap.size, 7, none⟩ = some (.string y.log) ∧ X.cell? ⟨w.heap.size, 8, none⟩ = some (.int .i64 y.size) ∧ X.cell? ⟨w.heap.size, 9, none⟩ = some (.string y.root) ∧ X.cell? ⟨w.heap.size, 10, none⟩ = some (.int .i64 y.time) ∧ X.cell? ⟨w.heap.size, 11, none⟩ = some (.int .i64 y.k) ∧ X.cell? ⟨w.heap.size, 12, none⟩ = some (.slice a2 y.el.length s2) ∧ X.cell? ⟨w.heap.size, 13, none⟩ = some (.slice b2 y.pl.length t2) ∧ X.cell? ⟨w.heap.size, 14, none⟩ = some (.slice ae l.length ce)) ∧ (X.cell? ⟨q, 0, none⟩ = some (.string x.log) ∧ X.cell? ⟨q, 1, none⟩ = some (.int .i64 x.size) ∧ X.cell? ⟨q, 2, none⟩ = some (.string x.root) ∧ X.cell? ⟨q, 3, none⟩ = some (.int .i64 x.time) ∧ X.cell? ⟨q, 4, none⟩ = some (.int .i64 x.k) ∧ X.cell? ⟨q, 5, none⟩ = some (.slice a8 x.el.length s8) ∧ X.cell? ⟨q, 6, none⟩ = some (.slice b8 x.pl.length t8) ∧ X.cell? ⟨q, 7, none⟩ = some (.string y.log) ∧ X.cell? ⟨q, 8, none⟩ = some (.int .i64 y.size) ∧ X.cell? ⟨q, 9, none⟩ = some (.string y.root) ∧ X.cell? ⟨q, 10, none⟩ = some (.int .i64 y.time) ∧ X.cell? ⟨q, 11, none⟩ = some (.int .i64 y.k) ∧ X.cell? ⟨q, 12, none⟩ = some (.slice a9 y.el.length s9) ∧ X.cell? ⟨q, 13, none⟩ = some (.slice b9 y.pl.length t9) ∧ X.cell? ⟨q, 14, none⟩ = some (.slice a10 l.length s10))) (((refine HS.out _ ?_); (repeat (first | exact HB5.out | exact HA1.out.1 | exact HA2.out | refine below_drew' ?_))))
    (first
      | (go_at_call 34; (with_reducible refine (ET.out _ ?_).mono ?_); (first | exact I5.out.1 | exact I5d.out); rintro e wa ⟨a11, s11, b11, t11, a12, s12, b12, t12, a13, s13, rfl, h11, _, hba⟩; have HA1 : Hid (Below w5.heap.size w5 wa ∧ (x.In (.slice a11 x.el.length s11) (.slice b11 x.pl.length t11) wa wa.heap.size ∧ y.In (.slice a12 y.el.length s12) (.slice b12 y.pl.length t12) wa wa.heap.size ∧ Texts wa wa.heap.size (.slice a13 l.length s13) l)) := ⟨by first | exact hba | exact below_drew hba, h11⟩; clear h11 hba)
      | (go_at_call 35; (with_reducible refine (EQ.out _ _ _ _ _ _ _ _ _ _ _ _ _ _ _ _ _ _ _ _ _ ?_ ?_).mono ?_); exact (NX.out _ HA1.out.1).2.2; exact HA1.out.2; rintro e wb ⟨rfl, hbb⟩; have HA2 : Hid (Below w5.heap.size w5 wb) := HA1.out.1.trans (hbb.mono HA1.out.1.size); clear hbb))
  all_goals
    clear c0 c1 c2 c3 c4 c5 c6 c7 c8 c9 c10 c11 c12 c13 c14 d0 d1 d2 d3 d4 d5 d6 d7 d8 d9 d10 d11 d12 d13 d14
    go_wp2
    go_ret
    exact ⟨rfl, I5.out.1.1.trans (HA2.out.mono I5.out.1.1.size)⟩
end Go.Proofs.YtbngflmebdchlaaGreatDoor
