/-
  Why a charge does not hold.
-/
import Derived.Test.YtcenlgfopmahcaaGreatDoorPkImplCharge
import Derived.Test.YtcenlgfopmahcaaGreatDoorPkImplHeadG
import Derived.Test.YtcenlgfopmahcaaGreatDoorPkSigned
import Derived.Deep.DeepCutAuto
import Derived.Test.YtcenlgfopmahcaaGreatDoorRows
import Derived.WalkKit
import Derived.LaidEql
import Derived.Stop.Asserts
import Derived.RowKitTokens
import Derived.Below
namespace Go.Proofs.YtcenlgfopmahcaaGreatDoor
open Go.RowKit Go.Lib
set_option linter.unusedVariables false
set_option linter.unusedSimpArgs false

theorem method_split (v : Value) (w : World) : (Go.method 346 137 v "loop.example/g00390/impl.heads").run Tryz.prog w = .ok (183, v) w := by kernel_rfl
theorem method_rewrite (v : Value) (w : World) : (Go.method 346 140 v "loop.example/g00390/impl.heads").run Tryz.prog w = .ok (184, v) w := by kernel_rfl
theorem split_is (v : Value) (w : World) : (Instr.typeAssert (.iface 137 v) 110 137 true).run Tryz.prog w = .ok (.tuple #[v, .bool true]) w := by kernel_rfl
theorem rewrite_not (v : Value) (w : World) : (Instr.typeAssert (.iface 140 v) 110 137 true).run Tryz.prog w = .ok (.tuple #[.agg #[.string ⟨#[]⟩, .int .i64 0, .string ⟨#[]⟩, .int .i64 0, .int .i64 0, .slice none 0 0, .slice none 0 0, .string ⟨#[]⟩, .int .i64 0, .string ⟨#[]⟩, .int .i64 0, .int .i64 0, .slice none 0 0, .slice none 0 0], .bool false]) w := by kernel_rfl
theorem rewrite_is (v : Value) (w : World) : (Instr.typeAssert (.iface 140 v) 110 140 true).run Tryz.prog w = .ok (.tuple #[v, .bool true]) w := by kernel_rfl
set_option maxHeartbeats 4000000 in
set_option maxRecDepth 10000 in
theorem whySplitN_any (r : ByteArray) (x y : Hd) (a1 b1 a2 b2 : Option Addr) (s1 t1 s2 t2 : Nat) (w : World) (hx : x.In (.slice a1 x.el.length s1) (.slice b1 x.pl.length t1) w w.heap.size) (hy : y.In (.slice a2 y.el.length s2) (.slice b2 y.pl.length t2) w w.heap.size) (hlx : x.Lim) (hly : y.Lim) (hnx : x.Num) (hny : y.Num) (hr : r.size ≤ 1048576) (hK : Keys w) :
    Calls Tryz.prog 81 #[.string r, .iface 137 (.agg #[.string x.log, .int .i64 x.size, .string x.root, .int .i64 x.time, .int .i64 x.k, .slice a1 x.el.length s1, .slice b1 x.pl.length t1, .string y.log, .int .i64 y.size, .string y.root, .int .i64 y.time, .int .i64 y.k, .slice a2 y.el.length s2, .slice b2 y.pl.length t2])] w fun e w' => Why (x.good r && y.good r && (x.log.toList == y.log.toList) && twoB x y) e ∧ Below w.heap.size w w' := by
  have mS := method_split
  have mR := method_rewrite
  have iS := split_is
  have iN := rewrite_not
  have iR := rewrite_is
  have E0 : Hid (Calls Tryz.prog 183 #[.agg #[.string x.log, .int .i64 x.size, .string x.root, .int .i64 x.time, .int .i64 x.k, .slice a1 x.el.length s1, .slice b1 x.pl.length t1, .string y.log, .int .i64 y.size, .string y.root, .int .i64 y.time, .int .i64 y.k, .slice a2 y.el.length s2, .slice b2 y.pl.length t2]] w fun e w' => e = .returned (.tuple #[.agg #[.string x.log, .int .i64 x.size, .string x.root, .int .i64 x.time, .int .i64 x.k, .slice a1 x.el.length s1, .slice b1 x.pl.length t1], .agg #[.string y.log, .int .i64 y.size, .string y.root, .int .i64 y.time, .int .i64 y.k, .slice a2 y.el.length s2, .slice b2 y.pl.length t2]]) ∧ Below w.heap.size w w') := splitHeads_any x y a1 b1 a2 b2 s1 t1 s2 t2 w
  have G1 : Hid (∀ W', Below w.heap.size w W' → Calls Tryz.prog 79 #[.string r, .agg #[.string x.log, .int .i64 x.size, .string x.root, .int .i64 x.time, .int .i64 x.k, .slice a1 x.el.length s1, .slice b1 x.pl.length t1]] W' fun e w'' => e = .returned (.bool (x.good r)) ∧ Below W'.heap.size W' w'') := fun W' hb => (implHeadGood_any r x.log x.root x.size x.time x.k _ _ x.el x.pl W' (hx.on hb).1 (hx.on hb).2 hlx.2.2.1 hlx.2.2.2 hlx.1 hlx.2.1 hr hnx.1 hnx.2 (hK.below hb hK.lt))
  have G2 : Hid (∀ W', Below w.heap.size w W' → Calls Tryz.prog 79 #[.string r, .agg #[.string y.log, .int .i64 y.size, .string y.root, .int .i64 y.time, .int .i64 y.k, .slice a2 y.el.length s2, .slice b2 y.pl.length t2]] W' fun e w'' => e = .returned (.bool (y.good r)) ∧ Below W'.heap.size W' w'') := fun W' hb => (implHeadGood_any r y.log y.root y.size y.time y.k _ _ y.el y.pl W' (hy.on hb).1 (hy.on hb).2 hly.2.2.1 hly.2.2.2 hly.1 hly.2.1 hr hny.1 hny.2 (hK.below hb hK.lt))
  have G3 : Hid (∀ W', Below w.heap.size w W' → Calls Tryz.prog 101 #[.agg #[.string x.log, .int .i64 x.size, .string x.root, .int .i64 x.time, .int .i64 x.k, .slice a1 x.el.length s1, .slice b1 x.pl.length t1, .string y.log, .int .i64 y.size, .string y.root, .int .i64 y.time, .int .i64 y.k, .slice a2 y.el.length s2, .slice b2 y.pl.length t2]] W' fun e w'' => Why (twoB x y) e ∧ Below w.heap.size w w'') := fun W' hb => (whySplit_any x y a1 b1 a2 b2 s1 t1 s2 t2 W' (hx.on hb) (hy.on hb) hlx hly).mono fun e w'' h => ⟨h.1, hb.trans (h.2.mono hb.size)⟩
  have HZ : Hid (x.good r = true → 0 ≤ x.size) := fun h => (Hd.right_size (Hd.good_right h)).1
  have step : ∀ (x : Bool), x = true ∨ x = false := fun x => by cases x <;> simp
  clear hx hy hlx hly hnx hny hr hK
  generalize x.good r = gx at *
  generalize y.good r = gy at *
  generalize twoB x y = bb at *
  go_enter Tryz.func81, Tryz.ntmps81
  go_wp2_with fail
  refine E0.out.mono ?_
  rintro e w1 ⟨rfl, hb1⟩
  obtain ⟨W, hW⟩ : ∃ W, W = (w1.alloc (.cells #[.string x.log, .int .i64 x.size, .string x.root, .int .i64 x.time, .int .i64 x.k, .slice a1 x.el.length s1, .slice b1 x.pl.length t1] 37)).alloc (.cells #[.string y.log, .int .i64 y.size, .string y.root, .int .i64 y.time, .int .i64 y.k, .slice a2 y.el.length s2, .slice b2 y.pl.length t2] 37) := ⟨_, rfl⟩
  have hal : Below w1.heap.size w1 W := by rw [hW]; exact ((Below.refl _ _).alloc (Nat.le_refl _) _).alloc (by simp) _
  have hg1 : W.heap[w1.heap.size]? = some (.cells #[.string x.log, .int .i64 x.size, .string x.root, .int .i64 x.time, .int .i64 x.k, .slice a1 x.el.length s1, .slice b1 x.pl.length t1] 37 (0, 0)) := by rw [hW]; exact heap_alloc2_old w1 _ _
  have hg2 : W.heap[w1.heap.size + 1]? = some (.cells #[.string y.log, .int .i64 y.size, .string y.root, .int .i64 y.time, .int .i64 y.k, .slice a2 y.el.length s2, .slice b2 y.pl.length t2] 37 (0, 0)) := by rw [hW]; exact heap_alloc2_new w1 _ _
  have H0 : Hid (Below w.heap.size w W) := hb1.trans (hal.mono hb1.size)
  have HB0 : Hid (Below W.heap.size W W) := Below.refl _ _
  have HW : Hid (W = (w1.alloc (.cells #[.string x.log, .int .i64 x.size, .string x.root, .int .i64 x.time, .int .i64 x.k, .slice a1 x.el.length s1, .slice b1 x.pl.length t1] 37)).alloc (.cells #[.string y.log, .int .i64 y.size, .string y.root, .int .i64 y.time, .int .i64 y.k, .slice a2 y.el.length s2, .slice b2 y.pl.length t2] 37)) := hW
  have HC : Hid (∀ W', Below W.heap.size W W' → (W'.cell? ⟨w1.heap.size, 0, none⟩ = some (.string x.log) ∧ W'.cell? ⟨w1.heap.size, 1, none⟩ = some (.int .i64 x.size) ∧ W'.cell? ⟨w1.heap.size, 2, none⟩ = some (.string x.root) ∧ W'.cell? ⟨w1.heap.size, 3, none⟩ = some (.int .i64 x.time) ∧ W'.cell? ⟨w1.heap.size, 4, none⟩ = some (.int .i64 x.k) ∧ W'.cell? ⟨w1.heap.size, 5, none⟩ = some (.slice a1 x.el.length s1) ∧ W'.cell? ⟨w1.heap.size, 6, none⟩ = some (.slice b1 x.pl.length t1)) ∧ (W'.cell? ⟨w1.heap.size + 1, 0, none⟩ = some (.string y.log) ∧ W'.cell? ⟨w1.heap.size + 1, 1, none⟩ = some (.int .i64 y.size) ∧ W'.cell? ⟨w1.heap.size + 1, 2, none⟩ = some (.string y.root) ∧ W'.cell? ⟨w1.heap.size + 1, 3, none⟩ = some (.int .i64 y.time) ∧ W'.cell? ⟨w1.heap.size + 1, 4, none⟩ = some (.int .i64 y.k) ∧ W'.cell? ⟨w1.heap.size + 1, 5, none⟩ = some (.slice a2 y.el.length s2) ∧ W'.cell? ⟨w1.heap.size + 1, 6, none⟩ = some (.slice b2 y.pl.length t2))) := fun W' hb => by
    have c := row_cells hb (Array.getElem?_eq_some_iff.1 hg1).1 hg1
    have d := row_cells hb (Array.getElem?_eq_some_iff.1 hg2).1 hg2
    exact ⟨⟨c 0 _ rfl, c 1 _ rfl, c 2 _ rfl, c 3 _ rfl, c 4 _ rfl, c 5 _ rfl, c 6 _ rfl⟩, d 0 _ rfl, d 1 _ rfl, d 2 _ rfl, d 3 _ rfl, d 4 _ rfl, d 5 _ rfl, d 6 _ rfl⟩
  have HWB : Hid (∀ W', Below W.heap.size W W' → Below w.heap.size w W') := fun W' hb => H0.out.trans (hb.mono H0.out.size)
  have K1 : Hid (Calls Tryz.prog 79 #[.string r, .agg #[.string x.log, .int .i64 x.size, .string x.root, .int .i64 x.time, .int .i64 x.k, .slice a1 x.el.length s1, .slice b1 x.pl.length t1]] W fun e w'' => e = .returned (.bool gx) ∧ Below W.heap.size W w'') := G1.out W H0.out
  have K2 : Hid (∀ W', Below W.heap.size W W' → Calls Tryz.prog 79 #[.string r, .agg #[.string y.log, .int .i64 y.size, .string y.root, .int .i64 y.time, .int .i64 y.k, .slice a2 y.el.length s2, .slice b2 y.pl.length t2]] W' fun e w'' => e = .returned (.bool gy) ∧ Below W.heap.size W w'') := fun W' hb => (G2.out W' (HWB.out W' hb)).mono fun e w'' h => ⟨h.1, hb.trans (h.2.mono hb.size)⟩
  clear hal hg1 hg2 hW
  go_wp2_with fail
  rw [← HW.out]
  clear HW
  generalize w1.heap.size = g at *
  clear hb1
  cases gx with
  | false =>
    refine K1.out.mono ?_
    rintro e w2 ⟨rfl, hb2⟩
    have B2 : Hid (Below W.heap.size W w2) := hb2
    clear hb2
    go_wp2
    go_ret
    exact ⟨.inr ⟨rfl, _, rfl⟩, HWB.out _ B2.out⟩
  | true =>
    refine K1.out.mono ?_
    rintro e w2 ⟨rfl, hb2⟩
    have B2 : Hid (Below W.heap.size W w2) := hb2
    obtain ⟨⟨c0, c1, c2, c3, c4, c5, c6⟩, d0, d1, d2, d3, d4, d5, d6⟩ := HC.out _ hb2
    clear hb2
    go_wp2_with fail
    refine (K2.out _ B2.out).mono ?_
    rintro e w3 ⟨rfl, hb3⟩
    have B3 : Hid (Below W.heap.size W w3) := hb3
    clear c0 c1 c2 c3 c4 c5 c6 d0 d1 d2 d3 d4 d5 d6
    obtain ⟨⟨c0, c1, c2, c3, c4, c5, c6⟩, d0, d1, d2, d3, d4, d5, d6⟩ := HC.out _ hb3
    clear hb3
    cases gy with
    | false =>
      go_wp2
      go_ret
      exact ⟨.inr ⟨rfl, _, rfl⟩, HWB.out _ B3.out⟩
    | true =>
      rcases step (x.log.toList == y.log.toList) with q1 | q1
      · have B4 : Hid (∀ o : Obj, Below w.heap.size w (w3.alloc o)) := fun o => (HWB.out _ B3.out).alloc (HWB.out _ B3.out).size _
        have G4 : Hid (∀ W', Below w.heap.size w W' → Calls Tryz.prog 101 #[.agg #[.string x.log, .int .i64 x.size, .string x.root, .int .i64 x.time, .int .i64 x.k, .slice a1 x.el.length s1, .slice b1 x.pl.length t1, .string y.log, .int .i64 y.size, .string y.root, .int .i64 y.time, .int .i64 y.k, .slice a2 y.el.length s2, .slice b2 y.pl.length t2]] W' fun e w'' => Why bb e ∧ Below w.heap.size w w'') := G3.out
        clear G3 K1 K2 G1 G2 HC
        go_wp2_with fail
        refine (G4.out _ (B4.out _)).mono ?_
        rintro e w4 ⟨hwhy, hb4⟩
        have B5 : Hid (Below w.heap.size w w4) := hb4
        clear hb4
        rcases hwhy with ⟨rfl, rfl⟩ | ⟨rfl, s, rfl⟩
        · go_wp2
          go_ret
          exact ⟨.inl ⟨by rw [q1]; rfl, rfl⟩, B5.out⟩
        · go_wp2
          go_ret
          exact ⟨.inr ⟨by rw [q1]; rfl, _, rfl⟩, B5.out⟩
      · clear G3 K1 K2 G1 G2 HC
        go_wp2
        go_ret
        exact ⟨.inr ⟨by rw [q1]; rfl, _, rfl⟩, HWB.out _ B3.out⟩

set_option maxHeartbeats 4000000 in
set_option maxRecDepth 10000 in
theorem whyRewriteN_any (r : ByteArray) (x y : Hd) (a1 b1 a2 b2 : Option Addr) (s1 t1 s2 t2 : Nat) (ae : Option Addr) (ce : Nat) (l : List ByteArray) (w : World) (hx : x.In (.slice a1 x.el.length s1) (.slice b1 x.pl.length t1) w w.heap.size) (hy : y.In (.slice a2 y.el.length s2) (.slice b2 y.pl.length t2) w w.heap.size) (h3 : Texts w w.heap.size (.slice ae l.length ce) l) (hll : l.length ≤ 1048576) (hlx : x.Lim) (hly : y.Lim) (hnx : x.Num) (hny : y.Num) (hr : r.size ≤ 1048576) (hK : Keys w) :
    Calls Tryz.prog 81 #[.string r, .iface 140 (.agg #[.string x.log, .int .i64 x.size, .string x.root, .int .i64 x.time, .int .i64 x.k, .slice a1 x.el.length s1, .slice b1 x.pl.length t1, .string y.log, .int .i64 y.size, .string y.root, .int .i64 y.time, .int .i64 y.k, .slice a2 y.el.length s2, .slice b2 y.pl.length t2, .slice ae l.length ce])] w fun e w' => Why (x.good r && y.good r && (x.log.toList == y.log.toList) && rewB x y l) e ∧ Below w.heap.size w w' := by
  have mS := method_split
  have mR := method_rewrite
  have iS := split_is
  have iN := rewrite_not
  have iR := rewrite_is
  have E0 : Hid (Calls Tryz.prog 184 #[.agg #[.string x.log, .int .i64 x.size, .string x.root, .int .i64 x.time, .int .i64 x.k, .slice a1 x.el.length s1, .slice b1 x.pl.length t1, .string y.log, .int .i64 y.size, .string y.root, .int .i64 y.time, .int .i64 y.k, .slice a2 y.el.length s2, .slice b2 y.pl.length t2, .slice ae l.length ce]] w fun e w' => e = .returned (.tuple #[.agg #[.string x.log, .int .i64 x.size, .string x.root, .int .i64 x.time, .int .i64 x.k, .slice a1 x.el.length s1, .slice b1 x.pl.length t1], .agg #[.string y.log, .int .i64 y.size, .string y.root, .int .i64 y.time, .int .i64 y.k, .slice a2 y.el.length s2, .slice b2 y.pl.length t2]]) ∧ Below w.heap.size w w') := rewriteHeads_any x y a1 b1 a2 b2 s1 t1 s2 t2 ae ce l.length w
  have G1 : Hid (∀ W', Below w.heap.size w W' → Calls Tryz.prog 79 #[.string r, .agg #[.string x.log, .int .i64 x.size, .string x.root, .int .i64 x.time, .int .i64 x.k, .slice a1 x.el.length s1, .slice b1 x.pl.length t1]] W' fun e w'' => e = .returned (.bool (x.good r)) ∧ Below W'.heap.size W' w'') := fun W' hb => (implHeadGood_any r x.log x.root x.size x.time x.k _ _ x.el x.pl W' (hx.on hb).1 (hx.on hb).2 hlx.2.2.1 hlx.2.2.2 hlx.1 hlx.2.1 hr hnx.1 hnx.2 (hK.below hb hK.lt))
  have G2 : Hid (∀ W', Below w.heap.size w W' → Calls Tryz.prog 79 #[.string r, .agg #[.string y.log, .int .i64 y.size, .string y.root, .int .i64 y.time, .int .i64 y.k, .slice a2 y.el.length s2, .slice b2 y.pl.length t2]] W' fun e w'' => e = .returned (.bool (y.good r)) ∧ Below W'.heap.size W' w'') := fun W' hb => (implHeadGood_any r y.log y.root y.size y.time y.k _ _ y.el y.pl W' (hy.on hb).1 (hy.on hb).2 hly.2.2.1 hly.2.2.2 hly.1 hly.2.1 hr hny.1 hny.2 (hK.below hb hK.lt))
  have G3 : Hid (0 ≤ x.size → ∀ W', Below w.heap.size w W' → Calls Tryz.prog 102 #[.agg #[.string x.log, .int .i64 x.size, .string x.root, .int .i64 x.time, .int .i64 x.k, .slice a1 x.el.length s1, .slice b1 x.pl.length t1, .string y.log, .int .i64 y.size, .string y.root, .int .i64 y.time, .int .i64 y.k, .slice a2 y.el.length s2, .slice b2 y.pl.length t2, .slice ae l.length ce]] W' fun e w'' => Why (rewB x y l) e ∧ Below w.heap.size w w'') := fun hsz W' hb => (whyRewrite_any x y a1 b1 a2 b2 s1 t1 s2 t2 ae ce l W' hsz ((h3.on hb)) hll (hK.below hb hK.lt)).mono fun e w'' h => ⟨h.1, hb.trans (h.2.mono hb.size)⟩
  have HZ : Hid (x.good r = true → 0 ≤ x.size) := fun h => (Hd.right_size (Hd.good_right h)).1
  have step : ∀ (x : Bool), x = true ∨ x = false := fun x => by cases x <;> simp
  clear hx hy hlx hly hnx hny hr hK h3 hll
  generalize x.good r = gx at *
  generalize y.good r = gy at *
  generalize rewB x y l = bb at *
  go_enter Tryz.func81, Tryz.ntmps81
  go_wp2_with fail
  refine E0.out.mono ?_
  rintro e w1 ⟨rfl, hb1⟩
  obtain ⟨W, hW⟩ : ∃ W, W = (w1.alloc (.cells #[.string x.log, .int .i64 x.size, .string x.root, .int .i64 x.time, .int .i64 x.k, .slice a1 x.el.length s1, .slice b1 x.pl.length t1] 37)).alloc (.cells #[.string y.log, .int .i64 y.size, .string y.root, .int .i64 y.time, .int .i64 y.k, .slice a2 y.el.length s2, .slice b2 y.pl.length t2] 37) := ⟨_, rfl⟩
  have hal : Below w1.heap.size w1 W := by rw [hW]; exact ((Below.refl _ _).alloc (Nat.le_refl _) _).alloc (by simp) _
  have hg1 : W.heap[w1.heap.size]? = some (.cells #[.string x.log, .int .i64 x.size, .string x.root, .int .i64 x.time, .int .i64 x.k, .slice a1 x.el.length s1, .slice b1 x.pl.length t1] 37 (0, 0)) := by rw [hW]; exact heap_alloc2_old w1 _ _
  have hg2 : W.heap[w1.heap.size + 1]? = some (.cells #[.string y.log, .int .i64 y.size, .string y.root, .int .i64 y.time, .int .i64 y.k, .slice a2 y.el.length s2, .slice b2 y.pl.length t2] 37 (0, 0)) := by rw [hW]; exact heap_alloc2_new w1 _ _
  have H0 : Hid (Below w.heap.size w W) := hb1.trans (hal.mono hb1.size)
  have HB0 : Hid (Below W.heap.size W W) := Below.refl _ _
  have HW : Hid (W = (w1.alloc (.cells #[.string x.log, .int .i64 x.size, .string x.root, .int .i64 x.time, .int .i64 x.k, .slice a1 x.el.length s1, .slice b1 x.pl.length t1] 37)).alloc (.cells #[.string y.log, .int .i64 y.size, .string y.root, .int .i64 y.time, .int .i64 y.k, .slice a2 y.el.length s2, .slice b2 y.pl.length t2] 37)) := hW
  have HC : Hid (∀ W', Below W.heap.size W W' → (W'.cell? ⟨w1.heap.size, 0, none⟩ = some (.string x.log) ∧ W'.cell? ⟨w1.heap.size, 1, none⟩ = some (.int .i64 x.size) ∧ W'.cell? ⟨w1.heap.size, 2, none⟩ = some (.string x.root) ∧ W'.cell? ⟨w1.heap.size, 3, none⟩ = some (.int .i64 x.time) ∧ W'.cell? ⟨w1.heap.size, 4, none⟩ = some (.int .i64 x.k) ∧ W'.cell? ⟨w1.heap.size, 5, none⟩ = some (.slice a1 x.el.length s1) ∧ W'.cell? ⟨w1.heap.size, 6, none⟩ = some (.slice b1 x.pl.length t1)) ∧ (W'.cell? ⟨w1.heap.size + 1, 0, none⟩ = some (.string y.log) ∧ W'.cell? ⟨w1.heap.size + 1, 1, none⟩ = some (.int .i64 y.size) ∧ W'.cell? ⟨w1.heap.size + 1, 2, none⟩ = some (.string y.root) ∧ W'.cell? ⟨w1.heap.size + 1, 3, none⟩ = some (.int .i64 y.time) ∧ W'.cell? ⟨w1.heap.size + 1, 4, none⟩ = some (.int .i64 y.k) ∧ W'.cell? ⟨w1.heap.size + 1, 5, none⟩ = some (.slice a2 y.el.length s2) ∧ W'.cell? ⟨w1.heap.size + 1, 6, none⟩ = some (.slice b2 y.pl.length t2))) := fun W' hb => by
    have c := row_cells hb (Array.getElem?_eq_some_iff.1 hg1).1 hg1
    have d := row_cells hb (Array.getElem?_eq_some_iff.1 hg2).1 hg2
    exact ⟨⟨c 0 _ rfl, c 1 _ rfl, c 2 _ rfl, c 3 _ rfl, c 4 _ rfl, c 5 _ rfl, c 6 _ rfl⟩, d 0 _ rfl, d 1 _ rfl, d 2 _ rfl, d 3 _ rfl, d 4 _ rfl, d 5 _ rfl, d 6 _ rfl⟩
  have HWB : Hid (∀ W', Below W.heap.size W W' → Below w.heap.size w W') := fun W' hb => H0.out.trans (hb.mono H0.out.size)
  have K1 : Hid (Calls Tryz.prog 79 #[.string r, .agg #[.string x.log, .int .i64 x.size, .string x.root, .int .i64 x.time, .int .i64 x.k, .slice a1 x.el.length s1, .slice b1 x.pl.length t1]] W fun e w'' => e = .returned (.bool gx) ∧ Below W.heap.size W w'') := G1.out W H0.out
  have K2 : Hid (∀ W', Below W.heap.size W W' → Calls Tryz.prog 79 #[.string r, .agg #[.string y.log, .int .i64 y.size, .string y.root, .int .i64 y.time, .int .i64 y.k, .slice a2 y.el.length s2, .slice b2 y.pl.length t2]] W' fun e w'' => e = .returned (.bool gy) ∧ Below W.heap.size W w'') := fun W' hb => (G2.out W' (HWB.out W' hb)).mono fun e w'' h => ⟨h.1, hb.trans (h.2.mono hb.size)⟩
  clear hal hg1 hg2 hW
  go_wp2_with fail
  rw [← HW.out]
  clear HW
  generalize w1.heap.size = g at *
  clear hb1
  cases gx with
  | false =>
    refine K1.out.mono ?_
    rintro e w2 ⟨rfl, hb2⟩
    have B2 : Hid (Below W.heap.size W w2) := hb2
    clear hb2
    go_wp2
    go_ret
    exact ⟨.inr ⟨rfl, _, rfl⟩, HWB.out _ B2.out⟩
  | true =>
    refine K1.out.mono ?_
    rintro e w2 ⟨rfl, hb2⟩
    have B2 : Hid (Below W.heap.size W w2) := hb2
    obtain ⟨⟨c0, c1, c2, c3, c4, c5, c6⟩, d0, d1, d2, d3, d4, d5, d6⟩ := HC.out _ hb2
    clear hb2
    go_wp2_with fail
    refine (K2.out _ B2.out).mono ?_
    rintro e w3 ⟨rfl, hb3⟩
    have B3 : Hid (Below W.heap.size W w3) := hb3
    clear c0 c1 c2 c3 c4 c5 c6 d0 d1 d2 d3 d4 d5 d6
    obtain ⟨⟨c0, c1, c2, c3, c4, c5, c6⟩, d0, d1, d2, d3, d4, d5, d6⟩ := HC.out _ hb3
    clear hb3
    cases gy with
    | false =>
      go_wp2
      go_ret
      exact ⟨.inr ⟨rfl, _, rfl⟩, HWB.out _ B3.out⟩
    | true =>
      rcases step (x.log.toList == y.log.toList) with q1 | q1
      · have B4 : Hid (∀ o : Obj, Below w.heap.size w (w3.alloc o)) := fun o => (HWB.out _ B3.out).alloc (HWB.out _ B3.out).size _
        have G4 : Hid (∀ W', Below w.heap.size w W' → Calls Tryz.prog 102 #[.agg #[.string x.log, .int .i64 x.size, .string x.root, .int .i64 x.time, .int .i64 x.k, .slice a1 x.el.length s1, .slice b1 x.pl.length t1, .string y.log, .int .i64 y.size, .string y.root, .int .i64 y.time, .int .i64 y.k, .slice a2 y.el.length s2, .slice b2 y.pl.length t2, .slice ae l.length ce]] W' fun e w'' => Why bb e ∧ Below w.heap.size w w'') := G3.out (HZ.out (by trivial))
        clear G3 K1 K2 G1 G2 HC
        go_wp2_with fail
        refine (G4.out _ (B4.out _)).mono ?_
        rintro e w4 ⟨hwhy, hb4⟩
        have B5 : Hid (Below w.heap.size w w4) := hb4
        clear hb4
        rcases hwhy with ⟨rfl, rfl⟩ | ⟨rfl, s, rfl⟩
        · go_wp2
          go_ret
          exact ⟨.inl ⟨by rw [q1]; rfl, rfl⟩, B5.out⟩
        · go_wp2
          go_ret
          exact ⟨.inr ⟨by rw [q1]; rfl, _, rfl⟩, B5.out⟩
      · clear G3 K1 K2 G1 G2 HC
        go_wp2
        go_ret
        exact ⟨.inr ⟨by rw [q1]; rfl, _, rfl⟩, HWB.out _ B3.out⟩

end Go.Proofs.YtcenlgfopmahcaaGreatDoor

/-
  errors.Is at the program's one sentinel, by two contracts: nil is not it; a reason of the program's own comes down to it. Go's own text of errors.Is is walked; what package reflectlite answers is the model's.
-/
namespace Go.Proofs.YtcenlgfopmahcaaGreatDoor
open Go.RowKit Go.Extern.Stop Go.Stop Go.Extern
set_option linter.unusedVariables false

theorem is_typeOf (v : Value) (w : World) : (ReflectliteType.typeOf #[.iface 210 v]).run Tryz.prog w = .ok (.iface 157 (.agg #[.pointer (some ⟨2, 210, none⟩)])) w := by kernel_rfl
theorem is_comparable : ∃ F : Array Value → Sem Value, find Tryz.f188 = some F ∧ ∀ w, (F #[.agg #[.pointer (some ⟨2, 210, none⟩)]]).run Tryz.prog w = .ok (.bool true) w :=
  ⟨ReflectliteType.method fun t => do Rtype.noPackHeld "Comparable" t; pure (.bool (← typeInfo t).comparable), by kernel_rfl, fun w => by kernel_rfl⟩
theorem is_methodComparable (v : Value) (w : World) : (Go.method 346 157 v "Comparable").run Tryz.prog w = .ok (188, v) w := by kernel_rfl
theorem is_comp : (Tryz.prog.info? 210).map (·.comparable) = some true := by kernel_rfl
theorem is_size : (Tryz.prog.info? 234).map (·.size) = some 1 := by kernel_rfl
theorem is_noIs (v : Value) (xT : TypeId) (w : World) : (Instr.typeAssert (.iface 135 v) xT 159 true).run Tryz.prog w = .ok (.tuple #[.nilIface, .bool false]) w := run_typeAssert_lacksB Tryz.underlying159 (by kernel_rfl) (by kernel_rfl) v xT w
theorem is_unwrap (v : Value) (xT : TypeId) (w : World) : (Instr.typeAssert (.iface 135 v) xT 162 true).run Tryz.prog w = .ok (.tuple #[.iface 135 v, .bool true]) w := run_typeAssert_hasB Tryz.underlying162 (by kernel_rfl) v xT w
theorem is_methodUnwrap (v : Value) (w : World) : (Go.method 346 135 v "Unwrap").run Tryz.prog w = .ok (182, v) w := by kernel_rfl

/-- The program's sentinel: its variable holds a pointer to an error of the library's own make. -/
def Sentinel (w : World) : Prop := ∃ a, w.cell? ⟨0, 0, none⟩ = some (.iface 210 (.pointer (some a)))
theorem Sentinel.lt {w : World} (h : Sentinel w) : 0 < w.heap.size := by
  obtain ⟨a, h⟩ := h
  exact World.block_lt_of_cell? w _ h
theorem Sentinel.on {w w' : World} (h : Sentinel w) (hb : Below w.heap.size w w') : Sentinel w' := by
  have hlt := h.lt
  obtain ⟨a, h⟩ := h
  exact ⟨a, (hb.cell (p := ⟨0, 0, none⟩) hlt).trans h⟩

/-- errors.Is(nil, the sentinel). -/
theorem is_nil (a : Addr) (w : World) :
    Calls Tryz.prog 80 #[.nilIface, .iface 210 (.pointer (some a))] w fun e w' => e = .returned (.bool false) ∧ w' = w := by
  have hn := run_eql_iface_nil_left (P := Tryz.prog) w 210 (.pointer (some a)) Tryz.underlying107
  go_enter Tryz.func80, Tryz.ntmps80
  go_wp2
  go_ret
  exact ⟨rfl, rfl⟩

/-- errors.Is(a reason, the sentinel). -/
theorem is_reason (s : ByteArray) (a : Addr) (w : World) (hc : w.cell? ⟨0, 0, none⟩ = some (.iface 210 (.pointer (some a)))) :
    Calls Tryz.prog 80 #[.iface 135 (.string s), .iface 210 (.pointer (some a))] w fun e w' => e = .returned (.bool true) ∧ w' = w := by
  obtain ⟨i, hi, hcmp⟩ := Option.map_eq_some_iff.1 is_comp
  obtain ⟨j, hj, hjs⟩ := Option.map_eq_some_iff.1 is_size
  have h8 := @run_callFunc_extern Tryz.prog 99 _ ReflectliteType.typeOf Tryz.func99 (by kernel_rfl) (by kernel_rfl) (by kernel_rfl) (by kernel_rfl)
  obtain ⟨F, hF, cT⟩ := is_comparable
  have h32 := @run_callFunc_extern Tryz.prog 188 _ F Tryz.func188 (by kernel_rfl) (by kernel_rfl) (by kernel_rfl) hF
  have tT := is_typeOf
  have mR := is_methodComparable
  have nW := is_noIs
  have uW := is_unwrap
  have mU := is_methodUnwrap
  have heq := run_eql_iface_ptr_same (P := Tryz.prog) w a Tryz.underlying107 Tryz.underlying210 hi hcmp hj
  have hty := run_eql_iface_types (P := Tryz.prog) 135 210 (.string s) (.pointer (some a)) Tryz.underlying107 (by decide) w
  go_enter Tryz.func80, Tryz.ntmps80
  go_wp2
  refine wp_loop_rounds 2 ?_
  rw [rounds_succ]
  go_wp2
  rw [rounds_succ]
  go_wp2
  go_ret
  exact ⟨rfl, rfl⟩
end Go.Proofs.YtcenlgfopmahcaaGreatDoor

/-
  Judge, the program's.
-/
namespace Go.Proofs.YtcenlgfopmahcaaGreatDoor
open Go.RowKit Go.Lib
set_option linter.unusedVariables false
set_option linter.unusedSimpArgs false

theorem Why.yes {e : Ending} (h : Why true e) : e = .returned .nilIface := by
  rcases h with ⟨_, h⟩ | ⟨h, _⟩
  · exact h
  · cases h
theorem Why.no {e : Ending} (h : Why false e) : ∃ s, e = .returned (.iface 135 (.string s)) := by
  rcases h with ⟨h, _⟩ | ⟨_, h⟩
  · cases h
  · exact h
set_option maxHeartbeats 4000000 in
set_option maxRecDepth 10000 in
theorem implJudge_any (r : ByteArray) (x y : Hd) (xe xp ye yp ve : Value) (l : List ByteArray) (w : World) (hx : x.In xe xp w w.heap.size) (hy : y.In ye yp w w.heap.size) (h3 : Texts w w.heap.size ve l) (hlx : x.Lim) (hly : y.Lim) (hnx : x.Num) (hny : y.Num) (hll : l.length ≤ 1048576) (hr : r.size ≤ 1048576) (hK : Keys w) (hS : Sentinel w) :
    Calls Tryz.prog 64 #[.string r, .agg #[.string x.log, .int .i64 x.size, .string x.root, .int .i64 x.time, .int .i64 x.k, xe, xp, .string y.log, .int .i64 y.size, .string y.root, .int .i64 y.time, .int .i64 y.k, ye, yp, ve]] w fun e w' => e = .returned (.bool (judgeB r x y l)) ∧ Below w.heap.size w w' := by
  obtain ⟨a1, s1, b1, t1, rfl, rfl⟩ := hx.parts
  obtain ⟨a2, s2, b2, t2, rfl, rfl⟩ := hy.parts
  obtain ⟨ae, ce, rfl, _⟩ := id h3
  have hsl := hS.lt
  obtain ⟨sa, hsa⟩ := hS
  obtain ⟨W, hW⟩ : ∃ W, W = w.alloc (.cells #[.string x.log, .int .i64 x.size, .string x.root, .int .i64 x.time, .int .i64 x.k, .slice a1 x.el.length s1, .slice b1 x.pl.length t1, .string y.log, .int .i64 y.size, .string y.root, .int .i64 y.time, .int .i64 y.k, .slice a2 y.el.length s2, .slice b2 y.pl.length t2, .slice ae l.length ce] 39) := ⟨_, rfl⟩
  have hbW : Below w.heap.size w W := by rw [hW]; exact (Below.refl _ _).alloc (Nat.le_refl _) _
  have hgW : W.heap[w.heap.size]? = some (.cells #[.string x.log, .int .i64 x.size, .string x.root, .int .i64 x.time, .int .i64 x.k, .slice a1 x.el.length s1, .slice b1 x.pl.length t1, .string y.log, .int .i64 y.size, .string y.root, .int .i64 y.time, .int .i64 y.k, .slice a2 y.el.length s2, .slice b2 y.pl.length t2, .slice ae l.length ce] 39 (0, 0)) := by rw [hW]; exact heap_alloc_new w _
  have HW : Hid (W = w.alloc (.cells #[.string x.log, .int .i64 x.size, .string x.root, .int .i64 x.time, .int .i64 x.k, .slice a1 x.el.length s1, .slice b1 x.pl.length t1, .string y.log, .int .i64 y.size, .string y.root, .int .i64 y.time, .int .i64 y.k, .slice a2 y.el.length s2, .slice b2 y.pl.length t2, .slice ae l.length ce] 39)) := hW
  have H0 : Hid (Below w.heap.size w W) := hbW
  have HB0 : Hid (Below W.heap.size W W) := Below.refl _ _
  have HS : Hid (∀ X, Below W.heap.size W X → X.cell? ⟨0, 0, none⟩ = some (.iface 210 (.pointer (some sa))) ∧ X.cell? ⟨w.heap.size, 0, none⟩ = some (.string x.log) ∧ X.cell? ⟨w.heap.size, 1, none⟩ = some (.int .i64 x.size) ∧ X.cell? ⟨w.heap.size, 2, none⟩ = some (.string x.root) ∧ X.cell? ⟨w.heap.size, 3, none⟩ = some (.int .i64 x.time) ∧ X.cell? ⟨w.heap.size, 4, none⟩ = some (.int .i64 x.k) ∧ X.cell? ⟨w.heap.size, 5, none⟩ = some (.slice a1 x.el.length s1) ∧ X.cell? ⟨w.heap.size, 6, none⟩ = some (.slice b1 x.pl.length t1) ∧ X.cell? ⟨w.heap.size, 7, none⟩ = some (.string y.log) ∧ X.cell? ⟨w.heap.size, 8, none⟩ = some (.int .i64 y.size) ∧ X.cell? ⟨w.heap.size, 9, none⟩ = some (.string y.root) ∧ X.cell? ⟨w.heap.size, 10, none⟩ = some (.int .i64 y.time) ∧ X.cell? ⟨w.heap.size, 11, none⟩ = some (.int .i64 y.k) ∧ X.cell? ⟨w.heap.size, 12, none⟩ = some (.slice a2 y.el.length s2) ∧ X.cell? ⟨w.heap.size, 13, none⟩ = some (.slice b2 y.pl.length t2) ∧ X.cell? ⟨w.heap.size, 14, none⟩ = some (.slice ae l.length ce)) := fun X hb => by
    have c := row_cells hb (Array.getElem?_eq_some_iff.1 hgW).1 hgW
    exact ⟨((hbW.trans (hb.mono hbW.size)).cell (p := ⟨0, 0, none⟩) hsl).trans hsa, c 0 _ rfl, c 1 _ rfl, c 2 _ rfl, c 3 _ rfl, c 4 _ rfl, c 5 _ rfl, c 6 _ rfl, c 7 _ rfl, c 8 _ rfl, c 9 _ rfl, c 10 _ rfl, c 11 _ rfl, c 12 _ rfl, c 13 _ rfl, c 14 _ rfl⟩
  have EC : Hid (∀ W', Calls Tryz.prog 82 #[.agg #[.string x.log, .int .i64 x.size, .string x.root, .int .i64 x.time, .int .i64 x.k, .slice a1 x.el.length s1, .slice b1 x.pl.length t1, .string y.log, .int .i64 y.size, .string y.root, .int .i64 y.time, .int .i64 y.k, .slice a2 y.el.length s2, .slice b2 y.pl.length t2, .slice ae l.length ce]] W' fun e w' => (∃ c, (∀ W', Below W.heap.size W W' → Calls Tryz.prog 81 #[.string r, c] W' fun e w' => Why (judgeB r x y l) e ∧ Below W'.heap.size W' w') ∧ e = .returned c) ∧ Below W'.heap.size W' w') := fun W' => by
    unfold judgeB
    by_cases h0 : l.length = 0
    · rw [if_pos h0, h0]
      exact (chargeOf_none x y a1 b1 a2 b2 s1 t1 s2 t2 ae ce W').mono fun e w' h => ⟨⟨_, fun W'' hb => whySplitN_any r x y a1 b1 a2 b2 s1 t1 s2 t2 W'' ((hx.on hbW).on hb) ((hy.on hbW).on hb) hlx hly hnx hny hr ((hK.below hbW hK.lt).below hb (hK.below hbW hK.lt).lt), h.1⟩, h.2⟩
    · rw [if_neg h0]
      exact (chargeOf_some x y a1 b1 a2 b2 s1 t1 s2 t2 ae ce l.length W' h0 hll).mono fun e w' h => ⟨⟨_, fun W'' hb => whyRewriteN_any r x y a1 b1 a2 b2 s1 t1 s2 t2 ae ce l W'' ((hx.on hbW).on hb) ((hy.on hbW).on hb) ((h3.on hbW).on hb) hll hlx hly hnx hny hr ((hK.below hbW hK.lt).below hb (hK.below hbW hK.lt).lt), h.1⟩, h.2⟩
  have EN : Hid (∀ w, Calls Tryz.prog 80 #[.nilIface, .iface 210 (.pointer (some sa))] w fun e w' => e = .returned (.bool false) ∧ w' = w) := fun w => is_nil sa w
  have ER : Hid (∀ s X, Below W.heap.size W X → Calls Tryz.prog 80 #[.iface 135 (.string s), .iface 210 (.pointer (some sa))] X fun e w' => e = .returned (.bool true) ∧ w' = X) := fun s X hb => is_reason s sa X (HS.out X hb).1
  clear hx hy h3 hlx hly hnx hny hr hK hW hbW hgW hsl hsa
  generalize judgeB r x y l = V at *
  obtain ⟨k0, c0, c1, c2, c3, c4, c5, c6, c7, c8, c9, c10, c11, c12, c13, c14⟩ := HS.out W HB0.out
  cases V with
  | false =>
    go_enter Tryz.func64, Tryz.ntmps64
    go_wp2_with fail
    rw [← HW.out]
    clear HW
    go_region_held3 (fun X => X.cell? ⟨0, 0, none⟩ = some (.iface 210 (.pointer (some sa))) ∧ X.cell? ⟨w.heap.size, 0, none⟩ = some (.string x.log) ∧ X.cell? ⟨w.heap.size, 1, none⟩ = some (.int .i64 x.size) ∧ X.cell? ⟨w.heap.size, 2, none⟩ = some (.string x.root) ∧ X.cell? ⟨w.heap.size, 3, none⟩ = some (.int .i64 x.time) ∧ X.cell? ⟨w.heap.size, 4, none⟩ = some (.int .i64 x.k) ∧ X.cell? ⟨w.heap.size, 5, none⟩ = some (.slice a1 x.el.length s1) ∧ X.cell? ⟨w.heap.size, 6, none⟩ = some (.slice b1 x.pl.length t1) ∧ X.cell? ⟨w.heap.size, 7, none⟩ = some (.string y.log) ∧ X.cell? ⟨w.heap.size, 8, none⟩ = some (.int .i64 y.size) ∧ X.cell? ⟨w.heap.size, 9, none⟩ = some (.string y.root) ∧ X.cell? ⟨w.heap.size, 10, none⟩ = some (.int .i64 y.time) ∧ X.cell? ⟨w.heap.size, 11, none⟩ = some (.int .i64 y.k) ∧ X.cell? ⟨w.heap.size, 12, none⟩ = some (.slice a2 y.el.length s2) ∧ X.cell? ⟨w.heap.size, 13, none⟩ = some (.slice b2 y.pl.length t2) ∧ X.cell? ⟨w.heap.size, 14, none⟩ = some (.slice ae l.length ce)) (((refine HS.out _ ?_); (repeat (first | exact HA2.out | exact HA1.out | exact HB0.out | refine below_drew' ?_))))
      (first
        | (go_at_call 82; (with_reducible refine (EC.out _).mono ?_); rintro e wa ⟨⟨c, hc, rfl⟩, hia⟩; have HCC : Hid _ := hc; have HA1 : Hid (Below W.heap.size W wa) := (by first | exact hia | exact (below_drew' HB0.out).trans (hia.mono HB0.out.size)); clear hia hc)
        | (go_at_call 81; (with_reducible refine (HCC.out _ ?_).mono ?_); (repeat (first | exact HA1.out | refine below_drew' ?_)); rintro e wb ⟨hwhy, hib⟩; have HA2 : Hid (Below W.heap.size W wb) := HA1.out.trans (hib.mono HA1.out.size); clear hib; obtain ⟨s, rfl⟩ := hwhy.no)
        | (go_at_call 80; (with_reducible refine (EN.out _).mono ?_); rintro e wc ⟨rfl, hwc⟩; obtain rfl : wb = wc := hwc.symm)
        | (go_at_call 80; (with_reducible refine (ER.out _ _ ?_).mono ?_); (repeat (first | exact HA2.out | refine below_drew' ?_)); rintro e wc ⟨rfl, hwc⟩; obtain rfl : wb = wc := hwc.symm))
    all_goals
      go_wp2
      go_ret
      exact ⟨rfl, H0.out.trans (HA2.out.mono H0.out.size)⟩
  | true =>
    go_enter Tryz.func64, Tryz.ntmps64
    go_wp2_with fail
    rw [← HW.out]
    clear HW
    go_region_held3 (fun X => X.cell? ⟨0, 0, none⟩ = some (.iface 210 (.pointer (some sa))) ∧ X.cell? ⟨w.heap.size, 0, none⟩ = some (.string x.log) ∧ X.cell? ⟨w.heap.size, 1, none⟩ = some (.int .i64 x.size) ∧ X.cell? ⟨w.heap.size, 2, none⟩ = some (.string x.root) ∧ X.cell? ⟨w.heap.size, 3, none⟩ = some (.int .i64 x.time) ∧ X.cell? ⟨w.heap.size, 4, none⟩ = some (.int .i64 x.k) ∧ X.cell? ⟨w.heap.size, 5, none⟩ = some (.slice a1 x.el.length s1) ∧ X.cell? ⟨w.heap.size, 6, none⟩ = some (.slice b1 x.pl.length t1) ∧ X.cell? ⟨w.heap.size, 7, none⟩ = some (.string y.log) ∧ X.cell? ⟨w.heap.size, 8, none⟩ = some (.int .i64 y.size) ∧ X.cell? ⟨w.heap.size, 9, none⟩ = some (.string y.root) ∧ X.cell? ⟨w.heap.size, 10, none⟩ = some (.int .i64 y.time) ∧ X.cell? ⟨w.heap.size, 11, none⟩ = some (.int .i64 y.k) ∧ X.cell? ⟨w.heap.size, 12, none⟩ = some (.slice a2 y.el.length s2) ∧ X.cell? ⟨w.heap.size, 13, none⟩ = some (.slice b2 y.pl.length t2) ∧ X.cell? ⟨w.heap.size, 14, none⟩ = some (.slice ae l.length ce)) (((refine HS.out _ ?_); (repeat (first | exact HA2.out | exact HA1.out | exact HB0.out | refine below_drew' ?_))))
      (first
        | (go_at_call 82; (with_reducible refine (EC.out _).mono ?_); rintro e wa ⟨⟨c, hc, rfl⟩, hia⟩; have HCC : Hid _ := hc; have HA1 : Hid (Below W.heap.size W wa) := (by first | exact hia | exact (below_drew' HB0.out).trans (hia.mono HB0.out.size)); clear hia hc)
        | (go_at_call 81; (with_reducible refine (HCC.out _ ?_).mono ?_); (repeat (first | exact HA1.out | refine below_drew' ?_)); rintro e wb ⟨hwhy, hib⟩; have HA2 : Hid (Below W.heap.size W wb) := HA1.out.trans (hib.mono HA1.out.size); clear hib; obtain rfl := hwhy.yes)
        | (go_at_call 80; (with_reducible refine (EN.out _).mono ?_); rintro e wc ⟨rfl, hwc⟩; obtain rfl : wb = wc := hwc.symm)
        | (go_at_call 80; (with_reducible refine (ER.out _ _ ?_).mono ?_); (repeat (first | exact HA2.out | refine below_drew' ?_)); rintro e wc ⟨rfl, hwc⟩; obtain rfl : wb = wc := hwc.symm))
    all_goals
      go_wp2
      go_ret
      exact ⟨rfl, H0.out.trans (HA2.out.mono H0.out.size)⟩
end Go.Proofs.YtcenlgfopmahcaaGreatDoor

/-
  Is what was found a fraud, or none where none was found? The program's test.
-/
namespace Go.Proofs.YtcenlgfopmahcaaGreatDoor
open Go.RowKit Go.Lib
set_option linter.unusedVariables false
set_option linter.unusedSimpArgs false

set_option maxHeartbeats 4000000 in
set_option maxRecDepth 10000 in
theorem findRight_any (t : Wt) (l : List Hv) (v0 v1 v2 vp v3 v4 v5 v6 v7 : Value) (w : World) (hi : t.In v0 v1 v2 v3 v4 v5 v6 v7 w w.heap.size) (hh : Heads w w.heap.size vp l) (hf : t.Lens) (hn : t.Nums) (hK : Keys w) (hS : Sentinel w) :
    Calls Tryz.prog 46 #[.agg #[.string t.log, .string t.key, v0, .string t.h.log, .int .i64 t.h.size, .string t.h.root, .int .i64 t.h.time, .int .i64 t.h.k, v1, v2, vp, .bool t.found, .string t.a.log, .int .i64 t.a.size, .string t.a.root, .int .i64 t.a.time, .int .i64 t.a.k, v3, v4, .string t.b.log, .int .i64 t.b.size, .string t.b.root, .int .i64 t.b.time, .int .i64 t.b.k, v5, v6, v7]] w fun e w' => e = .returned (.bool t.findB) ∧ Below w.heap.size w w' := by
  obtain ⟨a0, c0, rfl, z0⟩ := id hi.1
  obtain ⟨a1, c1, a2, c2, rfl, rfl⟩ := hi.2.1.parts
  obtain ⟨⟨ap, cp, rfl, zp⟩, zq⟩ := id hh
  obtain ⟨a3, c3, a4, c4, rfl, rfl⟩ := hi.2.2.1.parts
  obtain ⟨a5, c5, a6, c6, rfl, rfl⟩ := hi.2.2.2.1.parts
  obtain ⟨a7, c7, rfl, z7⟩ := id hi.2.2.2.2
  clear z0 zp zq z7
  obtain ⟨W, hW⟩ : ∃ W, W = w.alloc (.cells #[.string t.log, .string t.key, .slice a0 t.en.length c0, .string t.h.log, .int .i64 t.h.size, .string t.h.root, .int .i64 t.h.time, .int .i64 t.h.k, .slice a1 t.h.el.length c1, .slice a2 t.h.pl.length c2, .slice ap l.length cp, .bool t.found, .string t.a.log, .int .i64 t.a.size, .string t.a.root, .int .i64 t.a.time, .int .i64 t.a.k, .slice a3 t.a.el.length c3, .slice a4 t.a.pl.length c4, .string t.b.log, .int .i64 t.b.size, .string t.b.root, .int .i64 t.b.time, .int .i64 t.b.k, .slice a5 t.b.el.length c5, .slice a6 t.b.pl.length c6, .slice a7 t.fl.length c7] 41) := ⟨_, rfl⟩
  have hbW : Below w.heap.size w W := by rw [hW]; exact (Below.refl _ _).alloc (Nat.le_refl _) _
  have E1 : Hid (Calls Tryz.prog 63 #[.agg #[.string t.a.log, .int .i64 t.a.size, .string t.a.root, .int .i64 t.a.time, .int .i64 t.a.k, .slice a3 t.a.el.length c3, .slice a4 t.a.pl.length c4, .string t.b.log, .int .i64 t.b.size, .string t.b.root, .int .i64 t.b.time, .int .i64 t.b.k, .slice a5 t.b.el.length c5, .slice a6 t.b.pl.length c6, .slice a7 t.fl.length c7]] W fun e w' => e = .returned (.bool (zeroX t.a t.a.el.length t.a.pl.length && zeroX t.b t.b.el.length t.b.pl.length && decide (t.fl.length = 0))) ∧ Below W.heap.size W w') := implFraudZero_any t.a t.b _ _ _ _ _ _ _ _ _ _ _ _ _ _ _ W
  have E2 : Hid (Calls Tryz.prog 64 #[.string t.key, .agg #[.string t.a.log, .int .i64 t.a.size, .string t.a.root, .int .i64 t.a.time, .int .i64 t.a.k, .slice a3 t.a.el.length c3, .slice a4 t.a.pl.length c4, .string t.b.log, .int .i64 t.b.size, .string t.b.root, .int .i64 t.b.time, .int .i64 t.b.k, .slice a5 t.b.el.length c5, .slice a6 t.b.pl.length c6, .slice a7 t.fl.length c7]] W fun e w' => e = .returned (.bool (judgeB t.key t.a t.b t.fl)) ∧ Below W.heap.size W w') := implJudge_any t.key t.a t.b _ _ _ _ _ t.fl W (hi.2.2.1.on hbW) (hi.2.2.2.1.on hbW) (hi.2.2.2.2.on hbW) hf.2.2.2.2.1 hf.2.2.2.2.2.1 hn.2.1 hn.2.2 hf.2.2.2.2.2.2 hf.2.1 (hK.below hbW hK.lt) (hS.on hbW)
  have H0 : Hid (Below w.heap.size w W) := hbW
  have HW : Hid (W = w.alloc (.cells #[.string t.log, .string t.key, .slice a0 t.en.length c0, .string t.h.log, .int .i64 t.h.size, .string t.h.root, .int .i64 t.h.time, .int .i64 t.h.k, .slice a1 t.h.el.length c1, .slice a2 t.h.pl.length c2, .slice ap l.length cp, .bool t.found, .string t.a.log, .int .i64 t.a.size, .string t.a.root, .int .i64 t.a.time, .int .i64 t.a.k, .slice a3 t.a.el.length c3, .slice a4 t.a.pl.length c4, .string t.b.log, .int .i64 t.b.size, .string t.b.root, .int .i64 t.b.time, .int .i64 t.b.k, .slice a5 t.b.el.length c5, .slice a6 t.b.pl.length c6, .slice a7 t.fl.length c7] 41)) := hW
  unfold Wt.findB
  generalize (zeroX t.a t.a.el.length t.a.pl.length && zeroX t.b t.b.el.length t.b.pl.length && decide (t.fl.length = 0)) = bZ at *
  generalize judgeB t.key t.a t.b t.fl = bJ at *
  clear hi hh hf hn hK hS hW hbW
  cases hfd : t.found with
  | false =>
    rw [hfd] at HW
    go_enter Tryz.func46, Tryz.ntmps46
    go_wp2_with fail
    rw [← HW.out]
    refine E1.out.mono ?_
    rintro e w1 ⟨rfl, hb⟩
    have B1 : Hid (Below w.heap.size w w1) := H0.out.trans (hb.mono H0.out.size)
    clear hb E1 E2 H0 HW
    go_wp2
    go_ret
    exact ⟨ret_bool (by simp), B1.out⟩
  | true =>
    rw [hfd] at HW
    cases hq : (t.a.log.toList == t.log.toList) with
    | false =>
      clear E1 E2
      go_enter Tryz.func46, Tryz.ntmps46
      go_wp2
      rw [← HW.out]
      go_ret
      exact ⟨ret_bool (by simp), H0.out⟩
    | true =>
      go_enter Tryz.func46, Tryz.ntmps46
      go_wp2_with fail
      rw [← HW.out]
      refine E2.out.mono ?_
      rintro e w1 ⟨rfl, hb⟩
      have B1 : Hid (Below w.heap.size w w1) := H0.out.trans (hb.mono H0.out.size)
      clear hb E1 E2 H0 HW
      go_wp2
      go_ret
      exact ⟨ret_bool (by simp), B1.out⟩
end Go.Proofs.YtcenlgfopmahcaaGreatDoor

/-
  WatchRight: the program's.
-/
namespace Go.Proofs.YtcenlgfopmahcaaGreatDoor
open Go.RowKit Go.Lib
set_option linter.unusedVariables false
set_option linter.unusedSimpArgs false

set_option maxHeartbeats 4000000 in
set_option maxRecDepth 10000 in
theorem implWatchRight_any (t : Wt) (l : List Hv) (v0 v1 v2 vp v3 v4 v5 v6 v7 : Value) (w : World) (hi : t.In v0 v1 v2 v3 v4 v5 v6 v7 w w.heap.size) (hh : Heads w w.heap.size vp l) (hf : t.Lens) (hl : HdsLim l) (hn : t.Nums) (hnl : HdsNum l) (hK : Keys w) (hS : Sentinel w) :
    Calls Tryz.prog 24 #[.agg #[.string t.log, .string t.key, v0, .string t.h.log, .int .i64 t.h.size, .string t.h.root, .int .i64 t.h.time, .int .i64 t.h.k, v1, v2, vp, .bool t.found, .string t.a.log, .int .i64 t.a.size, .string t.a.root, .int .i64 t.a.time, .int .i64 t.a.k, v3, v4, .string t.b.log, .int .i64 t.b.size, .string t.b.root, .int .i64 t.b.time, .int .i64 t.b.k, v5, v6, v7]] w fun e w' => e = .returned (.bool (t.rightB l)) ∧ Below w.heap.size w w' := by
  obtain ⟨a0, c0, rfl, z0⟩ := id hi.1
  obtain ⟨a1, c1, a2, c2, rfl, rfl⟩ := hi.2.1.parts
  obtain ⟨⟨ap, cp, rfl, zp⟩, zq⟩ := id hh
  obtain ⟨a3, c3, a4, c4, rfl, rfl⟩ := hi.2.2.1.parts
  obtain ⟨a5, c5, a6, c6, rfl, rfl⟩ := hi.2.2.2.1.parts
  obtain ⟨a7, c7, rfl, z7⟩ := id hi.2.2.2.2
  clear z0 zp zq z7
  obtain ⟨W, hW⟩ : ∃ W, W = (w.alloc (.cells #[.string t.log, .string t.key, .slice a0 t.en.length c0, .string t.h.log, .int .i64 t.h.size, .string t.h.root, .int .i64 t.h.time, .int .i64 t.h.k, .slice a1 t.h.el.length c1, .slice a2 t.h.pl.length c2, .slice ap l.length cp, .bool t.found, .string t.a.log, .int .i64 t.a.size, .string t.a.root, .int .i64 t.a.time, .int .i64 t.a.k, .slice a3 t.a.el.length c3, .slice a4 t.a.pl.length c4, .string t.b.log, .int .i64 t.b.size, .string t.b.root, .int .i64 t.b.time, .int .i64 t.b.k, .slice a5 t.b.el.length c5, .slice a6 t.b.pl.length c6, .slice a7 t.fl.length c7] 41)).alloc (.cells #[.string t.log, .string t.key] 77) := ⟨_, rfl⟩
  have hbW : Below w.heap.size w W := by rw [hW]; exact ((Below.refl _ _).alloc (Nat.le_refl _) _).alloc (by simp) _
  have hzW : W.heap.size = w.heap.size + 2 := by rw [hW]; simp
  have k0 : W.heap[w.heap.size]? = some (.cells #[.string t.log, .string t.key, .slice a0 t.en.length c0, .string t.h.log, .int .i64 t.h.size, .string t.h.root, .int .i64 t.h.time, .int .i64 t.h.k, .slice a1 t.h.el.length c1, .slice a2 t.h.pl.length c2, .slice ap l.length cp, .bool t.found, .string t.a.log, .int .i64 t.a.size, .string t.a.root, .int .i64 t.a.time, .int .i64 t.a.k, .slice a3 t.a.el.length c3, .slice a4 t.a.pl.length c4, .string t.b.log, .int .i64 t.b.size, .string t.b.root, .int .i64 t.b.time, .int .i64 t.b.k, .slice a5 t.b.el.length c5, .slice a6 t.b.pl.length c6, .slice a7 t.fl.length c7] 41 (0, 0)) := by rw [hW]; exact heap_alloc2_old w _ _
  have k1 : W.heap[w.heap.size + 1]? = some (.cells #[.string t.log, .string t.key] 77 (0, 0)) := by rw [hW]; exact heap_alloc2_new w _ _
  have hKW : Keys W := hK.below hbW hK.lt
  have hSW : Sentinel W := hS.on hbW
  have on27 : ∀ X, Below W.heap.size W X → t.In (.slice a0 t.en.length c0) (.slice a1 t.h.el.length c1) (.slice a2 t.h.pl.length c2) (.slice a3 t.a.el.length c3) (.slice a4 t.a.pl.length c4) (.slice a5 t.b.el.length c5) (.slice a6 t.b.pl.length c6) (.slice a7 t.fl.length c7) X X.heap.size ∧ Heads X X.heap.size (.slice ap l.length cp) l := fun X q => ⟨(hi.on hbW).on q, (hh.on hbW).on q⟩
  have E1 : Hid (Calls Tryz.prog 43 #[.agg #[.string t.log, .string t.key]] W fun e w' => e = .returned (.bool (namedB t.log t.key)) ∧ Below W.heap.size W w') := named_any t.log t.key W hf.1
  have E2 : Hid (∀ X, Below W.heap.size W X → Calls Tryz.prog 44 #[.agg #[.string t.log, .string t.key, .slice a0 t.en.length c0, .string t.h.log, .int .i64 t.h.size, .string t.h.root, .int .i64 t.h.time, .int .i64 t.h.k, .slice a1 t.h.el.length c1, .slice a2 t.h.pl.length c2, .slice ap l.length cp, .bool t.found, .string t.a.log, .int .i64 t.a.size, .string t.a.root, .int .i64 t.a.time, .int .i64 t.a.k, .slice a3 t.a.el.length c3, .slice a4 t.a.pl.length c4, .string t.b.log, .int .i64 t.b.size, .string t.b.root, .int .i64 t.b.time, .int .i64 t.b.k, .slice a5 t.b.el.length c5, .slice a6 t.b.pl.length c6, .slice a7 t.fl.length c7], .agg #[.string t.log, .string t.key]] X fun e w' => e = .returned (.bool t.readB) ∧ Below W.heap.size W w') := fun X q => (readRight_any t l _ _ _ _ _ _ _ _ _ X (on27 X q).1 (on27 X q).2 hf hn (hKW.below q hKW.lt)).mono fun e w' h => ⟨h.1, q.trans (h.2.mono q.size)⟩
  have E3 : Hid (∀ X, Below W.heap.size W X → Calls Tryz.prog 45 #[.agg #[.string t.log, .string t.key, .slice a0 t.en.length c0, .string t.h.log, .int .i64 t.h.size, .string t.h.root, .int .i64 t.h.time, .int .i64 t.h.k, .slice a1 t.h.el.length c1, .slice a2 t.h.pl.length c2, .slice ap l.length cp, .bool t.found, .string t.a.log, .int .i64 t.a.size, .string t.a.root, .int .i64 t.a.time, .int .i64 t.a.k, .slice a3 t.a.el.length c3, .slice a4 t.a.pl.length c4, .string t.b.log, .int .i64 t.b.size, .string t.b.root, .int .i64 t.b.time, .int .i64 t.b.k, .slice a5 t.b.el.length c5, .slice a6 t.b.pl.length c6, .slice a7 t.fl.length c7], .agg #[.string t.log, .string t.key]] X fun e w' => e = .returned (.bool (decide (l.length ≤ 5) && poolB t.log t.key t.en.length l)) ∧ Below W.heap.size W w') := fun X q => (poolRight_any t l _ _ _ _ _ _ _ _ _ X (on27 X q).1 (on27 X q).2 hf hl hnl (hKW.below q hKW.lt)).mono fun e w' h => ⟨h.1, q.trans (h.2.mono q.size)⟩
  have E4 : Hid (∀ X, Below W.heap.size W X → Calls Tryz.prog 46 #[.agg #[.string t.log, .string t.key, .slice a0 t.en.length c0, .string t.h.log, .int .i64 t.h.size, .string t.h.root, .int .i64 t.h.time, .int .i64 t.h.k, .slice a1 t.h.el.length c1, .slice a2 t.h.pl.length c2, .slice ap l.length cp, .bool t.found, .string t.a.log, .int .i64 t.a.size, .string t.a.root, .int .i64 t.a.time, .int .i64 t.a.k, .slice a3 t.a.el.length c3, .slice a4 t.a.pl.length c4, .string t.b.log, .int .i64 t.b.size, .string t.b.root, .int .i64 t.b.time, .int .i64 t.b.k, .slice a5 t.b.el.length c5, .slice a6 t.b.pl.length c6, .slice a7 t.fl.length c7]] X fun e w' => e = .returned (.bool t.findB) ∧ Below W.heap.size W w') := fun X q => (findRight_any t l _ _ _ _ _ _ _ _ _ X (on27 X q).1 (on27 X q).2 hf hn (hKW.below q hKW.lt) (hSW.on q)).mono fun e w' h => ⟨h.1, q.trans (h.2.mono q.size)⟩
  have HR : Hid (∀ X, Below W.heap.size W X → X.heap[w.heap.size]? = some (.cells #[.string t.log, .string t.key, .slice a0 t.en.length c0, .string t.h.log, .int .i64 t.h.size, .string t.h.root, .int .i64 t.h.time, .int .i64 t.h.k, .slice a1 t.h.el.length c1, .slice a2 t.h.pl.length c2, .slice ap l.length cp, .bool t.found, .string t.a.log, .int .i64 t.a.size, .string t.a.root, .int .i64 t.a.time, .int .i64 t.a.k, .slice a3 t.a.el.length c3, .slice a4 t.a.pl.length c4, .string t.b.log, .int .i64 t.b.size, .string t.b.root, .int .i64 t.b.time, .int .i64 t.b.k, .slice a5 t.b.el.length c5, .slice a6 t.b.pl.length c6, .slice a7 t.fl.length c7] 41 (0, 0)) ∧ X.heap[w.heap.size + 1]? = some (.cells #[.string t.log, .string t.key] 77 (0, 0))) := fun X q => ⟨(q.block _ (by omega)).trans k0, (q.block _ (by omega)).trans k1⟩
  have H0 : Hid (Below w.heap.size w W) := hbW
  have HW : Hid (W = (w.alloc (.cells #[.string t.log, .string t.key, .slice a0 t.en.length c0, .string t.h.log, .int .i64 t.h.size, .string t.h.root, .int .i64 t.h.time, .int .i64 t.h.k, .slice a1 t.h.el.length c1, .slice a2 t.h.pl.length c2, .slice ap l.length cp, .bool t.found, .string t.a.log, .int .i64 t.a.size, .string t.a.root, .int .i64 t.a.time, .int .i64 t.a.k, .slice a3 t.a.el.length c3, .slice a4 t.a.pl.length c4, .string t.b.log, .int .i64 t.b.size, .string t.b.root, .int .i64 t.b.time, .int .i64 t.b.k, .slice a5 t.b.el.length c5, .slice a6 t.b.pl.length c6, .slice a7 t.fl.length c7] 41)).alloc (.cells #[.string t.log, .string t.key] 77)) := hW
  unfold Wt.rightB
  generalize namedB t.log t.key = bN at *
  generalize t.readB = bR at *
  generalize (decide (l.length ≤ 5) && poolB t.log t.key t.en.length l) = bP at *
  generalize t.findB = bF at *
  clear hi hh hf hl hn hnl hK hS hKW hSW on27 hW hbW hzW k0 k1
  go_enter Tryz.func24, Tryz.ntmps24
  go_wp2_with fail
  rw [← HW.out]
  clear HW
  refine E1.out.mono ?_
  rintro e w1 ⟨rfl, hb⟩
  have B1 : Hid (Below W.heap.size W w1) := hb
  clear hb E1
  cases bN with
  | false =>
    clear E2 E3 E4 HR
    go_wp2
    go_ret
    exact ⟨rfl, H0.out.trans (B1.out.mono H0.out.size)⟩
  | true =>
    obtain ⟨r0, r1⟩ := HR.out _ B1.out
    go_wp2_with (first | (refine load_row_g (by kernel_rfl) 41 (.tmp 1) rfl w.heap.size rfl _ _ _ _ r0 Tryz.underlying41 rfl (by kernel_rfl) ?_) | (refine load_row_g (by kernel_rfl) 77 (.tmp 3) rfl (w.heap.size + 1) rfl _ _ _ _ r1 Tryz.underlying77 rfl (by kernel_rfl) ?_))
    clear r0 r1
    refine (E2.out _ B1.out).mono ?_
    rintro e w2 ⟨rfl, hb⟩
    have B2 : Hid (Below W.heap.size W w2) := hb
    clear hb E2
    cases bR with
    | false =>
      clear E3 E4 HR
      go_wp2
      go_ret
      exact ⟨rfl, H0.out.trans (B2.out.mono H0.out.size)⟩
    | true =>
      obtain ⟨r0, r1⟩ := HR.out _ B2.out
      go_wp2_with (first | (refine load_row_g (by kernel_rfl) 41 (.tmp 1) rfl w.heap.size rfl _ _ _ _ r0 Tryz.underlying41 rfl (by kernel_rfl) ?_) | (refine load_row_g (by kernel_rfl) 77 (.tmp 3) rfl (w.heap.size + 1) rfl _ _ _ _ r1 Tryz.underlying77 rfl (by kernel_rfl) ?_))
      clear r0 r1
      refine (E3.out _ B2.out).mono ?_
      rintro e w3 ⟨rfl, hb⟩
      have B3 : Hid (Below W.heap.size W w3) := hb
      clear hb E3
      cases bP with
      | false =>
        clear E4 HR
        go_wp2
        go_ret
        exact ⟨rfl, H0.out.trans (B3.out.mono H0.out.size)⟩
      | true =>
        obtain ⟨r0, r1⟩ := HR.out _ B3.out
        go_wp2_with (first | (refine load_row_g (by kernel_rfl) 41 (.tmp 1) rfl w.heap.size rfl _ _ _ _ r0 Tryz.underlying41 rfl (by kernel_rfl) ?_) | (refine load_row_g (by kernel_rfl) 77 (.tmp 3) rfl (w.heap.size + 1) rfl _ _ _ _ r1 Tryz.underlying77 rfl (by kernel_rfl) ?_))
        clear r0 r1
        refine (E4.out _ B3.out).mono ?_
        rintro e w4 ⟨rfl, hb⟩
        have B4 : Hid (Below W.heap.size W w4) := hb
        clear hb E4
        go_wp2
        go_ret
        exact ⟨rfl, H0.out.trans (B4.out.mono H0.out.size)⟩
end Go.Proofs.YtcenlgfopmahcaaGreatDoor
