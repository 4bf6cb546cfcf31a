/-
  Why a charge does not hold.
-/
import Derived.Test.YtpglcbidfghfkaaGreatDoorPkImplCharge
import Derived.Test.YtpglcbidfghfkaaGreatDoorPkImplHeadG
import Derived.Deep.DeepCutAuto
namespace Go.Proofs.YtpglcbidfghfkaaGreatDoor
open Go.RowKit Go.Lib
set_option linter.unusedVariables false
set_option linter.unusedSimpArgs false

theorem method_split (v : Value) (w : World) : (Go.method 421 183 v "loop.example/g00390/impl.heads").run Tryz.prog w = .ok (282, v) w := by kernel_rfl
theorem method_rewrite (v : Value) (w : World) : (Go.method 421 186 v "loop.example/g00390/impl.heads").run Tryz.prog w = .ok (283, v) w := by kernel_rfl
theorem split_is (v : Value) (w : World) : (Instr.typeAssert (.iface 183 v) 112 183 true).run Tryz.prog w = .ok (.tuple #[v, .bool true]) w := by kernel_rfl
theorem rewrite_not (v : Value) (w : World) : (Instr.typeAssert (.iface 186 v) 112 183 true).run Tryz.prog w = .ok (.tuple #[.agg #[.string ⟨#[]⟩, .int .i64 0, .string ⟨#[]⟩, .int .i64 0, .int .i64 0, .slice none 0 0, .slice none 0 0, .string ⟨#[]⟩, .int .i64 0, .string ⟨#[]⟩, .int .i64 0, .int .i64 0, .slice none 0 0, .slice none 0 0], .bool false]) w := by kernel_rfl
theorem rewrite_is (v : Value) (w : World) : (Instr.typeAssert (.iface 186 v) 112 186 true).run Tryz.prog w = .ok (.tuple #[v, .bool true]) w := by kernel_rfl
set_option maxHeartbeats 4000000 in
set_option maxRecDepth 10000 in
theorem whySplitN_any (r : ByteArray) (x y : Hd) (a1 b1 a2 b2 : Option Addr) (s1 t1 s2 t2 : Nat) (w : World) (hx : x.In (.slice a1 x.el.length s1) (.slice b1 x.pl.length t1) w w.heap.size) (hy : y.In (.slice a2 y.el.length s2) (.slice b2 y.pl.length t2) w w.heap.size) (hlx : x.Lim) (hly : y.Lim) (hnx : x.Num) (hny : y.Num) (hr : r.size ≤ 1048576) (hK : Keys w) :
    Calls Tryz.prog 86 #[.string r, .iface 183 (.agg #[.string x.log, .int .i64 x.size, .string x.root, .int .i64 x.time, .int .i64 x.k, .slice a1 x.el.length s1, .slice b1 x.pl.length t1, .string y.log, .int .i64 y.size, .string y.root, .int .i64 y.time, .int .i64 y.k, .slice a2 y.el.length s2, .slice b2 y.pl.length t2])] w fun e w' => Why (x.good r && y.good r && (x.log.toList == y.log.toList) && twoB x y) e ∧ Below w.heap.size w w' := by
  have mS := method_split
  have mR := method_rewrite
  have iS := split_is
  have iN := rewrite_not
  have iR := rewrite_is
  have E0 : Hid (Calls Tryz.prog 282 #[.agg #[.string x.log, .int .i64 x.size, .string x.root, .int .i64 x.time, .int .i64 x.k, .slice a1 x.el.length s1, .slice b1 x.pl.length t1, .string y.log, .int .i64 y.size, .string y.root, .int .i64 y.time, .int .i64 y.k, .slice a2 y.el.length s2, .slice b2 y.pl.length t2]] w fun e w' => e = .returned (.tuple #[.agg #[.string x.log, .int .i64 x.size, .string x.root, .int .i64 x.time, .int .i64 x.k, .slice a1 x.el.length s1, .slice b1 x.pl.length t1], .agg #[.string y.log, .int .i64 y.size, .string y.root, .int .i64 y.time, .int .i64 y.k, .slice a2 y.el.length s2, .slice b2 y.pl.length t2]]) ∧ Below w.heap.size w w') := splitHeads_any x y a1 b1 a2 b2 s1 t1 s2 t2 w
  have G1 : Hid (∀ W', Below w.heap.size w W' → Calls Tryz.prog 11 #[.string r, .agg #[.string x.log, .int .i64 x.size, .string x.root, .int .i64 x.time, .int .i64 x.k, .slice a1 x.el.length s1, .slice b1 x.pl.length t1]] W' fun e w'' => e = .returned (.bool (x.good r)) ∧ Below W'.heap.size W' w'') := fun W' hb => (implHeadGood_any r x.log x.root x.size x.time x.k _ _ x.el x.pl W' (hx.on hb).1 (hx.on hb).2 hlx.2.2.1 hlx.2.2.2 hlx.1 hlx.2.1 hr hnx.1 hnx.2 (hK.below hb hK.lt))
  have G2 : Hid (∀ W', Below w.heap.size w W' → Calls Tryz.prog 11 #[.string r, .agg #[.string y.log, .int .i64 y.size, .string y.root, .int .i64 y.time, .int .i64 y.k, .slice a2 y.el.length s2, .slice b2 y.pl.length t2]] W' fun e w'' => e = .returned (.bool (y.good r)) ∧ Below W'.heap.size W' w'') := fun W' hb => (implHeadGood_any r y.log y.root y.size y.time y.k _ _ y.el y.pl W' (hy.on hb).1 (hy.on hb).2 hly.2.2.1 hly.2.2.2 hly.1 hly.2.1 hr hny.1 hny.2 (hK.below hb hK.lt))
  have G3 : Hid (∀ W', Below w.heap.size w W' → Calls Tryz.prog 172 #[.agg #[.string x.log, .int .i64 x.size, .string x.root, .int .i64 x.time, .int .i64 x.k, .slice a1 x.el.length s1, .slice b1 x.pl.length t1, .string y.log, .int .i64 y.size, .string y.root, .int .i64 y.time, .int .i64 y.k, .slice a2 y.el.length s2, .slice b2 y.pl.length t2]] W' fun e w'' => Why (twoB x y) e ∧ Below w.heap.size w w'') := fun W' hb => (whySplit_any x y a1 b1 a2 b2 s1 t1 s2 t2 W' (hx.on hb) (hy.on hb) hlx hly).mono fun e w'' h => ⟨h.1, hb.trans (h.2.mono hb.size)⟩
  have HZ : Hid (x.good r = true → 0 ≤ x.size) := fun h => (Hd.right_size (Hd.good_right h)).1
  have step : ∀ (x : Bool), x = true ∨ x = false := fun x => by cases x <;> simp
  clear hx hy hlx hly hnx hny hr hK
  generalize x.good r = gx at *
  generalize y.good r = gy at *
  generalize twoB x y = bb at *
  go_enter Tryz.func86, Tryz.ntmps86
  go_wp2_with fail
  refine E0.out.mono ?_
  rintro e w1 ⟨rfl, hb1⟩
  obtain ⟨W, hW⟩ : ∃ W, W = (w1.alloc (.cells #[.string x.log, .int .i64 x.size, .string x.root, .int .i64 x.time, .int .i64 x.k, .slice a1 x.el.length s1, .slice b1 x.pl.length t1] 29)).alloc (.cells #[.string y.log, .int .i64 y.size, .string y.root, .int .i64 y.time, .int .i64 y.k, .slice a2 y.el.length s2, .slice b2 y.pl.length t2] 29) := ⟨_, rfl⟩
  have hal : Below w1.heap.size w1 W := by rw [hW]; exact ((Below.refl _ _).alloc (Nat.le_refl _) _).alloc (by simp) _
  have hg1 : W.heap[w1.heap.size]? = some (.cells #[.string x.log, .int .i64 x.size, .string x.root, .int .i64 x.time, .int .i64 x.k, .slice a1 x.el.length s1, .slice b1 x.pl.length t1] 29 (0, 0)) := by rw [hW]; exact heap_alloc2_old w1 _ _
  have hg2 : W.heap[w1.heap.size + 1]? = some (.cells #[.string y.log, .int .i64 y.size, .string y.root, .int .i64 y.time, .int .i64 y.k, .slice a2 y.el.length s2, .slice b2 y.pl.length t2] 29 (0, 0)) := by rw [hW]; exact heap_alloc2_new w1 _ _
  have H0 : Hid (Below w.heap.size w W) := hb1.trans (hal.mono hb1.size)
  have HB0 : Hid (Below W.heap.size W W) := Below.refl _ _
  have HW : Hid (W = (w1.alloc (.cells #[.string x.log, .int .i64 x.size, .string x.root, .int .i64 x.time, .int .i64 x.k, .slice a1 x.el.length s1, .slice b1 x.pl.length t1] 29)).alloc (.cells #[.string y.log, .int .i64 y.size, .string y.root, .int .i64 y.time, .int .i64 y.k, .slice a2 y.el.length s2, .slice b2 y.pl.length t2] 29)) := hW
  have HC : Hid (∀ W', Below W.heap.size W W' → (W'.cell? ⟨w1.heap.size, 0, none⟩ = some (.string x.log) ∧ W'.cell? ⟨w1.heap.size, 1, none⟩ = some (.int .i64 x.size) ∧ W'.cell? ⟨w1.heap.size, 2, none⟩ = some (.string x.root) ∧ W'.cell? ⟨w1.heap.size, 3, none⟩ = some (.int .i64 x.time) ∧ W'.cell? ⟨w1.heap.size, 4, none⟩ = some (.int .i64 x.k) ∧ W'.cell? ⟨w1.heap.size, 5, none⟩ = some (.slice a1 x.el.length s1) ∧ W'.cell? ⟨w1.heap.size, 6, none⟩ = some (.slice b1 x.pl.length t1)) ∧ (W'.cell? ⟨w1.heap.size + 1, 0, none⟩ = some (.string y.log) ∧ W'.cell? ⟨w1.heap.size + 1, 1, none⟩ = some (.int .i64 y.size) ∧ W'.cell? ⟨w1.heap.size + 1, 2, none⟩ = some (.string y.root) ∧ W'.cell? ⟨w1.heap.size + 1, 3, none⟩ = some (.int .i64 y.time) ∧ W'.cell? ⟨w1.heap.size + 1, 4, none⟩ = some (.int .i64 y.k) ∧ W'.cell? ⟨w1.heap.size + 1, 5, none⟩ = some (.slice a2 y.el.length s2) ∧ W'.cell? ⟨w1.heap.size + 1, 6, none⟩ = some (.slice b2 y.pl.length t2))) := fun W' hb => by
    have c := row_cells hb (Array.getElem?_eq_some_iff.1 hg1).1 hg1
    have d := row_cells hb (Array.getElem?_eq_some_iff.1 hg2).1 hg2
    exact ⟨⟨c 0 _ rfl, c 1 _ rfl, c 2 _ rfl, c 3 _ rfl, c 4 _ rfl, c 5 _ rfl, c 6 _ rfl⟩, d 0 _ rfl, d 1 _ rfl, d 2 _ rfl, d 3 _ rfl, d 4 _ rfl, d 5 _ rfl, d 6 _ rfl⟩
  have HWB : Hid (∀ W', Below W.heap.size W W' → Below w.heap.size w W') := fun W' hb => H0.out.trans (hb.mono H0.out.size)
  have K1 : Hid (Calls Tryz.prog 11 #[.string r, .agg #[.string x.log, .int .i64 x.size, .string x.root, .int .i64 x.time, .int .i64 x.k, .slice a1 x.el.length s1, .slice b1 x.pl.length t1]] W fun e w'' => e = .returned (.bool gx) ∧ Below W.heap.size W w'') := G1.out W H0.out
  have K2 : Hid (∀ W', Below W.heap.size W W' → Calls Tryz.prog 11 #[.string r, .agg #[.string y.log, .int .i64 y.size, .string y.root, .int .i64 y.time, .int .i64 y.k, .slice a2 y.el.length s2, .slice b2 y.pl.length t2]] W' fun e w'' => e = .returned (.bool gy) ∧ Below W.heap.size W w'') := fun W' hb => (G2.out W' (HWB.out W' hb)).mono fun e w'' h => ⟨h.1, hb.trans (h.2.mono hb.size)⟩
  clear hal hg1 hg2 hW
  go_wp2_with fail
  rw [← HW.out]
  clear HW
  generalize w1.heap.size = g at *
  clear hb1
  cases gx with
  | false =>
    refine K1.out.mono ?_
    rintro e w2 ⟨rfl, hb2⟩
    have B2 : Hid (Below W.heap.size W w2) := hb2
    clear hb2
    go_wp2
    go_ret
    exact ⟨.inr ⟨rfl, _, rfl⟩, HWB.out _ B2.out⟩
  | true =>
    refine K1.out.mono ?_
    rintro e w2 ⟨rfl, hb2⟩
    have B2 : Hid (Below W.heap.size W w2) := hb2
    obtain ⟨⟨c0, c1, c2, c3, c4, c5, c6⟩, d0, d1, d2, d3, d4, d5, d6⟩ := HC.out _ hb2
    clear hb2
    go_wp2_with fail
    refine (K2.out _ B2.out).mono ?_
    rintro e w3 ⟨rfl, hb3⟩
    have B3 : Hid (Below W.heap.size W w3) := hb3
    clear c0 c1 c2 c3 c4 c5 c6 d0 d1 d2 d3 d4 d5 d6
    obtain ⟨⟨c0, c1, c2, c3, c4, c5, c6⟩, d0, d1, d2, d3, d4, d5, d6⟩ := HC.out _ hb3
    clear hb3
    cases gy with
    | false =>
      go_wp2
      go_ret
      exact ⟨.inr ⟨rfl, _, rfl⟩, HWB.out _ B3.out⟩
    | true =>
      rcases step (x.log.toList == y.log.toList) with q1 | q1
      · have B4 : Hid (∀ o : Obj, Below w.heap.size w (w3.alloc o)) := fun o => (HWB.out _ B3.out).alloc (HWB.out _ B3.out).size _
        have G4 : Hid (∀ W', Below w.heap.size w W' → Calls Tryz.prog 172 #[.agg #[.string x.log, .int .i64 x.size, .string x.root, .int .i64 x.time, .int .i64 x.k, .slice a1 x.el.length s1, .slice b1 x.pl.length t1, .string y.log, .int .i64 y.size, .string y.root, .int .i64 y.time, .int .i64 y.k, .slice a2 y.el.length s2, .slice b2 y.pl.length t2]] W' fun e w'' => Why bb e ∧ Below w.heap.size w w'') := G3.out
        clear G3 K1 K2 G1 G2 HC
        go_wp2_with fail
        refine (G4.out _ (B4.out _)).mono ?_
        rintro e w4 ⟨hwhy, hb4⟩
        have B5 : Hid (Below w.heap.size w w4) := hb4
        clear hb4
        rcases hwhy with ⟨rfl, rfl⟩ | ⟨rfl, s, rfl⟩
        · go_wp2
          go_ret
          exact ⟨.inl ⟨by rw [q1]; rfl, rfl⟩, B5.out⟩
        · go_wp2
          go_ret
          exact ⟨.inr ⟨by rw [q1]; rfl, _, rfl⟩, B5.out⟩
      · clear G3 K1 K2 G1 G2 HC
        go_wp2
        go_ret
        exact ⟨.inr ⟨by rw [q1]; rfl, _, rfl⟩, HWB.out _ B3.out⟩

set_option maxHeartbeats 4000000 in
set_option maxRecDepth 10000 in
theorem whyRewriteN_any (r : ByteArray) (x y : Hd) (a1 b1 a2 b2 : Option Addr) (s1 t1 s2 t2 : Nat) (ae : Option Addr) (ce : Nat) (l : List ByteArray) (w : World) (hx : x.In (.slice a1 x.el.length s1) (.slice b1 x.pl.length t1) w w.heap.size) (hy : y.In (.slice a2 y.el.length s2) (.slice b2 y.pl.length t2) w w.heap.size) (h3 : Texts w w.heap.size (.slice ae l.length ce) l) (hll : l.length ≤ 1048576) (hlx : x.Lim) (hly : y.Lim) (hnx : x.Num) (hny : y.Num) (hr : r.size ≤ 1048576) (hK : Keys w) :
    Calls Tryz.prog 86 #[.string r, .iface 186 (.agg #[.string x.log, .int .i64 x.size, .string x.root, .int .i64 x.time, .int .i64 x.k, .slice a1 x.el.length s1, .slice b1 x.pl.length t1, .string y.log, .int .i64 y.size, .string y.root, .int .i64 y.time, .int .i64 y.k, .slice a2 y.el.length s2, .slice b2 y.pl.length t2, .slice ae l.length ce])] w fun e w' => Why (x.good r && y.good r && (x.log.toList == y.log.toList) && rewB x y l) e ∧ Below w.heap.size w w' := by
  have mS := method_split
  have mR := method_rewrite
  have iS := split_is
  have iN := rewrite_not
  have iR := rewrite_is
  have E0 : Hid (Calls Tryz.prog 283 #[.agg #[.string x.log, .int .i64 x.size, .string x.root, .int .i64 x.time, .int .i64 x.k, .slice a1 x.el.length s1, .slice b1 x.pl.length t1, .string y.log, .int .i64 y.size, .string y.root, .int .i64 y.time, .int .i64 y.k, .slice a2 y.el.length s2, .slice b2 y.pl.length t2, .slice ae l.length ce]] w fun e w' => e = .returned (.tuple #[.agg #[.string x.log, .int .i64 x.size, .string x.root, .int .i64 x.time, .int .i64 x.k, .slice a1 x.el.length s1, .slice b1 x.pl.length t1], .agg #[.string y.log, .int .i64 y.size, .string y.root, .int .i64 y.time, .int .i64 y.k, .slice a2 y.el.length s2, .slice b2 y.pl.length t2]]) ∧ Below w.heap.size w w') := rewriteHeads_any x y a1 b1 a2 b2 s1 t1 s2 t2 ae ce l.length w
  have G1 : Hid (∀ W', Below w.heap.size w W' → Calls Tryz.prog 11 #[.string r, .agg #[.string x.log, .int .i64 x.size, .string x.root, .int .i64 x.time, .int .i64 x.k, .slice a1 x.el.length s1, .slice b1 x.pl.length t1]] W' fun e w'' => e = .returned (.bool (x.good r)) ∧ Below W'.heap.size W' w'') := fun W' hb => (implHeadGood_any r x.log x.root x.size x.time x.k _ _ x.el x.pl W' (hx.on hb).1 (hx.on hb).2 hlx.2.2.1 hlx.2.2.2 hlx.1 hlx.2.1 hr hnx.1 hnx.2 (hK.below hb hK.lt))
  have G2 : Hid (∀ W', Below w.heap.size w W' → Calls Tryz.prog 11 #[.string r, .agg #[.string y.log, .int .i64 y.size, .string y.root, .int .i64 y.time, .int .i64 y.k, .slice a2 y.el.length s2, .slice b2 y.pl.length t2]] W' fun e w'' => e = .returned (.bool (y.good r)) ∧ Below W'.heap.size W' w'') := fun W' hb => (implHeadGood_any r y.log y.root y.size y.time y.k _ _ y.el y.pl W' (hy.on hb).1 (hy.on hb).2 hly.2.2.1 hly.2.2.2 hly.1 hly.2.1 hr hny.1 hny.2 (hK.below hb hK.lt))
  have G3 : Hid (0 ≤ x.size → ∀ W', Below w.heap.size w W' → Calls Tryz.prog 173 #[.agg #[.string x.log, .int .i64 x.size, .string x.root, .int .i64 x.time, .int .i64 x.k, .slice a1 x.el.length s1, .slice b1 x.pl.length t1, .string y.log, .int .i64 y.size, .string y.root, .int .i64 y.time, .int .i64 y.k, .slice a2 y.el.length s2, .slice b2 y.pl.length t2, .slice ae l.length ce]] W' fun e w'' => Why (rewB x y l) e ∧ Below w.heap.size w w'') := fun hsz W' hb => (whyRewrite_any x y a1 b1 a2 b2 s1 t1 s2 t2 ae ce l W' hsz ((h3.on hb)) hll (hK.below hb hK.lt)).mono fun e w'' h => ⟨h.1, hb.trans (h.2.mono hb.size)⟩
  have HZ : Hid (x.good r = true → 0 ≤ x.size) := fun h => (Hd.right_size (Hd.good_right h)).1
  have step : ∀ (x : Bool), x = true ∨ x = false := fun x => by cases x <;> simp
  clear hx hy hlx hly hnx hny hr hK h3 hll
  generalize x.good r = gx at *
  generalize y.good r = gy at *
  generalize rewB x y l = bb at *
  go_enter Tryz.func86, Tryz.ntmps86
  go_wp2_with fail
  refine E0.out.mono ?_
  rintro e w1 ⟨rfl, hb1⟩
  obtain ⟨W, hW⟩ : ∃ W, W = (w1.alloc (.cells #[.string x.log, .int .i64 x.size, .string x.root, .int .i64 x.time, .int .i64 x.k, .slice a1 x.el.length s1, .slice b1 x.pl.length t1] 29)).alloc (.cells #[.string y.log, .int .i64 y.size, .string y.root, .int .i64 y.time, .int .i64 y.k, .slice a2 y.el.length s2, .slice b2 y.pl.length t2] 29) := ⟨_, rfl⟩
  have hal : Below w1.heap.size w1 W := by rw [hW]; exact ((Below.refl _ _).alloc (Nat.le_refl _) _).alloc (by simp) _
  have hg1 : W.heap[w1.heap.size]? = some (.cells #[.string x.log, .int .i64 x.size, .string x.root, .int .i64 x.time, .int .i64 x.k, .slice a1 x.el.length s1, .slice b1 x.pl.length t1] 29 (0, 0)) := by rw [hW]; exact heap_alloc2_old w1 _ _
  have hg2 : W.heap[w1.heap.size + 1]? = some (.cells #[.string y.log, .int .i64 y.size, .string y.root, .int .i64 y.time, .int .i64 y.k, .slice a2 y.el.length s2, .slice b2 y.pl.length t2] 29 (0, 0)) := by rw [hW]; exact heap_alloc2_new w1 _ _
  have H0 : Hid (Below w.heap.size w W) := hb1.trans (hal.mono hb1.size)
  have HB0 : Hid (Below W.heap.size W W) := Below.refl _ _
  have HW : Hid (W = (w1.alloc (.cells #[.string x.log, .int .i64 x.size, .string x.root, .int .i64 x.time, .int .i64 x.k, .slice a1 x.el.length s1, .slice b1 x.pl.length t1] 29)).alloc (.cells #[.string y.log, .int .i64 y.size, .string y.root, .int .i64 y.time, .int .i64 y.k, .slice a2 y.el.length s2, .slice b2 y.pl.length t2] 29)) := hW
  have HC : Hid (∀ W', Below W.heap.size W W' → (W'.cell? ⟨w1.heap.size, 0, none⟩ = some (.string x.log) ∧ W'.cell? ⟨w1.heap.size, 1, none⟩ = some (.int .i64 x.size) ∧ W'.cell? ⟨w1.heap.size, 2, none⟩ = some (.string x.root) ∧ W'.cell? ⟨w1.heap.size, 3, none⟩ = some (.int .i64 x.time) ∧ W'.cell? ⟨w1.heap.size, 4, none⟩ = some (.int .i64 x.k) ∧ W'.cell? ⟨w1.heap.size, 5, none⟩ = some (.slice a1 x.el.length s1) ∧ W'.cell? ⟨w1.heap.size, 6, none⟩ = some (.slice b1 x.pl.length t1)) ∧ (W'.cell? ⟨w1.heap.size + 1, 0, none⟩ = some (.string y.log) ∧ W'.cell? ⟨w1.heap.size + 1, 1, none⟩ = some (.int .i64 y.size) ∧ W'.cell? ⟨w1.heap.size + 1, 2, none⟩ = some (.string y.root) ∧ W'.cell? ⟨w1.heap.size + 1, 3, none⟩ = some (.int .i64 y.time) ∧ W'.cell? ⟨w1.heap.size + 1, 4, none⟩ = some (.int .i64 y.k) ∧ W'.cell? ⟨w1.heap.size + 1, 5, none⟩ = some (.slice a2 y.el.length s2) ∧ W'.cell? ⟨w1.heap.size + 1, 6, none⟩ = some (.slice b2 y.pl.length t2))) := fun W' hb => by
    have c := row_cells hb (Array.getElem?_eq_some_iff.1 hg1).1 hg1
    have d := row_cells hb (Array.getElem?_eq_some_iff.1 hg2).1 hg2
    exact ⟨⟨c 0 _ rfl, c 1 _ rfl, c 2 _ rfl, c 3 _ rfl, c 4 _ rfl, c 5 _ rfl, c 6 _ rfl⟩, d 0 _ rfl, d 1 _ rfl, d 2 _ rfl, d 3 _ rfl, d 4 _ rfl, d 5 _ rfl, d 6 _ rfl⟩
  have HWB : Hid (∀ W', Below W.heap.size W W' → Below w.heap.size w W') := fun W' hb => H0.out.trans (hb.mono H0.out.size)
  have K1 : Hid (Calls Tryz.prog 11 #[.string r, .agg #[.string x.log, .int .i64 x.size, .string x.root, .int .i64 x.time, .int .i64 x.k, .slice a1 x.el.length s1, .slice b1 x.pl.length t1]] W fun e w'' => e = .returned (.bool gx) ∧ Below W.heap.size W w'') := G1.out W H0.out
  have K2 : Hid (∀ W', Below W.heap.size W W' → Calls Tryz.prog 11 #[.string r, .agg #[.string y.log, .int .i64 y.size, .string y.root, .int .i64 y.time, .int .i64 y.k, .slice a2 y.el.length s2, .slice b2 y.pl.length t2]] W' fun e w'' => e = .returned (.bool gy) ∧ Below W.heap.size W w'') := fun W' hb => (G2.out W' (HWB.out W' hb)).mono fun e w'' h => ⟨h.1, hb.trans (h.2.mono hb.size)⟩
  clear hal hg1 hg2 hW
  go_wp2_with fail
  rw [← HW.out]
  clear HW
  generalize w1.heap.size = g at *
  clear hb1
  cases gx with
  | false =>
    refine K1.out.mono ?_
    rintro e w2 ⟨rfl, hb2⟩
    have B2 : Hid (Below W.heap.size W w2) := hb2
    clear hb2
    go_wp2
    go_ret
    exact ⟨.inr ⟨rfl, _, rfl⟩, HWB.out _ B2.out⟩
  | true =>
    refine K1.out.mono ?_
    rintro e w2 ⟨rfl, hb2⟩
    have B2 : Hid (Below W.heap.size W w2) := hb2
    obtain ⟨⟨c0, c1, c2, c3, c4, c5, c6⟩, d0, d1, d2, d3, d4, d5, d6⟩ := HC.out _ hb2
    clear hb2
    go_wp2_with fail
    refine (K2.out _ B2.out).mono ?_
    rintro e w3 ⟨rfl, hb3⟩
    have B3 : Hid (Below W.heap.size W w3) := hb3
    clear c0 c1 c2 c3 c4 c5 c6 d0 d1 d2 d3 d4 d5 d6
    obtain ⟨⟨c0, c1, c2, c3, c4, c5, c6⟩, d0, d1, d2, d3, d4, d5, d6⟩ := HC.out _ hb3
    clear hb3
    cases gy with
    | false =>
      go_wp2
      go_ret
      exact ⟨.inr ⟨rfl, _, rfl⟩, HWB.out _ B3.out⟩
    | true =>
      rcases step (x.log.toList == y.log.toList) with q1 | q1
      · have B4 : Hid (∀ o : Obj, Below w.heap.size w (w3.alloc o)) := fun o => (HWB.out _ B3.out).alloc (HWB.out _ B3.out).size _
        have G4 : Hid (∀ W', Below w.heap.size w W' → Calls Tryz.prog 173 #[.agg #[.string x.log, .int .i64 x.size, .string x.root, .int .i64 x.time, .int .i64 x.k, .slice a1 x.el.length s1, .slice b1 x.pl.length t1, .string y.log, .int .i64 y.size, .string y.root, .int .i64 y.time, .int .i64 y.k, .slice a2 y.el.length s2, .slice b2 y.pl.length t2, .slice ae l.length ce]] W' fun e w'' => Why bb e ∧ Below w.heap.size w w'') := G3.out (HZ.out (by trivial))
        clear G3 K1 K2 G1 G2 HC
        go_wp2_with fail
        refine (G4.out _ (B4.out _)).mono ?_
        rintro e w4 ⟨hwhy, hb4⟩
        have B5 : Hid (Below w.heap.size w w4) := hb4
        clear hb4
        rcases hwhy with ⟨rfl, rfl⟩ | ⟨rfl, s, rfl⟩
        · go_wp2
          go_ret
          exact ⟨.inl ⟨by rw [q1]; rfl, rfl⟩, B5.out⟩
        · go_wp2
          go_ret
          exact ⟨.inr ⟨by rw [q1]; rfl, _, rfl⟩, B5.out⟩
      · clear G3 K1 K2 G1 G2 HC
        go_wp2
        go_ret
        exact ⟨.inr ⟨by rw [q1]; rfl, _, rfl⟩, HWB.out _ B3.out⟩

end Go.Proofs.YtpglcbidfghfkaaGreatDoor
