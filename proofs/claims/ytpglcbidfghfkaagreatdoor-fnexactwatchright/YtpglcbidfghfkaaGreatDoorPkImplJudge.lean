/-
  Judge, the program's.
-/
import Derived.Test.YtpglcbidfghfkaaGreatDoorPkImplWhy
import Derived.Test.YtpglcbidfghfkaaGreatDoorPkErrIs
import Derived.Test.YtpglcbidfghfkaaGreatDoorPkRightV
namespace Go.Proofs.YtpglcbidfghfkaaGreatDoor
open Go.RowKit Go.Lib
set_option linter.unusedVariables false
set_option linter.unusedSimpArgs false

theorem Why.yes {e : Ending} (h : Why true e) : e = .returned .nilIface := by
  rcases h with ⟨_, h⟩ | ⟨h, _⟩
  · exact h
  · cases h
theorem Why.no {e : Ending} (h : Why false e) : ∃ s, e = .returned (.iface 181 (.string s)) := by
  rcases h with ⟨h, _⟩ | ⟨_, h⟩
  · cases h
  · exact h
set_option maxHeartbeats 4000000 in
set_option maxRecDepth 10000 in
theorem implJudge_any (r : ByteArray) (x y : Hd) (xe xp ye yp ve : Value) (l : List ByteArray) (w : World) (hx : x.In xe xp w w.heap.size) (hy : y.In ye yp w w.heap.size) (h3 : Texts w w.heap.size ve l) (hlx : x.Lim) (hly : y.Lim) (hnx : x.Num) (hny : y.Num) (hll : l.length ≤ 1048576) (hr : r.size ≤ 1048576) (hK : Keys w) (hS : Sentinel w) :
    Calls Tryz.prog 25 #[.string r, .agg #[.string x.log, .int .i64 x.size, .string x.root, .int .i64 x.time, .int .i64 x.k, xe, xp, .string y.log, .int .i64 y.size, .string y.root, .int .i64 y.time, .int .i64 y.k, ye, yp, ve]] w fun e w' => e = .returned (.bool (judgeB r x y l)) ∧ Below w.heap.size w w' := by
  obtain ⟨a1, s1, b1, t1, rfl, rfl⟩ := hx.parts
  obtain ⟨a2, s2, b2, t2, rfl, rfl⟩ := hy.parts
  obtain ⟨ae, ce, rfl, _⟩ := id h3
  have hsl := hS.lt
  obtain ⟨sa, hsa⟩ := hS
  obtain ⟨W, hW⟩ : ∃ W, W = w.alloc (.cells #[.string x.log, .int .i64 x.size, .string x.root, .int .i64 x.time, .int .i64 x.k, .slice a1 x.el.length s1, .slice b1 x.pl.length t1, .string y.log, .int .i64 y.size, .string y.root, .int .i64 y.time, .int .i64 y.k, .slice a2 y.el.length s2, .slice b2 y.pl.length t2, .slice ae l.length ce] 46) := ⟨_, rfl⟩
  have hbW : Below w.heap.size w W := by rw [hW]; exact (Below.refl _ _).alloc (Nat.le_refl _) _
  have hgW : W.heap[w.heap.size]? = some (.cells #[.string x.log, .int .i64 x.size, .string x.root, .int .i64 x.time, .int .i64 x.k, .slice a1 x.el.length s1, .slice b1 x.pl.length t1, .string y.log, .int .i64 y.size, .string y.root, .int .i64 y.time, .int .i64 y.k, .slice a2 y.el.length s2, .slice b2 y.pl.length t2, .slice ae l.length ce] 46 (0, 0)) := by rw [hW]; exact heap_alloc_new w _
  have HW : Hid (W = w.alloc (.cells #[.string x.log, .int .i64 x.size, .string x.root, .int .i64 x.time, .int .i64 x.k, .slice a1 x.el.length s1, .slice b1 x.pl.length t1, .string y.log, .int .i64 y.size, .string y.root, .int .i64 y.time, .int .i64 y.k, .slice a2 y.el.length s2, .slice b2 y.pl.length t2, .slice ae l.length ce] 46)) := hW
  have H0 : Hid (Below w.heap.size w W) := hbW
  have HB0 : Hid (Below W.heap.size W W) := Below.refl _ _
  have HS : Hid (∀ X, Below W.heap.size W X → X.cell? ⟨0, 0, none⟩ = some (.iface 285 (.pointer (some sa))) ∧ X.cell? ⟨w.heap.size, 0, none⟩ = some (.string x.log) ∧ X.cell? ⟨w.heap.size, 1, none⟩ = some (.int .i64 x.size) ∧ X.cell? ⟨w.heap.size, 2, none⟩ = some (.string x.root) ∧ X.cell? ⟨w.heap.size, 3, none⟩ = some (.int .i64 x.time) ∧ X.cell? ⟨w.heap.size, 4, none⟩ = some (.int .i64 x.k) ∧ X.cell? ⟨w.heap.size, 5, none⟩ = some (.slice a1 x.el.length s1) ∧ X.cell? ⟨w.heap.size, 6, none⟩ = some (.slice b1 x.pl.length t1) ∧ X.cell? ⟨w.heap.size, 7, none⟩ = some (.string y.log) ∧ X.cell? ⟨w.heap.size, 8, none⟩ = some (.int .i64 y.size) ∧ X.cell? ⟨w.heap.size, 9, none⟩ = some (.string y.root) ∧ X.cell? ⟨w.heap.size, 10, none⟩ = some (.int .i64 y.time) ∧ X.cell? ⟨w.heap.size, 11, none⟩ = some (.int .i64 y.k) ∧ X.cell? ⟨w.heap.size, 12, none⟩ = some (.slice a2 y.el.length s2) ∧ X.cell? ⟨w.heap.size, 13, none⟩ = some (.slice b2 y.pl.length t2) ∧ X.cell? ⟨w.heap.size, 14, none⟩ = some (.slice ae l.length ce)) := fun X hb => by
    have c := row_cells hb (Array.getElem?_eq_some_iff.1 hgW).1 hgW
    exact ⟨((hbW.trans (hb.mono hbW.size)).cell (p := ⟨0, 0, none⟩) hsl).trans hsa, c 0 _ rfl, c 1 _ rfl, c 2 _ rfl, c 3 _ rfl, c 4 _ rfl, c 5 _ rfl, c 6 _ rfl, c 7 _ rfl, c 8 _ rfl, c 9 _ rfl, c 10 _ rfl, c 11 _ rfl, c 12 _ rfl, c 13 _ rfl, c 14 _ rfl⟩
  have EC : Hid (∀ W', Calls Tryz.prog 87 #[.agg #[.string x.log, .int .i64 x.size, .string x.root, .int .i64 x.time, .int .i64 x.k, .slice a1 x.el.length s1, .slice b1 x.pl.length t1, .string y.log, .int .i64 y.size, .string y.root, .int .i64 y.time, .int .i64 y.k, .slice a2 y.el.length s2, .slice b2 y.pl.length t2, .slice ae l.length ce]] W' fun e w' => (∃ c, (∀ W', Below W.heap.size W W' → Calls Tryz.prog 86 #[.string r, c] W' fun e w' => Why (judgeB r x y l) e ∧ Below W'.heap.size W' w') ∧ e = .returned c) ∧ Below W'.heap.size W' w') := fun W' => by
    unfold judgeB
    by_cases h0 : l.length = 0
    · rw [if_pos h0, h0]
      exact (chargeOf_none x y a1 b1 a2 b2 s1 t1 s2 t2 ae ce W').mono fun e w' h => ⟨⟨_, fun W'' hb => whySplitN_any r x y a1 b1 a2 b2 s1 t1 s2 t2 W'' ((hx.on hbW).on hb) ((hy.on hbW).on hb) hlx hly hnx hny hr ((hK.below hbW hK.lt).below hb (hK.below hbW hK.lt).lt), h.1⟩, h.2⟩
    · rw [if_neg h0]
      exact (chargeOf_some x y a1 b1 a2 b2 s1 t1 s2 t2 ae ce l.length W' h0 hll).mono fun e w' h => ⟨⟨_, fun W'' hb => whyRewriteN_any r x y a1 b1 a2 b2 s1 t1 s2 t2 ae ce l W'' ((hx.on hbW).on hb) ((hy.on hbW).on hb) ((h3.on hbW).on hb) hll hlx hly hnx hny hr ((hK.below hbW hK.lt).below hb (hK.below hbW hK.lt).lt), h.1⟩, h.2⟩
  have EN : Hid (∀ w, Calls Tryz.prog 85 #[.nilIface, .iface 285 (.pointer (some sa))] w fun e w' => e = .returned (.bool false) ∧ w' = w) := fun w => is_nil sa w
  have ER : Hid (∀ s X, Below W.heap.size W X → Calls Tryz.prog 85 #[.iface 181 (.string s), .iface 285 (.pointer (some sa))] X fun e w' => e = .returned (.bool true) ∧ w' = X) := fun s X hb => is_reason s sa X (HS.out X hb).1
  clear hx hy h3 hlx hly hnx hny hr hK hW hbW hgW hsl hsa
  generalize judgeB r x y l = V at *
  obtain ⟨k0, c0, c1, c2, c3, c4, c5, c6, c7, c8, c9, c10, c11, c12, c13, c14⟩ := HS.out W HB0.out
  cases V with
  | false =>
    go_enter Tryz.func25, Tryz.ntmps25
    go_wp2_with fail
    rw [← HW.out]
    clear HW
    go_region_held3 (fun X => X.cell? ⟨0, 0, none⟩ = some (.iface 285 (.pointer (some sa))) ∧ X.cell? ⟨w.heap.size, 0, none⟩ = some (.string x.log) ∧ X.cell? ⟨w.heap.size, 1, none⟩ = some (.int .i64 x.size) ∧ X.cell? ⟨w.heap.size, 2, none⟩ = some (.string x.root) ∧ X.cell? ⟨w.heap.size, 3, none⟩ = some (.int .i64 x.time) ∧ X.cell? ⟨w.heap.size, 4, none⟩ = some (.int .i64 x.k) ∧ X.cell? ⟨w.heap.size, 5, none⟩ = some (.slice a1 x.el.length s1) ∧ X.cell? ⟨w.heap.size, 6, none⟩ = some (.slice b1 x.pl.length t1) ∧ X.cell? ⟨w.heap.size, 7, none⟩ = some (.string y.log) ∧ X.cell? ⟨w.heap.size, 8, none⟩ = some (.int .i64 y.size) ∧ X.cell? ⟨w.heap.size, 9, none⟩ = some (.string y.root) ∧ X.cell? ⟨w.heap.size, 10, none⟩ = some (.int .i64 y.time) ∧ X.cell? ⟨w.heap.size, 11, none⟩ = some (.int .i64 y.k) ∧ X.cell? ⟨w.heap.size, 12, none⟩ = some (.slice a2 y.el.length s2) ∧ X.cell? ⟨w.heap.size, 13, none⟩ = some (.slice b2 y.pl.length t2) ∧ X.cell? ⟨w.heap.size, 14, none⟩ = some (.slice ae l.length ce)) (((refine HS.out _ ?_); (repeat (first | exact HA2.out | exact HA1.out | exact HB0.out | refine below_drew' ?_))))
      (first
        | (go_at_call 87; (with_reducible refine (EC.out _).mono ?_); rintro e wa ⟨⟨c, hc, rfl⟩, hia⟩; have HCC : Hid _ := hc; have HA1 : Hid (Below W.heap.size W wa) := (by first | exact hia | exact (below_drew' HB0.out).trans (hia.mono HB0.out.size)); clear hia hc)
        | (go_at_call 86; (with_reducible refine (HCC.out _ ?_).mono ?_); (repeat (first | exact HA1.out | refine below_drew' ?_)); rintro e wb ⟨hwhy, hib⟩; have HA2 : Hid (Below W.heap.size W wb) := HA1.out.trans (hib.mono HA1.out.size); clear hib; obtain ⟨s, rfl⟩ := hwhy.no)
        | (go_at_call 85; (with_reducible refine (EN.out _).mono ?_); rintro e wc ⟨rfl, hwc⟩; obtain rfl : wb = wc := hwc.symm)
        | (go_at_call 85; (with_reducible refine (ER.out _ _ ?_).mono ?_); (repeat (first | exact HA2.out | refine below_drew' ?_)); rintro e wc ⟨rfl, hwc⟩; obtain rfl : wb = wc := hwc.symm))
    all_goals
      go_wp2
      go_ret
      exact ⟨rfl, H0.out.trans (HA2.out.mono H0.out.size)⟩
  | true =>
    go_enter Tryz.func25, Tryz.ntmps25
    go_wp2_with fail
    rw [← HW.out]
    clear HW
    go_region_held3 (fun X => X.cell? ⟨0, 0, none⟩ = some (.iface 285 (.pointer (some sa))) ∧ X.cell? ⟨w.heap.size, 0, none⟩ = some (.string x.log) ∧ X.cell? ⟨w.heap.size, 1, none⟩ = some (.int .i64 x.size) ∧ X.cell? ⟨w.heap.size, 2, none⟩ = some (.string x.root) ∧ X.cell? ⟨w.heap.size, 3, none⟩ = some (.int .i64 x.time) ∧ X.cell? ⟨w.heap.size, 4, none⟩ = some (.int .i64 x.k) ∧ X.cell? ⟨w.heap.size, 5, none⟩ = some (.slice a1 x.el.length s1) ∧ X.cell? ⟨w.heap.size, 6, none⟩ = some (.slice b1 x.pl.length t1) ∧ X.cell? ⟨w.heap.size, 7, none⟩ = some (.string y.log) ∧ X.cell? ⟨w.heap.size, 8, none⟩ = some (.int .i64 y.size) ∧ X.cell? ⟨w.heap.size, 9, none⟩ = some (.string y.root) ∧ X.cell? ⟨w.heap.size, 10, none⟩ = some (.int .i64 y.time) ∧ X.cell? ⟨w.heap.size, 11, none⟩ = some (.int .i64 y.k) ∧ X.cell? ⟨w.heap.size, 12, none⟩ = some (.slice a2 y.el.length s2) ∧ X.cell? ⟨w.heap.size, 13, none⟩ = some (.slice b2 y.pl.length t2) ∧ X.cell? ⟨w.heap.size, 14, none⟩ = some (.slice ae l.length ce)) (((refine HS.out _ ?_); (repeat (first | exact HA2.out | exact HA1.out | exact HB0.out | refine below_drew' ?_))))
      (first
        | (go_at_call 87; (with_reducible refine (EC.out _).mono ?_); rintro e wa ⟨⟨c, hc, rfl⟩, hia⟩; have HCC : Hid _ := hc; have HA1 : Hid (Below W.heap.size W wa) := (by first | exact hia | exact (below_drew' HB0.out).trans (hia.mono HB0.out.size)); clear hia hc)
        | (go_at_call 86; (with_reducible refine (HCC.out _ ?_).mono ?_); (repeat (first | exact HA1.out | refine below_drew' ?_)); rintro e wb ⟨hwhy, hib⟩; have HA2 : Hid (Below W.heap.size W wb) := HA1.out.trans (hib.mono HA1.out.size); clear hib; obtain rfl := hwhy.yes)
        | (go_at_call 85; (with_reducible refine (EN.out _).mono ?_); rintro e wc ⟨rfl, hwc⟩; obtain rfl : wb = wc := hwc.symm)
        | (go_at_call 85; (with_reducible refine (ER.out _ _ ?_).mono ?_); (repeat (first | exact HA2.out | refine below_drew' ?_)); rintro e wc ⟨rfl, hwc⟩; obtain rfl : wb = wc := hwc.symm))
    all_goals
      go_wp2
      go_ret
      exact ⟨rfl, H0.out.trans (HA2.out.mono H0.out.size)⟩
end Go.Proofs.YtpglcbidfghfkaaGreatDoor

/-
  Is what was found a fraud, or none where none was found? The program's test.
-/
namespace Go.Proofs.YtpglcbidfghfkaaGreatDoor
open Go.RowKit Go.Lib
set_option linter.unusedVariables false
set_option linter.unusedSimpArgs false

set_option maxHeartbeats 4000000 in
set_option maxRecDepth 10000 in
theorem findRight_any (t : Wt) (l : List Hv) (v0 v1 v2 vp v3 v4 v5 v6 v7 : Value) (w : World) (hi : t.In v0 v1 v2 v3 v4 v5 v6 v7 w w.heap.size) (hh : Heads w w.heap.size vp l) (hf : t.Lens) (hn : t.Nums) (hK : Keys w) (hS : Sentinel w) :
    Calls Tryz.prog 123 #[.agg #[.string t.log, .string t.key, v0, .string t.h.log, .int .i64 t.h.size, .string t.h.root, .int .i64 t.h.time, .int .i64 t.h.k, v1, v2, vp, .bool t.found, .string t.a.log, .int .i64 t.a.size, .string t.a.root, .int .i64 t.a.time, .int .i64 t.a.k, v3, v4, .string t.b.log, .int .i64 t.b.size, .string t.b.root, .int .i64 t.b.time, .int .i64 t.b.k, v5, v6, v7]] w fun e w' => e = .returned (.bool t.findB) ∧ Below w.heap.size w w' := by
  obtain ⟨a0, c0, rfl, z0⟩ := id hi.1
  obtain ⟨a1, c1, a2, c2, rfl, rfl⟩ := hi.2.1.parts
  obtain ⟨⟨ap, cp, rfl, zp⟩, zq⟩ := id hh
  obtain ⟨a3, c3, a4, c4, rfl, rfl⟩ := hi.2.2.1.parts
  obtain ⟨a5, c5, a6, c6, rfl, rfl⟩ := hi.2.2.2.1.parts
  obtain ⟨a7, c7, rfl, z7⟩ := id hi.2.2.2.2
  clear z0 zp zq z7
  obtain ⟨W, hW⟩ : ∃ W, W = w.alloc (.cells #[.string t.log, .string t.key, .slice a0 t.en.length c0, .string t.h.log, .int .i64 t.h.size, .string t.h.root, .int .i64 t.h.time, .int .i64 t.h.k, .slice a1 t.h.el.length c1, .slice a2 t.h.pl.length c2, .slice ap l.length cp, .bool t.found, .string t.a.log, .int .i64 t.a.size, .string t.a.root, .int .i64 t.a.time, .int .i64 t.a.k, .slice a3 t.a.el.length c3, .slice a4 t.a.pl.length c4, .string t.b.log, .int .i64 t.b.size, .string t.b.root, .int .i64 t.b.time, .int .i64 t.b.k, .slice a5 t.b.el.length c5, .slice a6 t.b.pl.length c6, .slice a7 t.fl.length c7] 57) := ⟨_, rfl⟩
  have hbW : Below w.heap.size w W := by rw [hW]; exact (Below.refl _ _).alloc (Nat.le_refl _) _
  have E1 : Hid (Calls Tryz.prog 192 #[.agg #[.string t.a.log, .int .i64 t.a.size, .string t.a.root, .int .i64 t.a.time, .int .i64 t.a.k, .slice a3 t.a.el.length c3, .slice a4 t.a.pl.length c4, .string t.b.log, .int .i64 t.b.size, .string t.b.root, .int .i64 t.b.time, .int .i64 t.b.k, .slice a5 t.b.el.length c5, .slice a6 t.b.pl.length c6, .slice a7 t.fl.length c7]] W fun e w' => e = .returned (.bool (zeroX t.a t.a.el.length t.a.pl.length && zeroX t.b t.b.el.length t.b.pl.length && decide (t.fl.length = 0))) ∧ Below W.heap.size W w') := implFraudZero_any t.a t.b _ _ _ _ _ _ _ _ _ _ _ _ _ _ _ W
  have E2 : Hid (Calls Tryz.prog 25 #[.string t.key, .agg #[.string t.a.log, .int .i64 t.a.size, .string t.a.root, .int .i64 t.a.time, .int .i64 t.a.k, .slice a3 t.a.el.length c3, .slice a4 t.a.pl.length c4, .string t.b.log, .int .i64 t.b.size, .string t.b.root, .int .i64 t.b.time, .int .i64 t.b.k, .slice a5 t.b.el.length c5, .slice a6 t.b.pl.length c6, .slice a7 t.fl.length c7]] W fun e w' => e = .returned (.bool (judgeB t.key t.a t.b t.fl)) ∧ Below W.heap.size W w') := implJudge_any t.key t.a t.b _ _ _ _ _ t.fl W (hi.2.2.1.on hbW) (hi.2.2.2.1.on hbW) (hi.2.2.2.2.on hbW) hf.2.2.2.2.1 hf.2.2.2.2.2.1 hn.2.1 hn.2.2 hf.2.2.2.2.2.2 hf.2.1 (hK.below hbW hK.lt) (hS.on hbW)
  have H0 : Hid (Below w.heap.size w W) := hbW
  have HW : Hid (W = w.alloc (.cells #[.string t.log, .string t.key, .slice a0 t.en.length c0, .string t.h.log, .int .i64 t.h.size, .string t.h.root, .int .i64 t.h.time, .int .i64 t.h.k, .slice a1 t.h.el.length c1, .slice a2 t.h.pl.length c2, .slice ap l.length cp, .bool t.found, .string t.a.log, .int .i64 t.a.size, .string t.a.root, .int .i64 t.a.time, .int .i64 t.a.k, .slice a3 t.a.el.length c3, .slice a4 t.a.pl.length c4, .string t.b.log, .int .i64 t.b.size, .string t.b.root, .int .i64 t.b.time, .int .i64 t.b.k, .slice a5 t.b.el.length c5, .slice a6 t.b.pl.length c6, .slice a7 t.fl.length c7] 57)) := hW
  unfold Wt.findB
  generalize (zeroX t.a t.a.el.length t.a.pl.length && zeroX t.b t.b.el.length t.b.pl.length && decide (t.fl.length = 0)) = bZ at *
  generalize judgeB t.key t.a t.b t.fl = bJ at *
  clear hi hh hf hn hK hS hW hbW
  cases hfd : t.found with
  | false =>
    rw [hfd] at HW
    go_enter Tryz.func123, Tryz.ntmps123
    go_wp2_with fail
    rw [← HW.out]
    refine E1.out.mono ?_
    rintro e w1 ⟨rfl, hb⟩
    have B1 : Hid (Below w.heap.size w w1) := H0.out.trans (hb.mono H0.out.size)
    clear hb E1 E2 H0 HW
    go_wp2
    go_ret
    exact ⟨ret_bool (by simp), B1.out⟩
  | true =>
    rw [hfd] at HW
    cases hq : (t.a.log.toList == t.log.toList) with
    | false =>
      clear E1 E2
      go_enter Tryz.func123, Tryz.ntmps123
      go_wp2
      rw [← HW.out]
      go_ret
      exact ⟨ret_bool (by simp), H0.out⟩
    | true =>
      go_enter Tryz.func123, Tryz.ntmps123
      go_wp2_with fail
      rw [← HW.out]
      refine E2.out.mono ?_
      rintro e w1 ⟨rfl, hb⟩
      have B1 : Hid (Below w.heap.size w w1) := H0.out.trans (hb.mono H0.out.size)
      clear hb E1 E2 H0 HW
      go_wp2
      go_ret
      exact ⟨ret_bool (by simp), B1.out⟩
end Go.Proofs.YtpglcbidfghfkaaGreatDoor

/-
  WatchRight: the program's.
-/
namespace Go.Proofs.YtpglcbidfghfkaaGreatDoor
open Go.RowKit Go.Lib
set_option linter.unusedVariables false
set_option linter.unusedSimpArgs false

set_option maxHeartbeats 4000000 in
set_option maxRecDepth 10000 in
theorem implWatchRight_any (t : Wt) (l : List Hv) (v0 v1 v2 vp v3 v4 v5 v6 v7 : Value) (w : World) (hi : t.In v0 v1 v2 v3 v4 v5 v6 v7 w w.heap.size) (hh : Heads w w.heap.size vp l) (hf : t.Lens) (hl : HdsLim l) (hn : t.Nums) (hnl : HdsNum l) (hK : Keys w) (hS : Sentinel w) :
    Calls Tryz.prog 49 #[.agg #[.string t.log, .string t.key, v0, .string t.h.log, .int .i64 t.h.size, .string t.h.root, .int .i64 t.h.time, .int .i64 t.h.k, v1, v2, vp, .bool t.found, .string t.a.log, .int .i64 t.a.size, .string t.a.root, .int .i64 t.a.time, .int .i64 t.a.k, v3, v4, .string t.b.log, .int .i64 t.b.size, .string t.b.root, .int .i64 t.b.time, .int .i64 t.b.k, v5, v6, v7]] w fun e w' => e = .returned (.bool (t.rightB l)) ∧ Below w.heap.size w w' := by
  obtain ⟨a0, c0, rfl, z0⟩ := id hi.1
  obtain ⟨a1, c1, a2, c2, rfl, rfl⟩ := hi.2.1.parts
  obtain ⟨⟨ap, cp, rfl, zp⟩, zq⟩ := id hh
  obtain ⟨a3, c3, a4, c4, rfl, rfl⟩ := hi.2.2.1.parts
  obtain ⟨a5, c5, a6, c6, rfl, rfl⟩ := hi.2.2.2.1.parts
  obtain ⟨a7, c7, rfl, z7⟩ := id hi.2.2.2.2
  clear z0 zp zq z7
  obtain ⟨W, hW⟩ : ∃ W, W = (w.alloc (.cells #[.string t.log, .string t.key, .slice a0 t.en.length c0, .string t.h.log, .int .i64 t.h.size, .string t.h.root, .int .i64 t.h.time, .int .i64 t.h.k, .slice a1 t.h.el.length c1, .slice a2 t.h.pl.length c2, .slice ap l.length cp, .bool t.found, .string t.a.log, .int .i64 t.a.size, .string t.a.root, .int .i64 t.a.time, .int .i64 t.a.k, .slice a3 t.a.el.length c3, .slice a4 t.a.pl.length c4, .string t.b.log, .int .i64 t.b.size, .string t.b.root, .int .i64 t.b.time, .int .i64 t.b.k, .slice a5 t.b.el.length c5, .slice a6 t.b.pl.length c6, .slice a7 t.fl.length c7] 57)).alloc (.cells #[.string t.log, .string t.key] 130) := ⟨_, rfl⟩
  have hbW : Below w.heap.size w W := by rw [hW]; exact ((Below.refl _ _).alloc (Nat.le_refl _) _).alloc (by simp) _
  have hzW : W.heap.size = w.heap.size + 2 := by rw [hW]; simp
  have k0 : W.heap[w.heap.size]? = some (.cells #[.string t.log, .string t.key, .slice a0 t.en.length c0, .string t.h.log, .int .i64 t.h.size, .string t.h.root, .int .i64 t.h.time, .int .i64 t.h.k, .slice a1 t.h.el.length c1, .slice a2 t.h.pl.length c2, .slice ap l.length cp, .bool t.found, .string t.a.log, .int .i64 t.a.size, .string t.a.root, .int .i64 t.a.time, .int .i64 t.a.k, .slice a3 t.a.el.length c3, .slice a4 t.a.pl.length c4, .string t.b.log, .int .i64 t.b.size, .string t.b.root, .int .i64 t.b.time, .int .i64 t.b.k, .slice a5 t.b.el.length c5, .slice a6 t.b.pl.length c6, .slice a7 t.fl.length c7] 57 (0, 0)) := by rw [hW]; exact heap_alloc2_old w _ _
  have k1 : W.heap[w.heap.size + 1]? = some (.cells #[.string t.log, .string t.key] 130 (0, 0)) := by rw [hW]; exact heap_alloc2_new w _ _
  have hKW : Keys W := hK.below hbW hK.lt
  have hSW : Sentinel W := hS.on hbW
  have on27 : ∀ X, Below W.heap.size W X → t.In (.slice a0 t.en.length c0) (.slice a1 t.h.el.length c1) (.slice a2 t.h.pl.length c2) (.slice a3 t.a.el.length c3) (.slice a4 t.a.pl.length c4) (.slice a5 t.b.el.length c5) (.slice a6 t.b.pl.length c6) (.slice a7 t.fl.length c7) X X.heap.size ∧ Heads X X.heap.size (.slice ap l.length cp) l := fun X q => ⟨(hi.on hbW).on q, (hh.on hbW).on q⟩
  have E1 : Hid (Calls Tryz.prog 120 #[.agg #[.string t.log, .string t.key]] W fun e w' => e = .returned (.bool (namedB t.log t.key)) ∧ Below W.heap.size W w') := named_any t.log t.key W hf.1
  have E2 : Hid (∀ X, Below W.heap.size W X → Calls Tryz.prog 121 #[.agg #[.string t.log, .string t.key, .slice a0 t.en.length c0, .string t.h.log, .int .i64 t.h.size, .string t.h.root, .int .i64 t.h.time, .int .i64 t.h.k, .slice a1 t.h.el.length c1, .slice a2 t.h.pl.length c2, .slice ap l.length cp, .bool t.found, .string t.a.log, .int .i64 t.a.size, .string t.a.root, .int .i64 t.a.time, .int .i64 t.a.k, .slice a3 t.a.el.length c3, .slice a4 t.a.pl.length c4, .string t.b.log, .int .i64 t.b.size, .string t.b.root, .int .i64 t.b.time, .int .i64 t.b.k, .slice a5 t.b.el.length c5, .slice a6 t.b.pl.length c6, .slice a7 t.fl.length c7], .agg #[.string t.log, .string t.key]] X fun e w' => e = .returned (.bool t.readB) ∧ Below W.heap.size W w') := fun X q => (readRight_any t l _ _ _ _ _ _ _ _ _ X (on27 X q).1 (on27 X q).2 hf hn (hKW.below q hKW.lt)).mono fun e w' h => ⟨h.1, q.trans (h.2.mono q.size)⟩
  have E3 : Hid (∀ X, Below W.heap.size W X → Calls Tryz.prog 122 #[.agg #[.string t.log, .string t.key, .slice a0 t.en.length c0, .string t.h.log, .int .i64 t.h.size, .string t.h.root, .int .i64 t.h.time, .int .i64 t.h.k, .slice a1 t.h.el.length c1, .slice a2 t.h.pl.length c2, .slice ap l.length cp, .bool t.found, .string t.a.log, .int .i64 t.a.size, .string t.a.root, .int .i64 t.a.time, .int .i64 t.a.k, .slice a3 t.a.el.length c3, .slice a4 t.a.pl.length c4, .string t.b.log, .int .i64 t.b.size, .string t.b.root, .int .i64 t.b.time, .int .i64 t.b.k, .slice a5 t.b.el.length c5, .slice a6 t.b.pl.length c6, .slice a7 t.fl.length c7], .agg #[.string t.log, .string t.key]] X fun e w' => e = .returned (.bool (decide (l.length ≤ 5) && poolB t.log t.key t.en.length l)) ∧ Below W.heap.size W w') := fun X q => (poolRight_any t l _ _ _ _ _ _ _ _ _ X (on27 X q).1 (on27 X q).2 hf hl hnl (hKW.below q hKW.lt)).mono fun e w' h => ⟨h.1, q.trans (h.2.mono q.size)⟩
  have E4 : Hid (∀ X, Below W.heap.size W X → Calls Tryz.prog 123 #[.agg #[.string t.log, .string t.key, .slice a0 t.en.length c0, .string t.h.log, .int .i64 t.h.size, .string t.h.root, .int .i64 t.h.time, .int .i64 t.h.k, .slice a1 t.h.el.length c1, .slice a2 t.h.pl.length c2, .slice ap l.length cp, .bool t.found, .string t.a.log, .int .i64 t.a.size, .string t.a.root, .int .i64 t.a.time, .int .i64 t.a.k, .slice a3 t.a.el.length c3, .slice a4 t.a.pl.length c4, .string t.b.log, .int .i64 t.b.size, .string t.b.root, .int .i64 t.b.time, .int .i64 t.b.k, .slice a5 t.b.el.length c5, .slice a6 t.b.pl.length c6, .slice a7 t.fl.length c7]] X fun e w' => e = .returned (.bool t.findB) ∧ Below W.heap.size W w') := fun X q => (findRight_any t l _ _ _ _ _ _ _ _ _ X (on27 X q).1 (on27 X q).2 hf hn (hKW.below q hKW.lt) (hSW.on q)).mono fun e w' h => ⟨h.1, q.trans (h.2.mono q.size)⟩
  have HR : Hid (∀ X, Below W.heap.size W X → X.heap[w.heap.size]? = some (.cells #[.string t.log, .string t.key, .slice a0 t.en.length c0, .string t.h.log, .int .i64 t.h.size, .string t.h.root, .int .i64 t.h.time, .int .i64 t.h.k, .slice a1 t.h.el.length c1, .slice a2 t.h.pl.length c2, .slice ap l.length cp, .bool t.found, .string t.a.log, .int .i64 t.a.size, .string t.a.root, .int .i64 t.a.time, .int .i64 t.a.k, .slice a3 t.a.el.length c3, .slice a4 t.a.pl.length c4, .string t.b.log, .int .i64 t.b.size, .string t.b.root, .int .i64 t.b.time, .int .i64 t.b.k, .slice a5 t.b.el.length c5, .slice a6 t.b.pl.length c6, .slice a7 t.fl.length c7] 57 (0, 0)) ∧ X.heap[w.heap.size + 1]? = some (.cells #[.string t.log, .string t.key] 130 (0, 0))) := fun X q => ⟨(q.block _ (by omega)).trans k0, (q.block _ (by omega)).trans k1⟩
  have H0 : Hid (Below w.heap.size w W) := hbW
  have HW : Hid (W = (w.alloc (.cells #[.string t.log, .string t.key, .slice a0 t.en.length c0, .string t.h.log, .int .i64 t.h.size, .string t.h.root, .int .i64 t.h.time, .int .i64 t.h.k, .slice a1 t.h.el.length c1, .slice a2 t.h.pl.length c2, .slice ap l.length cp, .bool t.found, .string t.a.log, .int .i64 t.a.size, .string t.a.root, .int .i64 t.a.time, .int .i64 t.a.k, .slice a3 t.a.el.length c3, .slice a4 t.a.pl.length c4, .string t.b.log, .int .i64 t.b.size, .string t.b.root, .int .i64 t.b.time, .int .i64 t.b.k, .slice a5 t.b.el.length c5, .slice a6 t.b.pl.length c6, .slice a7 t.fl.length c7] 57)).alloc (.cells #[.string t.log, .string t.key] 130)) := hW
  unfold Wt.rightB
  generalize namedB t.log t.key = bN at *
  generalize t.readB = bR at *
  generalize (decide (l.length ≤ 5) && poolB t.log t.key t.en.length l) = bP at *
  generalize t.findB = bF at *
  clear hi hh hf hl hn hnl hK hS hKW hSW on27 hW hbW hzW k0 k1
  go_enter Tryz.func49, Tryz.ntmps49
  go_wp2_with fail
  rw [← HW.out]
  clear HW
  refine E1.out.mono ?_
  rintro e w1 ⟨rfl, hb⟩
  have B1 : Hid (Below W.heap.size W w1) := hb
  clear hb E1
  cases bN with
  | false =>
    clear E2 E3 E4 HR
    go_wp2
    go_ret
    exact ⟨rfl, H0.out.trans (B1.out.mono H0.out.size)⟩
  | true =>
    obtain ⟨r0, r1⟩ := HR.out _ B1.out
    go_wp2_with (first | (refine load_row_g (by kernel_rfl) 57 (.tmp 1) rfl w.heap.size rfl _ _ _ _ r0 Tryz.underlying57 rfl (by kernel_rfl) ?_) | (refine load_row_g (by kernel_rfl) 130 (.tmp 3) rfl (w.heap.size + 1) rfl _ _ _ _ r1 Tryz.underlying130 rfl (by kernel_rfl) ?_))
    clear r0 r1
    refine (E2.out _ B1.out).mono ?_
    rintro e w2 ⟨rfl, hb⟩
    have B2 : Hid (Below W.heap.size W w2) := hb
    clear hb E2
    cases bR with
    | false =>
      clear E3 E4 HR
      go_wp2
      go_ret
      exact ⟨rfl, H0.out.trans (B2.out.mono H0.out.size)⟩
    | true =>
      obtain ⟨r0, r1⟩ := HR.out _ B2.out
      go_wp2_with (first | (refine load_row_g (by kernel_rfl) 57 (.tmp 1) rfl w.heap.size rfl _ _ _ _ r0 Tryz.underlying57 rfl (by kernel_rfl) ?_) | (refine load_row_g (by kernel_rfl) 130 (.tmp 3) rfl (w.heap.size + 1) rfl _ _ _ _ r1 Tryz.underlying130 rfl (by kernel_rfl) ?_))
      clear r0 r1
      refine (E3.out _ B2.out).mono ?_
      rintro e w3 ⟨rfl, hb⟩
      have B3 : Hid (Below W.heap.size W w3) := hb
      clear hb E3
      cases bP with
      | false =>
        clear E4 HR
        go_wp2
        go_ret
        exact ⟨rfl, H0.out.trans (B3.out.mono H0.out.size)⟩
      | true =>
        obtain ⟨r0, r1⟩ := HR.out _ B3.out
        go_wp2_with (first | (refine load_row_g (by kernel_rfl) 57 (.tmp 1) rfl w.heap.size rfl _ _ _ _ r0 Tryz.underlying57 rfl (by kernel_rfl) ?_) | (refine load_row_g (by kernel_rfl) 130 (.tmp 3) rfl (w.heap.size + 1) rfl _ _ _ _ r1 Tryz.underlying130 rfl (by kernel_rfl) ?_))
        clear r0 r1
        refine (E4.out _ B3.out).mono ?_
        rintro e w4 ⟨rfl, hb⟩
        have B4 : Hid (Below W.heap.size W w4) := hb
        clear hb E4
        go_wp2
        go_ret
        exact ⟨rfl, H0.out.trans (B4.out.mono H0.out.size)⟩
end Go.Proofs.YtpglcbidfghfkaaGreatDoor
