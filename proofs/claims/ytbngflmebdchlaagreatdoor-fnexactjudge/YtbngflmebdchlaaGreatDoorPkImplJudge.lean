/-
  Judge, the program's.
-/
import Derived.Test.YtbngflmebdchlaaGreatDoorPkImplWhy
import Derived.Test.YtbngflmebdchlaaGreatDoorPkErrIs
namespace Go.Proofs.YtbngflmebdchlaaGreatDoor
open Go.RowKit Go.Lib
set_option linter.unusedVariables false
set_option linter.unusedSimpArgs false

theorem Why.yes {e : Ending} (h : Why true e) : e = .returned .nilIface := by
  rcases h with ⟨_, h⟩ | ⟨h, _⟩
  · exact h
  · cases h
theorem Why.no {e : Ending} (h : Why false e) : ∃ s, e = .returned (.iface 136 (.string s)) := by
  rcases h with ⟨h, _⟩ | ⟨_, h⟩
  · cases h
  · exact h
set_option maxHeartbeats 4000000 in
set_option maxRecDepth 10000 in
theorem implJudge_any (r : ByteArray) (x y : Hd) (xe xp ye yp ve : Value) (l : List ByteArray) (w : World) (hx : x.In xe xp w w.heap.size) (hy : y.In ye yp w w.heap.size) (h3 : Texts w w.heap.size ve l) (hlx : x.Lim) (hly : y.Lim) (hnx : x.Num) (hny : y.Num) (hll : l.length ≤ 1048576) (hr : r.size ≤ 1048576) (hK : Keys w) (hS : Sentinel w) :
    Calls Tryz.prog 24 #[.string r, .agg #[.string x.log, .int .i64 x.size, .string x.root, .int .i64 x.time, .int .i64 x.k, xe, xp, .string y.log, .int .i64 y.size, .string y.root, .int .i64 y.time, .int .i64 y.k, ye, yp, ve]] w fun e w' => e = .returned (.bool (judgeB r x y l)) ∧ Below w.heap.size w w' := by
  obtain ⟨a1, s1, b1, t1, rfl, rfl⟩ := hx.parts
  obtain ⟨a2, s2, b2, t2, rfl, rfl⟩ := hy.parts
  obtain ⟨ae, ce, rfl, _⟩ := id h3
  have hsl := hS.lt
  obtain ⟨sa, hsa⟩ := hS
  obtain ⟨W, hW⟩ : ∃ W, W = w.alloc (.cells #[.string x.log, .int .i64 x.size, .string x.root, .int .i64 x.time, .int .i64 x.k, .slice a1 x.el.length s1, .slice b1 x.pl.length t1, .string y.log, .int .i64 y.size, .string y.root, .int .i64 y.time, .int .i64 y.k, .slice a2 y.el.length s2, .slice b2 y.pl.length t2, .slice ae l.length ce] 46) := ⟨_, rfl⟩
  have hbW : Below w.heap.size w W := by rw [hW]; exact (Below.refl _ _).alloc (Nat.le_refl _) _
  have hgW : W.heap[w.heap.size]? = some (.cells #[.string x.log, .int .i64 x.size, .string x.root, .int .i64 x.time, .int .i64 x.k, .slice a1 x.el.length s1, .slice b1 x.pl.length t1, .string y.log, .int .i64 y.size, .string y.root, .int .i64 y.time, .int .i64 y.k, .slice a2 y.el.length s2, .slice b2 y.pl.length t2, .slice ae l.length ce] 46 (0, 0)) := by rw [hW]; exact heap_alloc_new w _
  have HW : Hid (W = w.alloc (.cells #[.string x.log, .int .i64 x.size, .string x.root, .int .i64 x.time, .int .i64 x.k, .slice a1 x.el.length s1, .slice b1 x.pl.length t1, .string y.log, .int .i64 y.size, .string y.root, .int .i64 y.time, .int .i64 y.k, .slice a2 y.el.length s2, .slice b2 y.pl.length t2, .slice ae l.length ce] 46)) := hW
  have H0 : Hid (Below w.heap.size w W) := hbW
  have HB0 : Hid (Below W.heap.size W W) := Below.refl _ _
  have HS : Hid (∀ X, Below W.heap.size W X → X.cell? ⟨0, 0, none⟩ = some (.iface 202 (.pointer (some sa))) ∧ X.cell? ⟨w.heap.size, 0, none⟩ = some (.string x.log) ∧ X.cell? ⟨w.heap.size, 1, none⟩ = some (.int .i64 x.size) ∧ X.cell? ⟨w.heap.size, 2, none⟩ = some (.string x.root) ∧ X.cell? ⟨w.heap.size, 3, none⟩ = some (.int .i64 x.time) ∧ X.cell? ⟨w.heap.size, 4, none⟩ = some (.int .i64 x.k) ∧ X.cell? ⟨w.heap.size, 5, none⟩ = some (.slice a1 x.el.length s1) ∧ X.cell? ⟨w.heap.size, 6, none⟩ = some (.slice b1 x.pl.length t1) ∧ X.cell? ⟨w.heap.size, 7, none⟩ = some (.string y.log) ∧ X.cell? ⟨w.heap.size, 8, none⟩ = some (.int .i64 y.size) ∧ X.cell? ⟨w.heap.size, 9, none⟩ = some (.string y.root) ∧ X.cell? ⟨w.heap.size, 10, none⟩ = some (.int .i64 y.time) ∧ X.cell? ⟨w.heap.size, 11, none⟩ = some (.int .i64 y.k) ∧ X.cell? ⟨w.heap.size, 12, none⟩ = some (.slice a2 y.el.length s2) ∧ X.cell? ⟨w.heap.size, 13, none⟩ = some (.slice b2 y.pl.length t2) ∧ X.cell? ⟨w.heap.size, 14, none⟩ = some (.slice ae l.length ce)) := fun X hb => by
    have c := row_cells hb (Array.getElem?_eq_some_iff.1 hgW).1 hgW
    exact ⟨((hbW.trans (hb.mono hbW.size)).cell (p := ⟨0, 0, none⟩) hsl).trans hsa, c 0 _ rfl, c 1 _ rfl, c 2 _ rfl, c 3 _ rfl, c 4 _ rfl, c 5 _ rfl, c 6 _ rfl, c 7 _ rfl, c 8 _ rfl, c 9 _ rfl, c 10 _ rfl, c 11 _ rfl, c 12 _ rfl, c 13 _ rfl, c 14 _ rfl⟩
  have EC : Hid (∀ W', Calls Tryz.prog 69 #[.agg #[.string x.log, .int .i64 x.size, .string x.root, .int .i64 x.time, .int .i64 x.k, .slice a1 x.el.length s1, .slice b1 x.pl.length t1, .string y.log, .int .i64 y.size, .string y.root, .int .i64 y.time, .int .i64 y.k, .slice a2 y.el.length s2, .slice b2 y.pl.length t2, .slice ae l.length ce]] W' fun e w' => (∃ c, (∀ W', Below W.heap.size W W' → Calls Tryz.prog 68 #[.string r, c] W' fun e w' => Why (judgeB r x y l) e ∧ Below W'.heap.size W' w') ∧ e = .returned c) ∧ Below W'.heap.size W' w') := fun W' => by
    unfold judgeB
    by_cases h0 : l.length = 0
    · rw [if_pos h0, h0]
      exact (chargeOf_none x y a1 b1 a2 b2 s1 t1 s2 t2 ae ce W').mono fun e w' h => ⟨⟨_, fun W'' hb => whySplitN_any r x y a1 b1 a2 b2 s1 t1 s2 t2 W'' ((hx.on hbW).on hb) ((hy.on hbW).on hb) hlx hly hnx hny hr ((hK.below hbW hK.lt).below hb (hK.below hbW hK.lt).lt), h.1⟩, h.2⟩
    · rw [if_neg h0]
      exact (chargeOf_some x y a1 b1 a2 b2 s1 t1 s2 t2 ae ce l.length W' h0 hll).mono fun e w' h => ⟨⟨_, fun W'' hb => whyRewriteN_any r x y a1 b1 a2 b2 s1 t1 s2 t2 ae ce l W'' ((hx.on hbW).on hb) ((hy.on hbW).on hb) ((h3.on hbW).on hb) hll hlx hly hnx hny hr ((hK.below hbW hK.lt).below hb (hK.below hbW hK.lt).lt), h.1⟩, h.2⟩
  have EN : Hid (∀ w, Calls Tryz.prog 67 #[.nilIface, .iface 202 (.pointer (some sa))] w fun e w' => e = .returned (.bool false) ∧ w' = w) := fun w => is_nil sa w
  have ER : Hid (∀ s X, Below W.heap.size W X → Calls Tryz.prog 67 #[.iface 136 (.string s), .iface 202 (.pointer (some sa))] X fun e w' => e = .returned (.bool true) ∧ w' = X) := fun s X hb => is_reason s sa X (HS.out X hb).1
  clear hx hy h3 hlx hly hnx hny hr hK hW hbW hgW hsl hsa
  generalize judgeB r x y l = V at *
  obtain ⟨k0, c0, c1, c2, c3, c4, c5, c6, c7, c8, c9, c10, c11, c12, c13, c14⟩ := HS.out W HB0.out
  cases V with
  | false =>
    go_enter Tryz.func24, Tryz.ntmps24
    go_wp2_with fail
    rw [← HW.out]
    clear HW
    go_region_held3 (fun X => X.cell? ⟨0, 0, none⟩ = some (.iface 202 (.pointer (some sa))) ∧ X.cell? ⟨w.heap.size, 0, none⟩ = some (.string x.log) ∧ X.cell? ⟨w.heap.size, 1, none⟩ = some (.int .i64 x.size) ∧ X.cell? ⟨w.heap.size, 2, none⟩ = some (.string x.root) ∧ X.cell? ⟨w.heap.size, 3, none⟩ = some (.int .i64 x.time) ∧ X.cell? ⟨w.heap.size, 4, none⟩ = some (.int .i64 x.k) ∧ X.cell? ⟨w.heap.size, 5, none⟩ = some (.slice a1 x.el.length s1) ∧ X.cell? ⟨w.heap.size, 6, none⟩ = some (.slice b1 x.pl.length t1) ∧ X.cell? ⟨w.heap.size, 7, none⟩ = some (.string y.log) ∧ X.cell? ⟨w.heap.size, 8, none⟩ = some (.int .i64 y.size) ∧ X.cell? ⟨w.heap.size, 9, none⟩ = some (.string y.root) ∧ X.cell? ⟨w.heap.size, 10, none⟩ = some (.int .i64 y.time) ∧ X.cell? ⟨w.heap.size, 11, none⟩ = some (.int .i64 y.k) ∧ X.cell? ⟨w.heap.size, 12, none⟩ = some (.slice a2 y.el.length s2) ∧ X.cell? ⟨w.heap.size, 13, none⟩ = some (.slice b2 y.pl.length t2) ∧ X.cell? ⟨w.heap.size, 14, none⟩ = some (.slice ae l.length ce)) (((refine HS.out _ ?_); (repeat (first | exact HA2.out | exact HA1.out | exact HB0.out | refine below_drew' ?_))))
      (first
        | (go_at_call 69; (with_reducible refine (EC.out _).mono ?_); rintro e wa ⟨⟨c, hc, rfl⟩, hia⟩; have HCC : Hid _ := hc; have HA1 : Hid (Below W.heap.size W wa) := (by first | exact hia | exact (below_drew' HB0.out).trans (hia.mono HB0.out.size)); clear hia hc)
        | (go_at_call 68; (with_reducible refine (HCC.out _ ?_).mono ?_); (repeat (first | exact HA1.out | refine below_drew' ?_)); rintro e wb ⟨hwhy, hib⟩; have HA2 : Hid (Below W.heap.size W wb) := HA1.out.trans (hib.mono HA1.out.size); clear hib; obtain ⟨s, rfl⟩ := hwhy.no)
        | (go_at_call 67; (with_reducible refine (EN.out _).mono ?_); rintro e wc ⟨rfl, hwc⟩; obtain rfl : wb = wc := hwc.symm)
        | (go_at_call 67; (with_reducible refine (ER.out _ _ ?_).mono ?_); (repeat (first | exact HA2.out | refine below_drew' ?_)); rintro e wc ⟨rfl, hwc⟩; obtain rfl : wb = wc := hwc.symm))
    all_goals
      go_wp2
      go_ret
      exact ⟨rfl, H0.out.trans (HA2.out.mono H0.out.size)⟩
  | true =>
    go_enter Tryz.func24, Tryz.ntmps24
    go_wp2_with fail
    rw [← HW.out]
    clear HW
    go_region_held3 (fun X => X.cell? ⟨0, 0, none⟩ = some (.iface 202 (.pointer (some sa))) ∧ X.cell? ⟨w.heap.size, 0, none⟩ = some (.string x.log) ∧ X.cell? ⟨w.heap.size, 1, none⟩ = some (.int .i64 x.size) ∧ X.cell? ⟨w.heap.size, 2, none⟩ = some (.string x.root) ∧ X.cell? ⟨w.heap.size, 3, none⟩ = some (.int .i64 x.time) ∧ X.cell? ⟨w.heap.size, 4, none⟩ = some (.int .i64 x.k) ∧ X.cell? ⟨w.heap.size, 5, none⟩ = some (.slice a1 x.el.length s1) ∧ X.cell? ⟨w.heap.size, 6, none⟩ = some (.slice b1 x.pl.length t1) ∧ X.cell? ⟨w.heap.size, 7, none⟩ = some (.string y.log) ∧ X.cell? ⟨w.heap.size, 8, none⟩ = some (.int .i64 y.size) ∧ X.cell? ⟨w.heap.size, 9, none⟩ = some (.string y.root) ∧ X.cell? ⟨w.heap.size, 10, none⟩ = some (.int .i64 y.time) ∧ X.cell? ⟨w.heap.size, 11, none⟩ = some (.int .i64 y.k) ∧ X.cell? ⟨w.heap.size, 12, none⟩ = some (.slice a2 y.el.length s2) ∧ X.cell? ⟨w.heap.size, 13, none⟩ = some (.slice b2 y.pl.length t2) ∧ X.cell? ⟨w.heap.size, 14, none⟩ = some (.slice ae l.length ce)) (((refine HS.out _ ?_); (repeat (first | exact HA2.out | exact HA1.out | exact HB0.out | refine below_drew' ?_))))
      (first
        | (go_at_call 69; (with_reducible refine (EC.out _).mono ?_); rintro e wa ⟨⟨c, hc, rfl⟩, hia⟩; have HCC : Hid _ := hc; have HA1 : Hid (Below W.heap.size W wa) := (by first | exact hia | exact (below_drew' HB0.out).trans (hia.mono HB0.out.size)); clear hia hc)
        | (go_at_call 68; (with_reducible refine (HCC.out _ ?_).mono ?_); (repeat (first | exact HA1.out | refine below_drew' ?_)); rintro e wb ⟨hwhy, hib⟩; have HA2 : Hid (Below W.heap.size W wb) := HA1.out.trans (hib.mono HA1.out.size); clear hib; obtain rfl := hwhy.yes)
        | (go_at_call 67; (with_reducible refine (EN.out _).mono ?_); rintro e wc ⟨rfl, hwc⟩; obtain rfl : wb = wc := hwc.symm)
        | (go_at_call 67; (with_reducible refine (ER.out _ _ ?_).mono ?_); (repeat (first | exact HA2.out | refine below_drew' ?_)); rintro e wc ⟨rfl, hwc⟩; obtain rfl : wb = wc := hwc.symm))
    all_goals
      go_wp2
      go_ret
      exact ⟨rfl, H0.out.trans (HA2.out.mono H0.out.size)⟩
end Go.Proofs.YtbngflmebdchlaaGreatDoor
