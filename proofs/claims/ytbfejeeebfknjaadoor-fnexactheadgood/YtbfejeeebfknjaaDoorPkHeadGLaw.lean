/-
  The walk of the exact law of HeadGood.
-/
import Derived.Test.YtbfejeeebfknjaaDoorPkImplHeadG
import Derived.Test.YtbfejeeebfknjaaDoorPkSpecSign
import Derived.Test.YtbfejeeebfknjaaDoorPkTextRows
import Derived.Test.YtbfejeeebfknjaaDoorPkHeadOpen
import Derived.Deep.RegionWith
namespace Go.Proofs.YtbfejeeebfknjaaDoor
open Go.RowKit Go.Lib
set_option linter.unusedVariables false
set_option linter.unusedSimpArgs false

set_option maxHeartbeats 4000000 in
set_option maxRecDepth 10000 in
theorem lawHeadGood_any (r : ByteArray) (log root : ByteArray) (size time k : Int) (ve vp : Value) (el pl : List ByteArray) (w : World) (h1 : TextsArg w ve el) (h2 : TextsArg w vp pl) (hlog : log.size ≤ maxLen) (hroot : root.size ≤ maxLen) (hs : (Lit.int .i64 size).wf = true) (ht : (Lit.int .i64 time).wf = true) (hr : r.size ≤ maxLen) (hK : Keys w) :
    Calls Tryd.prog 5 #[.string r, .agg #[.string log, .int .i64 size, .string root, .int .i64 time, .int .i64 k, ve, vp]] w fun e w' => e = .returned (.bool true) ∧ Below w.heap.size w w' := by
  unfold maxLen at *
  have HK : Hid (Keys w) := hK
  clear hK
  have hs' := int_bd hs
  have ht' := int_bd ht
  obtain ⟨a1, c1, rfl, _⟩ := id h1.1
  obtain ⟨a2, c2, rfl, _⟩ := id h2.1
  obtain ⟨W, hW⟩ : ∃ W, W = w.alloc (.cells #[.string log, .int .i64 size, .string root, .int .i64 time, .int .i64 k, .slice a1 el.length c1, .slice a2 pl.length c2] 45) := ⟨_, rfl⟩
  have hbW : Below w.heap.size w W := by rw [hW]; exact (Below.refl _ _).alloc (Nat.le_refl _) _
  have hgW : W.heap[w.heap.size]? = some (.cells #[.string log, .int .i64 size, .string root, .int .i64 time, .int .i64 k, .slice a1 el.length c1, .slice a2 pl.length c2] 45 (0, 0)) := by rw [hW]; exact heap_alloc_new w _
  have E0 : Hid (Calls Tryd.prog 22 #[.agg #[.string log, .int .i64 size, .string root, .int .i64 time, .int .i64 k, .slice a1 el.length c1, .slice a2 pl.length c2], .int .i64 1048576] W fun e w' => ∃ r : Int, e = .returned (.int .i64 r) ∧ -1048577 ≤ r ∧ r ≤ 1048576 ∧ (r < 0 ∨ (log.size ≤ 1048576 ∧ root.size ≤ 1048576 ∧ el.length ≤ 1048576 ∧ pl.length ≤ 1048576)) ∧ Below W.heap.size W w') :=
    szHead_any log root size time k _ _ el pl 1048576 W ⟨(h1.1.below hbW).up hbW.size, h1.2⟩ ⟨(h2.1.below hbW).up hbW.size, h2.2⟩ (by omega) (by omega) hlog hroot
  have H0 : Hid (Below w.heap.size w W ∧ W.heap[w.heap.size]? = some (.cells #[.string log, .int .i64 size, .string root, .int .i64 time, .int .i64 k, .slice a1 el.length c1, .slice a2 pl.length c2] 45 (0, 0)) ∧ Texts w w.heap.size (.slice a1 el.length c1) el ∧ Texts w w.heap.size (.slice a2 pl.length c2) pl) := ⟨hbW, hgW, h1.1, h2.1⟩
  have HW : Hid (W = w.alloc (.cells #[.string log, .int .i64 size, .string root, .int .i64 time, .int .i64 k, .slice a1 el.length c1, .slice a2 pl.length c2] 45)) := hW
  have HST : Hid ((-9223372036854775808 ≤ size ∧ size ≤ 9223372036854775807) ∧ -9223372036854775808 ≤ time ∧ time ≤ 9223372036854775807) := ⟨hs', ht'⟩
  clear h1 h2 hW hbW hgW hs ht hs' ht' hlog hroot
  by_cases hr1 : 1048576 < (r.size : Int)
  · rw [HW.out] at H0
    go_enter Tryd.func5, Tryd.ntmps5
    go_wp2
    go_ret
    exact ⟨rfl, H0.out.1⟩
  have HRR : Hid (r.size ≤ 1048576) := by show _ ≤ _; omega
  go_enter Tryd.func5, Tryd.ntmps5
  go_wp2_with fail
  rw [← HW.out]
  refine E0.out.mono ?_
  rintro e w1 ⟨rr, rfl, hr0, hr1, hr, hb1⟩
  have hlW : w.heap.size < W.heap.size := (Array.getElem?_eq_some_iff.1 H0.out.2.1).1
  have H1 : Hid (Below w.heap.size w w1) := H0.out.1.trans (hb1.mono H0.out.1.size)
  by_cases hneg : rr < 0
  · clear hr
    go_wp2
    go_ret
    exact ⟨rfl, H1.out⟩
  have HL : Hid (log.size ≤ 1048576 ∧ root.size ≤ 1048576 ∧ el.length ≤ 1048576 ∧ pl.length ≤ 1048576) := by
    rcases hr with h | h
    · omega
    · exact h
  have HBX : Hid (w1.heap[w.heap.size]? = some (.cells #[.string log, .int .i64 size, .string root, .int .i64 time, .int .i64 k, .slice a1 el.length c1, .slice a2 pl.length c2] 45 (0, 0))) := (hb1.block _ hlW).trans H0.out.2.1
  have ET : Hid (∀ w', Below w.heap.size w w' → Calls Tryd.prog 24 #[.agg #[.string log, .int .i64 size, .string root, .int .i64 time, .int .i64 k, .slice a1 el.length c1, .slice a2 pl.length c2]] w' fun e w'' => HeadOwn w' log size root time k el pl e w'') := fun w' hb => toHead_any log root size time k _ _ el pl w' ((H0.out.2.2.1.below hb).up hb.size) ((H0.out.2.2.2.below hb).up hb.size) HL.out.2.2.1 HL.out.2.2.2
  have ES : Hid (∀ ue up w', Texts w' w'.heap.size ue el → Texts w' w'.heap.size up pl → Calls Tryd.prog 23 #[.string r, .agg #[.string log, .int .i64 size, .string root, .int .i64 time, .int .i64 k, ue, up]] w' fun e w'' => e = .returned (.bool (headGB r log size root time k el pl)) ∧ Below w'.heap.size w' w'') := fun ue up w' a b => specHeadGood_any r log root size time k ue up el pl w' a b HL.out.2.2.1 HL.out.2.2.2 HL.out.1 HL.out.2.1 HRR.out HST.out.1 HST.out.2
  have EI : Hid (∀ ue up w', Keys w' → Texts w' w'.heap.size ue el → Texts w' w'.heap.size up pl → Calls Tryd.prog 25 #[.string r, .agg #[.string log, .int .i64 size, .string root, .int .i64 time, .int .i64 k, ue, up]] w' fun e w'' => e = .returned (.bool (headGB r log size root time k el pl)) ∧ Below w'.heap.size w' w'') := fun ue up w' hK a b => implHeadGood_any r log root size time k ue up el pl w' a b HL.out.2.2.1 HL.out.2.2.2 HL.out.1 HL.out.2.1 HRR.out HST.out.1 HST.out.2 hK
  have EQ : Hid (∀ (xe xp ue up : Value) (w : World), Texts w w.heap.size xe el → Texts w w.heap.size xp pl → Texts w w.heap.size ue el → Texts w w.heap.size up pl → Calls Tryd.prog 17 #[.agg #[.string log, .int .i64 size, .string root, .int .i64 time, .int .i64 k, xe, xp], .agg #[.string log, .int .i64 size, .string root, .int .i64 time, .int .i64 k, ue, up]] w fun e w' => e = .returned (.bool true) ∧ Below w.heap.size w w') := fun xe xp ue up w a b c d => eqHead_any log root size time k xe xp ue up el pl w a b c d (Nat.le_succ_of_le HL.out.2.2.1) (Nat.le_succ_of_le HL.out.2.2.2)
  generalize headGB r log size root time k el pl = V at *
  obtain ⟨⟨b0, b1, b2, b3, b4, b5, b6⟩, _⟩ := seven_cells (Below.refl w1.heap.size w1) (Array.getElem?_eq_some_iff.1 HBX.out).1 HBX.out
  clear hr hb1 E0 H0 HW hlW
  go_wp2_with fail
  refine (ET.out _ H1.out).mono ?_
  rintro e w2 ⟨xe, xp, n2, rfl, ho1, ho2, _, _, _, hb2⟩
  have H2 : Hid (Below w.heap.size w w2 ∧ Texts w2 w2.heap.size xe el ∧ Texts w2 w2.heap.size xp pl ∧ w2.heap[w.heap.size]? = some (.cells #[.string log, .int .i64 size, .string root, .int .i64 time, .int .i64 k, .slice a1 el.length c1, .slice a2 pl.length c2] 45 (0, 0))) := ⟨H1.out.trans (hb2.mono H1.out.size), ho1.texts, ho2.texts, (hb2.block _ (Array.getElem?_eq_some_iff.1 HBX.out).1).trans HBX.out⟩
  clear ho1 ho2 hb2 HBX H1 b0 b1 b2 b3 b4 b5 b6
  go_wp2_with fail
  refine (ES.out _ _ _ H2.out.2.1 H2.out.2.2.1).mono ?_
  rintro e w3 ⟨rfl, hb3⟩
  have H3 : Hid (Below w.heap.size w w3 ∧ w3.heap[w.heap.size]? = some (.cells #[.string log, .int .i64 size, .string root, .int .i64 time, .int .i64 k, .slice a1 el.length c1, .slice a2 pl.length c2] 45 (0, 0))) := ⟨H2.out.1.trans (hb3.mono H2.out.1.size), (hb3.block _ (Array.getElem?_eq_some_iff.1 H2.out.2.2.2).1).trans H2.out.2.2.2⟩
  obtain ⟨⟨b0, b1, b2, b3, b4, b5, b6⟩, _⟩ := seven_cells (Below.refl w3.heap.size w3) (Array.getElem?_eq_some_iff.1 H3.out.2).1 H3.out.2
  clear hb3 H2 ES
  go_wp2_with fail
  refine (ET.out _ H3.out.1).mono ?_
  rintro e w4 ⟨ye, yp, n4, rfl, ho1, ho2, _, _, _, hb4⟩
  obtain ⟨a3, c3, rfl⟩ := ho1.len
  obtain ⟨a4, c4, rfl⟩ := ho2.len
  obtain ⟨W4, hW4⟩ : ∃ W, W = w4.alloc (.cells #[.string log, .int .i64 size, .string root, .int .i64 time, .int .i64 k, .slice a3 el.length c3, .slice a4 pl.length c4] 36) := ⟨_, rfl⟩
  have H4 : Hid (Below w.heap.size w W4 ∧ Texts W4 w4.heap.size (.slice a3 el.length c3) el ∧ Texts W4 w4.heap.size (.slice a4 pl.length c4) pl ∧ W4.heap[w.heap.size]? = some (.cells #[.string log, .int .i64 size, .string root, .int .i64 time, .int .i64 k, .slice a1 el.length c1, .slice a2 pl.length c2] 45 (0, 0)) ∧ W4.heap[w4.heap.size]? = some (.cells #[.string log, .int .i64 size, .string root, .int .i64 time, .int .i64 k, .slice a3 el.length c3, .slice a4 pl.length c4] 36 (0, 0)) ∧ w4.heap.size < W4.heap.size) := by
    have hal : Below w4.heap.size w4 W4 := by rw [hW4]; exact (Below.refl _ _).alloc (Nat.le_refl _) _
    have hb : Below w3.heap.size w3 W4 := hb4.trans (hal.mono hb4.size)
    refine ⟨H3.out.1.trans (hb.mono H3.out.1.size), ho1.texts.below hal, ho2.texts.below hal, (hb.block _ (Array.getElem?_eq_some_iff.1 H3.out.2).1).trans H3.out.2, ?_, ?_⟩
    · rw [hW4]; exact heap_alloc_new w4 _
    · rw [hW4]; simp
  have HW4 : Hid (W4 = w4.alloc (.cells #[.string log, .int .i64 size, .string root, .int .i64 time, .int .i64 k, .slice a3 el.length c3, .slice a4 pl.length c4] 36)) := hW4
  clear ho1 ho2 hb4 H3 b0 b1 b2 b3 b4 b5 b6 hW4
  go_wp2_with fail
  rw [← HW4.out]
  clear HW4
  generalize hq : w4.heap.size = q at *
  clear hq
  refine (EI.out _ _ _ (HK.out.below H4.out.1 HK.out.lt) (H4.out.2.1.up (Nat.le_of_lt H4.out.2.2.2.2.2)) (H4.out.2.2.1.up (Nat.le_of_lt H4.out.2.2.2.2.2))).mono ?_
  rintro e w5 ⟨rfl, hb5⟩
  have hqw : w.heap.size < W4.heap.size := (Array.getElem?_eq_some_iff.1 H4.out.2.2.2.1).1
  have H5 : Hid (Below w.heap.size w w5 ∧ Texts w5 q (.slice a3 el.length c3) el ∧ Texts w5 q (.slice a4 pl.length c4) pl ∧ w5.heap[w.heap.size]? = some (.cells #[.string log, .int .i64 size, .string root, .int .i64 time, .int .i64 k, .slice a1 el.length c1, .slice a2 pl.length c2] 45 (0, 0)) ∧ w5.heap[q]? = some (.cells #[.string log, .int .i64 size, .string root, .int .i64 time, .int .i64 k, .slice a3 el.length c3, .slice a4 pl.length c4] 36 (0, 0)) ∧ q < w5.heap.size) :=
    ⟨H4.out.1.trans (hb5.mono H4.out.1.size), H4.out.2.1.below (hb5.mono (Nat.le_of_lt H4.out.2.2.2.2.2)), H4.out.2.2.1.below (hb5.mono (Nat.le_of_lt H4.out.2.2.2.2.2)), (hb5.block _ hqw).trans H4.out.2.2.2.1, (hb5.block _ H4.out.2.2.2.2.2).trans H4.out.2.2.2.2.1, Nat.lt_of_lt_of_le H4.out.2.2.2.2.2 hb5.size⟩
  clear hb5 hqw H4 EI
  have HQ5 : Hid (q < w5.heap.size) := H5.out.2.2.2.2.2
  have HBD : Hid (Below w.heap.size w w5.drew) := below_drew' H5.out.1
  obtain ⟨⟨b0, b1, b2, b3, b4, b5, b6⟩, _⟩ := seven_cells (below_drew' (Below.refl w5.heap.size w5)) (Array.getElem?_eq_some_iff.1 H5.out.2.2.2.1).1 H5.out.2.2.2.1
  obtain ⟨⟨d0, d1, d2, d3, d4, d5, d6⟩, _⟩ := seven_cells (below_drew' (Below.refl w5.heap.size w5)) H5.out.2.2.2.2.2 H5.out.2.2.2.2.1
  have hVV : (V != V) = false := by simp
  go_wp2_with fail
  go_region_with (first
    | (go_at_call 24; refine (ET.out _ ?_).mono ?_; exact HBD.out; rintro e w6 ⟨ze, zp, n6, rfl, ho1, ho2, _, _, _, hb6⟩; obtain ⟨⟨x0, x1, x2, x3, x4, x5, x6⟩, _⟩ := seven_cells (below_drew hb6) HQ5.out H5.out.2.2.2.2.1; have H6 : Hid (Below w.heap.size w w6 ∧ Texts w6 w6.heap.size (.slice a3 el.length c3) el ∧ Texts w6 w6.heap.size (.slice a4 pl.length c4) pl ∧ Texts w6 w6.heap.size ze el ∧ Texts w6 w6.heap.size zp pl) := ⟨H5.out.1.trans ((below_drew hb6).mono H5.out.1.size), (H5.out.2.1.below ((below_drew hb6).mono (Nat.le_of_lt HQ5.out))).up (Nat.le_trans (Nat.le_of_lt HQ5.out) (below_drew hb6).size), (H5.out.2.2.1.below ((below_drew hb6).mono (Nat.le_of_lt HQ5.out))).up (Nat.le_trans (Nat.le_of_lt HQ5.out) (below_drew hb6).size), ho1.texts, ho2.texts⟩; clear ho1 ho2 hb6)
    | (go_at_call 17; refine (EQ.out _ _ _ _ _ ?_ ?_ ?_ ?_).mono ?_; exact H6.out.2.1; exact H6.out.2.2.1; exact H6.out.2.2.2.1; exact H6.out.2.2.2.2; rintro e w7 ⟨rfl, hb7⟩; have H7 : Hid (Below w.heap.size w w7) := H6.out.1.trans (hb7.mono H6.out.1.size); clear hb7))
  all_goals
    go_wp2
    go_ret
    exact ⟨rfl, H7.out⟩
end Go.Proofs.YtbfejeeebfknjaaDoor
