/-
  HeadSign, the program's.
-/
import Derived.Test.YtpglcbidfghfkaaGreatDoorPkHeadSV
import Derived.Test.YtpglcbidfghfkaaGreatDoorPkImplHeadT
import Derived.Test.YtpglcbidfghfkaaGreatDoorPkImplTree
import Derived.Test.YtpglcbidfghfkaaGreatDoorPkRight
import Derived.Test.YtpglcbidfghfkaaGreatDoorPkImplSign
import Derived.Test.YtpglcbidfghfkaaGreatDoorPkCells
import Derived.Deep.RegionWith
import Derived.Deep.RegionHeld3
namespace Go.Proofs.YtpglcbidfghfkaaGreatDoor
open Go.RowKit Go.Lib
set_option linter.unusedVariables false
set_option linter.unusedSimpArgs false

/-- In between: the answer's block as it was made, the claim in block g. -/
def HsIn (w : World) (g : Nat) (c : Array Value) (W : World) : Prop :=
  Below w.heap.size w W ∧ W.heap[w.heap.size]? = some (.cells #[.string ⟨#[]⟩, .int .i64 0, .string ⟨#[]⟩, .int .i64 0, .int .i64 0, .slice none 0 0, .slice none 0 0] 29 (0, 0)) ∧ W.heap[g]? = some (.cells c 96 (0, 0)) ∧ w.heap.size < g ∧ Keys W
theorem HsIn.lt {w W : World} {g : Nat} {c : Array Value} (h : HsIn w g c W) : g < W.heap.size := (Array.getElem?_eq_some_iff.1 h.2.2.1).1
theorem HsIn.below {w W W' : World} {g : Nat} {c : Array Value} (h : HsIn w g c W) (hb : Below W.heap.size W W') : HsIn w g c W' :=
  ⟨h.1.trans (hb.mono h.1.size), (hb.block _ (Nat.lt_trans h.2.2.2.1 h.lt)).trans h.2.1, (hb.block _ h.lt).trans h.2.2.1, h.2.2.2.1, h.2.2.2.2.below hb h.2.2.2.2.lt⟩
theorem HsIn.drew {w W : World} {g : Nat} {c : Array Value} (h : HsIn w g c W) : HsIn w g c W.drew := h.below (below_drew' (Below.refl _ _))

set_option maxHeartbeats 4000000 in
set_option maxRecDepth 10000 in
theorem implHeadSignY_any (s : ByteArray) (k : Int) (log : ByteArray) (v : Value) (l : List ByteArray) (t : Int) (w : World) (h : Texts w w.heap.size v l) (hl : l.length ≤ 1048576) (hs : s.size ≤ 1048576) (hlog : log.size ≤ 1048576) (ht : -9223372036854775808 ≤ t ∧ t ≤ 9223372036854775807) (hB : hsB s k log l t = true) (hK : Keys w) :
    Calls Tryz.prog 8 #[.string s, .int .i64 k, .string log, v, .int .i64 t] w fun e w' => HeadAns w log l.length (treeB l) t k (endsB s k (hsT log l t)) (pathB (pubsB s) k.toNat) e w' := by
  obtain ⟨y1, y2, y3, y4, y5⟩ := hsB_yes hB
  have hz := hsT_size y3 l t
  obtain ⟨a, cap, rfl, hxx⟩ := id h
  clear hxx
  obtain ⟨W, hW⟩ : ∃ W, W = w.alloc (.cells #[.string ⟨#[]⟩, .int .i64 0, .string ⟨#[]⟩, .int .i64 0, .int .i64 0, .slice none 0 0, .slice none 0 0] 29) := ⟨_, rfl⟩
  have hbW : Below w.heap.size w W := by rw [hW]; exact (Below.refl _ _).alloc (Nat.le_refl _) _
  have hgW : W.heap[w.heap.size]? = some (.cells #[.string ⟨#[]⟩, .int .i64 0, .string ⟨#[]⟩, .int .i64 0, .int .i64 0, .slice none 0 0, .slice none 0 0] 29 (0, 0)) := by rw [hW]; exact heap_alloc_new w _
  have HW : Hid (W = w.alloc (.cells #[.string ⟨#[]⟩, .int .i64 0, .string ⟨#[]⟩, .int .i64 0, .int .i64 0, .slice none 0 0, .slice none 0 0] 29)) := hW
  have E0 : Hid (∀ w, Calls Tryz.prog 61 #[.string s] w fun e w' => e = .returned (.bool true) ∧ w' = w) := fun w => by rw [← y1]; exact seedRight_any s w hs
  have E1 : Hid (∀ w, Calls Tryz.prog 62 #[.int .i64 k] w fun e w' => e = .returned (.bool true) ∧ w' = w) := fun w => by rw [← decide_eq_true y2]; exact keyRight_any k w
  have E2 : Hid (Calls Tryz.prog 63 #[.slice a l.length cap] W fun e w' => e = .returned (.bool true) ∧ w' = W) := by rw [← y4]; exact entriesRight_any _ l W _ ((h.below hbW).up hbW.size) hl
  have E3 : Hid (Calls Tryz.prog 64 #[.slice a l.length cap] W fun e w' => e = .returned (.string (treeB l)) ∧ Below W.heap.size W w') := treeOf_any _ l W ((h.below hbW).up hbW.size) hl (fun j hj => rightB_at y4 hj) (hK.below hbW hK.lt)
  have hts : (treeB l).size ≤ 1048576 := by rw [treeB_size]; omega
  have hn64 := rightB_len y4
  have E4 : Hid (∀ X, Calls Tryz.prog 65 #[.agg #[.string log, .int .i64 l.length, .string (treeB l), .int .i64 t]] X fun e w' => e = .returned (.bool true) ∧ Below X.heap.size X w') := fun X => (claimRight_any log (treeB l) l.length t X hlog hts).mono fun e w' q => ⟨q.1.trans (ret_bool (by rw [claimB_right y4, y3, decide_eq_true y5]; rfl)), q.2⟩
  have E5 : Hid (∀ X, Calls Tryz.prog 66 #[.string log, .string ⟨#[]⟩] X fun e w' => e = .returned (.string log) ∧ Below X.heap.size X w') := fun X => (joined_any log ⟨#[]⟩ X hlog (Nat.zero_le _)).mono fun e w' q => ⟨q.1.trans (ret_str ByteArray.append_empty), q.2⟩
  have E6 : Hid (∀ X, Calls Tryz.prog 68 #[.agg #[.string log, .int .i64 l.length, .string (treeB l), .int .i64 t]] X fun e w' => e = .returned (.string (hsT log l t)) ∧ Below X.heap.size X w') := fun X => claimText_any log (treeB l) l.length t X hlog hts (by omega) ht
  have E7 : Hid (∀ X, Keys X → Calls Tryz.prog 67 #[.string s, .int .i64 k, .string (hsT log l t)] X fun e w' => SigAns X k (endsB s k (hsT log l t)) (pathB (pubsB s) k.toNat) e w') := fun X hK => implSignY_any s k _ X y1 y2.1 y2.2 (by omega) hK
  have H0 : Hid (Below w.heap.size w W ∧ W.heap[w.heap.size]? = some (.cells #[.string ⟨#[]⟩, .int .i64 0, .string ⟨#[]⟩, .int .i64 0, .int .i64 0, .slice none 0 0, .slice none 0 0] 29 (0, 0)) ∧ w.heap.size < W.heap.size ∧ Keys W) := ⟨hbW, hgW, (Array.getElem?_eq_some_iff.1 hgW).1, hK.below hbW hK.lt⟩
  generalize treeB l = R at *
  generalize hsT log l t = T at *
  generalize endsB s k T = E at *
  generalize pathB (pubsB s) k.toNat = P at *
  clear h hl hs hlog ht hB hK y1 y2 y3 y4 y5 hz hW hbW hgW hts
  generalize hn : l.length = n at *
  have HN : Hid (n ≤ 64) := hn64
  clear hn hn64
  go_enter Tryz.func8, Tryz.ntmps8
  go_wp2_with fail
  rw [← HW.out]
  refine (E0.out _).mono ?_
  rintro e w0 ⟨rfl, h0⟩
  obtain rfl : W = w0 := h0.symm
  go_wp2_with fail
  refine (E1.out _).mono ?_
  rintro e w0 ⟨rfl, h0⟩
  obtain rfl : W = w0 := h0.symm
  go_wp2_with fail
  refine E2.out.mono ?_
  rintro e w0 ⟨rfl, h0⟩
  obtain rfl : W = w0 := h0.symm
  go_wp2_with fail
  refine E3.out.mono ?_
  rintro e w1 ⟨rfl, hb1⟩
  obtain ⟨W1, hW1⟩ : ∃ W, W = w1.alloc (.cells #[.string log, .int .i64 n, .string R, .int .i64 t] 96) := ⟨_, rfl⟩
  have hal : Below w1.heap.size w1 W1 := by rw [hW1]; exact (Below.refl _ _).alloc (Nat.le_refl _) _
  have hb01 : Below W.heap.size W W1 := hb1.trans (hal.mono hb1.size)
  have I1 : Hid (HsIn w w1.heap.size #[.string log, .int .i64 n, .string R, .int .i64 t] W1) := ⟨H0.out.1.trans (hb01.mono H0.out.1.size), (hb01.block _ H0.out.2.2.1).trans H0.out.2.1, by rw [hW1]; exact heap_alloc_new w1 _, Nat.lt_of_lt_of_le H0.out.2.2.1 hb1.size, H0.out.2.2.2.below hb01 H0.out.2.2.2.lt⟩
  have HW1 : Hid (W1 = w1.alloc (.cells #[.string log, .int .i64 n, .string R, .int .i64 t] 96)) := hW1
  clear hal hb01 hb1 hW1 E0 E1 E2 E3 HW H0
  go_wp2_with fail
  rw [← HW1.out]
  clear HW1
  generalize hg : w1.heap.size = g at *
  clear hg
  refine (E4.out _).mono ?_
  rintro e w2 ⟨rfl, hb2⟩
  have I2 : Hid (HsIn w g #[.string log, .int .i64 n, .string R, .int .i64 t] w2) := I1.out.below hb2
  clear hb2 I1 E4
  have HC : Hid (∀ X, HsIn w g #[.string log, .int .i64 n, .string R, .int .i64 t] X → X.cell? ⟨g, 0, none⟩ = some (.string log) ∧ X.cell? ⟨g, 1, none⟩ = some (.int .i64 n) ∧ X.cell? ⟨g, 2, none⟩ = some (.string R) ∧ X.cell? ⟨g, 3, none⟩ = some (.int .i64 t)) := fun X q => (four_cells (Below.refl X.heap.size X) q.lt q.2.2.1).1
  have I2d : Hid (HsIn w g #[.string log, .int .i64 n, .string R, .int .i64 t] w2.drew) := I2.out.drew
  obtain ⟨c0, c1, c2, c3⟩ := HC.out _ I2.out
  have G5 : Hid (∀ X, HsIn w g #[.string log, .int .i64 n, .string R, .int .i64 t] X → Calls Tryz.prog 66 #[.string log, .string ⟨#[]⟩] X fun e w' => e = .returned (.string log) ∧ HsIn w g #[.string log, .int .i64 n, .string R, .int .i64 t] w') := fun X q => (E5.out X).mono fun e w' r => ⟨r.1, q.below r.2⟩
  have G6 : Hid (∀ X, HsIn w g #[.string log, .int .i64 n, .string R, .int .i64 t] X → Calls Tryz.prog 68 #[.agg #[.string log, .int .i64 n, .string R, .int .i64 t]] X fun e w' => e = .returned (.string T) ∧ HsIn w g #[.string log, .int .i64 n, .string R, .int .i64 t] w') := fun X q => (E6.out X).mono fun e w' r => ⟨r.1, q.below r.2⟩
  clear E5 E6
  go_wp2_with fail
  go_region_held3 (fun X => X.cell? ⟨g, 0, none⟩ = some (.string log) ∧ X.cell? ⟨g, 1, none⟩ = some (.int .i64 n) ∧ X.cell? ⟨g, 2, none⟩ = some (.string R) ∧ X.cell? ⟨g, 3, none⟩ = some (.int .i64 t)) ((first | go_keep | (refine HC.out _ ?_; exact I7.out)))
    (first
      | (go_at_call 66; (with_reducible refine (G5.out _ ?_).mono ?_); (first | exact I2.out | exact I2d.out); rintro e wa ⟨rfl, hia⟩; have IA : Hid (HsIn w g #[.string log, .int .i64 n, .string R, .int .i64 t] wa) := hia; obtain ⟨x0, x1, x2, x3⟩ := HC.out _ hia; clear hia)
      | (go_at_call 68; (with_reducible refine (G6.out _ ?_).mono ?_); exact IA.out; rintro e wb ⟨rfl, hia⟩; have IB : Hid (HsIn w g #[.string log, .int .i64 n, .string R, .int .i64 t] wb) := hia; obtain ⟨y0, y1, y2, y3⟩ := HC.out _ hia; clear hia)
      | (go_at_call 67; (with_reducible refine (E7.out _ ?_).mono ?_); exact IB.out.2.2.2.2; rintro e wc ⟨ve, vp, n7, rfl, ho1, ho2, hlt, hn1, hn2, hb7⟩; obtain ⟨a3, c3', rfl⟩ := ho1.len; obtain ⟨a4, c4', rfl⟩ := ho2.len; have hi7 := IB.out.below hb7; have I7 : Hid (HsIn w g #[.string log, .int .i64 n, .string R, .int .i64 t] wc) := hi7; have O7 : Hid (OwnT wc wb.heap.size (.slice a3 E.length c3') E ∧ OwnT wc n7 (.slice a4 P.length c4') P ∧ (∀ g, (Value.slice a3 E.length c3').ownBlock = some g → g < n7) ∧ wb.heap.size ≤ n7 ∧ n7 ≤ wc.heap.size ∧ w.heap.size < wb.heap.size) := ⟨ho1, ho2, hlt, hn1, hn2, Nat.lt_trans IB.out.2.2.2.1 IB.out.lt⟩; obtain ⟨z0, z1, z2, z3⟩ := HC.out _ hi7; obtain ⟨⟨u0, u1, u2, u3, u4, u5, u6⟩, fu⟩ := seven_cells (Below.refl wc.heap.size wc) (Nat.lt_trans hi7.2.2.2.1 hi7.lt) hi7.2.1; have f0 := fu 0; have f1 := fu 1; have f2 := fu 2; have f3 := fu 3; have f4 := fu 4; have f5 := fu 5; have f6 := fu 6; have hgn : ¬ w.heap.size = g := (Nat.ne_of_lt hi7.2.2.2.1); have hgn2 : ¬ g = w.heap.size := (fun e => hgn e.symm); clear hb7 ho1 ho2 hlt hn1 hn2 hi7 fu))
  all_goals
    go_wp2
    refine bodyPost_ret (v := .agg #[.string log, .int .i64 n, .string R, .int .i64 t, .int .i64 k, .slice a3 E.length c3', .slice a4 P.length c4']) (by simp [results, Tryz.results8, go_sem, u0, u1, u2, u3, u4, u5, u6, f0, f1, f2, f3, f4, f5, f6]) rfl ⟨_, _, n7, rfl, ?_, ?_, ?_, ?_, ?_, ?_⟩
    · obtain ⟨q1, q2, q3, q4, q5, q6⟩ := O7.out
      refine OwnT.lower (B := wb.heap.size) ?_ (by omega)
      (repeat (refine OwnT.far ?_ (by omega)))
      exact q1
    · obtain ⟨q1, q2, q3, q4, q5, q6⟩ := O7.out
      (repeat (refine OwnT.far ?_ (by omega)))
      exact q2
    · exact O7.out.2.2.1
    · obtain ⟨q1, q2, q3, q4, q5, q6⟩ := O7.out
      omega
    · obtain ⟨q1, q2, q3, q4, q5, q6⟩ := O7.out
      simpa [World.setCell] using q5
    · (repeat (refine Below.setCell ?_ (by simp) _))
      exact I7.out.1

set_option maxHeartbeats 2000000 in
set_option maxRecDepth 10000 in
theorem implHeadSign_any (s : ByteArray) (k : Int) (log : ByteArray) (v : Value) (l : List ByteArray) (t : Int) (w : World) (h : Texts w w.heap.size v l) (hl : l.length ≤ 1048576) (hs : s.size ≤ 1048576) (hlog : log.size ≤ 1048576) (ht : -9223372036854775808 ≤ t ∧ t ≤ 9223372036854775807) (hK : Keys w) :
    Calls Tryz.prog 8 #[.string s, .int .i64 k, .string log, v, .int .i64 t] w fun e w' => HeadAns w (hsLog s k log l t) (hsSize s k log l t) (hsRoot s k log l t) (hsTime s k log l t) (hsKey s k log l t) (hsEnds s k log l t) (hsPath s k log l t) e w' := by
  unfold hsLog hsSize hsRoot hsTime hsKey hsEnds hsPath
  by_cases hB : hsB s k log l t = true
  · simp only [if_pos hB]
    exact implHeadSignY_any s k log v l t w h hl hs hlog ht hB hK
  simp only [if_neg hB]
  have HZ : Hid (∀ W : World, Below w.heap.size w W → HeadAns w ⟨#[]⟩ 0 ⟨#[]⟩ 0 0 [] [] (.returned (.agg #[.string ⟨#[]⟩, .int .i64 0, .string ⟨#[]⟩, .int .i64 0, .int .i64 0, .slice none 0 0, .slice none 0 0])) W) := fun W hb => ⟨_, _, w.heap.size, rfl, OwnT.nil _ _, OwnT.nil _ _, fun g hg => by simp [Value.ownBlock] at hg, Nat.le_refl _, hb.size, hb⟩
  obtain ⟨a, cap, rfl, hxx⟩ := id h
  clear hxx
  obtain ⟨W, hW⟩ : ∃ W, W = w.alloc (.cells #[.string ⟨#[]⟩, .int .i64 0, .string ⟨#[]⟩, .int .i64 0, .int .i64 0, .slice none 0 0, .slice none 0 0] 29) := ⟨_, rfl⟩
  have hbW : Below w.heap.size w W := by rw [hW]; exact (Below.refl _ _).alloc (Nat.le_refl _) _
  have hgW : W.heap[w.heap.size]? = some (.cells #[.string ⟨#[]⟩, .int .i64 0, .string ⟨#[]⟩, .int .i64 0, .int .i64 0, .slice none 0 0, .slice none 0 0] 29 (0, 0)) := by rw [hW]; exact heap_alloc_new w _
  have HW : Hid (W = w.alloc (.cells #[.string ⟨#[]⟩, .int .i64 0, .string ⟨#[]⟩, .int .i64 0, .int .i64 0, .slice none 0 0, .slice none 0 0] 29)) := hW
  have E0 : Hid (∀ w, Calls Tryz.prog 61 #[.string s] w fun e w' => e = .returned (.bool (seedB s)) ∧ w' = w) := fun w => seedRight_any s w hs
  have E1 : Hid (∀ w, Calls Tryz.prog 62 #[.int .i64 k] w fun e w' => e = .returned (.bool (decide (0 ≤ k ∧ k ≤ 3))) ∧ w' = w) := fun w => keyRight_any k w
  have E2 : Hid (Calls Tryz.prog 63 #[.slice a l.length cap] W fun e w' => e = .returned (.bool (rightB l)) ∧ w' = W) := entriesRight_any _ l W _ ((h.below hbW).up hbW.size) hl
  have H0 : Hid (Below w.heap.size w W ∧ W.heap[w.heap.size]? = some (.cells #[.string ⟨#[]⟩, .int .i64 0, .string ⟨#[]⟩, .int .i64 0, .int .i64 0, .slice none 0 0, .slice none 0 0] 29 (0, 0)) ∧ w.heap.size < W.heap.size) := ⟨hbW, hgW, (Array.getElem?_eq_some_iff.1 hgW).1⟩
  cases q0 : seedB s with
  | false =>
    rw [q0] at E0
    rw [HW.out] at H0
    clear E1 E2 h hW hbW hgW hK
    go_enter Tryz.func8, Tryz.ntmps8
    go_wp2_with fail
    refine (E0.out _).mono ?_
    rintro e w0 ⟨rfl, rfl⟩
    go_wp2
    exact bodyPost_ret (v := .agg #[.string ⟨#[]⟩, .int .i64 0, .string ⟨#[]⟩, .int .i64 0, .int .i64 0, .slice none 0 0, .slice none 0 0]) (by simp [results, Tryz.results8, go_sem]) rfl (HZ.out _ ((Below.refl _ _).alloc (Nat.le_refl _) _))
  | true =>
    rw [q0] at E0
    cases q1 : decide (0 ≤ k ∧ k ≤ 3) with
    | false =>
      rw [q1] at E1
      clear E2 h hW hbW hgW hK
      go_enter Tryz.func8, Tryz.ntmps8
      go_wp2_with fail
      refine (E0.out _).mono ?_
      rintro e w0 ⟨rfl, rfl⟩
      go_wp2_with fail
      refine (E1.out _).mono ?_
      rintro e w0 ⟨rfl, rfl⟩
      go_wp2
      exact bodyPost_ret (v := .agg #[.string ⟨#[]⟩, .int .i64 0, .string ⟨#[]⟩, .int .i64 0, .int .i64 0, .slice none 0 0, .slice none 0 0]) (by simp [results, Tryz.results8, go_sem]) rfl (HZ.out _ ((Below.refl _ _).alloc (Nat.le_refl _) _))
    | true =>
      rw [q1] at E1
      cases q2 : rightB l with
      | false =>
        rw [q2] at E2
        rw [HW.out] at E2
        clear h hW hbW hgW hK H0
        go_enter Tryz.func8, Tryz.ntmps8
        go_wp2_with fail
        refine (E0.out _).mono ?_
        rintro e w0 ⟨rfl, rfl⟩
        go_wp2_with fail
        refine (E1.out _).mono ?_
        rintro e w0 ⟨rfl, rfl⟩
        go_wp2_with fail
        refine E2.out.mono ?_
        rintro e w0 ⟨rfl, rfl⟩
        go_wp2
        exact bodyPost_ret (v := .agg #[.string ⟨#[]⟩, .int .i64 0, .string ⟨#[]⟩, .int .i64 0, .int .i64 0, .slice none 0 0, .slice none 0 0]) (by simp [results, Tryz.results8, go_sem]) rfl (HZ.out _ ((Below.refl _ _).alloc (Nat.le_refl _) _))
      | true =>
        have E3 : Hid (Calls Tryz.prog 64 #[.slice a l.length cap] W fun e w' => e = .returned (.string (treeB l)) ∧ Below W.heap.size W w') := treeOf_any _ l W ((h.below hbW).up hbW.size) hl (fun j hj => rightB_at q2 hj) (hK.below hbW hK.lt)
        have hts : (treeB l).size ≤ 1048576 := by rw [treeB_size]; omega
        have hno : claimB log l.length (treeB l) t = false := by
          rw [claimB_right q2]
          unfold hsB at hB
          rw [q0, q1, q2] at hB
          simpa using hB
        have E4 : Hid (∀ X, Calls Tryz.prog 65 #[.agg #[.string log, .int .i64 l.length, .string (treeB l), .int .i64 t]] X fun e w' => e = .returned (.bool false) ∧ Below X.heap.size X w') := fun X => by rw [← hno]; exact claimRight_any log (treeB l) l.length t X hlog hts
        have hn64 := rightB_len q2
        rw [q2] at E2
        clear hno hB q0 q1 q2
        generalize treeB l = R at *
        clear h hW hbW hgW hK hl hs hlog ht hts
        generalize hn : l.length = n at *
        clear hn
        go_enter Tryz.func8, Tryz.ntmps8
        go_wp2_with fail
        rw [← HW.out]
        refine (E0.out _).mono ?_
        rintro e w0 ⟨rfl, h0⟩
        obtain rfl : W = w0 := h0.symm
        go_wp2_with fail
        refine (E1.out _).mono ?_
        rintro e w0 ⟨rfl, h0⟩
        obtain rfl : W = w0 := h0.symm
        go_wp2_with fail
        refine E2.out.mono ?_
        rintro e w0 ⟨rfl, h0⟩
        obtain rfl : W = w0 := h0.symm
        go_wp2_with fail
        refine E3.out.mono ?_
        rintro e w1 ⟨rfl, hb1⟩
        obtain ⟨W1, hW1⟩ : ∃ W, W = w1.alloc (.cells #[.string log, .int .i64 n, .string R, .int .i64 t] 96) := ⟨_, rfl⟩
        have hal : Below w1.heap.size w1 W1 := by rw [hW1]; exact (Below.refl _ _).alloc (Nat.le_refl _) _
        have H1 : Hid (Below W.heap.size W W1) := hb1.trans (hal.mono hb1.size)
        have HW1 : Hid (W1 = w1.alloc (.cells #[.string log, .int .i64 n, .string R, .int .i64 t] 96)) := hW1
        clear hal hb1 hW1 E0 E1 E2 E3
        go_wp2_with fail
        rw [← HW1.out]
        refine (E4.out _).mono ?_
        rintro e w2 ⟨rfl, hb2⟩
        have hb02 : Below W.heap.size W w2 := H1.out.trans (hb2.mono H1.out.size)
        have H2 : Hid (Below w.heap.size w w2) := H0.out.1.trans (hb02.mono H0.out.1.size)
        obtain ⟨⟨u0, u1, u2, u3, u4, u5, u6⟩, fu⟩ := seven_cells hb02 H0.out.2.2 H0.out.2.1
        have f0 := fu 0
        have f1 := fu 1
        have f2 := fu 2
        have f3 := fu 3
        have f4 := fu 4
        have f5 := fu 5
        have f6 := fu 6
        clear hb2 hb02 fu H1 HW1 HW H0
        go_wp2
        refine bodyPost_ret (v := .agg #[.string ⟨#[]⟩, .int .i64 0, .string ⟨#[]⟩, .int .i64 0, .int .i64 0, .slice none 0 0, .slice none 0 0]) (by simp [results, Tryz.results8, go_sem, u0, u1, u2, u3, u4, u5, u6, f0, f1, f2, f3, f4, f5, f6]) rfl (HZ.out _ ?_)
        (repeat (refine Below.setCell ?_ (by simp) _))
        exact H2.out
end Go.Proofs.YtpglcbidfghfkaaGreatDoor
