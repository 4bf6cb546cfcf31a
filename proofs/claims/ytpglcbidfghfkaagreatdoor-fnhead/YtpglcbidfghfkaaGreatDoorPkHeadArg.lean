/-
  A head that came in: its size, its copy; heads held against each other.
-/
import Derived.Test.YtpglcbidfghfkaaGreatDoorPkHeadV
import Derived.Test.YtpglcbidfghfkaaGreatDoorPkTextRows
import Derived.Test.YtpglcbidfghfkaaGreatDoorPkTexts
namespace Go.Proofs.YtpglcbidfghfkaaGreatDoor
open Go.RowKit Go.Lib
set_option linter.unusedVariables false
set_option linter.unusedSimpArgs false

set_option maxHeartbeats 1000000 in
set_option maxRecDepth 10000 in
theorem szHead_any (log root : ByteArray) (size time k : Int) (ve vp : Value) (el pl : List ByteArray) (left : Int) (w : World) (h1 : TextsArg w ve el) (h2 : TextsArg w vp pl) (h0 : 0 ≤ left) (hle : left ≤ 1048576) (hlog : log.size ≤ 9223372036854775807) (hroot : root.size ≤ 9223372036854775807) :
    Calls Tryz.prog 125 #[.agg #[.string log, .int .i64 size, .string root, .int .i64 time, .int .i64 k, ve, vp], .int .i64 left] w fun e w' => ∃ r : Int, e = .returned (.int .i64 r) ∧ -1048577 ≤ r ∧ r ≤ 1048576 ∧ (r < 0 ∨ (log.size ≤ 1048576 ∧ root.size ≤ 1048576 ∧ el.length ≤ 1048576 ∧ pl.length ≤ 1048576)) ∧ Below w.heap.size w w' := by
  obtain ⟨a1, c1, rfl, _⟩ := id h1.1
  obtain ⟨a2, c2, rfl, _⟩ := id h2.1
  have hbW : Below w.heap.size w (w.alloc (.cells #[.string log, .int .i64 size, .string root, .int .i64 time, .int .i64 k, .slice a1 el.length c1, .slice a2 pl.length c2] 76)) := (Below.refl _ _).alloc (Nat.le_refl _) _
  have E1 : Hid (∀ r : Int, 0 ≤ r → r ≤ 1048576 → Calls Tryz.prog 193 #[.agg #[.int .i64 k, .slice a1 el.length c1, .slice a2 pl.length c2], .int .i64 r] (w.alloc (.cells #[.string log, .int .i64 size, .string root, .int .i64 time, .int .i64 k, .slice a1 el.length c1, .slice a2 pl.length c2] 76)) fun e w' => ∃ r : Int, e = .returned (.int .i64 r) ∧ -1048577 ≤ r ∧ r ≤ 1048576 ∧ (r < 0 ∨ (el.length ≤ 1048576 ∧ pl.length ≤ 1048576)) ∧ Below w.heap.size w w') := fun r a b =>
    (szSig_any k _ _ el pl r _ ⟨(h1.1.below hbW).up hbW.size, h1.2⟩ ⟨(h2.1.below hbW).up hbW.size, h2.2⟩ a b).mono fun e w' ⟨r, a, b, c, d, f⟩ => ⟨r, a, b, c, d, hbW.trans (f.mono hbW.size)⟩
  have HB : Hid (Below w.heap.size w (w.alloc (.cells #[.string log, .int .i64 size, .string root, .int .i64 time, .int .i64 k, .slice a1 el.length c1, .slice a2 pl.length c2] 76))) := hbW
  clear h1 h2 hbW
  by_cases hn1 : left - (log.size : Int) < 0
  · clear E1
    go_enter Tryz.func125, Tryz.ntmps125
    go_wp2
    go_ret
    exact ⟨-1, rfl, by omega, by omega, .inl (by omega), HB.out⟩
  by_cases hn2 : left - (log.size : Int) - (root.size : Int) < 0
  · clear E1
    go_enter Tryz.func125, Tryz.ntmps125
    go_wp2
    go_ret
    exact ⟨-1, rfl, by omega, by omega, .inl (by omega), HB.out⟩
  go_enter Tryz.func125, Tryz.ntmps125
  go_wp2_with fail
  refine (E1.out _ (by omega) (by omega)).mono ?_
  rintro e w1 ⟨r, rfl, hr0, hr1, hr, hb1⟩
  have HR : Hid (r < 0 ∨ (el.length ≤ 1048576 ∧ pl.length ≤ 1048576)) := hr
  have HB1 : Hid (Below w.heap.size w w1) := hb1
  clear hr E1 HB hb1
  by_cases hneg : r < 0
  · go_wp2
    go_ret
    exact ⟨-1, rfl, by omega, by omega, .inl (by omega), HB1.out⟩
  · go_wp2
    go_ret
    refine ⟨r, rfl, hr0, hr1, .inr ⟨by omega, by omega, ?_⟩, HB1.out⟩
    rcases HR.out with h | h
    · omega
    · exact h

/-- A head whose rows are the call's own: the Ends ahead of n, the Path behind it. -/
def HeadOwn (w : World) (log : ByteArray) (size : Int) (root : ByteArray) (time k : Int) (el pl : List ByteArray) (e : Ending) (w' : World) : Prop :=
  ∃ ve vp n, e = .returned (.agg #[.string log, .int .i64 size, .string root, .int .i64 time, .int .i64 k, ve, vp]) ∧ OwnT w' w.heap.size ve el ∧ OwnT w' n vp pl ∧ (∀ g, ve.ownBlock = some g → g < n) ∧ w.heap.size ≤ n ∧ n ≤ w'.heap.size ∧ Below w.heap.size w w'

set_option maxHeartbeats 4000000 in
set_option maxRecDepth 10000 in
theorem toHead_any (log root : ByteArray) (size time k : Int) (ve vp : Value) (el pl : List ByteArray) (w : World) (h1 : Texts w w.heap.size ve el) (h2 : Texts w w.heap.size vp pl) (hl1 : el.length ≤ 1048576) (hl2 : pl.length ≤ 1048576) :
    Calls Tryz.prog 129 #[.agg #[.string log, .int .i64 size, .string root, .int .i64 time, .int .i64 k, ve, vp]] w fun e w' => HeadOwn w log size root time k el pl e w' := by
  obtain ⟨a1, c1, rfl, _⟩ := id h1
  obtain ⟨a2, c2, rfl, _⟩ := id h2
  obtain ⟨W, hW⟩ : ∃ W, W = ((w.alloc (.cells #[.string log, .int .i64 size, .string root, .int .i64 time, .int .i64 k, .slice a1 el.length c1, .slice a2 pl.length c2] 76)).alloc (.cells #[.string ⟨#[]⟩, .int .i64 0, .string ⟨#[]⟩, .int .i64 0, .int .i64 0, .slice none 0 0, .slice none 0 0] 29)).alloc (.cells #[.string log, .int .i64 size, .string root, .int .i64 time, .int .i64 0, .slice none 0 0, .slice none 0 0] 29) := ⟨_, rfl⟩
  have b1 : Below w.heap.size w (w.alloc (.cells #[.string log, .int .i64 size, .string root, .int .i64 time, .int .i64 k, .slice a1 el.length c1, .slice a2 pl.length c2] 76)) := (Below.refl _ _).alloc (Nat.le_refl _) _
  have hbW : Below w.heap.size w W := by rw [hW]; exact (b1.alloc (by simp) _).alloc (by simp; omega) _
  have hzW : W.heap.size = w.heap.size + 3 := by rw [hW]; simp
  have g1 : W.heap[w.heap.size + 1]? = some (.cells #[.string ⟨#[]⟩, .int .i64 0, .string ⟨#[]⟩, .int .i64 0, .int .i64 0, .slice none 0 0, .slice none 0 0] 29 (0, 0)) := by
    rw [hW]
    exact (heap_alloc_old _ _ (by simp)).trans (heap_alloc2_new w _ _)
  have g2 : W.heap[w.heap.size + 2]? = some (.cells #[.string log, .int .i64 size, .string root, .int .i64 time, .int .i64 0, .slice none 0 0, .slice none 0 0] 29 (0, 0)) := by
    rw [hW]
    have := heap_alloc_new ((w.alloc (.cells #[.string log, .int .i64 size, .string root, .int .i64 time, .int .i64 k, .slice a1 el.length c1, .slice a2 pl.length c2] 76)).alloc (.cells #[.string ⟨#[]⟩, .int .i64 0, .string ⟨#[]⟩, .int .i64 0, .int .i64 0, .slice none 0 0, .slice none 0 0] 29)) (.cells #[.string log, .int .i64 size, .string root, .int .i64 time, .int .i64 0, .slice none 0 0, .slice none 0 0] 29)
    simpa using this
  have E1 : Hid (Calls Tryz.prog 194 #[.agg #[.int .i64 k, .slice a1 el.length c1, .slice a2 pl.length c2]] W fun e w' => SigOwn W k el pl e w') := toSig_any k _ _ el pl W ((h1.below hbW).up hbW.size) ((h2.below hbW).up hbW.size) hl1 hl2
  have H0 : Hid (Below w.heap.size w W ∧ W.heap.size = w.heap.size + 3 ∧ W.heap[w.heap.size + 1]? = some (.cells #[.string ⟨#[]⟩, .int .i64 0, .string ⟨#[]⟩, .int .i64 0, .int .i64 0, .slice none 0 0, .slice none 0 0] 29 (0, 0)) ∧ W.heap[w.heap.size + 2]? = some (.cells #[.string log, .int .i64 size, .string root, .int .i64 time, .int .i64 0, .slice none 0 0, .slice none 0 0] 29 (0, 0))) := ⟨hbW, hzW, g1, g2⟩
  have HW : Hid (W = ((w.alloc (.cells #[.string log, .int .i64 size, .string root, .int .i64 time, .int .i64 k, .slice a1 el.length c1, .slice a2 pl.length c2] 76)).alloc (.cells #[.string ⟨#[]⟩, .int .i64 0, .string ⟨#[]⟩, .int .i64 0, .int .i64 0, .slice none 0 0, .slice none 0 0] 29)).alloc (.cells #[.string log, .int .i64 size, .string root, .int .i64 time, .int .i64 0, .slice none 0 0, .slice none 0 0] 29)) := hW
  clear h1 h2 b1 hW hbW hzW g1 g2
  go_enter Tryz.func129, Tryz.ntmps129
  go_wp2_with fail
  rw [← HW.out]
  refine E1.out.mono ?_
  rintro e w1 ⟨ue, up, n, rfl, ho1, ho2, hlt, hn0, hn1, hb1⟩
  obtain ⟨a3, c3, rfl⟩ := ho1.len
  obtain ⟨a4, c4, rfl⟩ := ho2.len
  have hz := H0.out.2.1
  have k1 := (hb1.block _ (show w.heap.size + 1 < W.heap.size by omega)).trans H0.out.2.2.1
  have k2 := (hb1.block _ (show w.heap.size + 1 + 1 < W.heap.size by omega)).trans H0.out.2.2.2
  obtain ⟨⟨e0, e1, e2, e3, e4, e5, e6⟩, fe⟩ := seven_cells (Below.refl w1.heap.size w1) (Array.getElem?_eq_some_iff.1 k1).1 k1
  obtain ⟨⟨d0, d1, d2, d3, d4, d5, d6⟩, fd⟩ := seven_cells (Below.refl w1.heap.size w1) (Array.getElem?_eq_some_iff.1 k2).1 k2
  have f0 := fe 0
  have f1 := fe 1
  have f2 := fe 2
  have f3 := fe 3
  have f4 := fe 4
  have f5 := fe 5
  have f6 := fe 6
  have g4 := fd 4
  have g5 := fd 5
  have g6 := fd 6
  have hn12 : ¬ w.heap.size + 1 = w.heap.size + 1 + 1 := by omega
  have H1 : Hid (Below w.heap.size w w1 ∧ OwnT w1 (w.heap.size + 3) (.slice a3 el.length c3) el ∧ OwnT w1 n (.slice a4 pl.length c4) pl ∧ (∀ g, (Value.slice a3 el.length c3).ownBlock = some g → g < n) ∧ w.heap.size + 3 ≤ n ∧ n ≤ w1.heap.size) :=
    ⟨H0.out.1.trans (hb1.mono H0.out.1.size), by rw [← hz]; exact ho1, ho2, hlt, by rw [← hz]; exact hn0, hn1⟩
  clear ho1 ho2 hlt hn0 hn1 hb1 k1 k2 fe fd hz E1 H0 HW
  go_wp2
  refine bodyPost_ret (v := .agg #[.string log, .int .i64 size, .string root, .int .i64 time, .int .i64 k, .slice a3 el.length c3, .slice a4 pl.length c4]) (by simp [results, Tryz.results129, go_sem, d0, d1, d2, d3, d4, d5, d6, e0, e1, e2, e3, e4, e5, e6, f0, f1, f2, f3, f4, f5, f6, g4, g5, g6]) rfl ⟨_, _, n, rfl, ?_, ?_, ?_, ?_, ?_, ?_⟩
  · obtain ⟨x1, x2, x3, x4, x5, x6⟩ := H1.out
    refine OwnT.lower (B := w.heap.size + 3) ?_ (by omega)
    iterate 10 (refine OwnT.far ?_ (by omega))
    exact x2
  · obtain ⟨x1, x2, x3, x4, x5, x6⟩ := H1.out
    iterate 10 (refine OwnT.far ?_ (by omega))
    exact x3
  · exact H1.out.2.2.2.1
  · obtain ⟨x1, x2, x3, x4, x5, x6⟩ := H1.out
    omega
  · obtain ⟨x1, x2, x3, x4, x5, x6⟩ := H1.out
    simpa [World.setCell] using x6
  · obtain ⟨x1, x2, x3, x4, x5, x6⟩ := H1.out
    iterate 10 (refine Below.setCell ?_ (by simp <;> omega) _)
    exact x1

set_option maxHeartbeats 1000000 in
set_option maxRecDepth 10000 in
theorem eqHead_any (log root : ByteArray) (size time k : Int) (ve vp ue up : Value) (el pl : List ByteArray) (w : World) (h1 : Texts w w.heap.size ve el) (h2 : Texts w w.heap.size vp pl) (h3 : Texts w w.heap.size ue el) (h4 : Texts w w.heap.size up pl) (hl1 : el.length ≤ 1048577) (hl2 : pl.length ≤ 1048577) :
    Calls Tryz.prog 133 #[.agg #[.string log, .int .i64 size, .string root, .int .i64 time, .int .i64 k, ve, vp], .agg #[.string log, .int .i64 size, .string root, .int .i64 time, .int .i64 k, ue, up]] w fun e w' => e = .returned (.bool true) ∧ Below w.heap.size w w' := by
  obtain ⟨a1, c1, rfl, _⟩ := id h1
  obtain ⟨a2, c2, rfl, _⟩ := id h2
  obtain ⟨a3, c3, rfl, _⟩ := id h3
  obtain ⟨a4, c4, rfl, _⟩ := id h4
  have hb1 : Below w.heap.size w (w.alloc (.cells #[.string log, .int .i64 size, .string root, .int .i64 time, .int .i64 k, .slice a1 el.length c1, .slice a2 pl.length c2] 29)) := (Below.refl _ _).alloc (Nat.le_refl _) _
  have hb : Below w.heap.size w ((w.alloc (.cells #[.string log, .int .i64 size, .string root, .int .i64 time, .int .i64 k, .slice a1 el.length c1, .slice a2 pl.length c2] 29)).alloc (.cells #[.string log, .int .i64 size, .string root, .int .i64 time, .int .i64 k, .slice a3 el.length c3, .slice a4 pl.length c4] 29)) := hb1.alloc (by simp) _
  have E1 : Hid (Calls Tryz.prog 195 #[.agg #[.int .i64 k, .slice a1 el.length c1, .slice a2 pl.length c2], .agg #[.int .i64 k, .slice a3 el.length c3, .slice a4 pl.length c4]] ((w.alloc (.cells #[.string log, .int .i64 size, .string root, .int .i64 time, .int .i64 k, .slice a1 el.length c1, .slice a2 pl.length c2] 29)).alloc (.cells #[.string log, .int .i64 size, .string root, .int .i64 time, .int .i64 k, .slice a3 el.length c3, .slice a4 pl.length c4] 29)) fun e w' => e = .returned (.bool true) ∧ Below w.heap.size w w') :=
    (eqSig_any k _ _ _ _ el pl _ ((h1.below hb).up hb.size) ((h2.below hb).up hb.size) ((h3.below hb).up hb.size) ((h4.below hb).up hb.size) hl1 hl2).mono fun e w' h => ⟨h.1, hb.trans (h.2.mono hb.size)⟩
  clear h1 h2 h3 h4 hb hb1
  have hss : (size != size) = false := by simp
  have htt : (time != time) = false := by simp
  go_enter Tryz.func133, Tryz.ntmps133
  go_wp2_with fail
  refine E1.out.mono ?_
  rintro e w1 ⟨rfl, hb1⟩
  go_wp2
  go_ret
  exact ⟨rfl, hb1⟩
end Go.Proofs.YtpglcbidfghfkaaGreatDoor

/-
  The program's HeadRight.
-/
namespace Go.Proofs.YtpglcbidfghfkaaGreatDoor
open Go.RowKit Go.Lib
set_option linter.unusedVariables false
set_option linter.unusedSimpArgs false

set_option maxHeartbeats 400000 in
theorem timeRight_any (k : Int) (w : World) :
    Calls Tryz.prog 143 #[.int .i64 k] w fun e w' => e = .returned (.bool (decide (0 ≤ k ∧ k ≤ 1000000000))) ∧ w' = w := by
  by_cases h1 : 0 ≤ k
  · by_cases h2 : k ≤ 1000000000
    · rw [decide_eq_true ⟨h1, by omega⟩]
      go_enter Tryz.func143, Tryz.ntmps143
      go_wp2
      go_ret
      exact ⟨rfl, rfl⟩
    · rw [decide_eq_false (fun h => by omega)]
      go_enter Tryz.func143, Tryz.ntmps143
      go_wp2
      go_ret
      exact ⟨rfl, rfl⟩
  · rw [decide_eq_false (fun h => h1 h.1)]
    go_enter Tryz.func143, Tryz.ntmps143
    go_wp2
    go_ret
    exact ⟨rfl, rfl⟩

set_option maxHeartbeats 1000000 in
set_option maxRecDepth 10000 in
theorem claimOf_any (log root : ByteArray) (size time k : Int) (a1 a2 : Option Addr) (n1 c1 n2 c2 : Nat) (w : World) :
    Calls Tryz.prog 80 #[.agg #[.string log, .int .i64 size, .string root, .int .i64 time, .int .i64 k, .slice a1 n1 c1, .slice a2 n2 c2]] w fun e w' => e = .returned (.agg #[.string log, .int .i64 size, .string root, .int .i64 time]) ∧ Below w.heap.size w w' := by
  go_enter Tryz.func80, Tryz.ntmps80
  go_wp2
  refine bodyPost_ret (v := .agg #[.string log, .int .i64 size, .string root, .int .i64 time]) (by simp [results, Tryz.results80, go_sem]) rfl ⟨rfl, ?_⟩
  exact ((Below.refl _ _).alloc (Nat.le_refl _) _).alloc (by simp) _

set_option maxHeartbeats 2000000 in
set_option maxRecDepth 10000 in
theorem claimRight_any (log root : ByteArray) (size time : Int) (w : World) (hlog : log.size ≤ 1048576) (hroot : root.size ≤ 1048576) :
    Calls Tryz.prog 65 #[.agg #[.string log, .int .i64 size, .string root, .int .i64 time]] w fun e w' => e = .returned (.bool (claimB log size root time)) ∧ Below w.heap.size w w' := by
  have E0 : Hid (∀ w, Calls Tryz.prog 141 #[.string log] w fun e w' => e = .returned (.bool (nameB log)) ∧ w' = w) := fun w => (implName_any log w (by unfold maxLen; omega)).mono fun e w' h => ⟨h.1.name, h.2⟩
  have E3 : Hid (∀ w, Calls Tryz.prog 143 #[.int .i64 time] w fun e w' => e = .returned (.bool (decide (0 ≤ time ∧ time ≤ 1000000000))) ∧ w' = w) := fun w => timeRight_any time w
  have E2 : Hid (Calls Tryz.prog 142 #[.slice (some ⟨w.heap.size + 1, 0, none⟩) 1 1] ((w.alloc (.cells #[.string log, .int .i64 size, .string root, .int .i64 time] 96)).alloc (.cells #[.string root] 9)) fun e w' => e = .returned (.bool (decide ((root.size : Int) = 32))) ∧ w' = (w.alloc (.cells #[.string log, .int .i64 size, .string root, .int .i64 time] 96)).alloc (.cells #[.string root] 9)) := by
    have h := one_textH (w.alloc (.cells #[.string log, .int .i64 size, .string root, .int .i64 time] 96)) root
    have hz : (w.alloc (.cells #[.string log, .int .i64 size, .string root, .int .i64 time] 96)).heap.size = w.heap.size + 1 := by simp
    rw [hz] at h
    rw [← wideB_one]
    exact digests_any _ [root] _ _ h (by simp)
  have HB : Hid (Below w.heap.size w (w.alloc (.cells #[.string log, .int .i64 size, .string root, .int .i64 time] 96))) := (Below.refl _ _).alloc (Nat.le_refl _) _
  have HB2 : Hid (Below w.heap.size w ((w.alloc (.cells #[.string log, .int .i64 size, .string root, .int .i64 time] 96)).alloc (.cells #[.string root] 9))) := HB.out.alloc (by simp) _
  unfold claimB
  generalize nameB log = bn at *
  generalize decide (0 ≤ time ∧ time ≤ 1000000000) = bt at *
  generalize decide ((root.size : Int) = 32) = br at *
  cases bn with
  | false =>
    go_enter Tryz.func65, Tryz.ntmps65
    go_wp2_with fail
    refine (E0.out _).mono ?_
    rintro e w0 ⟨rfl, rfl⟩
    go_wp2
    go_ret
    exact ⟨rfl, HB.out⟩
  | true =>
    by_cases hz0 : 0 ≤ size
    · by_cases hz1 : size ≤ 64
      · rw [decide_eq_true ⟨hz0, hz1⟩]
        cases br with
        | false =>
          go_enter Tryz.func65, Tryz.ntmps65
          go_wp2_with fail
          refine (E0.out _).mono ?_
          rintro e w0 ⟨rfl, rfl⟩
          go_wp2_with fail
          refine E2.out.mono ?_
          rintro e w0 ⟨rfl, rfl⟩
          go_wp2
          go_ret
          exact ⟨rfl, HB2.out⟩
        | true =>
          go_enter Tryz.func65, Tryz.ntmps65
          go_wp2_with fail
          refine (E0.out _).mono ?_
          rintro e w0 ⟨rfl, rfl⟩
          go_wp2_with fail
          refine E2.out.mono ?_
          rintro e w0 ⟨rfl, rfl⟩
          go_wp2_with fail
          refine (E3.out _).mono ?_
          rintro e w0 ⟨rfl, rfl⟩
          go_wp2
          go_ret
          exact ⟨rfl, HB2.out⟩
      · rw [decide_eq_false (fun h => hz1 h.2)]
        go_enter Tryz.func65, Tryz.ntmps65
        go_wp2_with fail
        refine (E0.out _).mono ?_
        rintro e w0 ⟨rfl, rfl⟩
        go_wp2
        go_ret
        exact ⟨rfl, HB.out⟩
    · rw [decide_eq_false (fun h => hz0 h.1)]
      go_enter Tryz.func65, Tryz.ntmps65
      go_wp2_with fail
      refine (E0.out _).mono ?_
      rintro e w0 ⟨rfl, rfl⟩
      go_wp2
      go_ret
      exact ⟨rfl, HB.out⟩

set_option maxHeartbeats 2000000 in
set_option maxRecDepth 10000 in
theorem implHeadRight_any (log root : ByteArray) (size time k : Int) (ve vp : Value) (el pl : List ByteArray) (w : World) (h1 : Texts w w.heap.size ve el) (h2 : Texts w w.heap.size vp pl) (hl1 : el.length ≤ 1048576) (hl2 : pl.length ≤ 1048576) (hlog : log.size ≤ 1048576) (hroot : root.size ≤ 1048576) :
    Calls Tryz.prog 21 #[.agg #[.string log, .int .i64 size, .string root, .int .i64 time, .int .i64 k, ve, vp]] w fun e w' => e = .returned (.bool (headRB log size root time k el pl)) ∧ Below w.heap.size w w' := by
  obtain ⟨a1, c1, rfl, _⟩ := id h1
  obtain ⟨a2, c2, rfl, _⟩ := id h2
  have E0 : Hid (∀ w, Calls Tryz.prog 80 #[.agg #[.string log, .int .i64 size, .string root, .int .i64 time, .int .i64 k, .slice a1 el.length c1, .slice a2 pl.length c2]] w fun e w' => e = .returned (.agg #[.string log, .int .i64 size, .string root, .int .i64 time]) ∧ Below w.heap.size w w') := fun w => claimOf_any _ _ _ _ _ _ _ _ _ _ _ w
  have E1 : Hid (∀ w, Calls Tryz.prog 65 #[.agg #[.string log, .int .i64 size, .string root, .int .i64 time]] w fun e w' => e = .returned (.bool (claimB log size root time)) ∧ Below w.heap.size w w') := fun w => claimRight_any _ _ _ _ w hlog hroot
  have E2 : Hid (∀ w', Below w.heap.size w w' → Calls Tryz.prog 82 #[.agg #[.int .i64 k, .slice a1 el.length c1, .slice a2 pl.length c2]] w' fun e w'' => e = .returned (.bool (sigRB k el pl)) ∧ Below w'.heap.size w' w'') := fun w' hb => implSigRight_any k _ _ el pl w' ((h1.below hb).up hb.size) ((h2.below hb).up hb.size) hl1 hl2
  obtain ⟨W, hW⟩ : ∃ W, W = w.alloc (.cells #[.string log, .int .i64 size, .string root, .int .i64 time, .int .i64 k, .slice a1 el.length c1, .slice a2 pl.length c2] 29) := ⟨_, rfl⟩
  have H0 : Hid (Below w.heap.size w W ∧ W.heap[w.heap.size]? = some (.cells #[.string log, .int .i64 size, .string root, .int .i64 time, .int .i64 k, .slice a1 el.length c1, .slice a2 pl.length c2] 29 (0, 0)) ∧ w.heap.size < W.heap.size) := by
    rw [hW]
    exact ⟨(Below.refl _ _).alloc (Nat.le_refl _) _, heap_alloc_new w _, by simp⟩
  have HW : Hid (W = w.alloc (.cells #[.string log, .int .i64 size, .string root, .int .i64 time, .int .i64 k, .slice a1 el.length c1, .slice a2 pl.length c2] 29)) := hW
  clear hW h1 h2
  unfold headRB
  generalize claimB log size root time = bc at *
  generalize sigRB k el pl = bs at *
  go_enter Tryz.func21, Tryz.ntmps21
  go_wp2_with fail
  rw [← HW.out]
  refine (E0.out _).mono ?_
  rintro e w1 ⟨rfl, hb1⟩
  go_wp2_with fail
  refine (E1.out _).mono ?_
  rintro e w2 ⟨rfl, hb2⟩
  have hb : Below W.heap.size W w2 := hb1.trans (hb2.mono hb1.size)
  obtain ⟨⟨_, _, _, _, c4, c5, c6⟩, _⟩ := seven_cells hb H0.out.2.2 H0.out.2.1
  have H2 : Hid (Below w.heap.size w w2) := H0.out.1.trans (hb.mono H0.out.1.size)
  clear hb1 hb2 hb H0 E0 E1 HW
  cases bc with
  | false =>
    go_wp2
    go_ret
    exact ⟨rfl, H2.out⟩
  | true =>
    go_wp2_with fail
    refine (E2.out _ H2.out).mono ?_
    rintro e w3 ⟨rfl, hb3⟩
    go_wp2
    go_ret
    exact ⟨rfl, H2.out.trans (hb3.mono H2.out.size)⟩
end Go.Proofs.YtpglcbidfghfkaaGreatDoor
