/-
  The program's text of a head, field by field.
-/
import Derived.Test.YtcenlgfopmahcaaGreatDoorPkPutText
import Derived.Test.YtcenlgfopmahcaaGreatDoorPkTextRows
namespace Go.Proofs.YtcenlgfopmahcaaGreatDoor
open Go.RowKit Go.Lib
set_option linter.unusedVariables false
set_option linter.unusedSimpArgs false

set_option maxHeartbeats 1000000 in
set_option maxRecDepth 10000 in
theorem laidT_any (row t u : ByteArray) (w : World) (E : ∀ w, Calls Tryz.prog 132 #[.string t] w fun e w' => e = .returned (.string u) ∧ Below w.heap.size w w') (hr : row.size ≤ 1048576) (hu : u.size ≤ 1048576) :
    Calls Tryz.prog 131 #[.string row, .string t, .func (.func 132) #[] #[]] w fun e w' => e = .returned (.string (row ++ u)) ∧ Below w.heap.size w w' := by
  have HE : Hid (∀ w, Calls Tryz.prog 132 #[.string t] w fun e w' => e = .returned (.string u) ∧ Below w.heap.size w w') := E
  have HJ : Hid (∀ w, Calls Tryz.prog 67 #[.string row, .string u] w fun e w' => e = .returned (.string (row ++ u)) ∧ Below w.heap.size w w') := fun w => joined_any row u w hr hu
  clear E
  generalize row ++ u = V at *
  go_enter Tryz.func131, Tryz.ntmps131
  go_wp2_with fail
  refine (HE.out _).mono ?_
  rintro e w1 ⟨rfl, hb1⟩
  go_wp2_with fail
  refine (HJ.out _).mono ?_
  rintro e w2 ⟨rfl, hb2⟩
  go_wp2
  go_ret
  exact ⟨rfl, hb1.trans (hb2.mono hb1.size)⟩

set_option maxHeartbeats 1000000 in
set_option maxRecDepth 10000 in
theorem laidN_any (row : ByteArray) (n : Int) (u : ByteArray) (w : World) (E : ∀ w, Calls Tryz.prog 134 #[.int .i64 n] w fun e w' => e = .returned (.string u) ∧ Below w.heap.size w w') (hr : row.size ≤ 1048576) (hu : u.size ≤ 1048576) :
    Calls Tryz.prog 133 #[.string row, .int .i64 n, .func (.func 134) #[] #[]] w fun e w' => e = .returned (.string (row ++ u)) ∧ Below w.heap.size w w' := by
  have HE : Hid (∀ w, Calls Tryz.prog 134 #[.int .i64 n] w fun e w' => e = .returned (.string u) ∧ Below w.heap.size w w') := E
  have HJ : Hid (∀ w, Calls Tryz.prog 67 #[.string row, .string u] w fun e w' => e = .returned (.string (row ++ u)) ∧ Below w.heap.size w w') := fun w => joined_any row u w hr hu
  clear E
  generalize row ++ u = V at *
  go_enter Tryz.func133, Tryz.ntmps133
  go_wp2_with fail
  refine (HE.out _).mono ?_
  rintro e w1 ⟨rfl, hb1⟩
  go_wp2_with fail
  refine (HJ.out _).mono ?_
  rintro e w2 ⟨rfl, hb2⟩
  go_wp2
  go_ret
  exact ⟨rfl, hb1.trans (hb2.mono hb1.size)⟩

set_option maxHeartbeats 2000000 in
set_option maxRecDepth 10000 in
theorem claimText_any (log root : ByteArray) (size time : Int) (w : World) (hlog : log.size ≤ 1048576) (hroot : root.size ≤ 1048576) (hs : -9223372036854775808 ≤ size ∧ size ≤ 9223372036854775807) (ht : -9223372036854775808 ≤ time ∧ time ≤ 9223372036854775807) :
    Calls Tryz.prog 120 #[.agg #[.string log, .int .i64 size, .string root, .int .i64 time]] w fun e w' => e = .returned (.string (headT log size root time)) ∧ Below w.heap.size w w' := by
  have z0 := putText_size log
  have z1 := putNum_size size
  have z2 := putText_size root
  have z3 := putNum_size time
  have E0 : Hid (∀ w, Calls Tryz.prog 131 #[.string ⟨#[]⟩, .string log, .func (.func 132) #[] #[]] w fun e w' => e = .returned (.string (putText log)) ∧ Below w.heap.size w w') := fun w => (laidT_any ⟨#[]⟩ log _ w (fun w => implPutText_any log w hlog) (Nat.zero_le _) (by omega)).mono fun e w' h => ⟨h.1.trans (ret_str (ByteArray.empty_append)), h.2⟩
  have E1 : Hid (∀ w, Calls Tryz.prog 133 #[.string (putText log), .int .i64 size, .func (.func 134) #[] #[]] w fun e w' => e = .returned (.string (putText log ++ numT size)) ∧ Below w.heap.size w w') := fun w => laidN_any _ size _ w (fun w => implPutNum_any size w hs.1 hs.2) (by omega) (by unfold numT; omega)
  have E2 : Hid (∀ w, Calls Tryz.prog 131 #[.string (putText log ++ numT size), .string root, .func (.func 132) #[] #[]] w fun e w' => e = .returned (.string (putText log ++ numT size ++ putText root)) ∧ Below w.heap.size w w') := fun w => laidT_any _ root _ w (fun w => implPutText_any root w hroot) (by rw [ba_size]; unfold numT; omega) (by omega)
  have E3 : Hid (∀ w, Calls Tryz.prog 133 #[.string (putText log ++ numT size ++ putText root), .int .i64 time, .func (.func 134) #[] #[]] w fun e w' => e = .returned (.string (headT log size root time)) ∧ Below w.heap.size w w') := fun w => laidN_any _ time _ w (fun w => implPutNum_any time w ht.1 ht.2) (by rw [ba_size, ba_size]; unfold numT; omega) (by unfold numT; omega)
  generalize headT log size root time = t3 at *
  generalize putText log ++ numT size ++ putText root = t2 at *
  generalize putText log ++ numT size = t1 at *
  generalize putText log = t0 at *
  clear hlog hroot hs ht z0 z1 z2 z3
  obtain ⟨W, hW⟩ : ∃ W, W = w.alloc (.cells #[.string log, .int .i64 size, .string root, .int .i64 time] 113) := ⟨_, rfl⟩
  have H0 : Hid (Below w.heap.size w W ∧ W.heap[w.heap.size]? = some (.cells #[.string log, .int .i64 size, .string root, .int .i64 time] 113 (0, 0)) ∧ w.heap.size < W.heap.size) := by
    rw [hW]
    exact ⟨(Below.refl _ _).alloc (Nat.le_refl _) _, heap_alloc_new w _, by simp⟩
  have HW : Hid (W = w.alloc (.cells #[.string log, .int .i64 size, .string root, .int .i64 time] 113)) := hW
  clear hW
  go_enter Tryz.func120, Tryz.ntmps120
  go_wp2_with fail
  rw [← HW.out]
  refine (E0.out _).mono ?_
  rintro e w1 ⟨rfl, hb1⟩
  have B1 : Hid (Below W.heap.size W w1) := hb1
  obtain ⟨⟨_, d1, d2, d3⟩, _⟩ := four_cells hb1 H0.out.2.2 H0.out.2.1
  clear hb1
  go_wp2_with fail
  refine (E1.out _).mono ?_
  rintro e w2 ⟨rfl, hb2⟩
  have B2 : Hid (Below W.heap.size W w2) := B1.out.trans (hb2.mono B1.out.size)
  clear hb2 d1 d2 d3
  obtain ⟨⟨_, _, d2, d3⟩, _⟩ := four_cells B2.out H0.out.2.2 H0.out.2.1
  go_wp2_with fail
  refine (E2.out _).mono ?_
  rintro e w3 ⟨rfl, hb3⟩
  have B3 : Hid (Below W.heap.size W w3) := B2.out.trans (hb3.mono B2.out.size)
  clear hb3 d2 d3
  obtain ⟨⟨_, _, _, d3⟩, _⟩ := four_cells B3.out H0.out.2.2 H0.out.2.1
  go_wp2_with fail
  refine (E3.out _).mono ?_
  rintro e w4 ⟨rfl, hb4⟩
  have B4 : Hid (Below W.heap.size W w4) := B3.out.trans (hb4.mono B3.out.size)
  clear hb4 d3
  go_wp2
  go_ret
  exact ⟨rfl, H0.out.1.trans (B4.out.mono H0.out.1.size)⟩
end Go.Proofs.YtcenlgfopmahcaaGreatDoor

/-
  HeadText, the program's.
-/
namespace Go.Proofs.YtcenlgfopmahcaaGreatDoor
open Go.RowKit Go.Lib
set_option linter.unusedVariables false
set_option linter.unusedSimpArgs false

set_option maxHeartbeats 2000000 in
set_option maxRecDepth 10000 in
theorem implHeadText_any (log root : ByteArray) (size time k : Int) (ve vp : Value) (el pl : List ByteArray) (w : World) (h1 : Texts w w.heap.size ve el) (h2 : Texts w w.heap.size vp pl) (hl1 : el.length ≤ 1048576) (hl2 : pl.length ≤ 1048576) (hlog : log.size ≤ 1048576) (hroot : root.size ≤ 1048576) (hs : -9223372036854775808 ≤ size ∧ size ≤ 9223372036854775807) (ht : -9223372036854775808 ≤ time ∧ time ≤ 9223372036854775807) :
    Calls Tryz.prog 98 #[.agg #[.string log, .int .i64 size, .string root, .int .i64 time, .int .i64 k, ve, vp]] w fun e w' => e = .returned (.string (headTB log size root time k el pl)) ∧ Below w.heap.size w w' := by
  obtain ⟨a1, c1, rfl, _⟩ := id h1
  obtain ⟨a2, c2, rfl, _⟩ := id h2
  obtain ⟨W, hW⟩ : ∃ W, W = w.alloc (.cells #[.string log, .int .i64 size, .string root, .int .i64 time, .int .i64 k, .slice a1 el.length c1, .slice a2 pl.length c2] 37) := ⟨_, rfl⟩
  have hbW : Below w.heap.size w W := by rw [hW]; exact (Below.refl _ _).alloc (Nat.le_refl _) _
  have H0 : Hid (Below w.heap.size w W ∧ W.heap[w.heap.size]? = some (.cells #[.string log, .int .i64 size, .string root, .int .i64 time, .int .i64 k, .slice a1 el.length c1, .slice a2 pl.length c2] 37 (0, 0)) ∧ w.heap.size < W.heap.size) := by
    refine ⟨hbW, ?_, ?_⟩
    · rw [hW]; exact heap_alloc_new w _
    · rw [hW]; simp
  have HW : Hid (W = w.alloc (.cells #[.string log, .int .i64 size, .string root, .int .i64 time, .int .i64 k, .slice a1 el.length c1, .slice a2 pl.length c2] 37)) := hW
  have E0 : Hid (Calls Tryz.prog 96 #[.agg #[.string log, .int .i64 size, .string root, .int .i64 time, .int .i64 k, .slice a1 el.length c1, .slice a2 pl.length c2]] W fun e w' => e = .returned (.bool (headRB log size root time k el pl)) ∧ Below W.heap.size W w') := implHeadRight_any log root size time k _ _ el pl W ((h1.below hbW).up hbW.size) ((h2.below hbW).up hbW.size) hl1 hl2 hlog hroot
  have E1 : Hid (∀ w', Calls Tryz.prog 83 #[.agg #[.string log, .int .i64 size, .string root, .int .i64 time, .int .i64 k, .slice a1 el.length c1, .slice a2 pl.length c2]] w' fun e w'' => e = .returned (.agg #[.string log, .int .i64 size, .string root, .int .i64 time]) ∧ Below w'.heap.size w' w'') := fun w' => claimOf_any _ _ _ _ _ _ _ _ _ _ _ w'
  have E2 : Hid (∀ w', Calls Tryz.prog 120 #[.agg #[.string log, .int .i64 size, .string root, .int .i64 time]] w' fun e w'' => e = .returned (.string (headT log size root time)) ∧ Below w'.heap.size w' w'') := fun w' => claimText_any _ _ _ _ w' hlog hroot hs ht
  unfold headTB
  generalize headRB log size root time k el pl = b at *
  generalize headT log size root time = t at *
  clear h1 h2 hW hbW hlog hroot hs ht
  go_enter Tryz.func98, Tryz.ntmps98
  go_wp2_with fail
  rw [← HW.out]
  refine E0.out.mono ?_
  rintro e w1 ⟨rfl, hb1⟩
  obtain ⟨⟨d0, d1, d2, d3, d4, d5, d6⟩, _⟩ := seven_cells hb1 H0.out.2.2 H0.out.2.1
  have B1 : Hid (Below w.heap.size w w1) := H0.out.1.trans (hb1.mono H0.out.1.size)
  clear hb1 H0 E0 HW
  cases b with
  | false =>
    go_wp2
    go_ret
    exact ⟨rfl, B1.out⟩
  | true =>
    go_wp2_with fail
    refine (E1.out _).mono ?_
    rintro e w2 ⟨rfl, hb2⟩
    go_wp2_with fail
    refine (E2.out _).mono ?_
    rintro e w3 ⟨rfl, hb3⟩
    go_wp2
    go_ret
    exact ⟨rfl, (B1.out.trans (hb2.mono B1.out.size)).trans (hb3.mono (Nat.le_trans B1.out.size hb2.size))⟩
end Go.Proofs.YtcenlgfopmahcaaGreatDoor
