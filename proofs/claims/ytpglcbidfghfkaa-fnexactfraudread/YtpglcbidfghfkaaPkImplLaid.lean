/-
  The program's laidAll and headBytes.
-/
import Derived.Test.YtpglcbidfghfkaaPkFraudV
import Derived.Test.YtpglcbidfghfkaaPkImplHeadT
import Derived.Test.YtpglcbidfghfkaaPkTextRows
namespace Go.Proofs.Ytpglcbidfghfkaa
open Go.RowKit Go.Lib
set_option linter.unusedVariables false
set_option linter.unusedSimpArgs false

set_option maxHeartbeats 1000000 in
set_option maxRecDepth 10000 in
theorem laidAll_any (row : ByteArray) (v : Value) (l : List ByteArray) (w : World) (h : Texts w w.heap.size v l) (hs : ∀ t ∈ l, t.size ≤ 100) (hl : l.length ≤ 64) (hr : row.size ≤ 100000) :
    Calls Try.prog 52 #[.string row, v] w fun e w' => e = .returned (.string (putAllOn row l)) ∧ Below w.heap.size w w' := by
  obtain ⟨a, cap, rfl, hcap, hc⟩ := h.at
  have HC : Hid (∀ j (hj : j < l.length), ∃ b off, a = some ⟨b, off, none⟩ ∧ b < w.heap.size ∧ w.cell? ⟨b, off + j, none⟩ = some (.string l[j])) := hc
  have EL : Hid (∀ k (hk : k < l.length) (w : World), Calls Try.prog 72 #[.string (putAllOn row (l.take k)), .string l[k], .func (.func 74) #[] #[]] w fun e w' => e = .returned (.string (putAllOn row (l.take (k + 1)))) ∧ Below w.heap.size w w') := fun k hk w => by
    rw [putAllOn_succ row hk]
    have z := putAllOn_size (l.take k) row (small_take hs k)
    have z1 : (l.take k).length ≤ 64 := by rw [List.length_take]; omega
    have z2 := putText_size l[k]
    refine laidT_any _ _ _ w (fun w => implPutText_any l[k] w ?_) (by omega) (by omega)
    have := hs l[k] (List.getElem_mem hk)
    omega
  have HF : Hid (putAllOn row (l.take l.length) = putAllOn row l) := by
    show _ = _
    rw [List.take_length]
  have HS : Hid (row = putAllOn row (l.take 0)) := rfl
  obtain ⟨n, hn⟩ : ∃ n, n = l.length := ⟨_, rfl⟩
  have HN : Hid (n = l.length) := hn
  rw [← hn] at hl HF ⊢
  clear hc h hcap hs hr hn
  generalize putAllOn row l = V at *
  go_enter Try.func52, Try.ntmps52
  go_wp2
  go_loopw [0, 9] (fun r i wr => ∃ k : Nat, k ≤ n ∧ i = .int .i64 k ∧ r = .string (putAllOn row (l.take k)) ∧ Below w.heap.size w wr) (fun _ i _ => n - (RowKit.intOf i).toNat)
  case atStart => exact ⟨0, Nat.zero_le _, rfl, congrArg Value.string HS.out, Below.refl _ _⟩
  case round =>
    obtain ⟨k, hk, rfl, rfl, hb⟩ := hrel
    have HB : Hid (Below w.heap.size w wr) := hb
    by_cases hkn : k < n
    · have hkl : k < l.length := by rw [← HN.out]; exact hkn
      obtain ⟨b, off, rfl, hB, hc⟩ := HC.out k hkl
      have hc2 := (hb.cell (p := ⟨b, off + k, none⟩) hB).trans hc
      have E : Hid (∀ w : World, Calls Try.prog 72 #[.string (putAllOn row (l.take k)), .string l[k], .func (.func 74) #[] #[]] w fun e w' => e = .returned (.string (putAllOn row (l.take (k + 1)))) ∧ Below w.heap.size w w') := EL.out k hkl
      have hknI : (k : Int) < (n : Int) := by omega
      clear HC EL HN HF HS hb hc
      generalize l[k] = t at *
      generalize putAllOn row (l.take k) = r0 at *
      obtain ⟨r1, hr1⟩ : ∃ r1, r1 = putAllOn row (l.take (k + 1)) := ⟨_, rfl⟩
      rw [← hr1] at E
      have HR1 : Hid (r1 = putAllOn row (l.take (k + 1))) := hr1
      clear hr1
      go_wp2_with fail
      refine (E.out _).mono ?_
      rintro e w1 ⟨rfl, hb1⟩
      have HB1 : Hid (Below w.heap.size w w1) := HB.out.trans (hb1.mono HB.out.size)
      clear hb1 E
      go_wp2
      go_roundw
      case rel => exact ⟨k + 1, by omega, by go_num, congrArg Value.string HR1.out, HB1.out⟩
      case measure => simp [RowKit.intOf]; omega
    · have e0 : k = n := by omega
      have HV : Hid (putAllOn row (l.take k) = V) := by
        show _ = _
        rw [e0]
        exact HF.out
      clear HC EL HN HF HS hb e0
      generalize putAllOn row (l.take k) = r0 at *
      go_wp2
      go_ret
      exact ⟨ret_str HV.out, HB.out⟩
end Go.Proofs.Ytpglcbidfghfkaa

/-
  The program's bytes of a head.
-/
namespace Go.Proofs.Ytpglcbidfghfkaa
open Go.RowKit Go.Lib
set_option linter.unusedVariables false
set_option linter.unusedSimpArgs false

set_option maxHeartbeats 4000000 in
set_option maxRecDepth 10000 in
theorem headBytes_any (log root : ByteArray) (size time k : Int) (ve vp : Value) (el pl : List ByteArray) (w : World) (h1 : Texts w w.heap.size ve el) (h2 : Texts w w.heap.size vp pl) (hR : headRB log size root time k el pl = true) :
    Calls Try.prog 49 #[.agg #[.string log, .int .i64 size, .string root, .int .i64 time, .int .i64 k, ve, vp]] w fun e w' => e = .returned (.string (headBy log size root time k el pl)) ∧ Below w.heap.size w w' := by
  obtain ⟨⟨hk0, hk1⟩, he6, hp2, hwe, hwp⟩ := sigRB_yes (headRB_sig hR)
  have hcl : claimB log size root time = true := by
    unfold headRB at hR
    exact (Bool.and_eq_true_iff.1 hR).1
  obtain ⟨hnm, ⟨hs0, hs1⟩, hrt, ht0, ht1⟩ := claimB_yes hcl
  have hlog := (nameB_yes hnm).2
  obtain ⟨a, c, rfl, _⟩ := id h1
  obtain ⟨b, d, rfl, _⟩ := id h2
  obtain ⟨W, hW⟩ : ∃ W, W = w.alloc (.cells #[.string log, .int .i64 size, .string root, .int .i64 time, .int .i64 k, .slice a el.length c, .slice b pl.length d] 26) := ⟨_, rfl⟩
  have hbW : Below w.heap.size w W := by rw [hW]; exact (Below.refl _ _).alloc (Nat.le_refl _) _
  have H0 : Hid (Below w.heap.size w W ∧ W.heap[w.heap.size]? = some (.cells #[.string log, .int .i64 size, .string root, .int .i64 time, .int .i64 k, .slice a el.length c, .slice b pl.length d] 26 (0, 0)) ∧ w.heap.size < W.heap.size) := by
    refine ⟨hbW, ?_, ?_⟩
    · rw [hW]; exact heap_alloc_new w _
    · rw [hW]; simp
  have HW : Hid (W = w.alloc (.cells #[.string log, .int .i64 size, .string root, .int .i64 time, .int .i64 k, .slice a el.length c, .slice b pl.length d] 26)) := hW
  have z0 := putText_size (headT log size root time)
  have z1 := numT_size k
  have z2 := putAllOn_size el (putText (headT log size root time) ++ numT k) (wide_small hwe)
  rw [ba_size] at z2
  have hhs := headT_size log size root time
  have E0 : Hid (Calls Try.prog 73 #[.agg #[.string log, .int .i64 size, .string root, .int .i64 time, .int .i64 k, .slice a el.length c, .slice b pl.length d]] W fun e w'' => e = .returned (.string (headT log size root time)) ∧ Below W.heap.size W w'') := (implHeadText_any log root size time k _ _ el pl W ((h1.below hbW).up hbW.size) ((h2.below hbW).up hbW.size) (by omega) (by omega) (by omega) (by omega) (by omega) (by omega)).mono fun e w'' h => ⟨h.1.trans (ret_str (by unfold headTB; rw [hR]; rfl)), h.2⟩
  have E1 : Hid (∀ w, Calls Try.prog 72 #[.string ⟨#[]⟩, .string (headT log size root time), .func (.func 74) #[] #[]] w fun e w' => e = .returned (.string (putText (headT log size root time))) ∧ Below w.heap.size w w') := fun w => (laidT_any ⟨#[]⟩ _ _ w (fun w => implPutText_any _ w (by omega)) (Nat.zero_le _) (by omega)).mono fun e w' h => ⟨h.1.trans (ret_str (ByteArray.empty_append)), h.2⟩
  have E2 : Hid (∀ w, Calls Try.prog 50 #[.string (putText (headT log size root time)), .int .i64 k, .func (.func 51) #[] #[]] w fun e w' => e = .returned (.string (putText (headT log size root time) ++ numT k)) ∧ Below w.heap.size w w') := fun w => laidN_any _ k _ w (fun w => implPutNum_any k w (by omega) (by omega)) (by omega) (by omega)
  have E3 : Hid (∀ W', Below W.heap.size W W' → Calls Try.prog 52 #[.string (putText (headT log size root time) ++ numT k), .slice a el.length c] W' fun e w' => e = .returned (.string (putAllOn (putText (headT log size root time) ++ numT k) el)) ∧ Below W'.heap.size W' w') := fun W' hb => laidAll_any _ _ el W' ((h1.below (hbW.trans (hb.mono hbW.size))).up (hbW.trans (hb.mono hbW.size)).size) (wide_small hwe) (by omega) (by rw [ba_size]; omega)
  have E4 : Hid (∀ W', Below W.heap.size W W' → Calls Try.prog 52 #[.string (putAllOn (putText (headT log size root time) ++ numT k) el), .slice b pl.length d] W' fun e w' => e = .returned (.string (headBy log size root time k el pl)) ∧ Below W'.heap.size W' w') := fun W' hb => laidAll_any _ _ pl W' ((h2.below (hbW.trans (hb.mono hbW.size))).up (hbW.trans (hb.mono hbW.size)).size) (wide_small hwp) (by omega) (by omega)
  generalize headBy log size root time k el pl = t4 at *
  generalize putAllOn (putText (headT log size root time) ++ numT k) el = t3 at *
  generalize putText (headT log size root time) ++ numT k = t2 at *
  generalize putText (headT log size root time) = t1 at *
  generalize headT log size root time = t0 at *
  obtain ⟨⟨c0, c1, c2, c3, c4, c5, c6⟩, _⟩ := seven_cells (Below.refl W.heap.size W) H0.out.2.2 H0.out.2.1
  clear h1 h2 hR hk0 hk1 he6 hp2 hwe hwp hcl hnm hs0 hs1 hrt ht0 ht1 hlog hbW hW z0 z1 z2 hhs
  go_enter Try.func49, Try.ntmps49
  go_wp2_with fail
  rw [← HW.out]
  refine E0.out.mono ?_
  rintro e w1 ⟨rfl, hb1⟩
  have B1 : Hid (Below W.heap.size W w1) := hb1
  clear hb1 HW c0 c1 c2 c3 c4 c5 c6
  go_wp2_with fail
  refine (E1.out _).mono ?_
  rintro e w2 ⟨rfl, hb2⟩
  have B2 : Hid (Below W.heap.size W w2) := B1.out.trans (hb2.mono B1.out.size)
  clear hb2
  obtain ⟨⟨_, _, _, _, c4, c5, c6⟩, _⟩ := seven_cells B2.out H0.out.2.2 H0.out.2.1
  go_wp2_with fail
  refine (E2.out _).mono ?_
  rintro e w3 ⟨rfl, hb3⟩
  have B3 : Hid (Below W.heap.size W w3) := B2.out.trans (hb3.mono B2.out.size)
  clear hb3 c4 c5 c6
  obtain ⟨⟨_, _, _, _, _, c5, c6⟩, _⟩ := seven_cells B3.out H0.out.2.2 H0.out.2.1
  go_wp2_with fail
  refine (E3.out _ B3.out).mono ?_
  rintro e w4 ⟨rfl, hb4⟩
  have B4 : Hid (Below W.heap.size W w4) := B3.out.trans (hb4.mono B3.out.size)
  clear hb4 c5 c6
  obtain ⟨⟨_, _, _, _, _, c5, c6⟩, _⟩ := seven_cells B4.out H0.out.2.2 H0.out.2.1
  go_wp2_with fail
  refine (E4.out _ B4.out).mono ?_
  rintro e w5 ⟨rfl, hb5⟩
  have B5 : Hid (Below W.heap.size W w5) := B4.out.trans (hb5.mono B4.out.size)
  clear hb5 c5 c6
  go_wp2
  go_ret
  exact ⟨rfl, H0.out.1.trans (B5.out.mono H0.out.1.size)⟩
end Go.Proofs.Ytpglcbidfghfkaa
