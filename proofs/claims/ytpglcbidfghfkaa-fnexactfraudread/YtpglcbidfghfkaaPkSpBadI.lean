/-
  The document's FraudRead.
-/
import Derived.Test.YtpglcbidfghfkaaPkFrBase
import Derived.Test.YtpglcbidfghfkaaPkSdHead
import Derived.Test.YtpglcbidfghfkaaPkSpecFB
import Derived.Test.YtpglcbidfghfkaaPkSpOkI
namespace Go.Proofs.Ytpglcbidfghfkaa
open Go.RowKit Go.Lib
set_option linter.unusedVariables false
set_option linter.unusedSimpArgs false

set_option maxHeartbeats 4000000 in
set_option maxRecDepth 10000 in
theorem spFR_bad (s : ByteArray) (w : World) (hz : s.size ≤ 1048576) (hs : ¬ 20000 < (s.size : Int)) (HNN : Hid ((spAt s).2 ≠ none)) (HNO : Hid (¬ fraudOk s = true)) :
    Calls Try.prog 5 #[.string s] w fun e w' => SpOut s w e w' := by
  obtain ⟨W, hW⟩ : ∃ W, W = (w.alloc (.cells #[.string ⟨#[]⟩, .int .i64 0, .string ⟨#[]⟩, .int .i64 0, .int .i64 0, .slice none 0 0, .slice none 0 0, .string ⟨#[]⟩, .int .i64 0, .string ⟨#[]⟩, .int .i64 0, .int .i64 0, .slice none 0 0, .slice none 0 0, .slice none 0 0, .int .i64 0] 30)).alloc (.cells #[.string s, .int .i64 0, .bool false] 44) := ⟨_, rfl⟩
  have hbW : Below w.heap.size w W := by rw [hW]; exact ((Below.refl _ _).alloc (Nat.le_refl _) _).alloc (by simp) _
  obtain ⟨p, hp⟩ : ∃ p, p = w.heap.size + 1 := ⟨_, rfl⟩
  have H0 : Hid (Sd s p (some 0) W ∧ W.heap[w.heap.size]? = some (.cells #[.string ⟨#[]⟩, .int .i64 0, .string ⟨#[]⟩, .int .i64 0, .int .i64 0, .slice none 0 0, .slice none 0 0, .string ⟨#[]⟩, .int .i64 0, .string ⟨#[]⟩, .int .i64 0, .int .i64 0, .slice none 0 0, .slice none 0 0, .slice none 0 0, .int .i64 0] 30 (0, 0)) ∧ Below w.heap.size w W ∧ w.heap.size < p ∧ W.heap.size = p + 1) := ⟨⟨0, false, by rw [hW, hp]; exact heap_alloc2_new w _ _, by decide, .inl ⟨rfl, rfl, Int.le_refl _, Int.natCast_nonneg _⟩⟩, by rw [hW]; exact heap_alloc2_old w _ _, hbW, by omega, by rw [hW, hp]; simp⟩
  have HW : Hid (W = (w.alloc (.cells #[.string ⟨#[]⟩, .int .i64 0, .string ⟨#[]⟩, .int .i64 0, .int .i64 0, .slice none 0 0, .slice none 0 0, .string ⟨#[]⟩, .int .i64 0, .string ⟨#[]⟩, .int .i64 0, .int .i64 0, .slice none 0 0, .slice none 0 0, .slice none 0 0, .int .i64 0] 30)).alloc (.cells #[.string s, .int .i64 0, .bool false] 44)) := hW
  have HPP : Hid (p = w.heap.size + 1) := hp
  have HS : Hid (¬ 20000 < (s.size : Int)) := hs
  have HSI : Hid ((s.size : Int) ≤ 20000) := (by show (s.size : Int) ≤ 20000; omega)
  clear hbW hW hz hs hp
  go_enter Try.func5, Try.ntmps5
  have hsI := HSI.out
  go_wp2_with fail
  rw [← HW.out, ← HPP.out]
  clear HW HPP
  refine (sdHead_any s (Int.not_lt.2 HSI.out) p (some 0) W H0.out.1).mono ?_
  rintro e w1 ⟨x, vex, vpx, _, rfl, ⟨o1, o2⟩, hr, hgr, hx⟩
  obtain ⟨ax, cx, hv⟩ := o1.len
  subst hv
  obtain ⟨bx, dx, hv⟩ := o2.len
  subst hv
  obtain ⟨W1, hW1⟩ : ∃ W1, W1 = w1.alloc (.cells #[.string x.log, .int .i64 x.size, .string x.root, .int .i64 x.time, .int .i64 x.k, .slice ax x.el.length cx, .slice bx x.pl.length dx, .string ⟨#[]⟩, .int .i64 0, .string ⟨#[]⟩, .int .i64 0, .int .i64 0, .slice none 0 0, .slice none 0 0, .slice none 0 0] 28) := ⟨_, rfl⟩
  obtain ⟨h, hh⟩ : ∃ h, h = w1.heap.size := ⟨_, rfl⟩
  have hb1 : Below w1.heap.size w1 W1 := by rw [hW1]; exact (Below.refl _ _).alloc (Nat.le_refl _) _
  have H1 : Hid (SfMid s p h w (sdEnd s (some 0)) #[.string x.log, .int .i64 x.size, .string x.root, .int .i64 x.time, .int .i64 x.k, .slice ax x.el.length cx, .slice bx x.pl.length dx, .string ⟨#[]⟩, .int .i64 0, .string ⟨#[]⟩, .int .i64 0, .int .i64 0, .slice none 0 0, .slice none 0 0, .slice none 0 0] W1) := by
    obtain ⟨p1, p2, p3, p4, p5⟩ := H0.out
    have l2 := (Array.getElem?_eq_some_iff.1 p2).1
    have hz := hgr.size
    exact ⟨hr.block (hb1.block _ hr.lt), ⟨(hb1.block _ (by omega)).trans ((hgr.block _ l2 (by simp; omega)).trans p2), by rw [hW1, hh]; exact heap_alloc_new w1 _⟩, (below_own p3 hgr (by omega)).trans (hb1.mono (by omega)), p4, by omega⟩
  have O1 : Hid (OwnT W1 (p + 1) (.slice ax x.el.length cx) x.el ∧ OwnT W1 (p + 1) (.slice bx x.pl.length dx) x.pl ∧ x = (headAt s (some 0)).1) := ⟨(o1.below hb1 (Nat.le_refl _)).lower (by have := H0.out.2.2.2.2; omega), (o2.below hb1 (Nat.le_refl _)).lower (by have := H0.out.2.2.2.2; omega), hx⟩
  have HW1 : Hid (W1 = w1.alloc (.cells #[.string x.log, .int .i64 x.size, .string x.root, .int .i64 x.time, .int .i64 x.k, .slice ax x.el.length cx, .slice bx x.pl.length dx, .string ⟨#[]⟩, .int .i64 0, .string ⟨#[]⟩, .int .i64 0, .int .i64 0, .slice none 0 0, .slice none 0 0, .slice none 0 0] 28)) := hW1
  have HH : Hid (h = w1.heap.size) := hh
  clear o1 o2 hr hgr hx hb1 hW1 hh H0
  go_wp2_with fail
  rw [← HW1.out, ← HH.out]
  clear HW1 HH
  refine (sdHead_any s (Int.not_lt.2 HSI.out) p _ W1 H1.out.1).mono ?_
  rintro e w3 ⟨y, vey, vpy, _, rfl, ⟨o1, o2⟩, hr, hgr, hx⟩
  obtain ⟨ay, cy, hv⟩ := o1.len
  subst hv
  obtain ⟨by', dy, hv⟩ := o2.len
  subst hv
  have G3 : Hid (SfMid s p h w (sdEnd s (sdEnd s (some 0))) #[.string x.log, .int .i64 x.size, .string x.root, .int .i64 x.time, .int .i64 x.k, .slice ax x.el.length cx, .slice bx x.pl.length dx, .string ⟨#[]⟩, .int .i64 0, .string ⟨#[]⟩, .int .i64 0, .int .i64 0, .slice none 0 0, .slice none 0 0, .slice none 0 0] w3) := H1.out.outer hr hgr
  have HXY : Hid (x = (headAt s (some 0)).1 ∧ y = (headAt s (sdEnd s (some 0))).1) := ⟨O1.out.2.2, hx⟩
  have O3 : Hid (Rows4 w3 (p + 1) (.slice ax x.el.length cx) (.slice bx x.pl.length dx) (.slice ay y.el.length cy) (.slice by' y.pl.length dy) x.el x.pl y.el y.pl) := by
    have hpp : p < p + 1 := Nat.lt_succ_self _
    have hz := (Array.getElem?_eq_some_iff.1 H1.out.2.1.2).1
    have := H1.out.2.2.2.2
    exact ⟨O1.out.1.grown hgr hpp, O1.out.2.1.grown hgr hpp, o1.lower (by omega), o2.lower (by omega)⟩
  obtain ⟨⟨c0, c1, c2, c3, c4, c5, c6, c7, c8, c9, c10, c11, c12, c13, c14⟩, f0, f1, f2, f3, f4, f5, f6, f7, f8, f9, f10, f11, f12, f13, f14⟩ := G3.out.cells
  clear o1 o2 hr hgr hx H1 O1
  obtain ⟨W3, HW3, H3, P3⟩ : ∃ W3, Hid (W3 = (((((((w3.setCell ⟨h, 7, none⟩ (.string y.log)).setCell ⟨h, 8, none⟩ (.int .i64 y.size)).setCell ⟨h, 9, none⟩ (.string y.root)).setCell ⟨h, 10, none⟩ (.int .i64 y.time)).setCell ⟨h, 11, none⟩ (.int .i64 y.k)).setCell ⟨h, 12, none⟩ (.slice ay y.el.length cy)).setCell ⟨h, 13, none⟩ (.slice by' y.pl.length dy))) ∧ Hid (SfMid s p h w (sdEnd s (sdEnd s (some 0))) #[.string x.log, .int .i64 x.size, .string x.root, .int .i64 x.time, .int .i64 x.k, .slice ax x.el.length cx, .slice bx x.pl.length dx, .string y.log, .int .i64 y.size, .string y.root, .int .i64 y.time, .int .i64 y.k, .slice ay y.el.length cy, .slice by' y.pl.length dy, .slice none 0 0] W3) ∧ Hid (Rows4 W3 (p + 1) (.slice ax x.el.length cx) (.slice bx x.pl.length dx) (.slice ay y.el.length cy) (.slice by' y.pl.length dy) x.el x.pl y.el y.pl) := by
    have hb := G3.out.2.1.2
    have hg : w3.grownBy (((((((w3.setCell ⟨h, 7, none⟩ (.string y.log)).setCell ⟨h, 8, none⟩ (.int .i64 y.size)).setCell ⟨h, 9, none⟩ (.string y.root)).setCell ⟨h, 10, none⟩ (.int .i64 y.time)).setCell ⟨h, 11, none⟩ (.int .i64 y.k)).setCell ⟨h, 12, none⟩ (.slice ay y.el.length cy)).setCell ⟨h, 13, none⟩ (.slice by' y.pl.length dy)) (some h) := by
      iterate 7 (refine grown_cell ?_ _ _)
      exact rd_refl _ _
    have z0 : (w3.setCell ⟨h, 7, none⟩ (.string y.log)).heap[h]? = some (Obj.cells #[.string x.log, .int .i64 x.size, .string x.root, .int .i64 x.time, .int .i64 x.k, .slice ax x.el.length cx, .slice bx x.pl.length dx, .string y.log, .int .i64 0, .string ⟨#[]⟩, .int .i64 0, .int .i64 0, .slice none 0 0, .slice none 0 0, .slice none 0 0] 28 (0, 0)) := heap_put2 _ hb rfl
    have z1 : ((w3.setCell ⟨h, 7, none⟩ (.string y.log)).setCell ⟨h, 8, none⟩ (.int .i64 y.size)).heap[h]? = some (Obj.cells #[.string x.log, .int .i64 x.size, .string x.root, .int .i64 x.time, .int .i64 x.k, .slice ax x.el.length cx, .slice bx x.pl.length dx, .string y.log, .int .i64 y.size, .string ⟨#[]⟩, .int .i64 0, .int .i64 0, .slice none 0 0, .slice none 0 0, .slice none 0 0] 28 (0, 0)) := heap_put2 _ z0 rfl
    have z2 : (((w3.setCell ⟨h, 7, none⟩ (.string y.log)).setCell ⟨h, 8, none⟩ (.int .i64 y.size)).setCell ⟨h, 9, none⟩ (.string y.root)).heap[h]? = some (Obj.cells #[.string x.log, .int .i64 x.size, .string x.root, .int .i64 x.time, .int .i64 x.k, .slice ax x.el.length cx, .slice bx x.pl.length dx, .string y.log, .int .i64 y.size, .string y.root, .int .i64 0, .int .i64 0, .slice none 0 0, .slice none 0 0, .slice none 0 0] 28 (0, 0)) := heap_put2 _ z1 rfl
    have z3 : ((((w3.setCell ⟨h, 7, none⟩ (.string y.log)).setCell ⟨h, 8, none⟩ (.int .i64 y.size)).setCell ⟨h, 9, none⟩ (.string y.root)).setCell ⟨h, 10, none⟩ (.int .i64 y.time)).heap[h]? = some (Obj.cells #[.string x.log, .int .i64 x.size, .string x.root, .int .i64 x.time, .int .i64 x.k, .slice ax x.el.length cx, .slice bx x.pl.length dx, .string y.log, .int .i64 y.size, .string y.root, .int .i64 y.time, .int .i64 0, .slice none 0 0, .slice none 0 0, .slice none 0 0] 28 (0, 0)) := heap_put2 _ z2 rfl
    have z4 : (((((w3.setCell ⟨h, 7, none⟩ (.string y.log)).setCell ⟨h, 8, none⟩ (.int .i64 y.size)).setCell ⟨h, 9, none⟩ (.string y.root)).setCell ⟨h, 10, none⟩ (.int .i64 y.time)).setCell ⟨h, 11, none⟩ (.int .i64 y.k)).heap[h]? = some (Obj.cells #[.string x.log, .int .i64 x.size, .string x.root, .int .i64 x.time, .int .i64 x.k, .slice ax x.el.length cx, .slice bx x.pl.length dx, .string y.log, .int .i64 y.size, .string y.root, .int .i64 y.time, .int .i64 y.k, .slice none 0 0, .slice none 0 0, .slice none 0 0] 28 (0, 0)) := heap_put2 _ z3 rfl
    have z5 : ((((((w3.setCell ⟨h, 7, none⟩ (.string y.log)).setCell ⟨h, 8, none⟩ (.int .i64 y.size)).setCell ⟨h, 9, none⟩ (.string y.root)).setCell ⟨h, 10, none⟩ (.int .i64 y.time)).setCell ⟨h, 11, none⟩ (.int .i64 y.k)).setCell ⟨h, 12, none⟩ (.slice ay y.el.length cy)).heap[h]? = some (Obj.cells #[.string x.log, .int .i64 x.size, .string x.root, .int .i64 x.time, .int .i64 x.k, .slice ax x.el.length cx, .slice bx x.pl.length dx, .string y.log, .int .i64 y.size, .string y.root, .int .i64 y.time, .int .i64 y.k, .slice ay y.el.length cy, .slice none 0 0, .slice none 0 0] 28 (0, 0)) := heap_put2 _ z4 rfl
    have z6 : (((((((w3.setCell ⟨h, 7, none⟩ (.string y.log)).setCell ⟨h, 8, none⟩ (.int .i64 y.size)).setCell ⟨h, 9, none⟩ (.string y.root)).setCell ⟨h, 10, none⟩ (.int .i64 y.time)).setCell ⟨h, 11, none⟩ (.int .i64 y.k)).setCell ⟨h, 12, none⟩ (.slice ay y.el.length cy)).setCell ⟨h, 13, none⟩ (.slice by' y.pl.length dy)).heap[h]? = some (Obj.cells #[.string x.log, .int .i64 x.size, .string x.root, .int .i64 x.time, .int .i64 x.k, .slice ax x.el.length cx, .slice bx x.pl.length dx, .string y.log, .int .i64 y.size, .string y.root, .int .i64 y.time, .int .i64 y.k, .slice ay y.el.length cy, .slice by' y.pl.length dy, .slice none 0 0] 28 (0, 0)) := heap_put2 _ z5 rfl
    obtain ⟨m1, ⟨m2, m3⟩, m4, m5, m6⟩ := G3.out
    have l2 := (Array.getElem?_eq_some_iff.1 m2).1
    exact ⟨_, rfl, ⟨m1.block (hg.block _ m1.lt (by simp; omega)), ⟨(hg.block _ l2 (by simp; omega)).trans m2, z6⟩, below_own m4 hg (by omega), m5, m6⟩, O3.out.past hg hb (by decide)⟩
  clear G3 O3
  go_wp2_with fail
  rw [← HW3.out]
  clear HW3 c0 c1 c2 c3 c4 c5 c6 c7 c8 c9 c10 c11 c12 c13 c14 f0 f1 f2 f3 f4 f5 f6 f7 f8 f9 f10 f11 f12 f13 f14
  refine (snum_any s (Int.not_lt.2 HSI.out) p _ W3 H3.out.1).mono ?_
  rintro e w4 ⟨rfl, hr, hgr⟩
  have HNB : Hid ((spNum s).1 ≤ 9223372036854775807) := rdNum_le s _
  have HSN : Hid (spNum s = ((rdNum s (sdEnd s (sdEnd s (some 0)))).1, (rdNum s (sdEnd s (sdEnd s (some 0)))).2)) := rfl
  have G4 : Hid (SfMid s p h w (spNum s).2 #[.string x.log, .int .i64 x.size, .string x.root, .int .i64 x.time, .int .i64 x.k, .slice ax x.el.length cx, .slice bx x.pl.length dx, .string y.log, .int .i64 y.size, .string y.root, .int .i64 y.time, .int .i64 y.k, .slice ay y.el.length cy, .slice by' y.pl.length dy, .slice none 0 0] w4) := H3.out.outer hr hgr
  have P4 : Hid (Rows4 w4 (p + 1) (.slice ax x.el.length cx) (.slice bx x.pl.length dx) (.slice ay y.el.length cy) (.slice by' y.pl.length dy) x.el x.pl y.el y.pl) := P3.out.grown hgr (Nat.lt_succ_self _)
  obtain ⟨num, hnum⟩ : ∃ num, num = (rdNum s (sdEnd s (sdEnd s (some 0)))).1 := ⟨_, rfl⟩
  rw [← hnum]
  have HNUM : Hid (num = (spNum s).1) := hnum
  have hnb : num ≤ 9223372036854775807 := by rw [hnum]; exact HNB.out
  obtain ⟨st3, hst3⟩ : ∃ st3, st3 = (spNum s).2 := ⟨_, rfl⟩
  rw [← hst3] at G4
  have HST3 : Hid (st3 = (spNum s).2) := hst3
  obtain ⟨B2, hB2⟩ : ∃ B2, B2 = w4.heap.size := ⟨_, rfl⟩
  have HB2 : Hid (h < B2 ∧ Under4 B2 (.slice ax x.el.length cx) (.slice bx x.pl.length dx) (.slice ay y.el.length cy) (.slice by' y.pl.length dy)) := ⟨by rw [hB2]; exact (Array.getElem?_eq_some_iff.1 G4.out.2.1.2).1, by rw [hB2]; exact P4.out.lt⟩
  have HST : Hid (SfMid s p h w (rdTexts s st3 0).2 #[.string x.log, .int .i64 x.size, .string x.root, .int .i64 x.time, .int .i64 x.k, .slice ax x.el.length cx, .slice bx x.pl.length dx, .string y.log, .int .i64 y.size, .string y.root, .int .i64 y.time, .int .i64 y.k, .slice ay y.el.length cy, .slice by' y.pl.length dy, .slice none 0 0] w4 ∧ Rows4 w4 (p + 1) (.slice ax x.el.length cx) (.slice bx x.pl.length dx) (.slice ay y.el.length cy) (.slice by' y.pl.length dy) x.el x.pl y.el y.pl ∧ OwnT w4 B2 (.slice none 0 0) (rdTexts s st3 0).1 ∧ B2 ≤ w4.heap.size) := ⟨G4.out, P4.out, OwnT.nil _ _, Nat.le_of_eq hB2⟩
  have HSTW : Hid (Within s st3) := by show Within s st3; rw [hst3]; exact rdNum_within s _
  clear hr hgr H3 P3 hnum HSN hst3 hB2 G4 P4
  go_wp2_with fail
  go_loopw [5] (fun kk wr => ∃ (j : Nat) (al : Option Addr) (cl : Nat), j ≤ num.toNat ∧ j ≤ 20001 ∧ kk = .int .i64 (num - j) ∧ SfMid s p h w (rdTexts s st3 j).2 #[.string x.log, .int .i64 x.size, .string x.root, .int .i64 x.time, .int .i64 x.k, .slice ax x.el.length cx, .slice bx x.pl.length dx, .string y.log, .int .i64 y.size, .string y.root, .int .i64 y.time, .int .i64 y.k, .slice ay y.el.length cy, .slice by' y.pl.length dy, .slice al j cl] wr ∧ Rows4 wr (p + 1) (.slice ax x.el.length cx) (.slice bx x.pl.length dx) (.slice ay y.el.length cy) (.slice by' y.pl.length dy) x.el x.pl y.el y.pl ∧ OwnT wr B2 (.slice al j cl) (rdTexts s st3 j).1 ∧ B2 ≤ wr.heap.size) (fun kk _ => (intOf kk).toNat)
  case atStart => exact ⟨0, none, 0, Nat.zero_le _, by omega, by simp, HST.out.1, HST.out.2.1, HST.out.2.2.1, HST.out.2.2.2⟩
  case round =>
    obtain ⟨j, al, cl, hj, hj2, rfl, hmid, hrows, hown, hB⟩ := hrel
    have HM : Hid (SfMid s p h w (rdTexts s st3 j).2 #[.string x.log, .int .i64 x.size, .string x.root, .int .i64 x.time, .int .i64 x.k, .slice ax x.el.length cx, .slice bx x.pl.length dx, .string y.log, .int .i64 y.size, .string y.root, .int .i64 y.time, .int .i64 y.k, .slice ay y.el.length cy, .slice by' y.pl.length dy, .slice al j cl] wr ∧ Rows4 wr (p + 1) (.slice ax x.el.length cx) (.slice bx x.pl.length dx) (.slice ay y.el.length cy) (.slice by' y.pl.length dy) x.el x.pl y.el y.pl ∧ OwnT wr B2 (.slice al j cl) (rdTexts s st3 j).1 ∧ B2 ≤ wr.heap.size) := ⟨hmid, hrows, hown, hB⟩
    have hkk : (rdTexts s st3 j).1.length = j := rdTexts_length s st3 j
    obtain ⟨ap, bp, hp, _, hcp⟩ := id hmid.1
    have p2 : wr.cell? ⟨p, 2, none⟩ = some (.bool bp) := row_here hp 2 _ rfl
    have hle : ∀ a, (rdTexts s st3 j).2 = some a → j ≤ 20000 := fun a ha => by
      have h1 := rdTexts_within HSTW.out j a ha
      have h2 := HSI.out
      cases hst : st3 with
      | none => rw [hst] at ha; rw [rdTexts_stuck] at ha; exact absurd ha (by simp)
      | some k0 =>
        have h3 := HSTW.out k0 hst
        rw [hst] at ha
        have := rdTexts_on j a ha
        omega
    by_cases hgo : 0 < num - (j : Int) ∧ bp = false
    · obtain ⟨hpos, rfl⟩ := hgo
      have hst : ∃ a, (rdTexts s st3 j).2 = some a := by
        rcases hcp with ⟨e, _⟩ | ⟨_, e⟩
        · exact ⟨_, e⟩
        · exact absurd e (by simp)
      have hj3 : j ≤ 20000 := hle _ hst.choose_spec
      have HE : Hid (∀ W, Like wr W → Calls Try.prog 17 #[.pointer (some ⟨p, 0, none⟩)] W fun e w' => e = .returned (.string (rdText s (rdTexts s st3 j).2).1) ∧ SfMid s p h w (rdTexts s st3 (j + 1)).2 #[.string x.log, .int .i64 x.size, .string x.root, .int .i64 x.time, .int .i64 x.k, .slice ax x.el.length cx, .slice bx x.pl.length dx, .string y.log, .int .i64 y.size, .string y.root, .int .i64 y.time, .int .i64 y.k, .slice ay y.el.length cy, .slice by' y.pl.length dy, .slice al j cl] w' ∧ Rows4 w' (p + 1) (.slice ax x.el.length cx) (.slice bx x.pl.length dx) (.slice ay y.el.length cy) (.slice by' y.pl.length dy) x.el x.pl y.el y.pl ∧ OwnT w' B2 (.slice al j cl) (rdTexts s st3 j).1 ∧ B2 ≤ w'.heap.size) := fun W hL => by
        obtain ⟨l1, l2, l3, l4⟩ := hL
        have hS : Sd s p (rdTexts s st3 j).2 W := HM.out.1.1.block (by rw [l4])
        refine (stext_any s (Int.not_lt.2 HSI.out) p _ W hS).mono ?_
        rintro e w' ⟨rfl, hr, hg⟩
        have hg' : wr.grownBy w' (some p) := ⟨hg.os.trans l1, hg.tape.trans l2, hg.output.trans l3, by rw [← l4]; exact hg.size, fun i hi hne => (hg.block i (by rw [l4]; exact hi) hne).trans (by rw [l4])⟩
        exact ⟨rfl, HM.out.1.outer hr hg', HM.out.2.1.grown hg' (Nat.lt_succ_self _), HM.out.2.2.1.grown hg' (by have := HB2.out.1; have := HM.out.1.2.2.2.2; omega), Nat.le_trans HM.out.2.2.2 hg'.size⟩
      have HL : Hid ((rdTexts s st3 j).1 ++ [(rdText s (rdTexts s st3 j).2).1] = (rdTexts s st3 (j + 1)).1) := rfl
      have hll : (rdTexts s st3 j).1.length ≤ 1048576 := by omega
      obtain ⟨⟨c0, c1, c2, c3, c4, c5, c6, c7, c8, c9, c10, c11, c12, c13, c14⟩, f0, f1, f2, f3, f4, f5, f6, f7, f8, f9, f10, f11, f12, f13, f14⟩ := hmid.cells
      have hw1 : IntKind.i64.wrap (num - (j : Int) - 1) = num - (j : Int) - 1 := by rw [IntKind.wrap_i64]; omega
      generalize (rdText s (rdTexts s st3 j).2).1 = t at *
      clear hmid hrows hown hB hcp hst hle hp
      go_wp2
      go_region_law (first
        | (refine step_enter rfl 17 #[.pointer (some ⟨p, 0, none⟩)] (HE.out _ ?lk) ?_ ?_; (case lk => exact ⟨rfl, rfl, rfl, rfl⟩); go_simp; rintro e wa ⟨rfl, hma, hra, hoa, hza⟩; refine ⟨_, rfl, ?_⟩; obtain ⟨⟨c0, c1, c2, c3, c4, c5, c6, c7, c8, c9, c10, c11, c12, c13, c14⟩, f0, f1, f2, f3, f4, f5, f6, f7, f8, f9, f10, f11, f12, f13, f14⟩ := hma.cells; have hltA := (Array.getElem?_eq_some_iff.1 hma.2.1.2).1; have HA : Hid (SfMid s p h w (rdTexts s st3 (j + 1)).2 #[.string x.log, .int .i64 x.size, .string x.root, .int .i64 x.time, .int .i64 x.k, .slice ax x.el.length cx, .slice bx x.pl.length dx, .string y.log, .int .i64 y.size, .string y.root, .int .i64 y.time, .int .i64 y.k, .slice ay y.el.length cy, .slice by' y.pl.length dy, .slice al j cl] wa ∧ Rows4 wa (p + 1) (.slice ax x.el.length cx) (.slice bx x.pl.length dx) (.slice ay y.el.length cy) (.slice by' y.pl.length dy) x.el x.pl y.el y.pl ∧ OwnT wa B2 (.slice al j cl) (rdTexts s st3 j).1 ∧ B2 ≤ wa.heap.size) := ⟨hma, hra, hoa, hza⟩; clear hma hra hoa hza)
        | (refine step_app_text (w := wa) rfl (.tmp 33) (.tmp 36) rfl B2 (.slice al j cl) (rdTexts s st3 j).1 t (by simp [Act.eval]) HA.out.2.2.1 (by simp [Act.eval]) hll HA.out.2.2.2 ?_; intro v4 wb hown4 hb4; obtain ⟨aq, cq, e4⟩ := hown4.len; rw [List.length_append, hkk] at e4; obtain rfl : v4 = .slice aq (j + 1) cq := e4; have hm4 := HA.out.1.below (hb4.mono HB2.out.1); have HB4 : Hid (SfMid s p h w (rdTexts s st3 (j + 1)).2 #[.string x.log, .int .i64 x.size, .string x.root, .int .i64 x.time, .int .i64 x.k, .slice ax x.el.length cx, .slice bx x.pl.length dx, .string y.log, .int .i64 y.size, .string y.root, .int .i64 y.time, .int .i64 y.k, .slice ay y.el.length cy, .slice by' y.pl.length dy, .slice al j cl] wb ∧ Rows4 wb (p + 1) (.slice ax x.el.length cx) (.slice bx x.pl.length dx) (.slice ay y.el.length cy) (.slice by' y.pl.length dy) x.el x.pl y.el y.pl ∧ OwnT wb B2 (.slice aq (j + 1) cq) (rdTexts s st3 (j + 1)).1 ∧ B2 ≤ wb.heap.size) := ⟨hm4, HA.out.2.1.under hb4 HB2.out.2, by rw [← HL.out]; exact hown4, Nat.le_trans HA.out.2.2.2 hb4.size⟩; obtain ⟨⟨c0, c1, c2, c3, c4, c5, c6, c7, c8, c9, c10, c11, c12, c13, c14⟩, f0, f1, f2, f3, f4, f5, f6, f7, f8, f9, f10, f11, f12, f13, f14⟩ := hm4.cells; clear hm4 hown4 hb4))
      all_goals
        have HF : Hid (SfMid s p h w (rdTexts s st3 (j + 1)).2 #[.string x.log, .int .i64 x.size, .string x.root, .int .i64 x.time, .int .i64 x.k, .slice ax x.el.length cx, .slice bx x.pl.length dx, .string y.log, .int .i64 y.size, .string y.root, .int .i64 y.time, .int .i64 y.k, .slice ay y.el.length cy, .slice by' y.pl.length dy, .slice aq (j + 1) cq] (wb.setCell ⟨h, 14, none⟩ (.slice aq (j + 1) cq)) ∧ Rows4 (wb.setCell ⟨h, 14, none⟩ (.slice aq (j + 1) cq)) (p + 1) (.slice ax x.el.length cx) (.slice bx x.pl.length dx) (.slice ay y.el.length cy) (.slice by' y.pl.length dy) x.el x.pl y.el y.pl ∧ OwnT (wb.setCell ⟨h, 14, none⟩ (.slice aq (j + 1) cq)) B2 (.slice aq (j + 1) cq) (rdTexts s st3 (j + 1)).1 ∧ B2 ≤ (wb.setCell ⟨h, 14, none⟩ (.slice aq (j + 1) cq)).heap.size) := ⟨HB4.out.1.put 14 _ _ rfl, HB4.out.2.1.past (grown_cell (rd_refl _ _) _ _) HB4.out.1.2.1.2 (by decide), HB4.out.2.2.1.past (grown_cell (rd_refl _ _) _ _) HB4.out.1.2.1.2 (by decide), by rw [size_put]; exact HB4.out.2.2.2⟩
        clear c0 c1 c2 c3 c4 c5 c6 c7 c8 c9 c10 c11 c12 c13 c14 f0 f1 f2 f3 f4 f5 f6 f7 f8 f9 f10 f11 f12 f13 f14
        go_wp2
        go_roundw
        case rel => exact ⟨j + 1, aq, cq, by omega, by omega, by first | rfl | (simp; omega) | (congr 1; omega), HF.out.1, HF.out.2.1, HF.out.2.2.1, HF.out.2.2.2⟩
        case measure => simp [intOf]; omega
    · have HJ : Hid (j ≤ (spNum s).1.toNat ∧ (j = (spNum s).1.toNat ∨ (rdTexts s (spNum s).2 j).2 = none)) := by
        rw [← HNUM.out, ← HST3.out]
        refine ⟨hj, ?_⟩
        by_cases hpos : 0 < num - (j : Int)
        · rcases hcp with ⟨_, e, _⟩ | ⟨e, _⟩
          · exact absurd ⟨hpos, e⟩ hgo
          · exact .inr e
        · exact .inl (by omega)
      have HEND : Hid ((spAt s).2 = (rdTexts s st3 j).2) := by
        have := spAt_end HJ.out.1 HJ.out.2
        rw [← HST3.out] at this
        exact this
      have HLST : Hid ((rdTexts s st3 j).2 ≠ none → (rdTexts s st3 j).1 = (spAt s).1) := fun hn => by
        have := spAt_list HJ.out.1 HJ.out.2 (by rw [← HST3.out]; exact hn)
        rw [← HST3.out] at this
        exact this
      have hne0 : (rdTexts s st3 j).2 ≠ none := by rw [← HEND.out]; exact HNN.out
      have hbp : bp = false := by
        rcases hcp with ⟨_, e, _⟩ | ⟨e, _⟩
        · exact e
        · exact absurd e hne0
      subst hbp
      have hpos : ¬ 0 < num - (j : Int) := fun h => hgo ⟨h, rfl⟩
      have hsp := spAt_some (s := s) (by rw [HEND.out]; exact hne0)
      have hval : x = (headsAt s).1.1 ∧ y = (headsAt s).2.1 ∧ (rdTexts s st3 j).1 = (fraudAt s).1 := ⟨HXY.out.1, HXY.out.2.trans hsp.1, (HLST.out hne0).trans (by rw [hsp.2])⟩
      have ht : ¬ fraudT x.right y.right x.bytes y.bytes (rdTexts s st3 j).1 = s := fun e => HNO.out ((fraudOk_iff s).2 ⟨by rw [← hsp.2, HEND.out]; exact hne0, by rw [← hval.1, ← hval.2.1, ← hval.2.2]; exact e⟩)
      have hF := ba_ne ht
      have HA : Hid (∀ w', Below w.heap.size w w' → SpOut s w (.returned (.agg #[.string ⟨#[]⟩, .int .i64 0, .string ⟨#[]⟩, .int .i64 0, .int .i64 0, .slice none 0 0, .slice none 0 0, .string ⟨#[]⟩, .int .i64 0, .string ⟨#[]⟩, .int .i64 0, .int .i64 0, .slice none 0 0, .slice none 0 0, .slice none 0 0, .int .i64 3])) w') := fun w' hb => SpOut.zero (frR_no (Int.not_lt.2 HSI.out) HNO.out) hb
      have HFB : Hid (Calls Try.prog 18 #[.agg #[.string x.log, .int .i64 x.size, .string x.root, .int .i64 x.time, .int .i64 x.k, .slice ax x.el.length cx, .slice bx x.pl.length dx, .string y.log, .int .i64 y.size, .string y.root, .int .i64 y.time, .int .i64 y.k, .slice ay y.el.length cy, .slice by' y.pl.length dy, .slice al j cl]] wr fun e w' => e = .returned (.string (fraudT x.right y.right x.bytes y.bytes (rdTexts s st3 j).1)) ∧ Below wr.heap.size wr w') :=
        specFraudBytes_any x y _ _ _ _ _ (rdTexts s st3 j).1 wr ⟨HM.out.2.1.1.texts, HM.out.2.1.2.1.texts⟩ ⟨HM.out.2.1.2.2.1.texts, HM.out.2.1.2.2.2.texts⟩ HM.out.2.2.1.texts (by rw [HXY.out.1]; exact headAt_lim (Int.not_lt.2 HSI.out) _) (by rw [HXY.out.2]; exact headAt_lim (Int.not_lt.2 HSI.out) _) (by rw [hkk]; omega)
      obtain ⟨⟨c0, c1, c2, c3, c4, c5, c6, c7, c8, c9, c10, c11, c12, c13, c14⟩, f0, f1, f2, f3, f4, f5, f6, f7, f8, f9, f10, f11, f12, f13, f14⟩ := HM.out.1.cells
      clear hmid hrows hown hB hcp hle hp hne0 hsp hval ht HEND HLST HJ HXY hgo
      generalize fraudT x.right y.right x.bytes y.bytes (rdTexts s st3 j).1 = F at *
      go_wp2_with fail
      refine HFB.out.mono ?_
      rintro e w5 ⟨rfl, hb5⟩
      have hlt4 : h < wr.heap.size := (Array.getElem?_eq_some_iff.1 HM.out.1.2.1.2).1
      have hltw : w.heap.size < wr.heap.size := (Array.getElem?_eq_some_iff.1 HM.out.1.2.1.1).1
      have hM5 : SfMid s p h w (rdTexts s st3 j).2 #[.string x.log, .int .i64 x.size, .string x.root, .int .i64 x.time, .int .i64 x.k, .slice ax x.el.length cx, .slice bx x.pl.length dx, .string y.log, .int .i64 y.size, .string y.root, .int .i64 y.time, .int .i64 y.k, .slice ay y.el.length cy, .slice by' y.pl.length dy, .slice al j cl] w5 := HM.out.1.below (hb5.mono (by omega))
      obtain ⟨⟨s0, s1, s2, s3, s4, s5, s6, s7, s8, s9, s10, s11, s12, s13, s14, s15⟩, g0, g1, g2, g3, g4, g5, g6, g7, g8, g9, g10, g11, g12, g13, g14, g15⟩ := hM5.out
      have HBL : Hid (Below w.heap.size w w5) := hM5.2.2.1
      clear hM5 hb5 HM HFB c0 c1 c2 c3 c4 c5 c6 c7 c8 c9 c10 c11 c12 c13 c14 f0 f1 f2 f3 f4 f5 f6 f7 f8 f9 f10 f11 f12 f13 f14
      go_wp2
      refine bodyPost_ret (v := .agg #[.string ⟨#[]⟩, .int .i64 0, .string ⟨#[]⟩, .int .i64 0, .int .i64 0, .slice none 0 0, .slice none 0 0, .string ⟨#[]⟩, .int .i64 0, .string ⟨#[]⟩, .int .i64 0, .int .i64 0, .slice none 0 0, .slice none 0 0, .slice none 0 0, .int .i64 3]) (by simp [results, Try.results5, go_sem, s0, s1, s2, s3, s4, s5, s6, s7, s8, s9, s10, s11, s12, s13, s14, s15, g0, g1, g2, g3, g4, g5, g6, g7, g8, g9, g10, g11, g12, g13, g14, g15]) rfl (HA.out _ (below_own HBL.out (r := w.heap.size) ?_ (Nat.le_refl _)))
      iterate 16 (refine grown_cell ?_ _ _)
      exact rd_refl _ _
end Go.Proofs.Ytpglcbidfghfkaa

/-
  The document's FraudRead.
-/
namespace Go.Proofs.Ytpglcbidfghfkaa
open Go.RowKit Go.Lib
set_option linter.unusedVariables false
set_option linter.unusedSimpArgs false

set_option maxHeartbeats 4000000 in
set_option maxRecDepth 10000 in
theorem specFraudRead_any (s : ByteArray) (w : World) (hz : s.size ≤ 1048576) :
    Calls Try.prog 5 #[.string s] w fun e w' => SpOut s w e w' := by
  by_cases hs : 20000 < (s.size : Int)
  · have HA : Hid (∀ w', Below w.heap.size w w' → SpOut s w (.returned (.agg #[.string ⟨#[]⟩, .int .i64 0, .string ⟨#[]⟩, .int .i64 0, .int .i64 0, .slice none 0 0, .slice none 0 0, .string ⟨#[]⟩, .int .i64 0, .string ⟨#[]⟩, .int .i64 0, .int .i64 0, .slice none 0 0, .slice none 0 0, .slice none 0 0, .int .i64 2])) w') := fun w' hb => SpOut.zero (frR_big hs) hb
    clear hz
    go_enter Try.func5, Try.ntmps5
    go_wp2
    exact bodyPost_ret (v := .agg #[.string ⟨#[]⟩, .int .i64 0, .string ⟨#[]⟩, .int .i64 0, .int .i64 0, .slice none 0 0, .slice none 0 0, .string ⟨#[]⟩, .int .i64 0, .string ⟨#[]⟩, .int .i64 0, .int .i64 0, .slice none 0 0, .slice none 0 0, .slice none 0 0, .int .i64 2]) (by simp [results, Try.results5, go_sem]) rfl (HA.out _ ((Below.refl _ _).alloc (Nat.le_refl _) _))
  by_cases h0 : (spAt s).2 = none
  · exact spFR_none s w hz hs h0
  by_cases h1 : fraudOk s = true
  · exact spFR_ok s w hz hs h1
  · exact spFR_bad s w hz hs h0 h1
end Go.Proofs.Ytpglcbidfghfkaa
