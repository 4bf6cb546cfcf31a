/-
  The walk of the promise on heads. Condition: the program's variable holds the rounds' numbers.
-/
import Derived.Test.YtpglcbidfghfkaaGreatDoorPkDrawHeadGd
import Derived.Test.YtpglcbidfghfkaaGreatDoorPkHdV
import Derived.Test.YtpglcbidfghfkaaGreatDoorPkRight
import Derived.Test.YtpglcbidfghfkaaGreatDoorPkImplHeadS
import Derived.Test.YtpglcbidfghfkaaGreatDoorPkSpecSign
import Derived.Test.YtpglcbidfghfkaaGreatDoorPkImplHeadG
import Derived.Test.YtpglcbidfghfkaaGreatDoorPkSpecHeadG
import Derived.Test.YtpglcbidfghfkaaGreatDoorPkImplConf
import Derived.Test.YtpglcbidfghfkaaGreatDoorPkHeadV
import Derived.Test.YtpglcbidfghfkaaGreatDoorPkImplHeadT
import Derived.Test.YtpglcbidfghfkaaGreatDoorPkSpecHeadT
import Derived.Test.YtpglcbidfghfkaaGreatDoorPkSpecTree
import Derived.Deep.RegionWith
import Derived.Deep.RegionHeld3
import Derived.Deep.DeepCutAuto
namespace Go.Proofs.YtpglcbidfghfkaaGreatDoor
open Go.RowKit Go.Lib
set_option linter.unusedVariables false
set_option linter.unusedSimpArgs false

/-- What HeadSign answers, as a record. -/
def hsHd (s : ByteArray) (k : Int) (log : ByteArray) (l : List ByteArray) (t : Int) : Hd := ⟨hsLog s k log l t, hsRoot s k log l t, hsSize s k log l t, hsTime s k log l t, hsKey s k log l t, hsEnds s k log l t, hsPath s k log l t⟩
/-- A head that is signed is good under its seed's root, has as many entries, and their tree. -/
theorem hs_told {s log : ByteArray} {k t : Int} {l : List ByteArray} (h : hsB s k log l t = true) : headGB (keyV s) (hsHd s k log l t).log (hsHd s k log l t).size (hsHd s k log l t).root (hsHd s k log l t).time (hsHd s k log l t).k (hsHd s k log l t).el (hsHd s k log l t).pl = true ∧ (hsHd s k log l t).size = l.length ∧ (hsHd s k log l t).root = treeV l ∧ 1 ≤ (hsHd s k log l t).log.size := by
  obtain ⟨y1, y2, y3, y4, y5⟩ := hsB_yes h
  have hz := hsT_size y3 l t
  have hs : signB s k (hsT log l t) = true := by
    unfold signB
    rw [y1, decide_eq_true y2, decide_eq_true (by omega)]
    rfl
  have e1 : (hsHd s k log l t).log = log := by show hsLog s k log l t = _; unfold hsLog; rw [if_pos h]
  have e2 : (hsHd s k log l t).root = treeB l := by show hsRoot s k log l t = _; unfold hsRoot; rw [if_pos h]
  have e3 : (hsHd s k log l t).size = l.length := by show hsSize s k log l t = _; unfold hsSize; rw [if_pos h]
  have e4 : (hsHd s k log l t).time = t := by show hsTime s k log l t = _; unfold hsTime; rw [if_pos h]
  have e5 : (hsHd s k log l t).k = k := by show hsKey s k log l t = _; unfold hsKey; rw [if_pos h]
  have e6 : (hsHd s k log l t).el = endsB s k (hsT log l t) := by show hsEnds s k log l t = _; unfold hsEnds; rw [if_pos h]
  have e7 : (hsHd s k log l t).pl = pathB (pubsB s) k.toNat := by show hsPath s k log l t = _; unfold hsPath; rw [if_pos h]
  rw [e1, e2, e3, e4, e5, e6, e7]
  refine ⟨?_, rfl, by unfold treeV; rw [if_pos y4], (nameB_yes y3).1⟩
  unfold headGB headRB
  rw [claimB_right y4, y3, decide_eq_true y5, sign_right y2.1 y2.2]
  exact ver_told hs
theorem hs_none {s log : ByteArray} {k t : Int} {l : List ByteArray} (h : ¬ hsB s k log l t = true) : (hsHd s k log l t).log = ⟨#[]⟩ := by show hsLog s k log l t = _; unfold hsLog; rw [if_neg h]
theorem hs_few2 (s log : ByteArray) (k t : Int) (l : List ByteArray) (ht : -9223372036854775808 ≤ t ∧ t ≤ 9223372036854775807) (hl : l.length ≤ 1000) (hg : log.size ≤ 1000) : (hsHd s k log l t).el.length ≤ 6 ∧ (hsHd s k log l t).pl.length ≤ 5 ∧ (hsHd s k log l t).log.size ≤ 1000 ∧ (hsHd s k log l t).root.size ≤ 32 ∧ (-9223372036854775808 ≤ (hsHd s k log l t).size ∧ (hsHd s k log l t).size ≤ 9223372036854775807) ∧ (-9223372036854775808 ≤ (hsHd s k log l t).time ∧ (hsHd s k log l t).time ≤ 9223372036854775807) := by
  refine ⟨hsEnds_len s k log l t, hsPath_len s k log l t, ?_, ?_, ?_, ?_⟩
  · show (hsLog s k log l t).size ≤ _
    unfold hsLog
    split
    · exact hg
    · exact Nat.zero_le _
  · show (hsRoot s k log l t).size ≤ _
    unfold hsRoot
    split
    · rw [treeB_size]; exact Nat.le_refl _
    · exact Nat.zero_le _
  · show _ ≤ hsSize s k log l t ∧ hsSize s k log l t ≤ _
    unfold hsSize
    split <;> omega
  · show _ ≤ hsTime s k log l t ∧ hsTime s k log l t ≤ _
    unfold hsTime
    split <;> omega
theorem conf_symm (x y : Hd) : confB y.right x.right y.log x.log y.size x.size y.root x.root = confB x.right y.right x.log y.log x.size y.size x.root y.root := by
  unfold confB
  rw [Bool.and_comm y.right x.right, BEq.comm (a := y.log.toList) (b := x.log.toList), BEq.comm (a := y.size) (b := x.size), BEq.comm (a := y.root.toList) (b := x.root.toList)]
theorem keyV_few (s : ByteArray) : (keyV s).size ≤ 32 := by
  cases h : seedB s with
  | true => rw [keyV_size h]; exact Nat.le_refl _
  | false => rw [keyV_none h]; exact Nat.zero_le _
theorem full_list {a : ByteArray} (h : 1 ≤ a.size) : a.toList.isEmpty = false := by
  rw [ByteArray.toList_eq]
  cases h2 : a.data.toList with
  | nil =>
    have : a.size = 0 := by
      have h3 : a.data.toList.length = 0 := by rw [h2]; rfl
      exact h3
    omega
  | cons x y => rfl

set_option maxHeartbeats 8000000 in
set_option maxRecDepth 10000 in
theorem fnHead_any (a0 : Option Addr) (len0 cap0 : Nat) (a1 : Option Addr) (len1 cap1 : Nat) (w : World) (h0 : Code w w.heap.size a0 len0 ∧ len0 ≤ maxLen) (h1 : Code w w.heap.size a1 len1 ∧ len1 ≤ maxLen) (hK : Keys w) :
    Calls Tryz.prog 3 #[.slice a0 len0 cap0, .slice a1 len1 cap1] w fun e w' => e = .returned (.bool true) ∧ Below w.heap.size w w' := by
  obtain ⟨hc0, hl0⟩ := h0
  obtain ⟨hc1, hl1⟩ := h1
  unfold maxLen at hl0 hl1
  have HK : Hid (Keys w) := hK
  clear hK
  by_cases hb0 : 1048576 < (len0 : Int)
  · clear hc0 hc1
    go_enter Tryz.func3, Tryz.ntmps3
    go_wp2
    go_ret
    exact ⟨rfl, Below.refl _ _⟩
  by_cases hb1 : 1048576 < (len1 : Int)
  · clear hc0 hc1
    go_enter Tryz.func3, Tryz.ntmps3
    go_wp2
    go_ret
    exact ⟨rfl, Below.refl _ _⟩
  have E0 : Hid (Calls Tryz.prog 7 #[.slice a0 len0 cap0] w fun e w' => HeadSAns w e w') := drawHeadS_any a0 len0 cap0 w hc0 (by omega)
  have EC : Hid (∀ W, Below w.heap.size w W → Calls Tryz.prog 14 #[.slice a1 len1 cap1] W fun e w' => ConfAns W e w') := fun W hb => drawHeadC_any a1 len1 cap1 W (hc1.later hb) (by omega)
  have EDG : Hid (∀ W, Below w.heap.size w W → Calls Tryz.prog 15 #[.slice a1 len1 cap1] W fun e w' => HeadGAns W e w') := fun W hb => drawHeadG_any a1 len1 cap1 W (hc1.later hb) (by omega)
  clear hc0 hc1 hl0 hl1
  go_enter Tryz.func3, Tryz.ntmps3
  go_wp2_with fail
  refine E0.out.mono ?_
  rintro e w1 ⟨s, k, lg, v, l, t, rfl, hs, hk0, hk1, hlg, ht, hl, htm, hb1'⟩
  have H1 : Hid (Below w.heap.size w w1 ∧ Keys w1 ∧ Texts w1 w1.heap.size v l) := ⟨hb1', HK.out.below hb1' HK.out.lt, ht⟩
  obtain ⟨av, cv, rfl, _⟩ := id ht
  clear hb1' E0 ht
  have hfew := hs_few2 s lg k t l htm (by omega) (by omega)
  obtain ⟨h, hh⟩ : ∃ h, h = hsHd s k lg l t := ⟨_, rfl⟩
  have EI : Hid (∀ W, Below w1.heap.size w1 W → Calls Tryz.prog 8 #[.string s, .int .i64 k, .string lg, .slice av l.length cv, .int .i64 t] W fun e w' => HeadAns W h.log h.size h.root h.time h.k h.el h.pl e w') := fun W hb => by rw [hh]; exact implHeadSign_any s k lg _ l t W ((H1.out.2.2.below hb).up hb.size) (by omega) (by omega) (by omega) htm (H1.out.2.1.below hb H1.out.2.1.lt)
  have ES0 : Hid (∀ W, Below w1.heap.size w1 W → Calls Tryz.prog 10 #[.string s, .int .i64 k, .string lg, .slice av l.length cv, .int .i64 t] W fun e w' => HeadTold W h.log h.size h.root h.time h.k h.el h.pl e w') := fun W hb => by rw [hh]; exact specHeadSign_any s k lg _ l t W ((H1.out.2.2.below hb).up hb.size) (by omega) (by omega) (by omega) htm
  have ER0 : Hid (∀ W, Calls Tryz.prog 12 #[.string s] W fun e w' => e = .returned (.string (keyV s)) ∧ Below W.heap.size W w') := fun W => specKeyRoot_any s W (by omega)
  have ETH0 : Hid (∀ W, Below w1.heap.size w1 W → Calls Tryz.prog 13 #[.slice av l.length cv] W fun e w' => e = .returned (.string (treeV l)) ∧ Below W.heap.size W w') := fun W hb => specTreeHash_any _ l W ((H1.out.2.2.below hb).up hb.size) (by omega)
  have HTOLD : Hid ((headGB (keyV s) h.log h.size h.root h.time h.k h.el h.pl = true ∧ h.size = l.length ∧ h.root = treeV l ∧ 1 ≤ h.log.size) ∨ h.log = ⟨#[]⟩) := by
    by_cases hB : hsB s k lg l t = true
    · rw [hh]; exact .inl (hs_told hB)
    · rw [hh]; exact .inr (hs_none hB)
  have HFEW : Hid (h.el.length ≤ 6 ∧ h.pl.length ≤ 5 ∧ h.log.size ≤ 1000 ∧ h.root.size ≤ 32 ∧ (-9223372036854775808 ≤ h.size ∧ h.size ≤ 9223372036854775807) ∧ (-9223372036854775808 ≤ h.time ∧ h.time ≤ 9223372036854775807)) := by rw [hh]; exact hfew
  have hRs := keyV_few s
  have HRS : Hid ((keyV s).size ≤ 32) := hRs
  have hll : l.length ≤ 31 := hl
  clear hfew hh htm hRs
  generalize keyV s = R at *
  generalize treeV l = TV at *
  go_wp2_with fail
  refine (EI.out _ (Below.refl _ _)).mono ?_
  rintro e w2 ⟨ve, vp, n, rfl, ho1, ho2, _, _, _, hb2⟩
  obtain ⟨a1', c1, rfl⟩ := ho1.len
  obtain ⟨b1, d1, rfl⟩ := ho2.len
  obtain ⟨W2, hW2⟩ : ∃ W, W = w2.alloc (.cells #[.string h.log, .int .i64 h.size, .string h.root, .int .i64 h.time, .int .i64 h.k, .slice a1' h.el.length c1, .slice b1 h.pl.length d1] 29) := ⟨_, rfl⟩
  obtain ⟨b, hbb⟩ : ∃ b, b = w2.heap.size := ⟨_, rfl⟩
  have hal : Below w2.heap.size w2 W2 := by rw [hW2]; exact (Below.refl _ _).alloc (Nat.le_refl _) _
  have hb12 : Below w1.heap.size w1 W2 := hb2.trans (hal.mono hb2.size)
  have I2 : Hid ((Below w.heap.size w W2 ∧ Below w1.heap.size w1 W2) ∧ W2.heap[b]? = some (.cells #[.string h.log, .int .i64 h.size, .string h.root, .int .i64 h.time, .int .i64 h.k, .slice a1' h.el.length c1, .slice b1 h.pl.length d1] 29 (0, 0)) ∧ h.In (.slice a1' h.el.length c1) (.slice b1 h.pl.length d1) W2 W2.heap.size ∧ Keys W2) := ⟨⟨H1.out.1.trans (hb12.mono H1.out.1.size), hb12⟩, by rw [hW2, hbb]; exact heap_alloc_new w2 _, ⟨(ho1.texts.below hal).up hal.size, (ho2.texts.below hal).up hal.size⟩, H1.out.2.1.below hb12 H1.out.2.1.lt⟩
  have HW2 : Hid (W2 = w2.alloc (.cells #[.string h.log, .int .i64 h.size, .string h.root, .int .i64 h.time, .int .i64 h.k, .slice a1' h.el.length c1, .slice b1 h.pl.length d1] 29)) := hW2
  have HBB : Hid (b = w2.heap.size) := hbb
  have HB2 : Hid (Below W2.heap.size W2 W2) := Below.refl _ _
  have HC : Hid (∀ Z, Below W2.heap.size W2 Z → (Z.cell? ⟨b, 0, none⟩ = some (.string h.log) ∧ Z.cell? ⟨b, 1, none⟩ = some (.int .i64 h.size) ∧ Z.cell? ⟨b, 2, none⟩ = some (.string h.root) ∧ Z.cell? ⟨b, 3, none⟩ = some (.int .i64 h.time) ∧ Z.cell? ⟨b, 4, none⟩ = some (.int .i64 h.k) ∧ Z.cell? ⟨b, 5, none⟩ = some (.slice a1' h.el.length c1) ∧ Z.cell? ⟨b, 6, none⟩ = some (.slice b1 h.pl.length d1))) := fun Z hz => by
    have c := row_cells hz (Array.getElem?_eq_some_iff.1 I2.out.2.1).1 I2.out.2.1
    exact ⟨c 0 _ rfl, c 1 _ rfl, c 2 _ rfl, c 3 _ rfl, c 4 _ rfl, c 5 _ rfl, c 6 _ rfl⟩
  have ES : Hid (∀ W, Below W2.heap.size W2 W → Calls Tryz.prog 10 #[.string s, .int .i64 k, .string lg, .slice av l.length cv, .int .i64 t] W fun e w' => ∃ ue up, e = .returned (.agg #[.string h.log, .int .i64 h.size, .string h.root, .int .i64 h.time, .int .i64 h.k, ue, up]) ∧ Texts w' w'.heap.size ue h.el ∧ Texts w' w'.heap.size up h.pl ∧ Below W2.heap.size W2 w') := fun W hb => (ES0.out W (I2.out.1.2.trans (hb.mono I2.out.1.2.size))).mono fun e w' ⟨ue, up, e1, t1, t2, b⟩ => ⟨ue, up, e1, t1, t2, hb.trans (b.mono hb.size)⟩
  have EL : Hid (∀ (ue up : Value) W, Below W2.heap.size W2 W → Texts W W.heap.size ue h.el → Texts W W.heap.size up h.pl → Calls Tryz.prog 9 #[.agg #[.string h.log, .int .i64 h.size, .string h.root, .int .i64 h.time, .int .i64 h.k, .slice a1' h.el.length c1, .slice b1 h.pl.length d1], .agg #[.string h.log, .int .i64 h.size, .string h.root, .int .i64 h.time, .int .i64 h.k, ue, up]] W fun e w' => e = .returned (.bool true) ∧ Below W2.heap.size W2 w') := fun ue up W hb t1 t2 => by
    obtain ⟨au, cu, rfl, _⟩ := id t1
    obtain ⟨bu, du, rfl, _⟩ := id t2
    exact (lwHead_any h a1' b1 au bu c1 d1 cu du W (I2.out.2.2.1.on hb) ⟨t1, t2⟩ (by have := HFEW.out; omega) (by have := HFEW.out; omega)).mono fun e w' h => ⟨h.1, hb.trans (h.2.mono hb.size)⟩
  have ER : Hid (∀ W, Below W2.heap.size W2 W → Calls Tryz.prog 12 #[.string s] W fun e w' => e = .returned (.string R) ∧ Below W2.heap.size W2 w') := fun W hb => (ER0.out W).mono fun e w' h => ⟨h.1, hb.trans (h.2.mono hb.size)⟩
  have EG0 : Hid (∀ W, Below W2.heap.size W2 W → Calls Tryz.prog 11 #[.string R, .agg #[.string h.log, .int .i64 h.size, .string h.root, .int .i64 h.time, .int .i64 h.k, .slice a1' h.el.length c1, .slice b1 h.pl.length d1]] W fun e w' => e = .returned (.bool (headGB R h.log h.size h.root h.time h.k h.el h.pl)) ∧ Below W2.heap.size W2 w') := fun W hb => by
    have f := HFEW.out
    exact (implHeadGood_any R h.log h.root h.size h.time h.k _ _ h.el h.pl W (I2.out.2.2.1.on hb).1 (I2.out.2.2.1.on hb).2 (by omega) (by omega) (by omega) (by omega) (by have := HRS.out; omega) f.2.2.2.2.1 f.2.2.2.2.2 (I2.out.2.2.2.below hb I2.out.2.2.2.lt)).mono fun e w' h => ⟨h.1, hb.trans (h.2.mono hb.size)⟩
  have ETH : Hid (∀ W, Below W2.heap.size W2 W → Calls Tryz.prog 13 #[.slice av l.length cv] W fun e w' => e = .returned (.string TV) ∧ Below W2.heap.size W2 w') := fun W hb => (ETH0.out W (I2.out.1.2.trans (hb.mono I2.out.1.2.size))).mono fun e w' h => ⟨h.1, hb.trans (h.2.mono hb.size)⟩
  have HBW : Hid (Below w.heap.size w W2) := I2.out.1.1
  have HKW : Hid (Keys W2) := I2.out.2.2.2
  clear ho1 ho2 hb2 hal hb12 hW2 hbb H1 EI ES0 ER0 ETH0 I2
  obtain ⟨x0, x1, x2, x3, x4, x5, x6⟩ := HC.out _ HB2.out
  go_wp2_with fail
  rw [← HW2.out, ← HBB.out]
  clear HW2 HBB
  refine wp_region_held_drew (S := (fun X => X.cell? ⟨b, 0, none⟩ = some (.string h.log) ∧ X.cell? ⟨b, 1, none⟩ = some (.int .i64 h.size) ∧ X.cell? ⟨b, 2, none⟩ = some (.string h.root) ∧ X.cell? ⟨b, 3, none⟩ = some (.int .i64 h.time) ∧ X.cell? ⟨b, 4, none⟩ = some (.int .i64 h.k) ∧ X.cell? ⟨b, 5, none⟩ = some (.slice a1' h.el.length c1) ∧ X.cell? ⟨b, 6, none⟩ = some (.slice b1 h.pl.length d1))) (by kernel_rfl) ?_ (fun hHeld => ?_)
  · exact HC.out _ (below_drew' HB2.out)
  refine wpAnyH_take (i := 0) (v := ?_) rfl (by kernel_rfl) (by kernel_rfl) (by kernel_rfl) (fun _ _ _ h => h) (Or.inl ⟨by kernel_rfl, ?_⟩) (by assumption) ?_
  rotate_left
  · (intro w' hSw; (try dsimp only at hSw); obtain ⟨g0, g1, g2, g3, g4, g5, g6⟩ := hSw; go_simp; (try with_reducible rfl))
  (try simp only [Act.put, List.setIfInBounds_toArray, List.set_cons_zero, List.set_cons_succ])
  refine wpAnyH_take (i := 1) (v := ?_) rfl (by kernel_rfl) (by kernel_rfl) (by kernel_rfl) (fun _ _ _ h => h) (Or.inl ⟨by kernel_rfl, ?_⟩) (by assumption) ?_
  rotate_left
  · (intro w' hSw; clear hSw; go_simp; (try with_reducible rfl))
  (try simp only [Act.put, List.setIfInBounds_toArray, List.set_cons_zero, List.set_cons_succ])
  refine wpAnyH_take (i := 2) (v := ?_) rfl (by kernel_rfl) (by kernel_rfl) (by kernel_rfl) (fun _ _ _ h => h) (Or.inl ⟨by kernel_rfl, ?_⟩) (by assumption) ?_
  rotate_left
  · (intro w' hSw; clear hSw; go_simp; (try with_reducible rfl))
  (try simp only [Act.put, List.setIfInBounds_toArray, List.set_cons_zero, List.set_cons_succ])
  refine wpAnyH_take (i := 3) (v := ?_) rfl (by kernel_rfl) (by kernel_rfl) (by kernel_rfl) (fun _ _ _ h => h) (Or.inl ⟨by kernel_rfl, ?_⟩) (by assumption) ?_
  rotate_left
  · (intro w' hSw; clear hSw; go_simp; (try with_reducible rfl))
  (try simp only [Act.put, List.setIfInBounds_toArray, List.set_cons_zero, List.set_cons_succ])
  refine wpAnyH_take (i := 4) (v := ?_) rfl (by kernel_rfl) (by kernel_rfl) (by kernel_rfl) (fun _ _ _ h => h) (Or.inl ⟨by kernel_rfl, ?_⟩) (by assumption) ?_
  rotate_left
  · (intro w' hSw; clear hSw; go_simp; (try with_reducible rfl))
  (try simp only [Act.put, List.setIfInBounds_toArray, List.set_cons_zero, List.set_cons_succ])
  refine wpAnyH_take (i := 5) (v := ?_) rfl (by kernel_rfl) (by kernel_rfl) (by kernel_rfl) (fun _ _ _ h => h) (Or.inl ⟨by kernel_rfl, ?_⟩) (by assumption) ?_
  rotate_left
  · (intro w' hSw; clear hSw; go_simp; (try with_reducible rfl))
  (try simp only [Act.put, List.setIfInBounds_toArray, List.set_cons_zero, List.set_cons_succ])
  refine wpAnyH_ready (rs := [6]) (by kernel_rfl) (by simp) ?_
  refine AllReadyH.cons (by simp only [List.getElem?_toArray, List.getElem?_cons_succ, List.getElem?_cons_zero]; rfl) (fun K hK => ?_) AllReadyH.nil
  go_simp
  go_at_call 10; (with_reducible refine (ES.out _ ?_).mono ?_); exact below_drew' HB2.out; rintro e wa ⟨ue, up, rfl, hu1, hu2, hb⟩; have HA : Hid (Below W2.heap.size W2 wa ∧ Texts wa wa.heap.size ue h.el ∧ Texts wa wa.heap.size up h.pl) := ⟨hb, hu1, hu2⟩; clear hb hu1 hu2
  go_wp2_with fail
  refine hK.out _ _ ?_ (fun hHeld => ?_)
  · exact HC.out _ HA.out.1
  clear hK K
  (try simp only [Act.put, List.setIfInBounds_toArray, List.set_cons_zero, List.set_cons_succ])
  refine wpAnyH_ready (rs := [7]) (by kernel_rfl) (by simp) ?_
  refine AllReadyH.cons (by simp only [List.getElem?_toArray, List.getElem?_cons_succ, List.getElem?_cons_zero]; rfl) (fun K hK => ?_) AllReadyH.nil
  go_simp
  go_at_call 9; (with_reducible refine (EL.out _ _ _ ?_ ?_ ?_).mono ?_); exact HA.out.1; exact HA.out.2.1; exact HA.out.2.2; rintro e wb ⟨rfl, hb⟩; have HWB : Hid (Below W2.heap.size W2 wb) := hb; clear hb
  go_wp2_with fail
  refine hK.out _ _ ?_ (fun hHeld => ?_)
  · exact HC.out _ HWB.out
  clear hK K
  (try simp only [Act.put, List.setIfInBounds_toArray, List.set_cons_zero, List.set_cons_succ])
  refine wpAnyH_take (i := 8) (v := ?_) rfl (by kernel_rfl) (by kernel_rfl) (by kernel_rfl) (fun _ _ _ h => h) (Or.inl ⟨by kernel_rfl, ?_⟩) (by assumption) ?_
  rotate_left
  · (intro w' hSw; clear hSw; go_simp; (try with_reducible rfl))
  (try simp only [Act.put, List.setIfInBounds_toArray, List.set_cons_zero, List.set_cons_succ])
  refine wpAnyH_done (by kernel_rfl) ?_ _
  go_simp
  clear ES EL HA HB2 x0 x1 x2 x3 x4 x5 x6
  obtain ⟨x0, x1, x2, x3, x4, x5, x6⟩ := HC.out _ HWB.out
  go_wp2_with fail
  go_cut [4, 69] (fun x y wx => x = .bool false ∧ y = .bool false ∧ Below W2.heap.size W2 wx)
  case first J K hJ hK =>
    rcases HTOLD.out with ⟨q1, q2, q3, q4⟩ | q
    · have EG : Hid (∀ W, Below W2.heap.size W2 W → Calls Tryz.prog 11 #[.string R, .agg #[.string h.log, .int .i64 h.size, .string h.root, .int .i64 h.time, .int .i64 h.k, .slice a1' h.el.length c1, .slice b1 h.pl.length d1]] W fun e w' => e = .returned (.bool true) ∧ Below W2.heap.size W2 w') := fun W hb => by have := EG0.out W hb; rw [q1] at this; exact this
      have hne := full_list q4
      have hrt : (h.root.toList == TV.toList) = true := by rw [q3]; simp
      have hsz : decide (h.size = (l.length : Int)) = true := decide_eq_true q2
      have HQ2 : Hid (h.size = (l.length : Int)) := q2
      clear q1 q2 q3 q4 EG0 HTOLD
      refine wp_region_held_drew (S := (fun X => X.cell? ⟨b, 0, none⟩ = some (.string h.log) ∧ X.cell? ⟨b, 1, none⟩ = some (.int .i64 h.size) ∧ X.cell? ⟨b, 2, none⟩ = some (.string h.root) ∧ X.cell? ⟨b, 3, none⟩ = some (.int .i64 h.time) ∧ X.cell? ⟨b, 4, none⟩ = some (.int .i64 h.k) ∧ X.cell? ⟨b, 5, none⟩ = some (.slice a1' h.el.length c1) ∧ X.cell? ⟨b, 6, none⟩ = some (.slice b1 h.pl.length d1))) (by kernel_rfl) ?_ (fun hHeld => ?_)
      · exact HC.out _ (below_drew' HWB.out)
      refine wpAnyH_take (i := 0) (v := ?_) rfl (by kernel_rfl) (by kernel_rfl) (by kernel_rfl) (fun _ _ _ h => h) (Or.inl ⟨by kernel_rfl, ?_⟩) (by assumption) ?_
      rotate_left
      · (intro w' hSw; clear hSw; go_simp; (try with_reducible rfl))
      (try simp only [Act.put, List.setIfInBounds_toArray, List.set_cons_zero, List.set_cons_succ])
      refine wpAnyH_take (i := 1) (v := ?_) rfl (by kernel_rfl) (by kernel_rfl) (by kernel_rfl) (fun _ _ _ h => h) (Or.inl ⟨by kernel_rfl, ?_⟩) (by assumption) ?_
      rotate_left
      · (intro w' hSw; (try dsimp only at hSw); obtain ⟨g0, g1, g2, g3, g4, g5, g6⟩ := hSw; go_simp; (try with_reducible rfl))
      (try simp only [Act.put, List.setIfInBounds_toArray, List.set_cons_zero, List.set_cons_succ])
      refine wpAnyH_take (i := 2) (v := ?_) rfl (by kernel_rfl) (by kernel_rfl) (by kernel_rfl) (fun _ _ _ h => h) (Or.inl ⟨by kernel_rfl, ?_⟩) (by assumption) ?_
      rotate_left
      · (intro w' hSw; clear hSw; go_simp; (try with_reducible rfl))
      (try simp only [Act.put, List.setIfInBounds_toArray, List.set_cons_zero, List.set_cons_succ])
      refine wpAnyH_take (i := 3) (v := ?_) rfl (by kernel_rfl) (by kernel_rfl) (by kernel_rfl) (fun _ _ _ h => h) (Or.inl ⟨by kernel_rfl, ?_⟩) (by assumption) ?_
      rotate_left
      · (intro w' hSw; clear hSw; go_simp; (try with_reducible rfl))
      (try simp only [Act.put, List.setIfInBounds_toArray, List.set_cons_zero, List.set_cons_succ])
      refine wpAnyH_take (i := 4) (v := ?_) rfl (by kernel_rfl) (by kernel_rfl) (by kernel_rfl) (fun _ _ _ h => h) (Or.inl ⟨by kernel_rfl, ?_⟩) (by assumption) ?_
      rotate_left
      · (intro w' hSw; clear hSw; go_simp; (try with_reducible rfl))
      (try simp only [Act.put, List.setIfInBounds_toArray, List.set_cons_zero, List.set_cons_succ])
      refine wpAnyH_take (i := 6) (v := ?_) rfl (by kernel_rfl) (by kernel_rfl) (by kernel_rfl) (fun _ _ _ h => h) (Or.inl ⟨by kernel_rfl, ?_⟩) (by assumption) ?_
      rotate_left
      · (intro w' hSw; (try dsimp only at hSw); obtain ⟨g0, g1, g2, g3, g4, g5, g6⟩ := hSw; go_simp; (try with_reducible rfl))
      (try simp only [Act.put, List.setIfInBounds_toArray, List.set_cons_zero, List.set_cons_succ])
      refine wpAnyH_ready (rs := [5]) (by kernel_rfl) (by simp) ?_
      refine AllReadyH.cons (by simp only [List.getElem?_toArray, List.getElem?_cons_succ, List.getElem?_cons_zero]; rfl) (fun K hK => ?_) AllReadyH.nil
      go_simp
      go_at_call 12; (with_reducible refine (ER.out _ ?_).mono ?_); exact below_drew' HWB.out; rintro e wc ⟨rfl, hb⟩; have HWC : Hid (Below W2.heap.size W2 wc) := hb; clear hb
      go_wp2_with fail
      refine hK.out _ _ ?_ (fun hHeld => ?_)
      · exact HC.out _ HWC.out
      clear hK K
      (try simp only [Act.put, List.setIfInBounds_toArray, List.set_cons_zero, List.set_cons_succ])
      refine wpAnyH_ready (rs := [7]) (by kernel_rfl) (by simp) ?_
      refine AllReadyH.cons (by simp only [List.getElem?_toArray, List.getElem?_cons_succ, List.getElem?_cons_zero]; rfl) (fun K hK => ?_) AllReadyH.nil
      go_simp
      go_at_call 11; (with_reducible refine (EG.out _ ?_).mono ?_); exact HWC.out; rintro e wd ⟨rfl, hb⟩; have HWD : Hid (Below W2.heap.size W2 wd) := hb; clear hb
      go_wp2_with fail
      refine hK.out _ _ ?_ (fun hHeld => ?_)
      · exact HC.out _ HWD.out
      clear hK K
      (try simp only [Act.put, List.setIfInBounds_toArray, List.set_cons_zero, List.set_cons_succ])
      refine wpAnyH_take (i := 8) (v := ?_) rfl (by kernel_rfl) (by kernel_rfl) (by kernel_rfl) (fun _ _ _ h => h) (Or.inl ⟨by kernel_rfl, ?_⟩) (by assumption) ?_
      rotate_left
      · (intro w' hSw; clear hSw; go_simp; (try with_reducible rfl))
      (try simp only [Act.put, List.setIfInBounds_toArray, List.set_cons_zero, List.set_cons_succ])
      refine wpAnyH_take (i := 9) (v := ?_) rfl (by kernel_rfl) (by kernel_rfl) (by kernel_rfl) (fun _ _ _ h => h) (Or.inl ⟨by kernel_rfl, ?_⟩) (by assumption) ?_
      rotate_left
      · (intro w' hSw; clear hSw; go_simp; (try with_reducible rfl))
      (try simp only [Act.put, List.setIfInBounds_toArray, List.set_cons_zero, List.set_cons_succ])
      refine wpAnyH_take (i := 10) (v := ?_) rfl (by kernel_rfl) (by kernel_rfl) (by kernel_rfl) (fun _ _ _ h => h) (Or.inl ⟨by kernel_rfl, ?_⟩) (by assumption) ?_
      rotate_left
      · (intro w' hSw; clear hSw; go_simp; (try with_reducible rfl))
      (try simp only [Act.put, List.setIfInBounds_toArray, List.set_cons_zero, List.set_cons_succ])
      refine wpAnyH_take (i := 11) (v := ?_) rfl (by kernel_rfl) (by kernel_rfl) (by kernel_rfl) (fun _ _ _ h => h) (Or.inl ⟨by kernel_rfl, ?_⟩) (by assumption) ?_
      rotate_left
      · (intro w' hSw; (try dsimp only at hSw); obtain ⟨g0, g1, g2, g3, g4, g5, g6⟩ := hSw; go_simp; (try with_reducible rfl))
      (try simp only [Act.put, List.setIfInBounds_toArray, List.set_cons_zero, List.set_cons_succ])
      refine wpAnyH_take (i := 12) (v := ?_) rfl (by kernel_rfl) (by kernel_rfl) (by kernel_rfl) (fun _ _ _ h => h) (Or.inl ⟨by kernel_rfl, ?_⟩) (by assumption) ?_
      rotate_left
      · (intro w' hSw; clear hSw; go_simp; (try with_reducible rfl))
      (try simp only [Act.put, List.setIfInBounds_toArray, List.set_cons_zero, List.set_cons_succ])
      refine wpAnyH_take (i := 13) (v := ?_) rfl (by kernel_rfl) (by kernel_rfl) (by kernel_rfl) (fun _ _ _ h => h) (Or.inl ⟨by kernel_rfl, ?_⟩) (by assumption) ?_
      rotate_left
      · (intro w' hSw; clear hSw; go_simp; (try with_reducible rfl))
      (try simp only [Act.put, List.setIfInBounds_toArray, List.set_cons_zero, List.set_cons_succ])
      refine wpAnyH_take (i := 14) (v := .bool false) rfl (by kernel_rfl) (by kernel_rfl) (by kernel_rfl) (fun _ _ _ h => h) (Or.inl ⟨by kernel_rfl, ?_⟩) (by assumption) ?_
      · (intro w' hSw; clear hSw; go_simp; first | done | (with_reducible rfl) | exact HQ2.out | simp [HQ2.out])
      (try simp only [Act.put, List.setIfInBounds_toArray, List.set_cons_zero, List.set_cons_succ])
      refine wpAnyH_take (i := 15) (v := ?_) rfl (by kernel_rfl) (by kernel_rfl) (by kernel_rfl) (fun _ _ _ h => h) (Or.inl ⟨by kernel_rfl, ?_⟩) (by assumption) ?_
      rotate_left
      · (intro w' hSw; clear hSw; go_simp; (try with_reducible rfl))
      (try simp only [Act.put, List.setIfInBounds_toArray, List.set_cons_zero, List.set_cons_succ])
      refine wpAnyH_take (i := 16) (v := ?_) rfl (by kernel_rfl) (by kernel_rfl) (by kernel_rfl) (fun _ _ _ h => h) (Or.inl ⟨by kernel_rfl, ?_⟩) (by assumption) ?_
      rotate_left
      · (intro w' hSw; clear hSw; go_simp; (try with_reducible rfl))
      (try simp only [Act.put, List.setIfInBounds_toArray, List.set_cons_zero, List.set_cons_succ])
      refine wpAnyH_take (i := 17) (v := ?_) rfl (by kernel_rfl) (by kernel_rfl) (by kernel_rfl) (fun _ _ _ h => h) (Or.inl ⟨by kernel_rfl, ?_⟩) (by assumption) ?_
      rotate_left
      · (intro w' hSw; clear hSw; go_simp; (try with_reducible rfl))
      (try simp only [Act.put, List.setIfInBounds_toArray, List.set_cons_zero, List.set_cons_succ])
      refine wpAnyH_take (i := 18) (v := ?_) rfl (by kernel_rfl) (by kernel_rfl) (by kernel_rfl) (fun _ _ _ h => h) (Or.inl ⟨by kernel_rfl, ?_⟩) (by assumption) ?_
      rotate_left
      · (intro w' hSw; (try dsimp only at hSw); obtain ⟨g0, g1, g2, g3, g4, g5, g6⟩ := hSw; go_simp; (try with_reducible rfl))
      (try simp only [Act.put, List.setIfInBounds_toArray, List.set_cons_zero, List.set_cons_succ])
      refine wpAnyH_take (i := 19) (v := ?_) rfl (by kernel_rfl) (by kernel_rfl) (by kernel_rfl) (fun _ _ _ h => h) (Or.inl ⟨by kernel_rfl, ?_⟩) (by assumption) ?_
      rotate_left
      · (intro w' hSw; clear hSw; go_simp; (try with_reducible rfl))
      (try simp only [Act.put, List.setIfInBounds_toArray, List.set_cons_zero, List.set_cons_succ])
      refine wpAnyH_ready (rs := [20]) (by kernel_rfl) (by simp) ?_
      refine AllReadyH.cons (by simp only [List.getElem?_toArray, List.getElem?_cons_succ, List.getElem?_cons_zero]; rfl) (fun K hK => ?_) AllReadyH.nil
      go_simp
      (try rw [if_pos HQ2.out]); go_at_call 13; (with_reducible refine (ETH.out _ ?_).mono ?_); exact HWD.out; rintro e we ⟨rfl, hb⟩; have HWE : Hid (Below W2.heap.size W2 we) := hb; clear hb
      go_wp2_with fail
      refine hK.out _ _ ?_ (fun hHeld => ?_)
      · exact HC.out _ HWE.out
      clear hK K
      (try simp only [Act.put, List.setIfInBounds_toArray, List.set_cons_zero, List.set_cons_succ])
      refine wpAnyH_take (i := 21) (v := .bool false) rfl (by kernel_rfl) (by kernel_rfl) (by kernel_rfl) (fun _ _ _ h => h) (Or.inl ⟨by kernel_rfl, ?_⟩) (by assumption) ?_
      · (intro w' hSw; clear hSw; go_simp; first | done | (with_reducible rfl) | simp [hrt])
      (try simp only [Act.put, List.setIfInBounds_toArray, List.set_cons_zero, List.set_cons_succ])
      refine wpAnyH_take (i := 22) (v := ?_) rfl (by kernel_rfl) (by kernel_rfl) (by kernel_rfl) (fun _ _ _ h => h) (Or.inl ⟨by kernel_rfl, ?_⟩) (by assumption) ?_
      rotate_left
      · (intro w' hSw; clear hSw; go_simp; (try with_reducible rfl))
      (try simp only [Act.put, List.setIfInBounds_toArray, List.set_cons_zero, List.set_cons_succ])
      refine wpAnyH_take (i := 23) (v := ?_) rfl (by kernel_rfl) (by kernel_rfl) (by kernel_rfl) (fun _ _ _ h => h) (Or.inl ⟨by kernel_rfl, ?_⟩) (by assumption) ?_
      rotate_left
      · (intro w' hSw; clear hSw; go_simp; (try with_reducible rfl))
      (try simp only [Act.put, List.setIfInBounds_toArray, List.set_cons_zero, List.set_cons_succ])
      refine wpAnyH_done (by kernel_rfl) ?_ _
      go_simp
      refine hK _ _ (Met.intro (hJ _ _ ?_))
      (repeat apply Exists.intro)
      refine ⟨?rel, rfl⟩
      case rel => exact ⟨rfl, by first | rfl | simp [HQ2.out], HWE.out⟩
    · have hem : h.log.toList.isEmpty = true := by rw [q, toList_data]; rfl
      clear q EG0 HTOLD
      refine wp_region_held_drew (S := (fun X => X.cell? ⟨b, 0, none⟩ = some (.string h.log) ∧ X.cell? ⟨b, 1, none⟩ = some (.int .i64 h.size) ∧ X.cell? ⟨b, 2, none⟩ = some (.string h.root) ∧ X.cell? ⟨b, 3, none⟩ = some (.int .i64 h.time) ∧ X.cell? ⟨b, 4, none⟩ = some (.int .i64 h.k) ∧ X.cell? ⟨b, 5, none⟩ = some (.slice a1' h.el.length c1) ∧ X.cell? ⟨b, 6, none⟩ = some (.slice b1 h.pl.length d1))) (by kernel_rfl) ?_ (fun hHeld => ?_)
      · exact HC.out _ (below_drew' HWB.out)
      refine wpAnyH_take (i := 0) (v := ?_) rfl (by kernel_rfl) (by kernel_rfl) (by kernel_rfl) (fun _ _ _ h => h) (Or.inl ⟨by kernel_rfl, ?_⟩) (by assumption) ?_
      rotate_left
      · (intro w' hSw; clear hSw; go_simp; (try with_reducible rfl))
      (try simp only [Act.put, List.setIfInBounds_toArray, List.set_cons_zero, List.set_cons_succ])
      refine wpAnyH_take (i := 1) (v := ?_) rfl (by kernel_rfl) (by kernel_rfl) (by kernel_rfl) (fun _ _ _ h => h) (Or.inl ⟨by kernel_rfl, ?_⟩) (by assumption) ?_
      rotate_left
      · (intro w' hSw; (try dsimp only at hSw); obtain ⟨g0, g1, g2, g3, g4, g5, g6⟩ := hSw; go_simp; (try with_reducible rfl))
      (try simp only [Act.put, List.setIfInBounds_toArray, List.set_cons_zero, List.set_cons_succ])
      refine wpAnyH_take (i := 2) (v := ?_) rfl (by kernel_rfl) (by kernel_rfl) (by kernel_rfl) (fun _ _ _ h => h) (Or.inl ⟨by kernel_rfl, ?_⟩) (by assumption) ?_
      rotate_left
      · (intro w' hSw; clear hSw; go_simp; (try with_reducible rfl))
      (try simp only [Act.put, List.setIfInBounds_toArray, List.set_cons_zero, List.set_cons_succ])
      refine wpAnyH_take (i := 3) (v := ?_) rfl (by kernel_rfl) (by kernel_rfl) (by kernel_rfl) (fun _ _ _ h => h) (Or.inl ⟨by kernel_rfl, ?_⟩) (by assumption) ?_
      rotate_left
      · (intro w' hSw; clear hSw; go_simp; (try with_reducible rfl))
      (try simp only [Act.put, List.setIfInBounds_toArray, List.set_cons_zero, List.set_cons_succ])
      refine wpAnyH_take (i := 4) (v := undef) rfl (by kernel_rfl) (by kernel_rfl) (by kernel_rfl) (fun _ _ _ h => h) (Or.inr ⟨by kernel_rfl, rfl⟩) (by assumption) ?_
      (try simp only [Act.put, List.setIfInBounds_toArray, List.set_cons_zero, List.set_cons_succ])
      refine wpAnyH_take (i := 5) (v := undef) rfl (by kernel_rfl) (by kernel_rfl) (by kernel_rfl) (fun _ _ _ h => h) (Or.inr ⟨by kernel_rfl, rfl⟩) (by assumption) ?_
      (try simp only [Act.put, List.setIfInBounds_toArray, List.set_cons_zero, List.set_cons_succ])
      refine wpAnyH_take (i := 6) (v := undef) rfl (by kernel_rfl) (by kernel_rfl) (by kernel_rfl) (fun _ _ _ h => h) (Or.inr ⟨by kernel_rfl, rfl⟩) (by assumption) ?_
      (try simp only [Act.put, List.setIfInBounds_toArray, List.set_cons_zero, List.set_cons_succ])
      refine wpAnyH_take (i := 7) (v := undef) rfl (by kernel_rfl) (by kernel_rfl) (by kernel_rfl) (fun _ _ _ h => h) (Or.inr ⟨by kernel_rfl, rfl⟩) (by assumption) ?_
      (try simp only [Act.put, List.setIfInBounds_toArray, List.set_cons_zero, List.set_cons_succ])
      refine wpAnyH_take (i := 8) (v := undef) rfl (by kernel_rfl) (by kernel_rfl) (by kernel_rfl) (fun _ _ _ h => h) (Or.inr ⟨by kernel_rfl, rfl⟩) (by assumption) ?_
      (try simp only [Act.put, List.setIfInBounds_toArray, List.set_cons_zero, List.set_cons_succ])
      refine wpAnyH_take (i := 9) (v := undef) rfl (by kernel_rfl) (by kernel_rfl) (by kernel_rfl) (fun _ _ _ h => h) (Or.inr ⟨by kernel_rfl, rfl⟩) (by assumption) ?_
      (try simp only [Act.put, List.setIfInBounds_toArray, List.set_cons_zero, List.set_cons_succ])
      refine wpAnyH_take (i := 10) (v := undef) rfl (by kernel_rfl) (by kernel_rfl) (by kernel_rfl) (fun _ _ _ h => h) (Or.inr ⟨by kernel_rfl, rfl⟩) (by assumption) ?_
      (try simp only [Act.put, List.setIfInBounds_toArray, List.set_cons_zero, List.set_cons_succ])
      refine wpAnyH_take (i := 11) (v := undef) rfl (by kernel_rfl) (by kernel_rfl) (by kernel_rfl) (fun _ _ _ h => h) (Or.inr ⟨by kernel_rfl, rfl⟩) (by assumption) ?_
      (try simp only [Act.put, List.setIfInBounds_toArray, List.set_cons_zero, List.set_cons_succ])
      refine wpAnyH_take (i := 12) (v := undef) rfl (by kernel_rfl) (by kernel_rfl) (by kernel_rfl) (fun _ _ _ h => h) (Or.inr ⟨by kernel_rfl, rfl⟩) (by assumption) ?_
      (try simp only [Act.put, List.setIfInBounds_toArray, List.set_cons_zero, List.set_cons_succ])
      refine wpAnyH_take (i := 13) (v := undef) rfl (by kernel_rfl) (by kernel_rfl) (by kernel_rfl) (fun _ _ _ h => h) (Or.inr ⟨by kernel_rfl, rfl⟩) (by assumption) ?_
      (try simp only [Act.put, List.setIfInBounds_toArray, List.set_cons_zero, List.set_cons_succ])
      refine wpAnyH_take (i := 14) (v := undef) rfl (by kernel_rfl) (by kernel_rfl) (by kernel_rfl) (fun _ _ _ h => h) (Or.inr ⟨by kernel_rfl, rfl⟩) (by assumption) ?_
      (try simp only [Act.put, List.setIfInBounds_toArray, List.set_cons_zero, List.set_cons_succ])
      refine wpAnyH_take (i := 15) (v := undef) rfl (by kernel_rfl) (by kernel_rfl) (by kernel_rfl) (fun _ _ _ h => h) (Or.inr ⟨by kernel_rfl, rfl⟩) (by assumption) ?_
      (try simp only [Act.put, List.setIfInBounds_toArray, List.set_cons_zero, List.set_cons_succ])
      refine wpAnyH_take (i := 16) (v := undef) rfl (by kernel_rfl) (by kernel_rfl) (by kernel_rfl) (fun _ _ _ h => h) (Or.inr ⟨by kernel_rfl, rfl⟩) (by assumption) ?_
      (try simp only [Act.put, List.setIfInBounds_toArray, List.set_cons_zero, List.set_cons_succ])
      refine wpAnyH_take (i := 17) (v := undef) rfl (by kernel_rfl) (by kernel_rfl) (by kernel_rfl) (fun _ _ _ h => h) (Or.inr ⟨by kernel_rfl, rfl⟩) (by assumption) ?_
      (try simp only [Act.put, List.setIfInBounds_toArray, List.set_cons_zero, List.set_cons_succ])
      refine wpAnyH_take (i := 18) (v := undef) rfl (by kernel_rfl) (by kernel_rfl) (by kernel_rfl) (fun _ _ _ h => h) (Or.inr ⟨by kernel_rfl, rfl⟩) (by assumption) ?_
      (try simp only [Act.put, List.setIfInBounds_toArray, List.set_cons_zero, List.set_cons_succ])
      refine wpAnyH_take (i := 19) (v := undef) rfl (by kernel_rfl) (by kernel_rfl) (by kernel_rfl) (fun _ _ _ h => h) (Or.inr ⟨by kernel_rfl, rfl⟩) (by assumption) ?_
      (try simp only [Act.put, List.setIfInBounds_toArray, List.set_cons_zero, List.set_cons_succ])
      refine wpAnyH_take (i := 20) (v := undef) rfl (by kernel_rfl) (by kernel_rfl) (by kernel_rfl) (fun _ _ _ h => h) (Or.inr ⟨by kernel_rfl, rfl⟩) (by assumption) ?_
      (try simp only [Act.put, List.setIfInBounds_toArray, List.set_cons_zero, List.set_cons_succ])
      refine wpAnyH_take (i := 21) (v := undef) rfl (by kernel_rfl) (by kernel_rfl) (by kernel_rfl) (fun _ _ _ h => h) (Or.inr ⟨by kernel_rfl, rfl⟩) (by assumption) ?_
      (try simp only [Act.put, List.setIfInBounds_toArray, List.set_cons_zero, List.set_cons_succ])
      refine wpAnyH_take (i := 22) (v := undef) rfl (by kernel_rfl) (by kernel_rfl) (by kernel_rfl) (fun _ _ _ h => h) (Or.inr ⟨by kernel_rfl, rfl⟩) (by assumption) ?_
      (try simp only [Act.put, List.setIfInBounds_toArray, List.set_cons_zero, List.set_cons_succ])
      refine wpAnyH_take (i := 23) (v := ?_) rfl (by kernel_rfl) (by kernel_rfl) (by kernel_rfl) (fun _ _ _ h => h) (Or.inl ⟨by kernel_rfl, ?_⟩) (by assumption) ?_
      rotate_left
      · (intro w' hSw; clear hSw; go_simp; (try with_reducible rfl))
      (try simp only [Act.put, List.setIfInBounds_toArray, List.set_cons_zero, List.set_cons_succ])
      refine wpAnyH_done (by kernel_rfl) ?_ _
      go_simp
      refine hK _ _ (Met.intro (hJ _ _ ?_))
      (repeat apply Exists.intro)
      refine ⟨?rel, rfl⟩
      case rel => exact ⟨rfl, rfl, below_drew' HWB.out⟩
  case rest =>
    obtain ⟨rfl, rfl, hcb⟩ := hcut
    have HW : Hid (Below w.heap.size w wc ∧ Keys wc) := ⟨HBW.out.trans (hcb.mono HBW.out.size), HKW.out.below hcb HKW.out.lt⟩
    clear hcb HBW HKW HWB HC HTOLD EG0 ER ETH HFEW HRS x0 x1 x2 x3 x4 x5 x6
    go_wp2_with fail
    refine (EC.out _ HW.out.1).mono ?_
    rintro e w6 ⟨x, a2, b2, c2, d2, y, a3, b3, c3, d3, rfl, ⟨hx, hfx⟩, ⟨hy, hfy⟩, hb6⟩
    obtain ⟨W4, hW4⟩ : ∃ W, W = (w6.alloc (.cells #[.string x.log, .int .i64 x.size, .string x.root, .int .i64 x.time, .int .i64 x.k, .slice a2 x.el.length c2, .slice b2 x.pl.length d2] 29)).alloc (.cells #[.string y.log, .int .i64 y.size, .string y.root, .int .i64 y.time, .int .i64 y.k, .slice a3 y.el.length c3, .slice b3 y.pl.length d3] 29) := ⟨_, rfl⟩
    obtain ⟨g1, hg1⟩ : ∃ g, g = w6.heap.size := ⟨_, rfl⟩
    obtain ⟨g2, hg2⟩ : ∃ g, g = w6.heap.size + 1 := ⟨_, rfl⟩
    have hal : Below w6.heap.size w6 W4 := by rw [hW4]; exact ((Below.refl _ _).alloc (Nat.le_refl _) _).alloc (by simp) _
    have hb64 : Below wc.heap.size wc W4 := hb6.trans (hal.mono hb6.size)
    have H4 : Hid ((Below w.heap.size w W4 ∧ Keys W4) ∧ W4.heap[g1]? = some (.cells #[.string x.log, .int .i64 x.size, .string x.root, .int .i64 x.time, .int .i64 x.k, .slice a2 x.el.length c2, .slice b2 x.pl.length d2] 29 (0, 0)) ∧ W4.heap[g2]? = some (.cells #[.string y.log, .int .i64 y.size, .string y.root, .int .i64 y.time, .int .i64 y.k, .slice a3 y.el.length c3, .slice b3 y.pl.length d3] 29 (0, 0)) ∧ (x.In (.slice a2 x.el.length c2) (.slice b2 x.pl.length d2) W4 W4.heap.size ∧ x.Few) ∧ (y.In (.slice a3 y.el.length c3) (.slice b3 y.pl.length d3) W4 W4.heap.size ∧ y.Few)) := ⟨⟨HW.out.1.trans (hb64.mono HW.out.1.size), HW.out.2.below hb64 HW.out.2.lt⟩, by rw [hW4, hg1]; exact heap_alloc2_old w6 _ _, by rw [hW4, hg2]; exact heap_alloc2_new w6 _ _, ⟨hx.on hal, hfx⟩, ⟨hy.on hal, hfy⟩⟩
    have HW4 : Hid (W4 = (w6.alloc (.cells #[.string x.log, .int .i64 x.size, .string x.root, .int .i64 x.time, .int .i64 x.k, .slice a2 x.el.length c2, .slice b2 x.pl.length d2] 29)).alloc (.cells #[.string y.log, .int .i64 y.size, .string y.root, .int .i64 y.time, .int .i64 y.k, .slice a3 y.el.length c3, .slice b3 y.pl.length d3] 29)) := hW4
    have HG1 : Hid (g1 = w6.heap.size) := hg1
    have HG2 : Hid (g2 = w6.heap.size + 1) := hg2
    clear hx hfx hy hfy hb6 hal hb64 hW4 hg1 hg2 HW EC
    go_wp2_with fail
    rw [← HW4.out, ← HG2.out, ← HG1.out]
    clear HW4 HG1 HG2
    refine (EDG.out _ H4.out.1.1).mono ?_
    rintro e w7 ⟨R2, z, a4, b4, c4, d4, rfl, hR2, hz, hfz, hb7⟩
    obtain ⟨W5, hW5⟩ : ∃ W, W = w7.alloc (.cells #[.string z.log, .int .i64 z.size, .string z.root, .int .i64 z.time, .int .i64 z.k, .slice a4 z.el.length c4, .slice b4 z.pl.length d4] 29) := ⟨_, rfl⟩
    obtain ⟨g3, hg3⟩ : ∃ g, g = w7.heap.size := ⟨_, rfl⟩
    have hal : Below w7.heap.size w7 W5 := by rw [hW5]; exact (Below.refl _ _).alloc (Nat.le_refl _) _
    have hb75 : Below W4.heap.size W4 W5 := hb7.trans (hal.mono hb7.size)
    have l1 := (Array.getElem?_eq_some_iff.1 H4.out.2.1).1
    have l2 := (Array.getElem?_eq_some_iff.1 H4.out.2.2.1).1
    have H5 : Hid ((Below w.heap.size w W5 ∧ Keys W5) ∧ (W5.heap[g1]? = some (.cells #[.string x.log, .int .i64 x.size, .string x.root, .int .i64 x.time, .int .i64 x.k, .slice a2 x.el.length c2, .slice b2 x.pl.length d2] 29 (0, 0)) ∧ W5.heap[g2]? = some (.cells #[.string y.log, .int .i64 y.size, .string y.root, .int .i64 y.time, .int .i64 y.k, .slice a3 y.el.length c3, .slice b3 y.pl.length d3] 29 (0, 0)) ∧ W5.heap[g3]? = some (.cells #[.string z.log, .int .i64 z.size, .string z.root, .int .i64 z.time, .int .i64 z.k, .slice a4 z.el.length c4, .slice b4 z.pl.length d4] 29 (0, 0))) ∧ (x.In (.slice a2 x.el.length c2) (.slice b2 x.pl.length d2) W5 W5.heap.size ∧ x.Few) ∧ (y.In (.slice a3 y.el.length c3) (.slice b3 y.pl.length d3) W5 W5.heap.size ∧ y.Few) ∧ (z.In (.slice a4 z.el.length c4) (.slice b4 z.pl.length d4) W5 W5.heap.size ∧ z.Few)) := ⟨⟨H4.out.1.1.trans (hb75.mono H4.out.1.1.size), H4.out.1.2.below hb75 H4.out.1.2.lt⟩, ⟨(hb75.block _ l1).trans H4.out.2.1, (hb75.block _ l2).trans H4.out.2.2.1, by rw [hW5, hg3]; exact heap_alloc_new w7 _⟩, ⟨H4.out.2.2.2.1.1.on hb75, H4.out.2.2.2.1.2⟩, ⟨H4.out.2.2.2.2.1.on hb75, H4.out.2.2.2.2.2⟩, ⟨hz.on hal, hfz⟩⟩
    have HW5 : Hid (W5 = w7.alloc (.cells #[.string z.log, .int .i64 z.size, .string z.root, .int .i64 z.time, .int .i64 z.k, .slice a4 z.el.length c4, .slice b4 z.pl.length d4] 29)) := hW5
    have HG3 : Hid (g3 = w7.heap.size) := hg3
    have HB5 : Hid (Below W5.heap.size W5 W5) := Below.refl _ _
    have HD : Hid (∀ Z, Below W5.heap.size W5 Z → (Z.cell? ⟨g1, 0, none⟩ = some (.string x.log) ∧ Z.cell? ⟨g1, 1, none⟩ = some (.int .i64 x.size) ∧ Z.cell? ⟨g1, 2, none⟩ = some (.string x.root) ∧ Z.cell? ⟨g1, 3, none⟩ = some (.int .i64 x.time) ∧ Z.cell? ⟨g1, 4, none⟩ = some (.int .i64 x.k) ∧ Z.cell? ⟨g1, 5, none⟩ = some (.slice a2 x.el.length c2) ∧ Z.cell? ⟨g1, 6, none⟩ = some (.slice b2 x.pl.length d2) ∧ Z.cell? ⟨g2, 0, none⟩ = some (.string y.log) ∧ Z.cell? ⟨g2, 1, none⟩ = some (.int .i64 y.size) ∧ Z.cell? ⟨g2, 2, none⟩ = some (.string y.root) ∧ Z.cell? ⟨g2, 3, none⟩ = some (.int .i64 y.time) ∧ Z.cell? ⟨g2, 4, none⟩ = some (.int .i64 y.k) ∧ Z.cell? ⟨g2, 5, none⟩ = some (.slice a3 y.el.length c3) ∧ Z.cell? ⟨g2, 6, none⟩ = some (.slice b3 y.pl.length d3) ∧ Z.cell? ⟨g3, 0, none⟩ = some (.string z.log) ∧ Z.cell? ⟨g3, 1, none⟩ = some (.int .i64 z.size) ∧ Z.cell? ⟨g3, 2, none⟩ = some (.string z.root) ∧ Z.cell? ⟨g3, 3, none⟩ = some (.int .i64 z.time) ∧ Z.cell? ⟨g3, 4, none⟩ = some (.int .i64 z.k) ∧ Z.cell? ⟨g3, 5, none⟩ = some (.slice a4 z.el.length c4) ∧ Z.cell? ⟨g3, 6, none⟩ = some (.slice b4 z.pl.length d4))) := fun Z hz => by
      have c1 := row_cells hz (Array.getElem?_eq_some_iff.1 H5.out.2.1.1).1 H5.out.2.1.1
      have c2 := row_cells hz (Array.getElem?_eq_some_iff.1 H5.out.2.1.2.1).1 H5.out.2.1.2.1
      have c3 := row_cells hz (Array.getElem?_eq_some_iff.1 H5.out.2.1.2.2).1 H5.out.2.1.2.2
      exact ⟨c1 0 _ rfl, c1 1 _ rfl, c1 2 _ rfl, c1 3 _ rfl, c1 4 _ rfl, c1 5 _ rfl, c1 6 _ rfl, c2 0 _ rfl, c2 1 _ rfl, c2 2 _ rfl, c2 3 _ rfl, c2 4 _ rfl, c2 5 _ rfl, c2 6 _ rfl, c3 0 _ rfl, c3 1 _ rfl, c3 2 _ rfl, c3 3 _ rfl, c3 4 _ rfl, c3 5 _ rfl, c3 6 _ rfl⟩
    obtain ⟨⟨fx1, fx2, fx3, fx4, fx5⟩, ⟨fy1, fy2, fy3, fy4, fy5⟩, fz1, fz2, fz3, fz4, fz5⟩ : x.Few ∧ y.Few ∧ z.Few := ⟨H5.out.2.2.1.2, H5.out.2.2.2.1.2, H5.out.2.2.2.2.2⟩
    have FC1 : Hid (∀ W, Below W5.heap.size W5 W → Calls Tryz.prog 16 #[.agg #[.string x.log, .int .i64 x.size, .string x.root, .int .i64 x.time, .int .i64 x.k, .slice a2 x.el.length c2, .slice b2 x.pl.length d2], .agg #[.string y.log, .int .i64 y.size, .string y.root, .int .i64 y.time, .int .i64 y.k, .slice a3 y.el.length c3, .slice b3 y.pl.length d3]] W fun e w' => e = .returned (.bool (confB x.right y.right x.log y.log x.size y.size x.root y.root)) ∧ Below W5.heap.size W5 w') := fun W hb => (implConf_any x.log x.root x.size x.time x.k _ _ x.el x.pl y.log y.root y.size y.time y.k _ _ y.el y.pl W (H5.out.2.2.1.1.on hb).1 (H5.out.2.2.1.1.on hb).2 (by omega) (by omega) (by omega) (by omega) (H5.out.2.2.2.1.1.on hb).1 (H5.out.2.2.2.1.1.on hb).2 (by omega) (by omega) (by omega) (by omega)).mono fun e w' h => ⟨h.1, hb.trans (h.2.mono hb.size)⟩
    have FC2 : Hid (∀ W, Below W5.heap.size W5 W → Calls Tryz.prog 17 #[.agg #[.string x.log, .int .i64 x.size, .string x.root, .int .i64 x.time, .int .i64 x.k, .slice a2 x.el.length c2, .slice b2 x.pl.length d2], .agg #[.string y.log, .int .i64 y.size, .string y.root, .int .i64 y.time, .int .i64 y.k, .slice a3 y.el.length c3, .slice b3 y.pl.length d3]] W fun e w' => e = .returned (.bool (confB x.right y.right x.log y.log x.size y.size x.root y.root)) ∧ Below W5.heap.size W5 w') := fun W hb => (specConf_any x.log x.root x.size x.time x.k _ _ x.el x.pl y.log y.root y.size y.time y.k _ _ y.el y.pl W (H5.out.2.2.1.1.on hb).1 (H5.out.2.2.1.1.on hb).2 (by omega) (by omega) (by omega) (by omega) (H5.out.2.2.2.1.1.on hb).1 (H5.out.2.2.2.1.1.on hb).2 (by omega) (by omega) (by omega) (by omega)).mono fun e w' h => ⟨h.1, hb.trans (h.2.mono hb.size)⟩
    have FC3 : Hid (∀ W, Below W5.heap.size W5 W → Calls Tryz.prog 16 #[.agg #[.string y.log, .int .i64 y.size, .string y.root, .int .i64 y.time, .int .i64 y.k, .slice a3 y.el.length c3, .slice b3 y.pl.length d3], .agg #[.string x.log, .int .i64 x.size, .string x.root, .int .i64 x.time, .int .i64 x.k, .slice a2 x.el.length c2, .slice b2 x.pl.length d2]] W fun e w' => e = .returned (.bool (confB x.right y.right x.log y.log x.size y.size x.root y.root)) ∧ Below W5.heap.size W5 w') := fun W hb => (implConf_any y.log y.root y.size y.time y.k _ _ y.el y.pl x.log x.root x.size x.time x.k _ _ x.el x.pl W (H5.out.2.2.2.1.1.on hb).1 (H5.out.2.2.2.1.1.on hb).2 (by omega) (by omega) (by omega) (by omega) (H5.out.2.2.1.1.on hb).1 (H5.out.2.2.1.1.on hb).2 (by omega) (by omega) (by omega) (by omega)).mono fun e w' h => ⟨by rw [← conf_symm]; exact h.1, hb.trans (h.2.mono hb.size)⟩
    have FG1 : Hid (∀ W, Below W5.heap.size W5 W → Calls Tryz.prog 11 #[.string R2, .agg #[.string z.log, .int .i64 z.size, .string z.root, .int .i64 z.time, .int .i64 z.k, .slice a4 z.el.length c4, .slice b4 z.pl.length d4]] W fun e w' => e = .returned (.bool (headGB R2 z.log z.size z.root z.time z.k z.el z.pl)) ∧ Below W5.heap.size W5 w') := fun W hb => (implHeadGood_any R2 z.log z.root z.size z.time z.k _ _ z.el z.pl W (H5.out.2.2.2.2.1.on hb).1 (H5.out.2.2.2.2.1.on hb).2 (by omega) (by omega) (by omega) (by omega) (by omega) fz5.1 fz5.2 (H5.out.1.2.below hb H5.out.1.2.lt)).mono fun e w' h => ⟨h.1, hb.trans (h.2.mono hb.size)⟩
    have FG2 : Hid (∀ W, Below W5.heap.size W5 W → Calls Tryz.prog 18 #[.string R2, .agg #[.string z.log, .int .i64 z.size, .string z.root, .int .i64 z.time, .int .i64 z.k, .slice a4 z.el.length c4, .slice b4 z.pl.length d4]] W fun e w' => e = .returned (.bool (headGB R2 z.log z.size z.root z.time z.k z.el z.pl)) ∧ Below W5.heap.size W5 w') := fun W hb => (specHeadGood_any R2 z.log z.root z.size z.time z.k _ _ z.el z.pl W (H5.out.2.2.2.2.1.on hb).1 (H5.out.2.2.2.2.1.on hb).2 (by omega) (by omega) (by omega) (by omega) (by omega) fz5.1 fz5.2).mono fun e w' h => ⟨h.1, hb.trans (h.2.mono hb.size)⟩
    have FT1 : Hid (∀ W, Below W5.heap.size W5 W → Calls Tryz.prog 19 #[.agg #[.string z.log, .int .i64 z.size, .string z.root, .int .i64 z.time, .int .i64 z.k, .slice a4 z.el.length c4, .slice b4 z.pl.length d4]] W fun e w' => e = .returned (.string (headTB z.log z.size z.root z.time z.k z.el z.pl)) ∧ Below W5.heap.size W5 w') := fun W hb => (implHeadText_any z.log z.root z.size z.time z.k _ _ z.el z.pl W (H5.out.2.2.2.2.1.on hb).1 (H5.out.2.2.2.2.1.on hb).2 (by omega) (by omega) (by omega) (by omega) fz5.1 fz5.2).mono fun e w' h => ⟨h.1, hb.trans (h.2.mono hb.size)⟩
    have FT2 : Hid (∀ W, Below W5.heap.size W5 W → Calls Tryz.prog 20 #[.agg #[.string z.log, .int .i64 z.size, .string z.root, .int .i64 z.time, .int .i64 z.k, .slice a4 z.el.length c4, .slice b4 z.pl.length d4]] W fun e w' => e = .returned (.string (headTB z.log z.size z.root z.time z.k z.el z.pl)) ∧ Below W5.heap.size W5 w') := fun W hb => (specHeadText_any z.log z.root z.size z.time z.k _ _ z.el z.pl W (H5.out.2.2.2.2.1.on hb).1 (H5.out.2.2.2.2.1.on hb).2 (by omega) (by omega) (by omega) (by omega) fz5.1 fz5.2).mono fun e w' h => ⟨h.1, hb.trans (h.2.mono hb.size)⟩
    have FR1 : Hid (∀ W, Below W5.heap.size W5 W → Calls Tryz.prog 21 #[.agg #[.string z.log, .int .i64 z.size, .string z.root, .int .i64 z.time, .int .i64 z.k, .slice a4 z.el.length c4, .slice b4 z.pl.length d4]] W fun e w' => e = .returned (.bool (headRB z.log z.size z.root z.time z.k z.el z.pl)) ∧ Below W5.heap.size W5 w') := fun W hb => (implHeadRight_any z.log z.root z.size z.time z.k _ _ z.el z.pl W (H5.out.2.2.2.2.1.on hb).1 (H5.out.2.2.2.2.1.on hb).2 (by omega) (by omega) (by omega) (by omega)).mono fun e w' h => ⟨h.1, hb.trans (h.2.mono hb.size)⟩
    have FR2 : Hid (∀ W, Below W5.heap.size W5 W → Calls Tryz.prog 22 #[.agg #[.string z.log, .int .i64 z.size, .string z.root, .int .i64 z.time, .int .i64 z.k, .slice a4 z.el.length c4, .slice b4 z.pl.length d4]] W fun e w' => e = .returned (.bool (headRB z.log z.size z.root z.time z.k z.el z.pl)) ∧ Below W5.heap.size W5 w') := fun W hb => (specHeadRight_any z.log z.root z.size z.time z.k _ _ z.el z.pl W (H5.out.2.2.2.2.1.on hb).1 (H5.out.2.2.2.2.1.on hb).2 (by omega) (by omega) (by omega) (by omega)).mono fun e w' h => ⟨h.1, hb.trans (h.2.mono hb.size)⟩
    have HWW : Hid (Below w.heap.size w W5) := H5.out.1.1
    clear hR2 hz hfz hb7 hal hb75 hW5 hg3 l1 l2 H4 H5 EDG fx1 fx2 fx3 fx4 fx5 fy1 fy2 fy3 fy4 fy5 fz1 fz2 fz3 fz4 fz5
    generalize confB x.right y.right x.log y.log x.size y.size x.root y.root = C at *
    generalize headGB R2 z.log z.size z.root z.time z.k z.el z.pl = D at *
    generalize headTB z.log z.size z.root z.time z.k z.el z.pl = E at *
    generalize headRB z.log z.size z.root z.time z.k z.el z.pl = F at *
    have hEE : (E.toList == E.toList) = true := by simp
    go_wp2_with fail
    rw [← HW5.out, ← HG3.out]
    clear HW5 HG3
    refine wp_region_held_drew (S := (fun X => X.cell? ⟨g1, 0, none⟩ = some (.string x.log) ∧ X.cell? ⟨g1, 1, none⟩ = some (.int .i64 x.size) ∧ X.cell? ⟨g1, 2, none⟩ = some (.string x.root) ∧ X.cell? ⟨g1, 3, none⟩ = some (.int .i64 x.time) ∧ X.cell? ⟨g1, 4, none⟩ = some (.int .i64 x.k) ∧ X.cell? ⟨g1, 5, none⟩ = some (.slice a2 x.el.length c2) ∧ X.cell? ⟨g1, 6, none⟩ = some (.slice b2 x.pl.length d2) ∧ X.cell? ⟨g2, 0, none⟩ = some (.string y.log) ∧ X.cell? ⟨g2, 1, none⟩ = some (.int .i64 y.size) ∧ X.cell? ⟨g2, 2, none⟩ = some (.string y.root) ∧ X.cell? ⟨g2, 3, none⟩ = some (.int .i64 y.time) ∧ X.cell? ⟨g2, 4, none⟩ = some (.int .i64 y.k) ∧ X.cell? ⟨g2, 5, none⟩ = some (.slice a3 y.el.length c3) ∧ X.cell? ⟨g2, 6, none⟩ = some (.slice b3 y.pl.length d3) ∧ X.cell? ⟨g3, 0, none⟩ = some (.string z.log) ∧ X.cell? ⟨g3, 1, none⟩ = some (.int .i64 z.size) ∧ X.cell? ⟨g3, 2, none⟩ = some (.string z.root) ∧ X.cell? ⟨g3, 3, none⟩ = some (.int .i64 z.time) ∧ X.cell? ⟨g3, 4, none⟩ = some (.int .i64 z.k) ∧ X.cell? ⟨g3, 5, none⟩ = some (.slice a4 z.el.length c4) ∧ X.cell? ⟨g3, 6, none⟩ = some (.slice b4 z.pl.length d4))) (by kernel_rfl) ?_ (fun hHeld => ?_)
    · exact HD.out _ (below_drew' HB5.out)
    refine wpAnyH_take (i := 0) (v := ?_) rfl (by kernel_rfl) (by kernel_rfl) (by kernel_rfl) (fun _ _ _ h => h) (Or.inl ⟨by kernel_rfl, ?_⟩) (by assumption) ?_
    rotate_left
    · (intro w' hSw; (try dsimp only at hSw); obtain ⟨g0, g1, g2, g3, g4, g5, g6, g7, g8, g9, g10, g11, g12, g13, g14, g15, g16, g17, g18, g19, g20⟩ := hSw; go_simp; (try with_reducible rfl))
    (try simp only [Act.put, List.setIfInBounds_toArray, List.set_cons_zero, List.set_cons_succ])
    refine wpAnyH_take (i := 1) (v := ?_) rfl (by kernel_rfl) (by kernel_rfl) (by kernel_rfl) (fun _ _ _ h => h) (Or.inl ⟨by kernel_rfl, ?_⟩) (by assumption) ?_
    rotate_left
    · (intro w' hSw; (try dsimp only at hSw); obtain ⟨g0, g1, g2, g3, g4, g5, g6, g7, g8, g9, g10, g11, g12, g13, g14, g15, g16, g17, g18, g19, g20⟩ := hSw; go_simp; (try with_reducible rfl))
    (try simp only [Act.put, List.setIfInBounds_toArray, List.set_cons_zero, List.set_cons_succ])
    refine wpAnyH_take (i := 3) (v := ?_) rfl (by kernel_rfl) (by kernel_rfl) (by kernel_rfl) (fun _ _ _ h => h) (Or.inl ⟨by kernel_rfl, ?_⟩) (by assumption) ?_
    rotate_left
    · (intro w' hSw; (try dsimp only at hSw); obtain ⟨g0, g1, g2, g3, g4, g5, g6, g7, g8, g9, g10, g11, g12, g13, g14, g15, g16, g17, g18, g19, g20⟩ := hSw; go_simp; (try with_reducible rfl))
    (try simp only [Act.put, List.setIfInBounds_toArray, List.set_cons_zero, List.set_cons_succ])
    refine wpAnyH_take (i := 4) (v := ?_) rfl (by kernel_rfl) (by kernel_rfl) (by kernel_rfl) (fun _ _ _ h => h) (Or.inl ⟨by kernel_rfl, ?_⟩) (by assumption) ?_
    rotate_left
    · (intro w' hSw; (try dsimp only at hSw); obtain ⟨g0, g1, g2, g3, g4, g5, g6, g7, g8, g9, g10, g11, g12, g13, g14, g15, g16, g17, g18, g19, g20⟩ := hSw; go_simp; (try with_reducible rfl))
    (try simp only [Act.put, List.setIfInBounds_toArray, List.set_cons_zero, List.set_cons_succ])
    refine wpAnyH_ready (rs := [2]) (by kernel_rfl) (by simp) ?_
    refine AllReadyH.cons (by simp only [List.getElem?_toArray, List.getElem?_cons_succ, List.getElem?_cons_zero]; rfl) (fun K hK => ?_) AllReadyH.nil
    go_simp
    go_at_call 16; (with_reducible refine (FC1.out _ ?_).mono ?_); exact (below_drew' HB5.out); rintro e k1 ⟨rfl, hb⟩; have HK1 : Hid (Below W5.heap.size W5 k1) := hb; clear hb
    go_wp2_with fail
    refine hK.out _ _ ?_ (fun hHeld => ?_)
    · exact HD.out _ HK1.out
    clear hK K
    (try simp only [Act.put, List.setIfInBounds_toArray, List.set_cons_zero, List.set_cons_succ])
    refine wpAnyH_ready (rs := [5]) (by kernel_rfl) (by simp) ?_
    refine AllReadyH.cons (by simp only [List.getElem?_toArray, List.getElem?_cons_succ, List.getElem?_cons_zero]; rfl) (fun K hK => ?_) AllReadyH.nil
    go_simp
    go_at_call 17; (with_reducible refine (FC2.out _ ?_).mono ?_); exact HK1.out; rintro e k2 ⟨rfl, hb⟩; have HK2 : Hid (Below W5.heap.size W5 k2) := hb; clear hb
    go_wp2_with fail
    refine hK.out _ _ ?_ (fun hHeld => ?_)
    · exact HD.out _ HK2.out
    clear hK K
    (try simp only [Act.put, List.setIfInBounds_toArray, List.set_cons_zero, List.set_cons_succ])
    refine wpAnyH_take (i := 6) (v := ?_) rfl (by kernel_rfl) (by kernel_rfl) (by kernel_rfl) (fun _ _ _ h => h) (Or.inl ⟨by kernel_rfl, ?_⟩) (by assumption) ?_
    rotate_left
    · (intro w' hSw; clear hSw; go_simp; (try with_reducible rfl))
    (try simp only [Act.put, List.setIfInBounds_toArray, List.set_cons_zero, List.set_cons_succ])
    refine wpAnyH_take (i := 7) (v := ?_) rfl (by kernel_rfl) (by kernel_rfl) (by kernel_rfl) (fun _ _ _ h => h) (Or.inl ⟨by kernel_rfl, ?_⟩) (by assumption) ?_
    rotate_left
    · (intro w' hSw; clear hSw; go_simp; (try with_reducible rfl))
    (try simp only [Act.put, List.setIfInBounds_toArray, List.set_cons_zero, List.set_cons_succ])
    refine wpAnyH_take (i := 8) (v := ?_) rfl (by kernel_rfl) (by kernel_rfl) (by kernel_rfl) (fun _ _ _ h => h) (Or.inl ⟨by kernel_rfl, ?_⟩) (by assumption) ?_
    rotate_left
    · (intro w' hSw; (try dsimp only at hSw); obtain ⟨g0, g1, g2, g3, g4, g5, g6, g7, g8, g9, g10, g11, g12, g13, g14, g15, g16, g17, g18, g19, g20⟩ := hSw; go_simp; (try with_reducible rfl))
    (try simp only [Act.put, List.setIfInBounds_toArray, List.set_cons_zero, List.set_cons_succ])
    refine wpAnyH_take (i := 9) (v := ?_) rfl (by kernel_rfl) (by kernel_rfl) (by kernel_rfl) (fun _ _ _ h => h) (Or.inl ⟨by kernel_rfl, ?_⟩) (by assumption) ?_
    rotate_left
    · (intro w' hSw; (try dsimp only at hSw); obtain ⟨g0, g1, g2, g3, g4, g5, g6, g7, g8, g9, g10, g11, g12, g13, g14, g15, g16, g17, g18, g19, g20⟩ := hSw; go_simp; (try with_reducible rfl))
    (try simp only [Act.put, List.setIfInBounds_toArray, List.set_cons_zero, List.set_cons_succ])
    refine wpAnyH_take (i := 11) (v := ?_) rfl (by kernel_rfl) (by kernel_rfl) (by kernel_rfl) (fun _ _ _ h => h) (Or.inl ⟨by kernel_rfl, ?_⟩) (by assumption) ?_
    rotate_left
    · (intro w' hSw; (try dsimp only at hSw); obtain ⟨g0, g1, g2, g3, g4, g5, g6, g7, g8, g9, g10, g11, g12, g13, g14, g15, g16, g17, g18, g19, g20⟩ := hSw; go_simp; (try with_reducible rfl))
    (try simp only [Act.put, List.setIfInBounds_toArray, List.set_cons_zero, List.set_cons_succ])
    refine wpAnyH_take (i := 12) (v := ?_) rfl (by kernel_rfl) (by kernel_rfl) (by kernel_rfl) (fun _ _ _ h => h) (Or.inl ⟨by kernel_rfl, ?_⟩) (by assumption) ?_
    rotate_left
    · (intro w' hSw; (try dsimp only at hSw); obtain ⟨g0, g1, g2, g3, g4, g5, g6, g7, g8, g9, g10, g11, g12, g13, g14, g15, g16, g17, g18, g19, g20⟩ := hSw; go_simp; (try with_reducible rfl))
    (try simp only [Act.put, List.setIfInBounds_toArray, List.set_cons_zero, List.set_cons_succ])
    refine wpAnyH_ready (rs := [10]) (by kernel_rfl) (by simp) ?_
    refine AllReadyH.cons (by simp only [List.getElem?_toArray, List.getElem?_cons_succ, List.getElem?_cons_zero]; rfl) (fun K hK => ?_) AllReadyH.nil
    go_simp
    go_at_call 16; (with_reducible refine (FC1.out _ ?_).mono ?_); exact HK2.out; rintro e k3 ⟨rfl, hb⟩; have HK3 : Hid (Below W5.heap.size W5 k3) := hb; clear hb
    go_wp2_with fail
    refine hK.out _ _ ?_ (fun hHeld => ?_)
    · exact HD.out _ HK3.out
    clear hK K
    (try simp only [Act.put, List.setIfInBounds_toArray, List.set_cons_zero, List.set_cons_succ])
    refine wpAnyH_ready (rs := [13]) (by kernel_rfl) (by simp) ?_
    refine AllReadyH.cons (by simp only [List.getElem?_toArray, List.getElem?_cons_succ, List.getElem?_cons_zero]; rfl) (fun K hK => ?_) AllReadyH.nil
    go_simp
    go_at_call 16; (with_reducible refine (FC3.out _ ?_).mono ?_); exact HK3.out; rintro e k4 ⟨rfl, hb⟩; have HK4 : Hid (Below W5.heap.size W5 k4) := hb; clear hb
    go_wp2_with fail
    refine hK.out _ _ ?_ (fun hHeld => ?_)
    · exact HD.out _ HK4.out
    clear hK K
    (try simp only [Act.put, List.setIfInBounds_toArray, List.set_cons_zero, List.set_cons_succ])
    refine wpAnyH_take (i := 14) (v := ?_) rfl (by kernel_rfl) (by kernel_rfl) (by kernel_rfl) (fun _ _ _ h => h) (Or.inl ⟨by kernel_rfl, ?_⟩) (by assumption) ?_
    rotate_left
    · (intro w' hSw; clear hSw; go_simp; (try with_reducible rfl))
    (try simp only [Act.put, List.setIfInBounds_toArray, List.set_cons_zero, List.set_cons_succ])
    refine wpAnyH_take (i := 15) (v := ?_) rfl (by kernel_rfl) (by kernel_rfl) (by kernel_rfl) (fun _ _ _ h => h) (Or.inl ⟨by kernel_rfl, ?_⟩) (by assumption) ?_
    rotate_left
    · (intro w' hSw; clear hSw; go_simp; (try with_reducible rfl))
    (try simp only [Act.put, List.setIfInBounds_toArray, List.set_cons_zero, List.set_cons_succ])
    refine wpAnyH_take (i := 16) (v := ?_) rfl (by kernel_rfl) (by kernel_rfl) (by kernel_rfl) (fun _ _ _ h => h) (Or.inl ⟨by kernel_rfl, ?_⟩) (by assumption) ?_
    rotate_left
    · (intro w' hSw; clear hSw; go_simp; (try with_reducible rfl))
    (try simp only [Act.put, List.setIfInBounds_toArray, List.set_cons_zero, List.set_cons_succ])
    refine wpAnyH_take (i := 17) (v := ?_) rfl (by kernel_rfl) (by kernel_rfl) (by kernel_rfl) (fun _ _ _ h => h) (Or.inl ⟨by kernel_rfl, ?_⟩) (by assumption) ?_
    rotate_left
    · (intro w' hSw; clear hSw; go_simp; (try with_reducible rfl))
    (try simp only [Act.put, List.setIfInBounds_toArray, List.set_cons_zero, List.set_cons_succ])
    refine wpAnyH_take (i := 18) (v := ?_) rfl (by kernel_rfl) (by kernel_rfl) (by kernel_rfl) (fun _ _ _ h => h) (Or.inl ⟨by kernel_rfl, ?_⟩) (by assumption) ?_
    rotate_left
    · (intro w' hSw; (try dsimp only at hSw); obtain ⟨g0, g1, g2, g3, g4, g5, g6, g7, g8, g9, g10, g11, g12, g13, g14, g15, g16, g17, g18, g19, g20⟩ := hSw; go_simp; (try with_reducible rfl))
    (try simp only [Act.put, List.setIfInBounds_toArray, List.set_cons_zero, List.set_cons_succ])
    refine wpAnyH_take (i := 20) (v := ?_) rfl (by kernel_rfl) (by kernel_rfl) (by kernel_rfl) (fun _ _ _ h => h) (Or.inl ⟨by kernel_rfl, ?_⟩) (by assumption) ?_
    rotate_left
    · (intro w' hSw; clear hSw; go_simp; (try with_reducible rfl))
    (try simp only [Act.put, List.setIfInBounds_toArray, List.set_cons_zero, List.set_cons_succ])
    refine wpAnyH_take (i := 21) (v := ?_) rfl (by kernel_rfl) (by kernel_rfl) (by kernel_rfl) (fun _ _ _ h => h) (Or.inl ⟨by kernel_rfl, ?_⟩) (by assumption) ?_
    rotate_left
    · (intro w' hSw; (try dsimp only at hSw); obtain ⟨g0, g1, g2, g3, g4, g5, g6, g7, g8, g9, g10, g11, g12, g13, g14, g15, g16, g17, g18, g19, g20⟩ := hSw; go_simp; (try with_reducible rfl))
    (try simp only [Act.put, List.setIfInBounds_toArray, List.set_cons_zero, List.set_cons_succ])
    refine wpAnyH_ready (rs := [19]) (by kernel_rfl) (by simp) ?_
    refine AllReadyH.cons (by simp only [List.getElem?_toArray, List.getElem?_cons_succ, List.getElem?_cons_zero]; rfl) (fun K hK => ?_) AllReadyH.nil
    go_simp
    go_at_call 11; (with_reducible refine (FG1.out _ ?_).mono ?_); exact HK4.out; rintro e k5 ⟨rfl, hb⟩; have HK5 : Hid (Below W5.heap.size W5 k5) := hb; clear hb
    go_wp2_with fail
    refine hK.out _ _ ?_ (fun hHeld => ?_)
    · exact HD.out _ HK5.out
    clear hK K
    (try simp only [Act.put, List.setIfInBounds_toArray, List.set_cons_zero, List.set_cons_succ])
    refine wpAnyH_ready (rs := [22]) (by kernel_rfl) (by simp) ?_
    refine AllReadyH.cons (by simp only [List.getElem?_toArray, List.getElem?_cons_succ, List.getElem?_cons_zero]; rfl) (fun K hK => ?_) AllReadyH.nil
    go_simp
    go_at_call 18; (with_reducible refine (FG2.out _ ?_).mono ?_); exact HK5.out; rintro e k6 ⟨rfl, hb⟩; have HK6 : Hid (Below W5.heap.size W5 k6) := hb; clear hb
    go_wp2_with fail
    refine hK.out _ _ ?_ (fun hHeld => ?_)
    · exact HD.out _ HK6.out
    clear hK K
    (try simp only [Act.put, List.setIfInBounds_toArray, List.set_cons_zero, List.set_cons_succ])
    refine wpAnyH_take (i := 23) (v := ?_) rfl (by kernel_rfl) (by kernel_rfl) (by kernel_rfl) (fun _ _ _ h => h) (Or.inl ⟨by kernel_rfl, ?_⟩) (by assumption) ?_
    rotate_left
    · (intro w' hSw; clear hSw; go_simp; (try with_reducible rfl))
    (try simp only [Act.put, List.setIfInBounds_toArray, List.set_cons_zero, List.set_cons_succ])
    refine wpAnyH_take (i := 24) (v := ?_) rfl (by kernel_rfl) (by kernel_rfl) (by kernel_rfl) (fun _ _ _ h => h) (Or.inl ⟨by kernel_rfl, ?_⟩) (by assumption) ?_
    rotate_left
    · (intro w' hSw; clear hSw; go_simp; (try with_reducible rfl))
    (try simp only [Act.put, List.setIfInBounds_toArray, List.set_cons_zero, List.set_cons_succ])
    refine wpAnyH_take (i := 25) (v := ?_) rfl (by kernel_rfl) (by kernel_rfl) (by kernel_rfl) (fun _ _ _ h => h) (Or.inl ⟨by kernel_rfl, ?_⟩) (by assumption) ?_
    rotate_left
    · (intro w' hSw; clear hSw; go_simp; (try with_reducible rfl))
    (try simp only [Act.put, List.setIfInBounds_toArray, List.set_cons_zero, List.set_cons_succ])
    refine wpAnyH_take (i := 26) (v := ?_) rfl (by kernel_rfl) (by kernel_rfl) (by kernel_rfl) (fun _ _ _ h => h) (Or.inl ⟨by kernel_rfl, ?_⟩) (by assumption) ?_
    rotate_left
    · (intro w' hSw; (try dsimp only at hSw); obtain ⟨g0, g1, g2, g3, g4, g5, g6, g7, g8, g9, g10, g11, g12, g13, g14, g15, g16, g17, g18, g19, g20⟩ := hSw; go_simp; (try with_reducible rfl))
    (try simp only [Act.put, List.setIfInBounds_toArray, List.set_cons_zero, List.set_cons_succ])
    refine wpAnyH_take (i := 28) (v := ?_) rfl (by kernel_rfl) (by kernel_rfl) (by kernel_rfl) (fun _ _ _ h => h) (Or.inl ⟨by kernel_rfl, ?_⟩) (by assumption) ?_
    rotate_left
    · (intro w' hSw; (try dsimp only at hSw); obtain ⟨g0, g1, g2, g3, g4, g5, g6, g7, g8, g9, g10, g11, g12, g13, g14, g15, g16, g17, g18, g19, g20⟩ := hSw; go_simp; (try with_reducible rfl))
    (try simp only [Act.put, List.setIfInBounds_toArray, List.set_cons_zero, List.set_cons_succ])
    refine wpAnyH_ready (rs := [27]) (by kernel_rfl) (by simp) ?_
    refine AllReadyH.cons (by simp only [List.getElem?_toArray, List.getElem?_cons_succ, List.getElem?_cons_zero]; rfl) (fun K hK => ?_) AllReadyH.nil
    go_simp
    go_at_call 19; (with_reducible refine (FT1.out _ ?_).mono ?_); exact HK6.out; rintro e k7 ⟨rfl, hb⟩; have HK7 : Hid (Below W5.heap.size W5 k7) := hb; clear hb
    go_wp2_with fail
    refine hK.out _ _ ?_ (fun hHeld => ?_)
    · exact HD.out _ HK7.out
    clear hK K
    (try simp only [Act.put, List.setIfInBounds_toArray, List.set_cons_zero, List.set_cons_succ])
    refine wpAnyH_ready (rs := [29]) (by kernel_rfl) (by simp) ?_
    refine AllReadyH.cons (by simp only [List.getElem?_toArray, List.getElem?_cons_succ, List.getElem?_cons_zero]; rfl) (fun K hK => ?_) AllReadyH.nil
    go_simp
    go_at_call 20; (with_reducible refine (FT2.out _ ?_).mono ?_); exact HK7.out; rintro e k8 ⟨rfl, hb⟩; have HK8 : Hid (Below W5.heap.size W5 k8) := hb; clear hb
    go_wp2_with fail
    refine hK.out _ _ ?_ (fun hHeld => ?_)
    · exact HD.out _ HK8.out
    clear hK K
    (try simp only [Act.put, List.setIfInBounds_toArray, List.set_cons_zero, List.set_cons_succ])
    refine wpAnyH_take (i := 30) (v := ?_) rfl (by kernel_rfl) (by kernel_rfl) (by kernel_rfl) (fun _ _ _ h => h) (Or.inl ⟨by kernel_rfl, ?_⟩) (by assumption) ?_
    rotate_left
    · (intro w' hSw; clear hSw; go_simp; (try with_reducible rfl))
    (try simp only [Act.put, List.setIfInBounds_toArray, List.set_cons_zero, List.set_cons_succ])
    refine wpAnyH_take (i := 31) (v := ?_) rfl (by kernel_rfl) (by kernel_rfl) (by kernel_rfl) (fun _ _ _ h => h) (Or.inl ⟨by kernel_rfl, ?_⟩) (by assumption) ?_
    rotate_left
    · (intro w' hSw; clear hSw; go_simp; (try with_reducible rfl))
    (try simp only [Act.put, List.setIfInBounds_toArray, List.set_cons_zero, List.set_cons_succ])
    refine wpAnyH_take (i := 32) (v := ?_) rfl (by kernel_rfl) (by kernel_rfl) (by kernel_rfl) (fun _ _ _ h => h) (Or.inl ⟨by kernel_rfl, ?_⟩) (by assumption) ?_
    rotate_left
    · (intro w' hSw; clear hSw; go_simp; (try with_reducible rfl))
    (try simp only [Act.put, List.setIfInBounds_toArray, List.set_cons_zero, List.set_cons_succ])
    refine wpAnyH_take (i := 33) (v := ?_) rfl (by kernel_rfl) (by kernel_rfl) (by kernel_rfl) (fun _ _ _ h => h) (Or.inl ⟨by kernel_rfl, ?_⟩) (by assumption) ?_
    rotate_left
    · (intro w' hSw; (try dsimp only at hSw); obtain ⟨g0, g1, g2, g3, g4, g5, g6, g7, g8, g9, g10, g11, g12, g13, g14, g15, g16, g17, g18, g19, g20⟩ := hSw; go_simp; (try with_reducible rfl))
    (try simp only [Act.put, List.setIfInBounds_toArray, List.set_cons_zero, List.set_cons_succ])
    refine wpAnyH_take (i := 35) (v := ?_) rfl (by kernel_rfl) (by kernel_rfl) (by kernel_rfl) (fun _ _ _ h => h) (Or.inl ⟨by kernel_rfl, ?_⟩) (by assumption) ?_
    rotate_left
    · (intro w' hSw; (try dsimp only at hSw); obtain ⟨g0, g1, g2, g3, g4, g5, g6, g7, g8, g9, g10, g11, g12, g13, g14, g15, g16, g17, g18, g19, g20⟩ := hSw; go_simp; (try with_reducible rfl))
    (try simp only [Act.put, List.setIfInBounds_toArray, List.set_cons_zero, List.set_cons_succ])
    refine wpAnyH_ready (rs := [34]) (by kernel_rfl) (by simp) ?_
    refine AllReadyH.cons (by simp only [List.getElem?_toArray, List.getElem?_cons_succ, List.getElem?_cons_zero]; rfl) (fun K hK => ?_) AllReadyH.nil
    go_simp
    go_at_call 21; (with_reducible refine (FR1.out _ ?_).mono ?_); exact HK8.out; rintro e k9 ⟨rfl, hb⟩; have HK9 : Hid (Below W5.heap.size W5 k9) := hb; clear hb
    go_wp2_with fail
    refine hK.out _ _ ?_ (fun hHeld => ?_)
    · exact HD.out _ HK9.out
    clear hK K
    (try simp only [Act.put, List.setIfInBounds_toArray, List.set_cons_zero, List.set_cons_succ])
    refine wpAnyH_ready (rs := [36]) (by kernel_rfl) (by simp) ?_
    refine AllReadyH.cons (by simp only [List.getElem?_toArray, List.getElem?_cons_succ, List.getElem?_cons_zero]; rfl) (fun K hK => ?_) AllReadyH.nil
    go_simp
    go_at_call 22; (with_reducible refine (FR2.out _ ?_).mono ?_); exact HK9.out; rintro e k10 ⟨rfl, hb⟩; have HK10 : Hid (Below W5.heap.size W5 k10) := hb; clear hb
    go_wp2_with fail
    refine hK.out _ _ ?_ (fun hHeld => ?_)
    · exact HD.out _ HK10.out
    clear hK K
    (try simp only [Act.put, List.setIfInBounds_toArray, List.set_cons_zero, List.set_cons_succ])
    refine wpAnyH_take (i := 37) (v := ?_) rfl (by kernel_rfl) (by kernel_rfl) (by kernel_rfl) (fun _ _ _ h => h) (Or.inl ⟨by kernel_rfl, ?_⟩) (by assumption) ?_
    rotate_left
    · (intro w' hSw; clear hSw; go_simp; (try with_reducible rfl))
    (try simp only [Act.put, List.setIfInBounds_toArray, List.set_cons_zero, List.set_cons_succ])
    refine wpAnyH_take (i := 38) (v := ?_) rfl (by kernel_rfl) (by kernel_rfl) (by kernel_rfl) (fun _ _ _ h => h) (Or.inl ⟨by kernel_rfl, ?_⟩) (by assumption) ?_
    rotate_left
    · (intro w' hSw; clear hSw; go_simp; (try with_reducible rfl))
    (try simp only [Act.put, List.setIfInBounds_toArray, List.set_cons_zero, List.set_cons_succ])
    refine wpAnyH_take (i := 39) (v := ?_) rfl (by kernel_rfl) (by kernel_rfl) (by kernel_rfl) (fun _ _ _ h => h) (Or.inl ⟨by kernel_rfl, ?_⟩) (by assumption) ?_
    rotate_left
    · (intro w' hSw; clear hSw; go_simp; (try with_reducible rfl))
    (try simp only [Act.put, List.setIfInBounds_toArray, List.set_cons_zero, List.set_cons_succ])
    refine wpAnyH_done (by kernel_rfl) ?_ _
    go_simp
    clear HD hHeld
    go_wp2
    go_ret
    exact ⟨rfl, HWW.out.trans (HK10.out.mono HWW.out.size)⟩
end Go.Proofs.YtpglcbidfghfkaaGreatDoor
