/-
  The walk of the promise on trees. Conditions: the program's variable holds the rounds' numbers, the library's its table.
-/
import Derived.Test.YtollfcjbcfnfdaaDoorPkDrawIncl
import Derived.Test.YtollfcjbcfnfdaaDoorPkImplNode
import Derived.Test.YtollfcjbcfnfdaaDoorPkTexts
import Derived.Test.YtollfcjbcfnfdaaDoorPkSpecTree
import Derived.Test.YtollfcjbcfnfdaaDoorPkImplTree
import Derived.Test.YtollfcjbcfnfdaaDoorPkCut
import Derived.Test.YtollfcjbcfnfdaaDoorPkSpecNode
import Derived.Test.YtollfcjbcfnfdaaDoorPkImplAdd
import Derived.Test.YtollfcjbcfnfdaaDoorPkImplRangeR
import Derived.Deep.RegionWith
namespace Go.Proofs.YtollfcjbcfnfdaaDoor
open Go.RowKit Go.Lib
set_option linter.unusedVariables false
set_option linter.unusedSimpArgs false

theorem Code.onward {w w' : World} {a : Option Addr} {len : Nat} (h : Code w w.heap.size a len) (hb : Below w.heap.size w w') : Code w' w'.heap.size a len := by
  rcases h with h | ⟨b, off, ha, hbq, hc⟩
  · exact .inl h
  · refine .inr ⟨b, off, ha, Nat.lt_of_lt_of_le hbq hb.size, fun i hi => ?_⟩
    obtain ⟨c, x0, x1, x2⟩ := hc i hi
    exact ⟨c, x0, x1, (hb.cell (p := ⟨b, off + i, none⟩) hbq).trans x2⟩
theorem pathV_most (l : List ByteArray) (i : Int) (hl : l.length ≤ 31) : (pathV l i).length ≤ 1000 := by
  unfold pathV
  split
  · have := pathB_len l.length l i.toNat rfl
    omega
  · simp
/-- Nothing of what was there has turned; the variables hold what they held. -/
def TlB (w W : World) : Prop := Below w.heap.size w W ∧ Keys W ∧ TabAt W
theorem TlB.below {w W W' : World} (h : TlB w W) (hb : Below W.heap.size W W') : TlB w W' := ⟨h.1.trans (hb.mono h.1.size), h.2.1.below hb h.2.1.lt, h.2.2.below hb h.2.2.lt⟩
/-- In between: the entries in a row of the draw's own. -/
def TrA (w W : World) (v : Value) (l : List ByteArray) : Prop := OwnT W w.heap.size v l ∧ TlB w W
theorem TrA.below {w W W' : World} {v : Value} {l : List ByteArray} (h : TrA w W v l) (hb : Below W.heap.size W W') : TrA w W' v l := ⟨h.1.below hb (Nat.le_refl _), h.2.below hb⟩
/-- The entries, and the range of the first j of them in block b. -/
def TrR (w W : World) (v : Value) (l : List ByteArray) (b j : Nat) (vr : Value) : Prop := TrA w W v l ∧ W.heap[b]? = some (.cells #[.int .i64 j, vr] 30 (0, 0)) ∧ OwnT W (b + 1) vr (rgN (l.take j)) ∧ w.heap.size ≤ b ∧ ∀ g, v.ownBlock = some g → g < b
theorem TrR.below {w W W' : World} {v : Value} {l : List ByteArray} {b j : Nat} {vr : Value} (h : TrR w W v l b j vr) (hb : Below W.heap.size W W') : TrR w W' v l b j vr :=
  ⟨h.1.below hb, (hb.block _ (Array.getElem?_eq_some_iff.1 h.2.1).1).trans h.2.1, h.2.2.1.below hb (Nat.le_refl _), h.2.2.2⟩
theorem TrR.sets {w W : World} {v : Value} {l : List ByteArray} {b j : Nat} {vr v' : Value} (hw : TlB w w) (h : TrR w W v l b j vr) (ho : OwnT W (b + 1) v' (rgN (l.take (j + 1)))) : TrR w ((W.setCell ⟨b, 0, none⟩ (.int .i64 ((j + 1 : Nat) : Int))).setCell ⟨b, 1, none⟩ v') v l b (j + 1) v' := by
  obtain ⟨⟨h1, h2⟩, h3, h4, h5, h6⟩ := h
  have g1 := heap_setCell_same W b 0 _ _ (.int .i64 ((j + 1 : Nat) : Int)) h3
  have g2 := heap_setCell_same _ b 1 _ _ v' g1
  have hb : Below w.heap.size w ((W.setCell ⟨b, 0, none⟩ (.int .i64 ((j + 1 : Nat) : Int))).setCell ⟨b, 1, none⟩ v') := (h2.1.setCell (p := ⟨b, 0, none⟩) h5 _).setCell (p := ⟨b, 1, none⟩) h5 _
  exact ⟨⟨(h1.setOther h3 (by decide)).setOther g1 (by decide), hb, hw.2.1.below hb hw.2.1.lt, hw.2.2.below hb hw.2.2.lt⟩, g2, (ho.far (Nat.lt_succ_self _)).far (Nat.lt_succ_self _), h5, h6⟩

set_option maxHeartbeats 8000000 in
set_option maxRecDepth 10000 in
theorem fnTree_any (a0 : Option Addr) (len0 cap0 : Nat) (a1 : Option Addr) (len1 cap1 : Nat) (w : World) (h0 : Code w w.heap.size a0 len0 ∧ len0 ≤ maxLen) (h1 : Code w w.heap.size a1 len1 ∧ len1 ≤ maxLen) (hK : Keys w) (hT : TabAt w) :
    Calls Tryd.prog 3 #[.slice a0 len0 cap0, .slice a1 len1 cap1] w fun e w' => e = .returned (.bool true) ∧ Below w.heap.size w w' := by
  obtain ⟨hc0, hl0⟩ := h0
  obtain ⟨hc1, hl1⟩ := h1
  unfold maxLen at hl0 hl1
  have HK : Hid (TlB w w) := ⟨Below.refl _ _, hK, hT⟩
  clear hK hT
  by_cases hb0 : 1048576 < (len0 : Int)
  · clear hc0 hc1
    go_enter Tryd.func3, Tryd.ntmps3
    go_wp2
    go_ret
    exact ⟨rfl, Below.refl _ _⟩
  by_cases hb1 : 1048576 < (len1 : Int)
  · clear hc0 hc1
    go_enter Tryd.func3, Tryd.ntmps3
    go_wp2
    go_ret
    exact ⟨rfl, Below.refl _ _⟩
  have E0 : Hid (Calls Tryd.prog 5 #[.slice a0 len0 cap0] w fun e w' => EntAns w e w') := drawPathOf_any a0 len0 cap0 w hc0 (by omega)
  have EVI : Hid (∀ W, Below w.heap.size w W → Calls Tryd.prog 15 #[.slice a1 len1 cap1] W fun e w' => InclAns W e w') := fun W hb => drawIncluded_any a1 len1 cap1 W (Code.onward hc1 hb) (by omega)
  have EVR : Hid (∀ W, Below w.heap.size w W → Calls Tryd.prog 16 #[.slice a1 len1 cap1] W fun e w' => RaDrawn W e w') := fun W hb => drawRangeAdd_any a1 len1 cap1 W (Code.onward hc1 hb) (by omega)
  have EVN : Hid (∀ W, Below w.heap.size w W → Calls Tryd.prog 18 #[.slice a1 len1 cap1] W fun e w' => TwoAns W e w') := fun W hb => drawNodeHash_any a1 len1 cap1 W (Code.onward hc1 hb) (by omega)
  have EL : Hid (∀ v1 v2 l W, Texts W W.heap.size v1 l → Texts W W.heap.size v2 l → l.length ≤ 1000 → Calls Tryd.prog 9 #[v1, v2] W fun e w' => e = .returned (.bool true) ∧ Below W.heap.size W w') := fun v1 v2 l W h1 h2 hl => lwTexts_any v1 v2 l W _ h1 h2 (by omega)
  clear hc0 hc1 hl0 hl1
  go_enter Tryd.func3, Tryd.ntmps3
  go_wp2_with fail
  refine E0.out.mono ?_
  rintro e w1 ⟨v, l, i, rfl, ho1, hl31, hz1, hi0, hi1, hb1'⟩
  have H1 : Hid (TrA w w1 v l) := ⟨ho1, HK.out.below hb1'⟩
  have EI : Hid (∀ W, TrA w W v l → Calls Tryd.prog 6 #[v] W fun e w' => e = .returned (.string (treeV l)) ∧ TrA w w' v l) := fun W h => (implTreeHash_any v l W h.1.texts (by omega) h.2.2.1).mono fun e w' k => ⟨k.1, h.below k.2⟩
  have ES : Hid (∀ W, TrA w W v l → Calls Tryd.prog 8 #[v] W fun e w' => e = .returned (.string (treeV l)) ∧ Below W.heap.size W w') := fun W h => specTreeHash_any v l W h.1.texts (by omega)
  have EPI : Hid (∀ (k : Int) W, TrA w W v l → -1 ≤ k → k ≤ 100 → Calls Tryd.prog 7 #[v, .int .i64 k] W fun e w' => ∃ v', e = .returned v' ∧ OwnT w' W.heap.size v' (pathV l k) ∧ Below W.heap.size W w') := fun k W h h0 h1 => implPathOf_any v l k W h.1.texts (by omega) (by omega) (by omega) h.2.2.1
  have EPS : Hid (∀ W, TrA w W v l → Calls Tryd.prog 10 #[v, .int .i64 i] W fun e w' => ∃ v', e = .returned v' ∧ OwnT w' W.heap.size v' (pathV l i) ∧ Below W.heap.size W w') := fun W h => specPathOf_any v l i W h.1.texts (by omega) (by omega) (by omega)
  have hpl : (pathV l i).length ≤ 1000 := pathV_most l i hl31
  clear ho1 hz1 hb1' E0
  go_wp2_with fail
  refine (EI.out _ H1.out).mono ?_
  rintro e w2 ⟨rfl, hA2⟩
  have H2 : Hid (TrA w w2 v l) := hA2
  clear hA2 H1
  go_wp2_with fail
  refine (EPI.out _ _ H2.out hi0 (by omega)).mono ?_
  rintro e w3 ⟨v3, rfl, ho3, hb3⟩
  have H3 : Hid (TrA w w3 v l ∧ Texts w3 w3.heap.size v3 (pathV l i)) := ⟨H2.out.below hb3, ho3.texts⟩
  clear ho3 hb3 H2
  have hRR : ((treeV l).toList == (treeV l).toList) = true := by simp
  go_wp2_with fail
  refine (ES.out _ H3.out.1).mono ?_
  rintro e w4 ⟨rfl, hb4⟩
  have H4 : Hid (TrA w w4 v l ∧ Texts w4 w4.heap.size v3 (pathV l i)) := ⟨H3.out.1.below hb4, (H3.out.2.below hb4).up hb4.size⟩
  clear hb4 H3
  go_wp2_with fail
  refine (EPS.out _ H4.out.1).mono ?_
  rintro e w5 ⟨v5, rfl, ho5, hb5⟩
  have H5 : Hid (TrA w w5 v l ∧ Texts w5 w5.heap.size v3 (pathV l i) ∧ Texts w5 w5.heap.size v5 (pathV l i)) := ⟨H4.out.1.below hb5, (H4.out.2.below hb5).up hb5.size, ho5.texts⟩
  clear ho5 hb5 H4
  go_wp2_with fail
  refine (EL.out _ _ _ _ H5.out.2.1 H5.out.2.2 hpl).mono ?_
  rintro e w6 ⟨rfl, hb6⟩
  have H6 : Hid (TrA w w6 v l) := H5.out.1.below hb6
  clear hb6 H5 hpl EPS ES
  obtain ⟨al, cl, rfl⟩ := H6.out.1.len
  by_cases hr : rightB l = true
  · have hem : (treeV l).toList.isEmpty = false := by
      rw [treeV_right hr, ByteArray.toList_eq]
      have h32 := treeB_size l
      cases h : (treeB l).data.toList with
      | nil =>
        have : (treeB l).size = 0 := by
          have h2 : (treeB l).data.toList.length = 0 := by rw [h]; rfl
          exact h2
        omega
      | cons a b => rfl
    obtain ⟨W6, hW6⟩ : ∃ W, W = w6.alloc (.cells #[.int .i64 0, .slice none 0 0] 30) := ⟨_, rfl⟩
    have hal : Below w6.heap.size w6 W6 := by rw [hW6]; exact (Below.refl _ _).alloc (Nat.le_refl _) _
    have R0 : Hid (TrR w W6 (.slice al l.length cl) l w6.heap.size 0 (.slice none 0 0)) := ⟨H6.out.below hal, by rw [hW6]; exact heap_alloc_new w6 _, by rw [List.take_zero, rgN_nil]; exact OwnT.nil _ _, H6.out.2.1.size, fun g hg => (World.ownsRow.lt H6.out.1 g hg).2⟩
    have HW6 : Hid (W6 = w6.alloc (.cells #[.int .i64 0, .slice none 0 0] 30)) := hW6
    have ELF : Hid (∀ (j : Nat) (hj : j < l.length) W, TlB w W → Calls Tryd.prog 13 #[.string l[j]] W fun e w' => e = .returned (.string (leafB l[j])) ∧ Below W.heap.size W w') := fun j hj W h => by
      rw [← leafV_right (rightB_at hr hj)]
      exact implLeaf_any l[j] W (by have := rightB_at hr hj; omega) h.2.1
    have EIN : Hid (∀ (j : Nat) (hj : j < l.length) v' W, Texts W W.heap.size v' (pathV l j) → TlB w W → Calls Tryd.prog 12 #[.string (leafB l[j]), .int .i64 j, .int .i64 l.length, v', .string (treeV l)] W fun e w' => e = .returned (.bool true) ∧ Below W.heap.size W w') := fun j hj v' W h1 h2 => by
      rw [← incl_told hr j hj]
      exact implIncl_any _ _ _ _ v' _ W h1 (by have := pathV_most l j hl31; omega) (by omega) (by omega) (by omega) (by omega) (by rw [leafB_size]; omega) (by have := treeV_few l; omega) h2.2.1
    have EAD : Hid (∀ (j : Nat) (hj : j < l.length) vr W, OwnT W W.heap.size vr (rgN (l.take j)) ∨ Texts W W.heap.size vr (rgN (l.take j)) → TlB w W → Calls Tryd.prog 11 #[.agg #[.int .i64 j, vr], .string l[j]] W fun e w' => RangeAns W ((j + 1 : Nat) : Int) (rgN (l.take (j + 1))) e w') := fun j hj vr W h1 h2 => by
      have hx : Texts W W.heap.size vr (rgN (l.take j)) := by
        rcases h1 with h | h
        · exact h.texts
        · exact h
      have hw := rgN_wide _ (l.take j) rfl
      have := implAdd_any j vr (rgN (l.take j)) l[j] W hx (by rw [rgN_len]; have := onesN_le (l.take j).length; rw [List.length_take] at *; omega) (fun q hq => by have := wideB_at hw hq; omega) (by have := rightB_at hr hj; omega) h2.2.1 h2.2.2
      rw [(rg_more hr j hj).1, (rg_more hr j hj).2] at this
      exact this
    have ERT : Hid (∀ vr W, Texts W W.heap.size vr (rgN l) → TlB w W → Calls Tryd.prog 14 #[.agg #[.int .i64 l.length, vr]] W fun e w' => e = .returned (.string (treeV l)) ∧ Below W.heap.size W w') := fun vr W h1 h2 => by
      rw [← rg_root hr]
      exact implRoot_any _ vr _ W h1 (by rw [rgN_len]; have := onesN_le l.length; omega) h2.2.1
    clear hal hW6 H6 EI
    go_wp2
    rw [← HW6.out]
    clear HW6
    generalize hb : w6.heap.size = b at *
    clear hb
    go_loopw [10] (fun x wr => ∃ (j : Nat) (vr : Value), j ≤ l.length ∧ x = .int .i64 j ∧ TrR w wr (.slice al l.length cl) l b j vr) (fun x _ => l.length - (RowKit.intOf x).toNat)
    case atStart => exact ⟨0, _, Nat.zero_le _, rfl, R0.out⟩
    case round =>
      clear R0
      obtain ⟨j, vr, hj, rfl, hR⟩ := hrel
      obtain ⟨ar, cr, rfl⟩ := hR.2.2.1.len
      have I1 : Hid (TrR w wr (.slice al l.length cl) l b j (.slice ar (rgN (l.take j)).length cr)) := hR
      clear hR
      by_cases hjl : j < l.length
      · obtain ⟨g, rfl⟩ : ∃ g, al = some ⟨g, 0, none⟩ := by
          rcases id I1.out.1.1 with ⟨_, ⟨e, h0⟩ | ⟨g, cap', cur, e, _⟩⟩
          · omega
          · simp at e; exact ⟨g, e.1⟩
        have hjI : (j : Int) < (l.length : Int) := by omega
        have hj0 : (0 : Int) ≤ (j : Int) := by omega
        have FA : Hid (∀ W, Texts W W.heap.size (.slice ar (rgN (l.take j)).length cr) (rgN (l.take j)) → TlB w W → Calls Tryd.prog 11 #[.agg #[.int .i64 j, .slice ar (rgN (l.take j)).length cr], .string l[j]] W fun e w' => RangeAns W ((j + 1 : Nat) : Int) (rgN (l.take (j + 1))) e w') := fun W h1 h2 => EAD.out j hjl _ W (.inr h1) h2
        have FL : Hid (∀ W, TlB w W → Calls Tryd.prog 13 #[.string l[j]] W fun e w' => e = .returned (.string (leafB l[j])) ∧ Below W.heap.size W w') := fun W h => ELF.out j hjl W h
        have FI : Hid (∀ v' W, Texts W W.heap.size v' (pathV l j) → TlB w W → Calls Tryd.prog 12 #[.string (leafB l[j]), .int .i64 j, .int .i64 l.length, v', .string (treeV l)] W fun e w' => e = .returned (.bool true) ∧ Below W.heap.size W w') := fun v' W h1 h2 => EIN.out j hjl v' W h1 h2
        have FC : Hid (∀ W, OwnT W w.heap.size (.slice (some ⟨g, 0, none⟩) l.length cl) l → W.cell? ⟨g, j, none⟩ = some (.string l[j])) := fun W h => (h.cell rfl j hjl).1
        obtain ⟨⟨x0, x1⟩, fx0, fx1⟩ := two_cells' (Below.refl wr.heap.size wr) (Array.getElem?_eq_some_iff.1 I1.out.2.1).1 I1.out.2.1
        have I1d : Hid (TrR w wr.drew (.slice (some ⟨g, 0, none⟩) l.length cl) l b j (.slice ar (rgN (l.take j)).length cr)) := I1.out.below (below_drew' (Below.refl _ _))
        obtain ⟨⟨xd0, xd1⟩, fxd0, fxd1⟩ := two_cells' (Below.refl wr.drew.heap.size wr.drew) (Array.getElem?_eq_some_iff.1 I1d.out.2.1).1 I1d.out.2.1
        have hcj := FC.out _ I1.out.1.1
        have hcd := FC.out _ I1d.out.1.1
        generalize l[j] = tj at *
        generalize leafB tj = lf at *
        clear EAD ELF EIN ERT
        go_wp2_with fail
        go_region_with ((go_at_call 11; (with_reducible refine (FA.out _ ?_ ?_).mono ?_); (first | exact I1.out.2.2.1.texts | exact I1d.out.2.2.1.texts); (first | exact I1.out.1.2 | exact I1d.out.1.2); rintro e wd ⟨v', rfl, ho', hb'⟩; obtain ⟨a', c', rfl⟩ := ho'.len; have I2 : Hid (TrR w wd (.slice (some ⟨g, 0, none⟩) l.length cl) l b j (.slice ar (rgN (l.take j)).length cr) ∧ OwnT wd (b + 1) (.slice a' (rgN (l.take (j + 1))).length c') (rgN (l.take (j + 1)))) := ⟨(by first | exact I1d.out.below hb' | exact I1.out.below hb'), ho'.lower (Nat.succ_le_of_lt (by first | exact (Array.getElem?_eq_some_iff.1 I1d.out.2.1).1 | exact (Array.getElem?_eq_some_iff.1 I1.out.2.1).1))⟩; obtain ⟨⟨p0, p1⟩, fp0, fp1⟩ := two_cells' (Below.refl wd.heap.size wd) (Array.getElem?_eq_some_iff.1 I2.out.1.2.1).1 I2.out.1.2.1; clear ho' hb'))
        all_goals
          have I3' := I2.out.1.sets HK.out I2.out.2
          have I3 : Hid (TrR w ((wd.setCell ⟨b, 0, none⟩ (.int .i64 ((j : Int) + 1))).setCell ⟨b, 1, none⟩ (.slice a' (rgN (l.take (j + 1))).length c')) (.slice (some ⟨g, 0, none⟩) l.length cl) l b (j + 1) (.slice a' (rgN (l.take (j + 1))).length c')) := I3'
          clear I3'
          generalize (wd.setCell ⟨b, 0, none⟩ (.int .i64 ((j : Int) + 1))).setCell ⟨b, 1, none⟩ (.slice a' (rgN (l.take (j + 1))).length c') = w7 at *
          have hc7 := FC.out _ I3.out.1.1
          clear x0 x1 fx0 fx1 xd0 xd1 fxd0 fxd1 hcj hcd p0 p1 fp0 fp1
          go_wp2_with fail
          refine (FL.out _ I3.out.1.2).mono ?_
          rintro e w8 ⟨rfl, hb8⟩
          have I4 : Hid (TrR w w8 (.slice (some ⟨g, 0, none⟩) l.length cl) l b (j + 1) (.slice a' (rgN (l.take (j + 1))).length c')) := I3.out.below hb8
          clear hb8 hc7
          go_wp2_with fail
          refine (EPI.out _ _ I4.out.1 (by omega) (by omega)).mono ?_
          rintro e w9 ⟨v9, rfl, ho9, hb9⟩
          have I5 : Hid (TrR w w9 (.slice (some ⟨g, 0, none⟩) l.length cl) l b (j + 1) (.slice a' (rgN (l.take (j + 1))).length c') ∧ Texts w9 w9.heap.size v9 (pathV l j)) := ⟨I4.out.below hb9, ho9.texts⟩
          clear ho9 hb9
          go_wp2_with fail
          refine (FI.out _ _ I5.out.2 I5.out.1.1.2).mono ?_
          rintro e w10 ⟨rfl, hb10⟩
          have I6 : Hid (TrR w w10 (.slice (some ⟨g, 0, none⟩) l.length cl) l b (j + 1) (.slice a' (rgN (l.take (j + 1))).length c')) := I5.out.1.below hb10
          clear hb10
          go_wp2
          go_roundw
          case rel => exact ⟨j + 1, _, by omega, by go_num, I6.out⟩
          case measure => simp [RowKit.intOf]; omega
      · have ej : j = l.length := by omega
        subst ej
        have hjI : ¬ ((l.length : Nat) : Int) < (l.length : Int) := by omega
        have hne : ((l.length : Int) != (l.length : Int)) = false := by simp
        rw [List.take_length] at I1
        have htx : Texts wr wr.heap.size (.slice ar (rgN l).length cr) (rgN l) := by
          have := I1.out.2.2.1.texts
          rw [List.take_length] at this
          exact this
        obtain ⟨⟨x0, x1⟩, fx0, fx1⟩ := two_cells' (Below.refl wr.heap.size wr) (Array.getElem?_eq_some_iff.1 I1.out.2.1).1 I1.out.2.1
        go_wp2_with fail
        refine (ERT.out _ _ htx I1.out.1.2).mono ?_
        rintro e w8 ⟨rfl, hb8⟩
        have H8 : Hid (TlB w w8) := I1.out.1.2.below hb8
        clear hb8 I1 x0 x1 fx0 fx1 htx ERT EAD EIN ELF
        go_wp2_with fail
        refine (EVI.out _ H8.out.1).mono ?_
        rintro e t1 ⟨leaf, ii, nn, vp, lp, rt, rfl, htp, hlp, ⟨g1, g2, g3, g4⟩, hzl, hzr, hbt1⟩
        have T1 : Hid (TlB w t1 ∧ Texts t1 t1.heap.size vp lp) := ⟨H8.out.below hbt1, htp⟩
        clear htp hbt1 H8 EVI
        go_wp2_with fail
        refine (EVR.out _ T1.out.1.1).mono ?_
        rintro e t2 ⟨sz, vr, lr, tx, rfl, htr, hlr, hzr2, hzt, hbt2⟩
        obtain ⟨ar, cr, rfl, hyr⟩ := id htr
        clear hyr
        obtain ⟨S2, hS2⟩ : ∃ W, W = t2.alloc (.cells #[.int .i64 sz, .slice ar lr.length cr] 30) := ⟨_, rfl⟩
        have hal : Below t2.heap.size t2 S2 := by rw [hS2]; exact (Below.refl _ _).alloc (Nat.le_refl _) _
        have hb12 := hbt2.trans (hal.mono hbt2.size)
        have T2 : Hid (TlB w S2 ∧ Texts S2 S2.heap.size vp lp ∧ Texts S2 S2.heap.size (.slice ar lr.length cr) lr ∧ S2.heap[t2.heap.size]? = some (.cells #[.int .i64 sz, .slice ar lr.length cr] 30 (0, 0)) ∧ t2.heap.size < S2.heap.size) := ⟨T1.out.1.below hb12, (T1.out.2.below hb12).up hb12.size, (htr.below hal).up hal.size, by rw [hS2]; exact heap_alloc_new t2 _, by rw [hS2]; simp⟩
        have HS2 : Hid (S2 = t2.alloc (.cells #[.int .i64 sz, .slice ar lr.length cr] 30)) := hS2
        clear htr hbt2 hal hb12 hS2 T1 EVR
        have FAI : Hid (∀ X, TlB w X → Texts X X.heap.size (.slice ar lr.length cr) lr → Calls Tryd.prog 11 #[.agg #[.int .i64 sz, .slice ar lr.length cr], .string tx] X fun e w' => RangeAns X (addSize sz lr tx) (addNodes sz lr tx) e w') := fun X hT hx => implAdd_any sz _ lr tx X hx (by omega) (fun j hj => by have := hzr2 _ (List.getElem_mem hj); omega) (by omega) hT.2.1 hT.2.2
        have FAS : Hid (∀ X, Texts X X.heap.size (.slice ar lr.length cr) lr → Calls Tryd.prog 17 #[.agg #[.int .i64 sz, .slice ar lr.length cr], .string tx] X fun e w' => RangeAns X (addSize sz lr tx) (addNodes sz lr tx) e w') := fun X hx => specAdd_any sz _ lr tx X hx (by omega)
        have FII : Hid (∀ X, TlB w X → Texts X X.heap.size vp lp → Calls Tryd.prog 12 #[.string leaf, .int .i64 ii, .int .i64 nn, vp, .string rt] X fun e w' => e = .returned (.bool (inclB leaf ii nn lp rt)) ∧ Below X.heap.size X w') := fun X hT hx => implIncl_any leaf rt ii nn vp lp X hx (by omega) g1 g2 g3 g4 (by omega) (by omega) hT.2.1
        have FIS : Hid (∀ X, Texts X X.heap.size vp lp → Calls Tryd.prog 19 #[.string leaf, .int .i64 ii, .int .i64 nn, vp, .string rt] X fun e w' => e = .returned (.bool (inclB leaf ii nn lp rt)) ∧ Below X.heap.size X w') := fun X hx => specIncl_any leaf rt ii nn vp lp X hx (by omega) g1 g2 g3 g4 (by omega) (by omega)
        have HLA : Hid ((addNodes sz lr tx).length ≤ 1000) := by have := (add_few sz tx hzr2).2; show _ ≤ _; omega
        generalize addSize sz lr tx = sz' at *
        generalize addNodes sz lr tx = la at *
        generalize inclB leaf ii nn lp rt = VI at *
        generalize hnr : lr.length = nr at *
        clear hnr hlp hlr hzr2 hzt hzl hzr g1 g2 g3 g4
        go_wp2_with fail
        rw [← HS2.out]
        clear HS2
        generalize hb16 : t2.heap.size = b16 at *
        clear hb16
        refine (FAI.out _ T2.out.1 T2.out.2.2.1).mono ?_
        rintro e t3 ⟨vx, rfl, hox, hbt3⟩
        obtain ⟨ax, cx, rfl⟩ := hox.len
        obtain ⟨S3, hS3⟩ : ∃ W, W = t3.alloc (.cells #[.int .i64 sz', .slice ax la.length cx] 30) := ⟨_, rfl⟩
        have hal : Below t3.heap.size t3 S3 := by rw [hS3]; exact (Below.refl _ _).alloc (Nat.le_refl _) _
        have hb23 := hbt3.trans (hal.mono hbt3.size)
        have T3 : Hid (TlB w S3 ∧ Texts S3 S3.heap.size vp lp ∧ Texts S3 S3.heap.size (.slice ar nr cr) lr ∧ Texts S3 S3.heap.size (.slice ax la.length cx) la ∧ S3.heap[t3.heap.size]? = some (.cells #[.int .i64 sz', .slice ax la.length cx] 30 (0, 0)) ∧ t3.heap.size < S3.heap.size) := ⟨T2.out.1.below hb23, (T2.out.2.1.below hb23).up hb23.size, (T2.out.2.2.1.below hb23).up hb23.size, (hox.texts.below hal).up hal.size, by rw [hS3]; exact heap_alloc_new t3 _, by rw [hS3]; simp⟩
        have HS3 : Hid (S3 = t3.alloc (.cells #[.int .i64 sz', .slice ax la.length cx] 30)) := hS3
        obtain ⟨x0, x1⟩ := (two_cells' hbt3 T2.out.2.2.2.2 T2.out.2.2.2.1).1
        have hlt16 : b16 < t3.heap.size := block_lt_of_cell x0
        clear hox hbt3 hal hb23 hS3 T2 FAI
        go_wp2_with fail
        rw [← HS3.out]
        clear HS3 x0 x1 hlt16
        generalize hb18 : t3.heap.size = b18 at *
        clear hb18
        refine (FAS.out _ T3.out.2.2.1).mono ?_
        rintro e t4 ⟨vy, rfl, hoy, hbt4⟩
        obtain ⟨ay, cy, rfl⟩ := hoy.len
        obtain ⟨S4, hS4⟩ : ∃ W, W = t4.alloc (.cells #[.int .i64 sz', .slice ay la.length cy] 30) := ⟨_, rfl⟩
        have hal : Below t4.heap.size t4 S4 := by rw [hS4]; exact (Below.refl _ _).alloc (Nat.le_refl _) _
        have hb34 := hbt4.trans (hal.mono hbt4.size)
        have T4 : Hid (TlB w S4 ∧ Texts S4 S4.heap.size vp lp ∧ Texts S4 S4.heap.size (.slice ax la.length cx) la ∧ Texts S4 S4.heap.size (.slice ay la.length cy) la ∧ S4.heap[b18]? = some (.cells #[.int .i64 sz', .slice ax la.length cx] 30 (0, 0)) ∧ S4.heap[t4.heap.size]? = some (.cells #[.int .i64 sz', .slice ay la.length cy] 30 (0, 0))) := ⟨T3.out.1.below hb34, (T3.out.2.1.below hb34).up hb34.size, (T3.out.2.2.2.1.below hb34).up hb34.size, (hoy.texts.below hal).up hal.size, (hb34.block _ T3.out.2.2.2.2.2).trans T3.out.2.2.2.2.1, by rw [hS4]; exact heap_alloc_new t4 _⟩
        have HS4 : Hid (S4 = t4.alloc (.cells #[.int .i64 sz', .slice ay la.length cy] 30)) := hS4
        clear hoy hbt4 hal hb34 hS4 T3 FAS
        go_wp2_with fail
        rw [← HS4.out]
        clear HS4
        generalize hb19 : t4.heap.size = b19 at *
        clear hb19
        refine (EVN.out _ T4.out.1.1).mono ?_
        rintro e t5 ⟨na, nb, rfl, hza, hzb, hbt5⟩
        have NX : Hid (∀ X Y, (TlB w X ∧ Texts X X.heap.size vp lp ∧ Texts X X.heap.size (.slice ax la.length cx) la ∧ Texts X X.heap.size (.slice ay la.length cy) la ∧ X.heap[b18]? = some (.cells #[.int .i64 sz', .slice ax la.length cx] 30 (0, 0)) ∧ X.heap[b19]? = some (.cells #[.int .i64 sz', .slice ay la.length cy] 30 (0, 0))) → Below X.heap.size X Y → (TlB w Y ∧ Texts Y Y.heap.size vp lp ∧ Texts Y Y.heap.size (.slice ax la.length cx) la ∧ Texts Y Y.heap.size (.slice ay la.length cy) la ∧ Y.heap[b18]? = some (.cells #[.int .i64 sz', .slice ax la.length cx] 30 (0, 0)) ∧ Y.heap[b19]? = some (.cells #[.int .i64 sz', .slice ay la.length cy] 30 (0, 0)))) := fun X Y h hb => ⟨h.1.below hb, (h.2.1.below hb).up hb.size, (h.2.2.1.below hb).up hb.size, (h.2.2.2.1.below hb).up hb.size, (hb.block _ (Array.getElem?_eq_some_iff.1 h.2.2.2.2.1).1).trans h.2.2.2.2.1, (hb.block _ (Array.getElem?_eq_some_iff.1 h.2.2.2.2.2).1).trans h.2.2.2.2.2⟩
        have T5 : Hid (_ ∧ _) := NX.out _ _ T4.out hbt5
        have FNI : Hid (∀ X, TlB w X → Calls Tryd.prog 20 #[.string na, .string nb] X fun e w' => e = .returned (.string (nodeV na nb)) ∧ Below X.heap.size X w') := fun X hT => implNodeHash_any na nb X (by omega) (by omega) hT.2.1
        have FNS : Hid (∀ X, Calls Tryd.prog 21 #[.string na, .string nb] X fun e w' => e = .returned (.string (nodeV na nb)) ∧ Below X.heap.size X w') := fun X => specNodeHash_any na nb X (by omega) (by omega)
        generalize nodeV na nb = VN at *
        have hVI : (VI == VI) = true := by simp
        have hss : (sz' == sz') = true := by simp
        have hVN : (VN.toList == VN.toList) = true := by simp
        clear hbt5 T4 hza hzb
        go_wp2_with fail
        refine (FII.out _ T5.out.1 T5.out.2.1).mono ?_
        rintro e t6 ⟨rfl, hb6⟩
        have T6 : Hid (_ ∧ _) := NX.out _ _ T5.out hb6
        clear hb6 T5
        go_wp2_with fail
        refine (FIS.out _ T6.out.2.1).mono ?_
        rintro e t7 ⟨rfl, hb7⟩
        have T7 : Hid (_ ∧ _) := NX.out _ _ T6.out hb7
        obtain ⟨p0, p1⟩ := (two_cells' (Below.refl t7.heap.size t7) (Array.getElem?_eq_some_iff.1 T7.out.2.2.2.2.1).1 T7.out.2.2.2.2.1).1
        obtain ⟨q0, q1⟩ := (two_cells' (Below.refl t7.heap.size t7) (Array.getElem?_eq_some_iff.1 T7.out.2.2.2.2.2).1 T7.out.2.2.2.2.2).1
        clear hb7 T6
        go_wp2_with fail
        refine (EL.out _ _ la _ T7.out.2.2.1 T7.out.2.2.2.1 HLA.out).mono ?_
        rintro e t8 ⟨rfl, hb8⟩
        have T8 : Hid (_ ∧ _) := NX.out _ _ T7.out hb8
        clear hb8 T7 p0 p1 q0 q1
        go_wp2_with fail
        refine (FNI.out _ T8.out.1).mono ?_
        rintro e t9 ⟨rfl, hb9⟩
        have T9 : Hid (_ ∧ _) := NX.out _ _ T8.out hb9
        clear hb9 T8
        go_wp2_with fail
        refine (FNS.out _).mono ?_
        rintro e t10 ⟨rfl, hb10⟩
        have T10 : Hid (_ ∧ _) := NX.out _ _ T9.out hb10
        clear hb10 T9
        go_wp2
        go_ret
        exact ⟨by simp, T10.out.1.1⟩
  · have hem : (treeV l).toList.isEmpty = true := by
      unfold treeV
      rw [if_neg hr, ByteArray.toList_eq]
      rfl
    have H8 : Hid (TlB w w6) := H6.out.2
    clear H6 EI EPI
    go_wp2_with fail
    refine (EVI.out _ H8.out.1).mono ?_
    rintro e t1 ⟨leaf, ii, nn, vp, lp, rt, rfl, htp, hlp, ⟨g1, g2, g3, g4⟩, hzl, hzr, hbt1⟩
    have T1 : Hid (TlB w t1 ∧ Texts t1 t1.heap.size vp lp) := ⟨H8.out.below hbt1, htp⟩
    clear htp hbt1 H8 EVI
    go_wp2_with fail
    refine (EVR.out _ T1.out.1.1).mono ?_
    rintro e t2 ⟨sz, vr, lr, tx, rfl, htr, hlr, hzr2, hzt, hbt2⟩
    obtain ⟨ar, cr, rfl, hyr⟩ := id htr
    clear hyr
    obtain ⟨S2, hS2⟩ : ∃ W, W = t2.alloc (.cells #[.int .i64 sz, .slice ar lr.length cr] 30) := ⟨_, rfl⟩
    have hal : Below t2.heap.size t2 S2 := by rw [hS2]; exact (Below.refl _ _).alloc (Nat.le_refl _) _
    have hb12 := hbt2.trans (hal.mono hbt2.size)
    have T2 : Hid (TlB w S2 ∧ Texts S2 S2.heap.size vp lp ∧ Texts S2 S2.heap.size (.slice ar lr.length cr) lr ∧ S2.heap[t2.heap.size]? = some (.cells #[.int .i64 sz, .slice ar lr.length cr] 30 (0, 0)) ∧ t2.heap.size < S2.heap.size) := ⟨T1.out.1.below hb12, (T1.out.2.below hb12).up hb12.size, (htr.below hal).up hal.size, by rw [hS2]; exact heap_alloc_new t2 _, by rw [hS2]; simp⟩
    have HS2 : Hid (S2 = t2.alloc (.cells #[.int .i64 sz, .slice ar lr.length cr] 30)) := hS2
    clear htr hbt2 hal hb12 hS2 T1 EVR
    have FAI : Hid (∀ X, TlB w X → Texts X X.heap.size (.slice ar lr.length cr) lr → Calls Tryd.prog 11 #[.agg #[.int .i64 sz, .slice ar lr.length cr], .string tx] X fun e w' => RangeAns X (addSize sz lr tx) (addNodes sz lr tx) e w') := fun X hT hx => implAdd_any sz _ lr tx X hx (by omega) (fun j hj => by have := hzr2 _ (List.getElem_mem hj); omega) (by omega) hT.2.1 hT.2.2
    have FAS : Hid (∀ X, Texts X X.heap.size (.slice ar lr.length cr) lr → Calls Tryd.prog 17 #[.agg #[.int .i64 sz, .slice ar lr.length cr], .string tx] X fun e w' => RangeAns X (addSize sz lr tx) (addNodes sz lr tx) e w') := fun X hx => specAdd_any sz _ lr tx X hx (by omega)
    have FII : Hid (∀ X, TlB w X → Texts X X.heap.size vp lp → Calls Tryd.prog 12 #[.string leaf, .int .i64 ii, .int .i64 nn, vp, .string rt] X fun e w' => e = .returned (.bool (inclB leaf ii nn lp rt)) ∧ Below X.heap.size X w') := fun X hT hx => implIncl_any leaf rt ii nn vp lp X hx (by omega) g1 g2 g3 g4 (by omega) (by omega) hT.2.1
    have FIS : Hid (∀ X, Texts X X.heap.size vp lp → Calls Tryd.prog 19 #[.string leaf, .int .i64 ii, .int .i64 nn, vp, .string rt] X fun e w' => e = .returned (.bool (inclB leaf ii nn lp rt)) ∧ Below X.heap.size X w') := fun X hx => specIncl_any leaf rt ii nn vp lp X hx (by omega) g1 g2 g3 g4 (by omega) (by omega)
    have HLA : Hid ((addNodes sz lr tx).length ≤ 1000) := by have := (add_few sz tx hzr2).2; show _ ≤ _; omega
    generalize addSize sz lr tx = sz' at *
    generalize addNodes sz lr tx = la at *
    generalize inclB leaf ii nn lp rt = VI at *
    generalize hnr : lr.length = nr at *
    clear hnr hlp hlr hzr2 hzt hzl hzr g1 g2 g3 g4
    go_wp2_with fail
    rw [← HS2.out]
    clear HS2
    generalize hb16 : t2.heap.size = b16 at *
    clear hb16
    refine (FAI.out _ T2.out.1 T2.out.2.2.1).mono ?_
    rintro e t3 ⟨vx, rfl, hox, hbt3⟩
    obtain ⟨ax, cx, rfl⟩ := hox.len
    obtain ⟨S3, hS3⟩ : ∃ W, W = t3.alloc (.cells #[.int .i64 sz', .slice ax la.length cx] 30) := ⟨_, rfl⟩
    have hal : Below t3.heap.size t3 S3 := by rw [hS3]; exact (Below.refl _ _).alloc (Nat.le_refl _) _
    have hb23 := hbt3.trans (hal.mono hbt3.size)
    have T3 : Hid (TlB w S3 ∧ Texts S3 S3.heap.size vp lp ∧ Texts S3 S3.heap.size (.slice ar nr cr) lr ∧ Texts S3 S3.heap.size (.slice ax la.length cx) la ∧ S3.heap[t3.heap.size]? = some (.cells #[.int .i64 sz', .slice ax la.length cx] 30 (0, 0)) ∧ t3.heap.size < S3.heap.size) := ⟨T2.out.1.below hb23, (T2.out.2.1.below hb23).up hb23.size, (T2.out.2.2.1.below hb23).up hb23.size, (hox.texts.below hal).up hal.size, by rw [hS3]; exact heap_alloc_new t3 _, by rw [hS3]; simp⟩
    have HS3 : Hid (S3 = t3.alloc (.cells #[.int .i64 sz', .slice ax la.length cx] 30)) := hS3
    obtain ⟨x0, x1⟩ := (two_cells' hbt3 T2.out.2.2.2.2 T2.out.2.2.2.1).1
    have hlt16 : b16 < t3.heap.size := block_lt_of_cell x0
    clear hox hbt3 hal hb23 hS3 T2 FAI
    go_wp2_with fail
    rw [← HS3.out]
    clear HS3 x0 x1 hlt16
    generalize hb18 : t3.heap.size = b18 at *
    clear hb18
    refine (FAS.out _ T3.out.2.2.1).mono ?_
    rintro e t4 ⟨vy, rfl, hoy, hbt4⟩
    obtain ⟨ay, cy, rfl⟩ := hoy.len
    obtain ⟨S4, hS4⟩ : ∃ W, W = t4.alloc (.cells #[.int .i64 sz', .slice ay la.length cy] 30) := ⟨_, rfl⟩
    have hal : Below t4.heap.size t4 S4 := by rw [hS4]; exact (Below.refl _ _).alloc (Nat.le_refl _) _
    have hb34 := hbt4.trans (hal.mono hbt4.size)
    have T4 : Hid (TlB w S4 ∧ Texts S4 S4.heap.size vp lp ∧ Texts S4 S4.heap.size (.slice ax la.length cx) la ∧ Texts S4 S4.heap.size (.slice ay la.length cy) la ∧ S4.heap[b18]? = some (.cells #[.int .i64 sz', .slice ax la.length cx] 30 (0, 0)) ∧ S4.heap[t4.heap.size]? = some (.cells #[.int .i64 sz', .slice ay la.length cy] 30 (0, 0))) := ⟨T3.out.1.below hb34, (T3.out.2.1.below hb34).up hb34.size, (T3.out.2.2.2.1.below hb34).up hb34.size, (hoy.texts.below hal).up hal.size, (hb34.block _ T3.out.2.2.2.2.2).trans T3.out.2.2.2.2.1, by rw [hS4]; exact heap_alloc_new t4 _⟩
    have HS4 : Hid (S4 = t4.alloc (.cells #[.int .i64 sz', .slice ay la.length cy] 30)) := hS4
    clear hoy hbt4 hal hb34 hS4 T3 FAS
    go_wp2_with fail
    rw [← HS4.out]
    clear HS4
    generalize hb19 : t4.heap.size = b19 at *
    clear hb19
    refine (EVN.out _ T4.out.1.1).mono ?_
    rintro e t5 ⟨na, nb, rfl, hza, hzb, hbt5⟩
    have NX : Hid (∀ X Y, (TlB w X ∧ Texts X X.heap.size vp lp ∧ Texts X X.heap.size (.slice ax la.length cx) la ∧ Texts X X.heap.size (.slice ay la.length cy) la ∧ X.heap[b18]? = some (.cells #[.int .i64 sz', .slice ax la.length cx] 30 (0, 0)) ∧ X.heap[b19]? = some (.cells #[.int .i64 sz', .slice ay la.length cy] 30 (0, 0))) → Below X.heap.size X Y → (TlB w Y ∧ Texts Y Y.heap.size vp lp ∧ Texts Y Y.heap.size (.slice ax la.length cx) la ∧ Texts Y Y.heap.size (.slice ay la.length cy) la ∧ Y.heap[b18]? = some (.cells #[.int .i64 sz', .slice ax la.length cx] 30 (0, 0)) ∧ Y.heap[b19]? = some (.cells #[.int .i64 sz', .slice ay la.length cy] 30 (0, 0)))) := fun X Y h hb => ⟨h.1.below hb, (h.2.1.below hb).up hb.size, (h.2.2.1.below hb).up hb.size, (h.2.2.2.1.below hb).up hb.size, (hb.block _ (Array.getElem?_eq_some_iff.1 h.2.2.2.2.1).1).trans h.2.2.2.2.1, (hb.block _ (Array.getElem?_eq_some_iff.1 h.2.2.2.2.2).1).trans h.2.2.2.2.2⟩
    have T5 : Hid (_ ∧ _) := NX.out _ _ T4.out hbt5
    have FNI : Hid (∀ X, TlB w X → Calls Tryd.prog 20 #[.string na, .string nb] X fun e w' => e = .returned (.string (nodeV na nb)) ∧ Below X.heap.size X w') := fun X hT => implNodeHash_any na nb X (by omega) (by omega) hT.2.1
    have FNS : Hid (∀ X, Calls Tryd.prog 21 #[.string na, .string nb] X fun e w' => e = .returned (.string (nodeV na nb)) ∧ Below X.heap.size X w') := fun X => specNodeHash_any na nb X (by omega) (by omega)
    generalize nodeV na nb = VN at *
    have hVI : (VI == VI) = true := by simp
    have hss : (sz' == sz') = true := by simp
    have hVN : (VN.toList == VN.toList) = true := by simp
    clear hbt5 T4 hza hzb
    go_wp2_with fail
    refine (FII.out _ T5.out.1 T5.out.2.1).mono ?_
    rintro e t6 ⟨rfl, hb6⟩
    have T6 : Hid (_ ∧ _) := NX.out _ _ T5.out hb6
    clear hb6 T5
    go_wp2_with fail
    refine (FIS.out _ T6.out.2.1).mono ?_
    rintro e t7 ⟨rfl, hb7⟩
    have T7 : Hid (_ ∧ _) := NX.out _ _ T6.out hb7
    obtain ⟨p0, p1⟩ := (two_cells' (Below.refl t7.heap.size t7) (Array.getElem?_eq_some_iff.1 T7.out.2.2.2.2.1).1 T7.out.2.2.2.2.1).1
    obtain ⟨q0, q1⟩ := (two_cells' (Below.refl t7.heap.size t7) (Array.getElem?_eq_some_iff.1 T7.out.2.2.2.2.2).1 T7.out.2.2.2.2.2).1
    clear hb7 T6
    go_wp2_with fail
    refine (EL.out _ _ la _ T7.out.2.2.1 T7.out.2.2.2.1 HLA.out).mono ?_
    rintro e t8 ⟨rfl, hb8⟩
    have T8 : Hid (_ ∧ _) := NX.out _ _ T7.out hb8
    clear hb8 T7 p0 p1 q0 q1
    go_wp2_with fail
    refine (FNI.out _ T8.out.1).mono ?_
    rintro e t9 ⟨rfl, hb9⟩
    have T9 : Hid (_ ∧ _) := NX.out _ _ T8.out hb9
    clear hb9 T8
    go_wp2_with fail
    refine (FNS.out _).mono ?_
    rintro e t10 ⟨rfl, hb10⟩
    have T10 : Hid (_ ∧ _) := NX.out _ _ T9.out hb10
    clear hb10 T9
    go_wp2
    go_ret
    exact ⟨by simp, T10.out.1.1⟩
end Go.Proofs.YtollfcjbcfnfdaaDoor
