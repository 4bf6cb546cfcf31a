/-
  The walk of the promise on proofs. Condition: the program's variable holds the rounds' numbers.
-/
import Derived.Test.YtchlopmmhcobdaaDoorPkDrawCons
import Derived.Test.YtchlopmmhcobdaaDoorPkTexts
import Derived.Test.YtchlopmmhcobdaaDoorPkCut
import Derived.Test.YtchlopmmhcobdaaDoorPkRetrace
import Derived.Test.YtchlopmmhcobdaaDoorPkSpecTree
import Derived.Deep.RegionWith
namespace Go.Proofs.YtchlopmmhcobdaaDoor
open Go.RowKit Go.Lib
set_option linter.unusedVariables false
set_option linter.unusedSimpArgs false

theorem proofV_len (l : List ByteArray) (m : Int) (hl : l.length ≤ 31) : (proofV l m).length ≤ 32 := by
  unfold proofV
  split
  · have := proofB_len l.length l m.toNat true rfl
    omega
  · simp
/-- In between: the entries in a row of the draw's own. -/
def PrA (w W : World) (B : Nat) (v : Value) (l : List ByteArray) : Prop := OwnT W B v l ∧ Below w.heap.size w W ∧ Keys W
theorem PrA.below {w W W' : World} {B : Nat} {v : Value} {l : List ByteArray} (h : PrA w W B v l) (hb : Below W.heap.size W W') : PrA w W' B v l :=
  ⟨h.1.below hb (Nat.le_refl _), h.2.1.trans (hb.mono h.2.1.size), h.2.2.below hb h.2.2.lt⟩
set_option maxHeartbeats 4000000 in
set_option maxRecDepth 10000 in
theorem fnProof_any (a0 : Option Addr) (len0 cap0 : Nat) (a1 : Option Addr) (len1 cap1 : Nat) (w : World) (h0 : Code w w.heap.size a0 len0 ∧ len0 ≤ maxLen) (h1 : Code w w.heap.size a1 len1 ∧ len1 ≤ maxLen) (hK : Keys w) :
    Calls Tryd.prog 6 #[.slice a0 len0 cap0, .slice a1 len1 cap1] w fun e w' => e = .returned (.bool true) ∧ Below w.heap.size w w' := by
  obtain ⟨hc0, hl0⟩ := h0
  obtain ⟨hc1, hl1⟩ := h1
  unfold maxLen at hl0 hl1
  have HK : Hid (Keys w) := hK
  clear hK
  by_cases hb0 : 1048576 < (len0 : Int)
  · clear hc0 hc1
    go_enter Tryd.func6, Tryd.ntmps6
    go_wp2
    go_ret
    exact ⟨rfl, Below.refl _ _⟩
  by_cases hb1 : 1048576 < (len1 : Int)
  · clear hc0 hc1
    go_enter Tryd.func6, Tryd.ntmps6
    go_wp2
    go_ret
    exact ⟨rfl, Below.refl _ _⟩
  have E0 : Hid (Calls Tryd.prog 42 #[.slice a0 len0 cap0] w fun e w' => EntAns w e w') := drawProofOf_any a0 len0 cap0 w hc0 (by omega)
  have EC : Hid (∀ W, Below w.heap.size w W → Calls Tryd.prog 46 #[.slice a1 len1 cap1] W fun e w' => ConsAns W e w') := fun W hb => drawConsistent_any a1 len1 cap1 W (Code.after hc1 hb) (by omega)
  have EI : Hid (∀ v l (i : Int) W, Texts W W.heap.size v l → l.length ≤ 31 → Keys W → -1 ≤ i → i ≤ 100 → Calls Tryd.prog 43 #[v, .int .i64 i] W fun e w' => ∃ v', e = .returned v' ∧ OwnT w' W.heap.size v' (proofV l i) ∧ Below W.heap.size W w') := fun v l i W ht hl hK h0 h1 => implProofOf_any v l i W ht (by omega) (by omega) (by omega) hK
  have ES : Hid (∀ v l (i : Int) W, Texts W W.heap.size v l → l.length ≤ 31 → -1 ≤ i → i ≤ 100 → Calls Tryd.prog 44 #[v, .int .i64 i] W fun e w' => ∃ v', e = .returned v' ∧ OwnT w' W.heap.size v' (proofV l i) ∧ Below W.heap.size W w') := fun v l i W ht hl h0 h1 => specProofOf_any v l i W ht (by omega) (by omega) (by omega)
  have EL : Hid (∀ v1 v2 l W, Texts W W.heap.size v1 l → Texts W W.heap.size v2 l → l.length ≤ 1000 → Calls Tryd.prog 29 #[v1, v2] W fun e w' => e = .returned (.bool true) ∧ Below W.heap.size W w') := fun v1 v2 l W h1 h2 hl => lwTexts_any v1 v2 l W _ h1 h2 (by omega)
  have ET : Hid (∀ v l W, Texts W W.heap.size v l → l.length ≤ 31 → Calls Tryd.prog 28 #[v] W fun e w' => e = .returned (.string (treeV l)) ∧ Below W.heap.size W w') := fun v l W ht hl => specTreeHash_any v l W ht (by omega)
  have EK : Hid (∀ was root (i n : Int) v path W, Texts W W.heap.size v path → path.length ≤ 1000 → -9223372036854775808 ≤ i → i ≤ 9223372036854775807 → -9223372036854775808 ≤ n → n ≤ 9223372036854775807 → was.size ≤ 32 → root.size ≤ 32 → Keys W → Calls Tryd.prog 45 #[.int .i64 i, .int .i64 n, v, .string was, .string root] W fun e w' => e = .returned (.bool (consB i n path was root)) ∧ Below W.heap.size W w') := fun was root i n v path W h1 h2 h3 h4 h5 h6 h7 h8 h9 => implCons_any was root i n v path W h1 (by omega) h3 h4 h5 h6 (by omega) (by omega) h9
  have EQ : Hid (∀ was root (i n : Int) v path W, Texts W W.heap.size v path → path.length ≤ 1000 → -9223372036854775808 ≤ i → i ≤ 9223372036854775807 → -9223372036854775808 ≤ n → n ≤ 9223372036854775807 → was.size ≤ 32 → root.size ≤ 32 → Calls Tryd.prog 47 #[.int .i64 i, .int .i64 n, v, .string was, .string root] W fun e w' => e = .returned (.bool (consB i n path was root)) ∧ Below W.heap.size W w') := fun was root i n v path W h1 h2 h3 h4 h5 h6 h7 h8 => specCons_any was root i n v path W h1 (by omega) h3 h4 h5 h6 (by omega) (by omega)
  clear hc0 hc1 hl0 hl1
  go_enter Tryd.func6, Tryd.ntmps6
  go_wp2_with fail
  refine E0.out.mono ?_
  rintro e w1 ⟨v, l, i, rfl, ho1, hl31, hz1, hi0, hi1, hb1'⟩
  have H1 : Hid (PrA w w1 w.heap.size v l) := ⟨ho1, hb1', HK.out.below hb1' HK.out.lt⟩
  clear ho1 hz1 hb1' E0
  go_wp2_with fail
  refine (EI.out _ _ _ _ H1.out.1.texts hl31 H1.out.2.2 hi0 (by omega)).mono ?_
  rintro e w2 ⟨v2, rfl, ho2, hb2⟩
  have H2 : Hid (PrA w w2 w.heap.size v l ∧ OwnT w2 w1.heap.size v2 (proofV l i)) := ⟨H1.out.below hb2, ho2⟩
  clear ho2 hb2 H1
  go_wp2_with fail
  refine (ES.out _ _ _ _ H2.out.1.1.texts hl31 hi0 (by omega)).mono ?_
  rintro e w3 ⟨v3, rfl, ho3, hb3⟩
  have H3 : Hid (PrA w w3 w.heap.size v l ∧ OwnT w3 w1.heap.size v2 (proofV l i) ∧ OwnT w3 w2.heap.size v3 (proofV l i)) := ⟨H2.out.1.below hb3, H2.out.2.below hb3 (Nat.le_refl _), ho3⟩
  have hpl := proofV_len l i hl31
  clear ho3 hb3 H2 ES
  go_wp2_with fail
  refine (EL.out _ _ _ _ H3.out.2.1.texts H3.out.2.2.texts (by omega)).mono ?_
  rintro e w4 ⟨rfl, hb4⟩
  have H4 : Hid (PrA w w4 w.heap.size v l) := H3.out.1.below hb4
  clear hb4 H3 EL hpl
  go_wp2_with fail
  refine (ET.out _ _ _ H4.out.1.texts hl31).mono ?_
  rintro e w5 ⟨rfl, hb5⟩
  have H5 : Hid (PrA w w5 w.heap.size v l) := H4.out.below hb5
  obtain ⟨al, cl, rfl⟩ := H4.out.1.len
  clear hb5 H4
  go_wp2
  go_loopw [8] (fun x wr => ∃ j : Nat, 1 ≤ j ∧ j ≤ l.length + 1 ∧ x = .int .i64 j ∧ PrA w wr w.heap.size (.slice al l.length cl) l) (fun x _ => l.length + 1 - (RowKit.intOf x).toNat)
  case atStart => exact ⟨1, by omega, by omega, rfl, H5.out⟩
  case round =>
    clear H5
    obtain ⟨j, hj1, hj2, rfl, hP⟩ := hrel
    have HP : Hid (PrA w wr w.heap.size (.slice al l.length cl) l) := hP
    clear hP
    by_cases hr : rightB l = true
    · have hem : (treeV l).toList.isEmpty = false := by
        rw [treeV_right hr, ByteArray.toList_eq]
        have h32 := treeB_size l
        cases h : (treeB l).data.toList with
        | nil =>
          have : (treeB l).size = 0 := by
            have h2 : (treeB l).data.toList.length = 0 := by rw [h]; rfl
            exact h2
          omega
        | cons a b => rfl
      by_cases hjl : j ≤ l.length
      · have hjI : (j : Int) ≤ (l.length : Int) := by omega
        have hjJ : (0 : Int) ≤ (j : Int) := by omega
        have hct : consB j l.length (proofV l j) (treeV (l.take j)) (treeV l) = true := cons_told hr j hj1 hjl
        obtain ⟨v5, hsl, hT5⟩ := slice_h HP.out.1.texts j hjl (j : Int) rfl
        have F1 : Hid (∀ W, PrA w W w.heap.size (.slice al l.length cl) l → Calls Tryd.prog 43 #[.slice al l.length cl, .int .i64 j] W fun e w' => ∃ v', e = .returned v' ∧ OwnT w' W.heap.size v' (proofV l j) ∧ PrA w w' w.heap.size (.slice al l.length cl) l ∧ Below W.heap.size W w') := fun W h => (EI.out _ l j W h.1.texts hl31 h.2.2 (by omega) (by omega)).mono (by
          rintro e w' ⟨v', rfl, ho, hb⟩
          exact ⟨v', rfl, ho, h.below hb, hb⟩)
        have F2 : Hid (∀ W, Below wr.heap.size wr W → Calls Tryd.prog 28 #[v5] W fun e w' => e = .returned (.string (treeV (l.take j))) ∧ Below W.heap.size W w') := fun W hb => ET.out v5 (l.take j) W ((hT5.below hb).up hb.size) (by rw [List.length_take]; omega)
        have hpl : (proofV l j).length ≤ 1000 := by have := proofV_len l j hl31; omega
        have F3 : Hid (∀ v' W, Texts W W.heap.size v' (proofV l j) → Keys W → Calls Tryd.prog 45 #[.int .i64 j, .int .i64 l.length, v', .string (treeV (l.take j)), .string (treeV l)] W fun e w' => e = .returned (.bool true) ∧ Below W.heap.size W w') := fun v' W h hK => by
          rw [← hct]
          exact EK.out _ _ _ _ v' _ W h hpl (by omega) (by omega) (by omega) (by omega) (treeV_size _) (treeV_size _) hK
        generalize proofV l j = P at *
        generalize treeV (l.take j) = TJ at *
        generalize treeV l = TL at *
        clear hct hT5 hpl
        have HDR : Hid (PrA w wr.drew w.heap.size (.slice al l.length cl) l) := HP.out.below (below_drew' (Below.refl _ _))
        have HR0 : Hid (Below wr.heap.size wr wr ∧ Below wr.heap.size wr wr.drew) := ⟨Below.refl _ _, below_drew' (Below.refl _ _)⟩
        go_wp2_with fail
        go_region_with (first
          | (go_at_call 43; (with_reducible refine (F1.out _ ?_).mono ?_); (first | exact HDR.out | exact HP.out | exact HPT.out | exact HPT.out.below (below_drew' (Below.refl _ _))); rintro e wa ⟨vp, rfl, hop, hpa, hba⟩; have HPA : Hid (PrA w wa w.heap.size (.slice al l.length cl) l) := hpa; have HO : Hid (∃ BB, OwnT wa BB vp P) := ⟨_, hop⟩; have HBA : Hid (Below wr.heap.size wr wa) := (by first | exact (below_drew hba) | exact hba | exact HBT.out.trans (hba.mono HBT.out.size) | exact HBT.out.trans ((below_drew hba).mono HBT.out.size)); clear hop hpa hba)
          | (go_at_call 28; (with_reducible refine (F2.out _ ?_).mono ?_); (first | exact HBA.out | exact below_drew' HBA.out | exact HR0.out.2 | exact HR0.out.1); rintro e wb ⟨rfl, hbb⟩; (first | (have HO : Hid (∃ BB, OwnT wb BB vp P) := (by obtain ⟨BB, h⟩ := HO.out; exact ⟨BB, h.below (by first | exact hbb | exact below_drew hbb) (Nat.le_refl _)⟩); have HPA : Hid (PrA w wb w.heap.size (.slice al l.length cl) l) := HPA.out.below (by first | exact hbb | exact below_drew hbb); clear hbb) | (have HBT : Hid (Below wr.heap.size wr wb) := (by first | exact below_drew hbb | exact hbb); have HPT : Hid (PrA w wb w.heap.size (.slice al l.length cl) l) := HP.out.below HBT.out; clear hbb)))
          | (go_at_call 45; (with_reducible refine (F3.out _ _ ?_ ?_).mono ?_); (first | (obtain ⟨BB, h⟩ := HO.out; exact h.texts) | (obtain ⟨BB, h⟩ := HO.out; exact (h.texts.below (below_drew' (Below.refl _ _))))); (first | exact HPA.out.2.2 | exact (HPA.out.below (below_drew' (Below.refl _ _))).2.2); rintro e wc ⟨rfl, hbc⟩; have HPC : Hid (PrA w wc w.heap.size (.slice al l.length cl) l) := HPA.out.below (by first | exact hbc | exact below_drew hbc); clear hbc))
        all_goals
          go_wp2
          go_roundw
          case rel => exact ⟨j + 1, by omega, by omega, by go_num, HPC.out⟩
          case measure => simp [RowKit.intOf]; omega
      · have hjI : ¬ (j : Int) ≤ (l.length : Int) := by omega
        go_wp2_with fail
        refine (EC.out _ HP.out.2.1).mono ?_
        rintro e w6 ⟨m, n, vc, lc, was, rt, rfl, ht6, hl6, ⟨g1, g2, g3, g4⟩, hz6, hz7, hb6⟩
        have H6 : Hid (Texts w6 w6.heap.size vc lc ∧ lc.length ≤ 1000 ∧ Below w.heap.size w w6) := ⟨ht6, hl6, HP.out.2.1.trans (hb6.mono HP.out.2.1.size)⟩
        clear ht6 hl6 hb6 HP EC
        have F7 := fun W a b c => EK.out was rt m n vc lc W a b g1 g2 g3 g4 hz6 hz7 c
        have F8 := fun W a b => EQ.out was rt m n vc lc W a b g1 g2 g3 g4 hz6 hz7
        generalize consB m n lc was rt = V at *
        have G7 : Hid (∀ W, Texts W W.heap.size vc lc → lc.length ≤ 1000 → Keys W → Calls Tryd.prog 45 #[.int .i64 m, .int .i64 n, vc, .string was, .string rt] W fun e w' => e = .returned (.bool V) ∧ Below W.heap.size W w') := F7
        have G8 : Hid (∀ W, Texts W W.heap.size vc lc → lc.length ≤ 1000 → Calls Tryd.prog 47 #[.int .i64 m, .int .i64 n, vc, .string was, .string rt] W fun e w' => e = .returned (.bool V) ∧ Below W.heap.size W w') := F8
        clear F7 F8 EK EQ EI ET
        have hVV : (V == V) = true := by simp
        go_wp2_with fail
        refine (G7.out _ H6.out.1 H6.out.2.1 (HK.out.below H6.out.2.2 HK.out.lt)).mono ?_
        rintro e w7 ⟨rfl, hb7⟩
        have H7 : Hid (Texts w7 w7.heap.size vc lc ∧ lc.length ≤ 1000 ∧ Below w.heap.size w w7) := ⟨(H6.out.1.below hb7).up hb7.size, H6.out.2.1, H6.out.2.2.trans (hb7.mono H6.out.2.2.size)⟩
        clear hb7 H6 G7
        go_wp2_with fail
        refine (G8.out _ H7.out.1 H7.out.2.1).mono ?_
        rintro e w8 ⟨rfl, hb8⟩
        have H8 : Hid (Below w.heap.size w w8) := H7.out.2.2.trans (hb8.mono H7.out.2.2.size)
        clear hb8 H7 G8
        go_wp2
        go_ret
        exact ⟨by simp, H8.out⟩
    · have hem : (treeV l).toList.isEmpty = true := by
        unfold treeV
        rw [if_neg hr, ByteArray.toList_eq]
        rfl
      by_cases hjl : j ≤ l.length
      · have hjI : (j : Int) ≤ (l.length : Int) := by omega
        go_wp2_with fail
        refine (EC.out _ HP.out.2.1).mono ?_
        rintro e w6 ⟨m, n, vc, lc, was, rt, rfl, ht6, hl6, ⟨g1, g2, g3, g4⟩, hz6, hz7, hb6⟩
        have H6 : Hid (Texts w6 w6.heap.size vc lc ∧ lc.length ≤ 1000 ∧ Below w.heap.size w w6) := ⟨ht6, hl6, HP.out.2.1.trans (hb6.mono HP.out.2.1.size)⟩
        clear ht6 hl6 hb6 HP EC
        have F7 := fun W a b c => EK.out was rt m n vc lc W a b g1 g2 g3 g4 hz6 hz7 c
        have F8 := fun W a b => EQ.out was rt m n vc lc W a b g1 g2 g3 g4 hz6 hz7
        generalize consB m n lc was rt = V at *
        have G7 : Hid (∀ W, Texts W W.heap.size vc lc → lc.length ≤ 1000 → Keys W → Calls Tryd.prog 45 #[.int .i64 m, .int .i64 n, vc, .string was, .string rt] W fun e w' => e = .returned (.bool V) ∧ Below W.heap.size W w') := F7
        have G8 : Hid (∀ W, Texts W W.heap.size vc lc → lc.length ≤ 1000 → Calls Tryd.prog 47 #[.int .i64 m, .int .i64 n, vc, .string was, .string rt] W fun e w' => e = .returned (.bool V) ∧ Below W.heap.size W w') := F8
        clear F7 F8 EK EQ EI ET
        have hVV : (V == V) = true := by simp
        go_wp2_with fail
        refine (G7.out _ H6.out.1 H6.out.2.1 (HK.out.below H6.out.2.2 HK.out.lt)).mono ?_
        rintro e w7 ⟨rfl, hb7⟩
        have H7 : Hid (Texts w7 w7.heap.size vc lc ∧ lc.length ≤ 1000 ∧ Below w.heap.size w w7) := ⟨(H6.out.1.below hb7).up hb7.size, H6.out.2.1, H6.out.2.2.trans (hb7.mono H6.out.2.2.size)⟩
        clear hb7 H6 G7
        go_wp2_with fail
        refine (G8.out _ H7.out.1 H7.out.2.1).mono ?_
        rintro e w8 ⟨rfl, hb8⟩
        have H8 : Hid (Below w.heap.size w w8) := H7.out.2.2.trans (hb8.mono H7.out.2.2.size)
        clear hb8 H7 G8
        go_wp2
        go_ret
        exact ⟨by simp, H8.out⟩
      · have hjI : ¬ (j : Int) ≤ (l.length : Int) := by omega
        go_wp2_with fail
        refine (EC.out _ HP.out.2.1).mono ?_
        rintro e w6 ⟨m, n, vc, lc, was, rt, rfl, ht6, hl6, ⟨g1, g2, g3, g4⟩, hz6, hz7, hb6⟩
        have H6 : Hid (Texts w6 w6.heap.size vc lc ∧ lc.length ≤ 1000 ∧ Below w.heap.size w w6) := ⟨ht6, hl6, HP.out.2.1.trans (hb6.mono HP.out.2.1.size)⟩
        clear ht6 hl6 hb6 HP EC
        have F7 := fun W a b c => EK.out was rt m n vc lc W a b g1 g2 g3 g4 hz6 hz7 c
        have F8 := fun W a b => EQ.out was rt m n vc lc W a b g1 g2 g3 g4 hz6 hz7
        generalize consB m n lc was rt = V at *
        have G7 : Hid (∀ W, Texts W W.heap.size vc lc → lc.length ≤ 1000 → Keys W → Calls Tryd.prog 45 #[.int .i64 m, .int .i64 n, vc, .string was, .string rt] W fun e w' => e = .returned (.bool V) ∧ Below W.heap.size W w') := F7
        have G8 : Hid (∀ W, Texts W W.heap.size vc lc → lc.length ≤ 1000 → Calls Tryd.prog 47 #[.int .i64 m, .int .i64 n, vc, .string was, .string rt] W fun e w' => e = .returned (.bool V) ∧ Below W.heap.size W w') := F8
        clear F7 F8 EK EQ EI ET
        have hVV : (V == V) = true := by simp
        go_wp2_with fail
        refine (G7.out _ H6.out.1 H6.out.2.1 (HK.out.below H6.out.2.2 HK.out.lt)).mono ?_
        rintro e w7 ⟨rfl, hb7⟩
        have H7 : Hid (Texts w7 w7.heap.size vc lc ∧ lc.length ≤ 1000 ∧ Below w.heap.size w w7) := ⟨(H6.out.1.below hb7).up hb7.size, H6.out.2.1, H6.out.2.2.trans (hb7.mono H6.out.2.2.size)⟩
        clear hb7 H6 G7
        go_wp2_with fail
        refine (G8.out _ H7.out.1 H7.out.2.1).mono ?_
        rintro e w8 ⟨rfl, hb8⟩
        have H8 : Hid (Below w.heap.size w w8) := H7.out.2.2.trans (hb8.mono H7.out.2.2.size)
        clear hb8 H7 G8
        go_wp2
        go_ret
        exact ⟨by simp, H8.out⟩
end Go.Proofs.YtchlopmmhcobdaaDoor
