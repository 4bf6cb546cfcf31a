/-
  The document's Verify.
-/
import Derived.Test.YtcenlgfopmahcaaGreatDoorPkAgrees
import Derived.Test.YtcenlgfopmahcaaGreatDoorPkTexts
import Derived.Test.YtcenlgfopmahcaaGreatDoorPkSpecDigits
import Derived.Test.YtcenlgfopmahcaaGreatDoorPkSpecSteps
import Derived.Test.YtcenlgfopmahcaaGreatDoorPkSpecMac
import Derived.Test.YtcenlgfopmahcaaGreatDoorPkPutText
import Derived.Test.YtcenlgfopmahcaaGreatDoorPkImplShares
import Derived.Deep.RegionWith
import Derived.Deep.RegionHeld3
namespace Go.Proofs.YtcenlgfopmahcaaGreatDoor
open Go.RowKit Go.Lib
set_option linter.unusedVariables false
set_option linter.unusedSimpArgs false

/-- In between: the signature's block, its Ends in block b, the digits. -/
def VerAt (w wr : World) (k : Int) (ve vp : Value) (b off gd : Nat) (el : List ByteArray) (t : ByteArray) : Prop :=
  Below w.heap.size w wr ∧ wr.heap[w.heap.size]? = some (.cells #[.int .i64 k, ve, vp] 35 (0, 0)) ∧ b < w.heap.size ∧ gd < wr.heap.size ∧ (∀ j, j < 6 → wr.cell? ⟨b, off + j, none⟩ = some (.string (el.getD j ByteArray.empty))) ∧ ∀ j, j < 6 → wr.cell? ⟨gd, j, none⟩ = some (.int .i64 (digI t j))
theorem VerAt.below {w wr w1 : World} {k : Int} {ve vp : Value} {b off gd : Nat} {el : List ByteArray} {t : ByteArray} (h : VerAt w wr k ve vp b off gd el t) (hb : Below wr.heap.size wr w1) : VerAt w w1 k ve vp b off gd el t := by
  obtain ⟨h1, h2, h3, h4, h5, h6⟩ := h
  have hl := (Array.getElem?_eq_some_iff.1 h2).1
  exact ⟨h1.trans (hb.mono h1.size), (hb.block _ hl).trans h2, h3, Nat.lt_of_lt_of_le h4 hb.size, fun j hj => (hb.cell (p := ⟨b, off + j, none⟩) (show b < wr.heap.size by omega)).trans (h5 j hj), fun j hj => (hb.cell (p := ⟨gd, j, none⟩) h4).trans (h6 j hj)⟩

set_option maxHeartbeats 2000000 in
set_option maxRecDepth 10000 in
theorem specVerify_any (root text : ByteArray) (k : Int) (ve vp : Value) (el pl : List ByteArray) (w : World) (h1 : Texts w w.heap.size ve el) (h2 : Texts w w.heap.size vp pl) (hl1 : el.length ≤ 1048576) (hl2 : pl.length ≤ 1048576) (hr : root.size ≤ 1048576) (ht : text.size ≤ 1048576) :
    Calls Tryz.prog 70 #[.string root, .string text, .agg #[.int .i64 k, ve, vp]] w fun e w' => e = .returned (.bool (verB root text k el pl)) ∧ Below w.heap.size w w' := by
  obtain ⟨a1, c1, rfl, hx1, _⟩ := id h1
  obtain ⟨a2, c2, rfl, _⟩ := id h2
  obtain ⟨W, hW⟩ : ∃ W, W = w.alloc (.cells #[.int .i64 k, .slice a1 el.length c1, .slice a2 pl.length c2] 35) := ⟨_, rfl⟩
  have hbW : Below w.heap.size w W := by rw [hW]; exact (Below.refl _ _).alloc (Nat.le_refl _) _
  have hgW : W.heap[w.heap.size]? = some (.cells #[.int .i64 k, .slice a1 el.length c1, .slice a2 pl.length c2] 35 (0, 0)) := by rw [hW]; exact heap_alloc_new w _
  have hlW : w.heap.size < W.heap.size := (Array.getElem?_eq_some_iff.1 hgW).1
  have E0 : Hid (Calls Tryz.prog 87 #[.agg #[.int .i64 k, .slice a1 el.length c1, .slice a2 pl.length c2]] W fun e w' => e = .returned (.bool (sigRB k el pl)) ∧ Below W.heap.size W w') := specSigRight_any k _ _ el pl W ((h1.below hbW).up hbW.size) ((h2.below hbW).up hbW.size) hl1 hl2
  have H0 : Hid (Below w.heap.size w W ∧ W.heap[w.heap.size]? = some (.cells #[.int .i64 k, .slice a1 el.length c1, .slice a2 pl.length c2] 35 (0, 0)) ∧ Texts w w.heap.size (.slice a1 el.length c1) el ∧ Texts w w.heap.size (.slice a2 pl.length c2) pl ∧ w.heap.size < W.heap.size) := ⟨hbW, hgW, h1, h2, hlW⟩
  have HW : Hid (W = w.alloc (.cells #[.int .i64 k, .slice a1 el.length c1, .slice a2 pl.length c2] 35)) := hW
  have HX1 : Hid (el.length = 0 ∨ ∃ b off, a1 = some ⟨b, off, none⟩ ∧ b < w.heap.size ∧ ∀ j (h : j < el.length), w.cell? ⟨b, off + j, none⟩ = some (.string el[j])) := hx1
  clear h1 h2 hW hbW hgW hlW hx1
  by_cases hs : sigRB k el pl = true
  · rw [hs] at E0
    have HY : Hid ((0 ≤ k ∧ k ≤ 3) ∧ el.length = 6 ∧ pl.length = 2 ∧ wideB el = true ∧ wideB pl = true) := sigRB_yes hs
    by_cases hr32 : (root.size : Int) = 32
    · have q1 : ((root.size : Int) != 32) = false := by simpa using hr32
      by_cases ht2 : (text.size : Int) ≤ 20000
      · rw [verB_rest hs hr32 ht2]
        have hk0 := HY.out.1.1
        have hk1 := HY.out.1.2
        have htI : ¬ 20000 < (text.size : Int) := by omega
        obtain ⟨b, off, rfl, hbB, hcell⟩ : ∃ b off, a1 = some ⟨b, off, none⟩ ∧ b < w.heap.size ∧ ∀ j, j < 6 → w.cell? ⟨b, off + j, none⟩ = some (.string (el.getD j ByteArray.empty)) := by
          rcases HX1.out with h | ⟨b, off, h3, h4, h5⟩
          · have := HY.out.2.1; omega
          · refine ⟨b, off, h3, h4, fun j hj => ?_⟩
            have hjl : j < el.length := by have := HY.out.2.1; omega
            rw [h5 j hjl]
            simp [List.getD, hjl]
        have HC : Hid (b < w.heap.size ∧ ∀ j, j < 6 → w.cell? ⟨b, off + j, none⟩ = some (.string (el.getD j ByteArray.empty))) := ⟨hbB, hcell⟩
        clear hbB hcell HX1
        have E1 : Hid (∀ w, Calls Tryz.prog 88 #[.string text] w fun e w' => ∃ v, e = .returned v ∧ DigRow w' w.heap.size w'.heap.size v text ∧ Below w.heap.size w w') := fun w => specDigits_any text w (by omega)
        have hz : ∀ j, j < 6 → (el.getD j ByteArray.empty).size = 32 := wide_get HY.out.2.2.2.1 HY.out.2.1
        have E2 : Hid (∀ (j : Nat) (w : World), j < 6 → Calls Tryz.prog 89 #[.string (el.getD j ByteArray.empty), .int .i64 (15 - digI text j)] w fun e w' => e = .returned (.string (stepsB (15 - digB text j) (el.getD j ByteArray.empty))) ∧ Below w.heap.size w w') := fun j w hj => by
          have e : 15 - digI text j = ((15 - digB text j : Nat) : Int) := by rw [← digB_cast]; have := digB_le text j; omega
          rw [e]
          exact specSteps_any _ _ w (hz j hj) (by omega)
        obtain ⟨f, hf⟩ : ∃ f : Nat → ByteArray, f = fun j : Nat => stepsB (15 - digB text j) (el.getD j ByteArray.empty) := ⟨_, rfl⟩
        have HF : Hid (∀ j : Nat, j < 6 → stepsB (15 - digB text j) (el.getD j ByteArray.empty) = f j ∧ (f j).size = 32) := fun j hj => ⟨by rw [hf], by rw [hf]; exact stepsB_size _ (hz j hj)⟩
        have HP : Hid (shaB (catB f 6) = leftB text el) := by
          show _ = _
          rw [hf]
          rfl
        have E3 : Hid (∀ w, Calls Tryz.prog 53 #[.string (catB f 6)] w fun e w' => e = .returned (.string (leftB text el)) ∧ Below w.heap.size w w') := fun w => by
          rw [← HP.out]
          exact all_any _ w (by rw [catB_size f 6 (fun j hj => (HF.out j hj).2)]; omega)
        have E4 : Hid (∀ w, Calls Tryz.prog 54 #[.string (leftB text el)] w fun e w' => e = .returned (.string (leafB (leftB text el))) ∧ Below w.heap.size w w') := fun w => leaf_any _ w (by rw [leftB_size]; omega)
        have E5 : Hid (∀ w', Below w.heap.size w w' → Calls Tryz.prog 90 #[.string (leafB (leftB text el)), .int .i64 k, .int .i64 4, .slice a2 pl.length c2, .string root] w' fun e w'' => e = .returned (.bool (inclB (leafB (leftB text el)) k 4 pl root)) ∧ Below w'.heap.size w' w'') := fun w' hb => specIncl_any _ root k 4 _ pl w' ((H0.out.2.2.2.1.below hb).up hb.size) hl2 (by omega) (by omega) (by omega) (by omega) (by rw [leafB_size]; omega) hr
        generalize inclB (leafB (leftB text el)) k 4 pl root = V at *
        generalize leafB (leftB text el) = LB at *
        generalize leftB text el = PB at *
        have hel6 : 6 ≤ el.length := by have := HY.out.2.1; omega
        clear hz hs hr32 ht2 HY hf HP
        go_enter Tryz.func70, Tryz.ntmps70
        go_wp2_with fail
        rw [← HW.out]
        refine E0.out.mono ?_
        rintro e w1 ⟨rfl, hb1⟩
        have H1 : Hid (Below w.heap.size w w1 ∧ w1.heap[w.heap.size]? = some (.cells #[.int .i64 k, .slice (some ⟨b, off, none⟩) el.length c1, .slice a2 pl.length c2] 35 (0, 0))) := ⟨H0.out.1.trans (hb1.mono H0.out.1.size), (hb1.block _ H0.out.2.2.2.2).trans H0.out.2.1⟩
        clear hb1 E0 HW
        go_wp2_with fail
        refine (E1.out _).mono ?_
        rintro e w2 ⟨vd, rfl, hd2, hb2⟩
        obtain ⟨gd, cap3, rfl, hgA, hgB, hgc⟩ := hd2
        have H2 : Hid (VerAt w w2 k (.slice (some ⟨b, off, none⟩) el.length c1) (.slice a2 pl.length c2) b off gd el text) := by
          have hb : Below w.heap.size w w2 := H1.out.1.trans (hb2.mono H1.out.1.size)
          exact ⟨hb, (hb2.block _ (Array.getElem?_eq_some_iff.1 H1.out.2).1).trans H1.out.2, HC.out.1, hgB, fun j hj => (hb.cell (p := ⟨b, off + j, none⟩) HC.out.1).trans (HC.out.2 j hj), hgc⟩
        clear hb2 hgA hgB hgc H1 HC E1
        go_wp2
        go_loopw [8, 9] (fun t x wr => ∃ j : Nat, j ≤ 6 ∧ x = .int .i64 j ∧ t = .string (catB f j) ∧ VerAt w wr k (.slice (some ⟨b, off, none⟩) el.length c1) (.slice a2 pl.length c2) b off gd el text) (fun _ x _ => 6 - (RowKit.intOf x).toNat)
        case atStart => exact ⟨0, by omega, rfl, rfl, H2.out⟩
        case round =>
          clear H2
          obtain ⟨j, hj, rfl, rfl, hV⟩ := hrel
          have HV : Hid (VerAt w wr k (.slice (some ⟨b, off, none⟩) el.length c1) (.slice a2 pl.length c2) b off gd el text) := hV
          have hcs := catB_size f j (fun i hi => (HF.out i (by omega)).2)
          by_cases hjl : j < 6
          · have F2 := fun w => E2.out j w hjl
            rw [(HF.out j hjl).1] at F2
            have G2 : Hid (∀ W, VerAt w W k (.slice (some ⟨b, off, none⟩) el.length c1) (.slice a2 pl.length c2) b off gd el text → Calls Tryz.prog 89 #[.string (el.getD j ByteArray.empty), .int .i64 (15 - digI text j)] W fun e w' => e = .returned (.string (f j)) ∧ VerAt w w' k (.slice (some ⟨b, off, none⟩) el.length c1) (.slice a2 pl.length c2) b off gd el text) := fun W hI => (F2 W).mono (by
              rintro e w' ⟨rfl, hb⟩
              exact ⟨rfl, hI.below hb⟩)
            have b1 : wr.cell? ⟨w.heap.size, 1, none⟩ = some (.slice (some ⟨b, off, none⟩) el.length c1) := (three_cells (Below.refl wr.heap.size wr) (Array.getElem?_eq_some_iff.1 hV.2.1).1 hV.2.1).1.2.1
            have b2 := hV.2.2.2.2.1 j hjl
            have b3 := hV.2.2.2.2.2 j hjl
            have HC : Hid (∀ W, VerAt w W k (.slice (some ⟨b, off, none⟩) el.length c1) (.slice a2 pl.length c2) b off gd el text → W.cell? ⟨w.heap.size, 1, none⟩ = some (.slice (some ⟨b, off, none⟩) el.length c1) ∧ W.cell? ⟨b, off + j, none⟩ = some (.string (el.getD j ByteArray.empty)) ∧ W.cell? ⟨gd, j, none⟩ = some (.int .i64 (digI text j))) := fun W h => ⟨(three_cells (Below.refl W.heap.size W) (Array.getElem?_eq_some_iff.1 h.2.1).1 h.2.1).1.2.1, h.2.2.2.2.1 j hjl, h.2.2.2.2.2 j hjl⟩
            have HDR : Hid (VerAt w wr.drew k (.slice (some ⟨b, off, none⟩) el.length c1) (.slice a2 pl.length c2) b off gd el text) := hV.below (below_drew' (Below.refl _ _))
            obtain ⟨hd0, hd1⟩ := digI_bd text j
            have hwr : IntKind.i64.wrap (15 - digI text j) = 15 - digI text j := by rw [IntKind.wrap_i64]; omega
            have HCJ : Hid (catB f j ++ f j = catB f (j + 1)) := rfl
            have zc : (catB f j).size ≤ 192 := by omega
            have zf : (f j).size ≤ 32 := by have := (HF.out j hjl).2; omega
            generalize el.getD j ByteArray.empty = tj at *
            generalize digI text j = d at *
            generalize catB f j = cj at *
            generalize f j = fj at *
            have hjI : (j : Int) < 6 := by omega
            have hj0 : (0 : Int) ≤ (j : Int) := by omega
            have hjE : (j : Int) < (el.length : Int) := by omega
            have hsum : ¬ 9223372036854775807 < cj.size + fj.size := by omega
            clear F2 hV hcs E2
            go_wp2_with fail
            go_region_held3 (fun w' => w'.cell? ⟨w.heap.size, 1, none⟩ = some (.slice (some ⟨b, off, none⟩) el.length c1) ∧ w'.cell? ⟨b, off + j, none⟩ = some (.string tj) ∧ w'.cell? ⟨gd, j, none⟩ = some (.int .i64 d)) (go_keep)
              ((go_at_call 89; (with_reducible refine (G2.out _ ?_).mono ?_); (first | exact HV.out | exact HDR.out); rintro e wa ⟨rfl, hia⟩; have HA1 : Hid (VerAt w wa k (.slice (some ⟨b, off, none⟩) el.length c1) (.slice a2 pl.length c2) b off gd el text) := hia; obtain ⟨x1, x2, x3⟩ := HC.out _ hia; clear hia))
            all_goals
              go_wp2
              go_roundw
              case rel => exact ⟨j + 1, by omega, by go_num, congrArg Value.string HCJ.out, (by first | exact HA1.out | exact HA1.out.below (below_drew' (Below.refl _ _)))⟩
              case measure => simp [RowKit.intOf]; omega
          · have e6 : j = 6 := by omega
            rw [← e6] at E3
            have G3 : Hid (∀ W, VerAt w W k (.slice (some ⟨b, off, none⟩) el.length c1) (.slice a2 pl.length c2) b off gd el text → Calls Tryz.prog 53 #[.string (catB f j)] W fun e w' => e = .returned (.string PB) ∧ VerAt w w' k (.slice (some ⟨b, off, none⟩) el.length c1) (.slice a2 pl.length c2) b off gd el text) := fun W hI => (E3.out W).mono (by
              rintro e w' ⟨rfl, hb⟩
              exact ⟨rfl, hI.below hb⟩)
            have G4 : Hid (∀ W, VerAt w W k (.slice (some ⟨b, off, none⟩) el.length c1) (.slice a2 pl.length c2) b off gd el text → Calls Tryz.prog 54 #[.string PB] W fun e w' => e = .returned (.string LB) ∧ VerAt w w' k (.slice (some ⟨b, off, none⟩) el.length c1) (.slice a2 pl.length c2) b off gd el text) := fun W hI => (E4.out W).mono (by
              rintro e w' ⟨rfl, hb⟩
              exact ⟨rfl, hI.below hb⟩)
            have G5 : Hid (∀ W, VerAt w W k (.slice (some ⟨b, off, none⟩) el.length c1) (.slice a2 pl.length c2) b off gd el text → Calls Tryz.prog 90 #[.string LB, .int .i64 k, .int .i64 4, .slice a2 pl.length c2, .string root] W fun e w' => e = .returned (.bool V) ∧ VerAt w w' k (.slice (some ⟨b, off, none⟩) el.length c1) (.slice a2 pl.length c2) b off gd el text) := fun W hI => (E5.out W hI.1).mono (by
              rintro e w' ⟨rfl, hb⟩
              exact ⟨rfl, hI.below hb⟩)
            have HC : Hid (∀ W, VerAt w W k (.slice (some ⟨b, off, none⟩) el.length c1) (.slice a2 pl.length c2) b off gd el text → W.cell? ⟨w.heap.size, 0, none⟩ = some (.int .i64 k) ∧ W.cell? ⟨w.heap.size, 2, none⟩ = some (.slice a2 pl.length c2)) := fun W h => ⟨(three_cells (Below.refl W.heap.size W) (Array.getElem?_eq_some_iff.1 h.2.1).1 h.2.1).1.1, (three_cells (Below.refl W.heap.size W) (Array.getElem?_eq_some_iff.1 h.2.1).1 h.2.1).1.2.2⟩
            have HDR : Hid (VerAt w wr.drew k (.slice (some ⟨b, off, none⟩) el.length c1) (.slice a2 pl.length c2) b off gd el text) := hV.below (below_drew' (Below.refl _ _))
            obtain ⟨b0, b2⟩ := HC.out _ hV
            generalize catB f j = cj at *
            have hjI : ¬ (j : Int) < 6 := by omega
            clear hV hcs e6 E2 E3 E4 E5 HF
            go_wp2_with fail
            go_region_held3 (fun w' => w'.cell? ⟨w.heap.size, 0, none⟩ = some (.int .i64 k) ∧ w'.cell? ⟨w.heap.size, 2, none⟩ = some (.slice a2 pl.length c2)) (go_keep)
              (first
                | (go_at_call 53; (with_reducible refine (G3.out _ ?_).mono ?_); (first | exact HV.out | exact HDR.out); rintro e wa ⟨rfl, hia⟩; have HA1 : Hid (VerAt w wa k (.slice (some ⟨b, off, none⟩) el.length c1) (.slice a2 pl.length c2) b off gd el text) := hia; obtain ⟨x1, x2⟩ := HC.out _ hia; clear hia)
                | (go_at_call 54; (with_reducible refine (G4.out _ ?_).mono ?_); exact HA1.out; rintro e wb ⟨rfl, hia⟩; have HA2 : Hid (VerAt w wb k (.slice (some ⟨b, off, none⟩) el.length c1) (.slice a2 pl.length c2) b off gd el text) := hia; obtain ⟨y1, y2⟩ := HC.out _ hia; clear hia)
                | (go_at_call 90; (with_reducible refine (G5.out _ ?_).mono ?_); exact HA2.out; rintro e wc ⟨rfl, hia⟩; have HA3 : Hid (VerAt w wc k (.slice (some ⟨b, off, none⟩) el.length c1) (.slice a2 pl.length c2) b off gd el text) := hia; obtain ⟨z1, z2⟩ := HC.out _ hia; clear hia))
            all_goals
              go_wp2
              go_ret
              exact ⟨rfl, HA3.out.1⟩
      · rw [verB_text hs hr32 ht2]
        have htI : 20000 < (text.size : Int) := by omega
        clear hs ht2 hr32
        go_enter Tryz.func70, Tryz.ntmps70
        go_wp2_with fail
        rw [← HW.out]
        refine E0.out.mono ?_
        rintro e w1 ⟨rfl, hb1⟩
        have H1 : Hid (Below w.heap.size w w1) := H0.out.1.trans (hb1.mono H0.out.1.size)
        clear hb1 E0 HW
        go_wp2
        go_ret
        exact ⟨rfl, H1.out⟩
    · rw [verB_root hs hr32]
      have q1 : ((root.size : Int) != 32) = true := by simpa using hr32
      clear hs hr32
      go_enter Tryz.func70, Tryz.ntmps70
      go_wp2_with fail
      rw [← HW.out]
      refine E0.out.mono ?_
      rintro e w1 ⟨rfl, hb1⟩
      have H1 : Hid (Below w.heap.size w w1) := H0.out.1.trans (hb1.mono H0.out.1.size)
      clear hb1 E0 HW
      go_wp2
      go_ret
      exact ⟨rfl, H1.out⟩
  · have hf : sigRB k el pl = false := by simpa using hs
    rw [hf] at E0
    rw [verB_sig hf]
    clear hs hf
    go_enter Tryz.func70, Tryz.ntmps70
    go_wp2_with fail
    rw [← HW.out]
    refine E0.out.mono ?_
    rintro e w1 ⟨rfl, hb1⟩
    have H1 : Hid (Below w.heap.size w w1) := H0.out.1.trans (hb1.mono H0.out.1.size)
    clear hb1 E0 HW
    go_wp2
    go_ret
    exact ⟨rfl, H1.out⟩
end Go.Proofs.YtcenlgfopmahcaaGreatDoor

/-
  HeadGood, the document's.
-/
namespace Go.Proofs.YtcenlgfopmahcaaGreatDoor
open Go.RowKit Go.Lib
set_option linter.unusedVariables false
set_option linter.unusedSimpArgs false

set_option maxHeartbeats 4000000 in
set_option maxRecDepth 10000 in
theorem specHeadGood_any (r log root : ByteArray) (size time k : Int) (ve vp : Value) (el pl : List ByteArray) (w : World) (h1 : Texts w w.heap.size ve el) (h2 : Texts w w.heap.size vp pl) (hl1 : el.length ≤ 1048576) (hl2 : pl.length ≤ 1048576) (hlog : log.size ≤ 1048576) (hroot : root.size ≤ 1048576) (hr : r.size ≤ 1048576) (hs : -9223372036854775808 ≤ size ∧ size ≤ 9223372036854775807) (ht : -9223372036854775808 ≤ time ∧ time ≤ 9223372036854775807) :
    Calls Tryz.prog 52 #[.string r, .agg #[.string log, .int .i64 size, .string root, .int .i64 time, .int .i64 k, ve, vp]] w fun e w' => e = .returned (.bool (headGB r log size root time k el pl)) ∧ Below w.heap.size w w' := by
  obtain ⟨a1, c1, rfl, _⟩ := id h1
  obtain ⟨a2, c2, rfl, _⟩ := id h2
  obtain ⟨W, hW⟩ : ∃ W, W = w.alloc (.cells #[.string log, .int .i64 size, .string root, .int .i64 time, .int .i64 k, .slice a1 el.length c1, .slice a2 pl.length c2] 37) := ⟨_, rfl⟩
  have hbW : Below w.heap.size w W := by rw [hW]; exact (Below.refl _ _).alloc (Nat.le_refl _) _
  have H0 : Hid (Below w.heap.size w W ∧ W.heap[w.heap.size]? = some (.cells #[.string log, .int .i64 size, .string root, .int .i64 time, .int .i64 k, .slice a1 el.length c1, .slice a2 pl.length c2] 37 (0, 0)) ∧ w.heap.size < W.heap.size) := by
    refine ⟨hbW, ?_, ?_⟩
    · rw [hW]; exact heap_alloc_new w _
    · rw [hW]; simp
  have HW : Hid (W = w.alloc (.cells #[.string log, .int .i64 size, .string root, .int .i64 time, .int .i64 k, .slice a1 el.length c1, .slice a2 pl.length c2] 37)) := hW
  have HT : Hid (∀ W', Below W.heap.size W W' → Texts W' W'.heap.size (.slice a1 el.length c1) el ∧ Texts W' W'.heap.size (.slice a2 pl.length c2) pl) := fun W' hb => by
    have hb2 := hbW.trans (hb.mono hbW.size)
    exact ⟨(h1.below hb2).up hb2.size, (h2.below hb2).up hb2.size⟩
  have HC : Hid (∀ W', Below W.heap.size W W' → (W'.cell? ⟨w.heap.size, 0, none⟩ = some (.string log) ∧ W'.cell? ⟨w.heap.size, 1, none⟩ = some (.int .i64 size) ∧ W'.cell? ⟨w.heap.size, 2, none⟩ = some (.string root) ∧ W'.cell? ⟨w.heap.size, 3, none⟩ = some (.int .i64 time) ∧ W'.cell? ⟨w.heap.size, 4, none⟩ = some (.int .i64 k) ∧ W'.cell? ⟨w.heap.size, 5, none⟩ = some (.slice a1 el.length c1) ∧ W'.cell? ⟨w.heap.size, 6, none⟩ = some (.slice a2 pl.length c2)) ∧ (W'.drew.cell? ⟨w.heap.size, 0, none⟩ = some (.string log) ∧ W'.drew.cell? ⟨w.heap.size, 1, none⟩ = some (.int .i64 size) ∧ W'.drew.cell? ⟨w.heap.size, 2, none⟩ = some (.string root) ∧ W'.drew.cell? ⟨w.heap.size, 3, none⟩ = some (.int .i64 time) ∧ W'.drew.cell? ⟨w.heap.size, 4, none⟩ = some (.int .i64 k) ∧ W'.drew.cell? ⟨w.heap.size, 5, none⟩ = some (.slice a1 el.length c1) ∧ W'.drew.cell? ⟨w.heap.size, 6, none⟩ = some (.slice a2 pl.length c2))) := fun W' hb => by
    obtain ⟨c, _⟩ := seven_cells hb H0.out.2.2 H0.out.2.1
    exact ⟨c, c⟩
  have hhs := headT_size log size root time
  have G0 : Hid (∀ W', Below W.heap.size W W' → Calls Tryz.prog 69 #[.agg #[.string log, .int .i64 size, .string root, .int .i64 time, .int .i64 k, .slice a1 el.length c1, .slice a2 pl.length c2]] W' fun e w'' => e = .returned (.bool (headRB log size root time k el pl)) ∧ Below W.heap.size W w'') := fun W' hb => (specHeadRight_any log root size time k _ _ el pl W' (HT.out W' hb).1 (HT.out W' hb).2 hl1 hl2 hlog hroot).mono fun e w'' h => ⟨h.1, hb.trans (h.2.mono hb.size)⟩
  have G1 : Hid (headRB log size root time k el pl = true → ∀ W', Below W.heap.size W W' → Calls Tryz.prog 71 #[.agg #[.string log, .int .i64 size, .string root, .int .i64 time, .int .i64 k, .slice a1 el.length c1, .slice a2 pl.length c2]] W' fun e w'' => e = .returned (.string (headT log size root time)) ∧ Below W.heap.size W w'') := fun hb1 W' hb => (l05Text_any _ _ _ _ _ _ _ _ _ _ _ W' hlog hroot hs ht).mono fun e w'' h => ⟨h.1, hb.trans (h.2.mono hb.size)⟩
  have G2 : Hid (∀ W', Below W.heap.size W W' → Calls Tryz.prog 70 #[.string r, .string (headT log size root time), .agg #[.int .i64 k, .slice a1 el.length c1, .slice a2 pl.length c2]] W' fun e w'' => e = .returned (.bool (verB r (headT log size root time) k el pl)) ∧ Below W.heap.size W w'') := fun W' hb => (specVerify_any r _ k _ _ el pl W' (HT.out W' hb).1 (HT.out W' hb).2 hl1 hl2 hr (by omega)).mono fun e w'' h => ⟨h.1, hb.trans (h.2.mono hb.size)⟩
  have HB0 : Hid (Below W.heap.size W W) := Below.refl _ _
  have HD0 : Hid (Below W.heap.size W W.drew) := below_drew' (Below.refl _ _)
  obtain ⟨⟨c0, c1', c2', c3, c4, c5, c6⟩, d0, d1, d2, d3, d4, d5, d6⟩ := HC.out W (Below.refl _ _)
  unfold headGB
  generalize headRB log size root time k el pl = b at *
  generalize headT log size root time = t at *
  generalize verB r t k el pl = bv at *
  clear h1 h2 hW hbW hlog hroot hs ht hhs hr HT
  cases b with
  | false =>
    clear G1 G2
    go_enter Tryz.func52, Tryz.ntmps52
    go_wp2_with fail
    rw [← HW.out]
    clear HW
    refine wp_region_any (by kernel_rfl) ?_
    try (change wpAny _ _ _ _ _ _ _ (World.drew _))
    refine wpAny_ready (rs := [0]) (by kernel_rfl) (by simp) ?_
    refine AllReady.cons rfl (fun K hK => ?_) AllReady.nil
    go_simp
    refine hK _ _ ?_
    clear hK K
    refine wpAny_ready (rs := [1]) (by kernel_rfl) (by simp) ?_
    refine AllReady.cons rfl (fun K hK => ?_) AllReady.nil
    go_simp
    go_wp2_with ((go_at_call 69; (with_reducible refine (G0.out _ ?_).mono ?_); (first | exact HB0.out | exact HD0.out); rintro e wa ⟨rfl, hia⟩; have HA1 : Hid (Below W.heap.size W wa) := hia; clear hia))
    refine wpAny_take (i := 2) (v := .bool false) rfl (by kernel_rfl) (by kernel_rfl) (by kernel_rfl) (fun _ _ _ h => h) (Or.inl ⟨by rfl, fun w => by go_simp⟩) ?_
    refine wpAny_take (i := 3) (v := undef) rfl (by kernel_rfl) (by kernel_rfl) (by kernel_rfl) (fun _ _ _ h => h) (Or.inr ⟨by rfl, rfl⟩) ?_
    refine wpAny_take (i := 4) (v := undef) rfl (by kernel_rfl) (by kernel_rfl) (by kernel_rfl) (fun _ _ _ h => h) (Or.inr ⟨by rfl, rfl⟩) ?_
    refine wpAny_take (i := 5) (v := undef) rfl (by kernel_rfl) (by kernel_rfl) (by kernel_rfl) (fun _ _ _ h => h) (Or.inr ⟨by rfl, rfl⟩) ?_
    refine wpAny_take (i := 6) (v := undef) rfl (by kernel_rfl) (by kernel_rfl) (by kernel_rfl) (fun _ _ _ h => h) (Or.inr ⟨by rfl, rfl⟩) ?_
    refine wpAny_take (i := 7) (v := undef) rfl (by kernel_rfl) (by kernel_rfl) (by kernel_rfl) (fun _ _ _ h => h) (Or.inr ⟨by rfl, rfl⟩) ?_
    refine wpAny_take (i := 8) (v := undef) rfl (by kernel_rfl) (by kernel_rfl) (by kernel_rfl) (fun _ _ _ h => h) (Or.inr ⟨by rfl, rfl⟩) ?_
    refine wpAny_take (i := 9) (v := .bool false) rfl (by kernel_rfl) (by kernel_rfl) (by kernel_rfl) (fun _ _ _ h => h) (Or.inl ⟨by rfl, fun w => by go_simp⟩) ?_
    refine wpAny_take (i := 10) (v := .bool false) rfl (by kernel_rfl) (by kernel_rfl) (by kernel_rfl) (fun _ _ _ h => h) (Or.inl ⟨by rfl, fun w => by go_simp⟩) ?_
    refine wpAny_done (by kernel_rfl) ?_ _
    go_wp2
    exact bodyPost_ret (v := .bool false) (by kernel_rfl) rfl ⟨rfl, H0.out.1.trans (HA1.out.mono H0.out.1.size)⟩
  | true =>
    have G1' := G1.out rfl
    clear G1
    have G1 : Hid _ := G1'
    clear G1'
    go_enter Tryz.func52, Tryz.ntmps52
    go_wp2_with fail
    rw [← HW.out]
    clear HW
    go_region_held3 (fun w' => w'.cell? ⟨w.heap.size, 0, none⟩ = some (.string log) ∧ w'.cell? ⟨w.heap.size, 1, none⟩ = some (.int .i64 size) ∧ w'.cell? ⟨w.heap.size, 2, none⟩ = some (.string root) ∧ w'.cell? ⟨w.heap.size, 3, none⟩ = some (.int .i64 time) ∧ w'.cell? ⟨w.heap.size, 4, none⟩ = some (.int .i64 k) ∧ w'.cell? ⟨w.heap.size, 5, none⟩ = some (.slice a1 el.length c1) ∧ w'.cell? ⟨w.heap.size, 6, none⟩ = some (.slice a2 pl.length c2)) (go_keep)
      (first
        | (go_at_call 69; (with_reducible refine (G0.out _ ?_).mono ?_); (first | exact HB0.out | exact HD0.out); rintro e wa ⟨rfl, hia⟩; have HA1 : Hid (Below W.heap.size W wa) := hia; obtain ⟨⟨x0, x1, x2, x3, x4, x5, x6⟩, _⟩ := HC.out _ hia; clear hia)
        | (go_at_call 71; (with_reducible refine (G1.out _ ?_).mono ?_); exact HA1.out; rintro e wb ⟨rfl, hia⟩; have HA2 : Hid (Below W.heap.size W wb) := hia; obtain ⟨⟨y0, y1, y2, y3, y4, y5, y6⟩, _⟩ := HC.out _ hia; clear hia)
        | (go_at_call 70; (with_reducible refine (G2.out _ ?_).mono ?_); exact HA2.out; rintro e wc ⟨rfl, hia⟩; have HA3 : Hid (Below W.heap.size W wc) := hia; obtain ⟨⟨z0, z1, z2, z3, z4, z5, z6⟩, _⟩ := HC.out _ hia; clear hia))
    all_goals
      go_wp2
      go_ret
      exact ⟨rfl, H0.out.1.trans (HA3.out.mono H0.out.1.size)⟩
end Go.Proofs.YtcenlgfopmahcaaGreatDoor
