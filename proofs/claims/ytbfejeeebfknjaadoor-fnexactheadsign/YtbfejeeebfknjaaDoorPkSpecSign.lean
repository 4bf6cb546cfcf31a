/-
  The document's Sign.
-/
import Derived.Test.YtbfejeeebfknjaaDoorPkRight
import Derived.Test.YtbfejeeebfknjaaDoorPkSpecTree
import Derived.Test.YtbfejeeebfknjaaDoorPkSpecDigits
import Derived.Test.YtbfejeeebfknjaaDoorPkCells
import Derived.Test.YtbfejeeebfknjaaDoorPkStepLaws
import Derived.Test.YtbfejeeebfknjaaDoorPkTexts
import Derived.Test.YtbfejeeebfknjaaDoorPkSpecNode
import Derived.Test.YtbfejeeebfknjaaDoorPkHeadGV
import Derived.Test.YtbfejeeebfknjaaDoorPkSpecHeadT
import Derived.Test.YtbfejeeebfknjaaDoorPkHeadSV
import Derived.Deep.RegionHeld3
import Derived.Deep.RegionWith
namespace Go.Proofs.YtbfejeeebfknjaaDoor
open Go.RowKit Go.Lib
set_option linter.unusedVariables false
set_option linter.unusedSimpArgs false

/-- In between: the answer's block, the signature's block g, its path, the digits. -/
def SigAt (w wr : World) (H g : Nat) (k : Int) (ve vp vd : Value) (t : ByteArray) (pl : List ByteArray) : Prop :=
  w.heap.size < g ∧ g < H ∧ H ≤ wr.heap.size ∧ wr.heap[w.heap.size]? = some (.cells #[.int .i64 0, .slice none 0 0, .slice none 0 0] 34 (0, 0)) ∧
  wr.heap[g]? = some (.cells #[.int .i64 k, ve, vp] 34 (0, 0)) ∧ TextsIn wr (w.heap.size + 1) g vp pl ∧ DigRow wr (g + 1) H vd t ∧ Below w.heap.size w wr
theorem SigAt.step {w wr w1 : World} {H g : Nat} {k : Int} {ve vp vd : Value} {t : ByteArray} {pl : List ByteArray} (h : SigAt w wr H g k ve vp vd t pl) (hb : Below H wr w1) : SigAt w w1 H g k ve vp vd t pl := by
  obtain ⟨h1, h2, h3, h4, h5, h6, h7, h8⟩ := h
  exact ⟨h1, h2, Nat.le_trans h3 hb.size, (hb.block _ (by omega)).trans h4, (hb.block _ h2).trans h5, h6.below (hb.mono (by omega)), h7.below hb, h8.trans (hb.mono (by omega))⟩
theorem SigAt.put {w wr : World} {H g : Nat} {k : Int} {ve vp vd : Value} {t : ByteArray} {pl : List ByteArray} (h : SigAt w wr H g k ve vp vd t pl) (v : Value) : SigAt w (wr.setCell ⟨g, 1, none⟩ v) H g k v vp vd t pl := by
  obtain ⟨h1, h2, h3, h4, h5, h6, h7, h8⟩ := h
  refine ⟨h1, h2, by simpa [World.setCell] using h3, ?_, ?_, h6.below ((Below.refl g wr).setCell (p := ⟨g, 1, none⟩) (Nat.le_refl _) _), h7.put g 1 (by omega) v, h8.setCell (by simp; omega) _⟩
  · rw [heap_setCell_other _ _ _ _ (by simp; omega)]
    exact h4
  · rw [heap_setCell_same wr g 1 _ _ _ h5]
    rfl
theorem SigAt.cells {w wr : World} {H g gd cap : Nat} {k : Int} {ve vp : Value} {t : ByteArray} {pl : List ByteArray} (h : SigAt w wr H g k ve vp (.slice (some ⟨gd, 0, none⟩) 6 cap) t pl) (j : Nat) (hj : j < 6) :
    (wr.cell? ⟨g, 1, none⟩ = some ve ∧ wr.cell? ⟨gd, j, none⟩ = some (.int .i64 (digI t j)) ∧ wr.frozen? ⟨g, 1, none⟩ = false) ∧
    ∀ q : Obj, ((wr.alloc q).cell? ⟨g, 1, none⟩ = some ve ∧ (wr.alloc q).cell? ⟨gd, j, none⟩ = some (.int .i64 (digI t j))) ∧ ((wr.alloc q).drew.cell? ⟨g, 1, none⟩ = some ve ∧ (wr.alloc q).drew.cell? ⟨gd, j, none⟩ = some (.int .i64 (digI t j))) := by
  have key : ∀ W : World, SigAt w W H g k ve vp (.slice (some ⟨gd, 0, none⟩) 6 cap) t pl → W.cell? ⟨g, 1, none⟩ = some ve ∧ W.cell? ⟨gd, j, none⟩ = some (.int .i64 (digI t j)) ∧ W.frozen? ⟨g, 1, none⟩ = false := by
    rintro W ⟨h1, h2, h3, h4, h5, h6, ⟨gd', cap', hv, hA, hB, hc⟩, h8⟩
    simp at hv
    obtain ⟨rfl, rfl⟩ := hv
    exact ⟨by simp [World.cell?, h5], hc j hj, by simp [World.frozen?, h5]⟩
  have hH := h.2.2.1
  refine ⟨key wr h, fun q => ?_⟩
  have ha := h.step ((Below.refl H wr).alloc hH q)
  have hd := h.step (below_drew' ((Below.refl H wr).alloc hH q))
  exact ⟨⟨(key _ ha).1, (key _ ha).2.1⟩, ⟨(key _ hd).1, (key _ hd).2.1⟩⟩
/-- The first Ends are there. -/
def EndsAt (w wr : World) (H g : Nat) (k : Int) (ve vp vd : Value) (t : ByteArray) (pl l : List ByteArray) : Prop := OwnT wr H ve l ∧ SigAt w wr H g k ve vp vd t pl
theorem EndsAt.below {w wr w1 : World} {H g : Nat} {k : Int} {ve vp vd : Value} {t : ByteArray} {pl l : List ByteArray} (h : EndsAt w wr H g k ve vp vd t pl l) (hb : Below wr.heap.size wr w1) : EndsAt w w1 H g k ve vp vd t pl l :=
  ⟨h.1.below hb (Nat.le_refl _), h.2.step (hb.mono h.2.2.2.1)⟩
theorem EndsAt.drew {w wr : World} {H g : Nat} {k : Int} {ve vp vd : Value} {t : ByteArray} {pl l : List ByteArray} (h : EndsAt w wr H g k ve vp vd t pl l) : EndsAt w wr.drew H g k ve vp vd t pl l := ⟨h.1, h.2.step (below_drew' (Below.refl _ _))⟩
theorem ends_snoc (s : ByteArray) (k : Int) (t : ByteArray) (j : Nat) : (List.range j).map (fun j : Nat => stepsB (digB t j) (beginB s k j)) ++ [stepsB (digB t j) (beginB s k j)] = (List.range (j + 1)).map (fun j : Nat => stepsB (digB t j) (beginB s k j)) := by simp [List.range_succ]

set_option maxHeartbeats 2000000 in
set_option maxRecDepth 10000 in
theorem specSignY_any (s : ByteArray) (k : Int) (t : ByteArray) (w : World) (hs : s.size ≤ 64) (hk0 : 0 ≤ k) (hk1 : k ≤ 3) (ht : t.size ≤ 20000) :
    Calls Tryd.prog 40 #[.string s, .int .i64 k, .string t] w fun e w' => ∃ ve vp, e = .returned (.agg #[.int .i64 k, ve, vp]) ∧ TextsIn w' w.heap.size w'.heap.size ve (endsB s k t) ∧ TextsIn w' w.heap.size w'.heap.size vp (pathB (pubsB s) k.toNat) ∧ Below w.heap.size w w' := by
  have E1 : Hid (∀ w, Calls Tryd.prog 70 #[.string s] w fun e w' => ∃ v, e = .returned v ∧ OwnT w' w.heap.size v (pubsB s) ∧ Below w.heap.size w w') := fun w => specPubs_any s w hs
  have E2 : Hid (∀ v w, Texts w w.heap.size v (pubsB s) → Calls Tryd.prog 69 #[v, .int .i64 k] w fun e w' => ∃ v', e = .returned v' ∧ OwnT w' w.heap.size v' (pathB (pubsB s) k.toNat) ∧ Below w.heap.size w w') := fun v w h =>
    specPath_any 4 (pubsB s) (pubsB_len s) (by omega) (by omega) (pubsB_size s) k.toNat k v w (by omega) (by omega) h
  have E3 : Hid (∀ w, Calls Tryd.prog 71 #[.string t] w fun e w' => ∃ v, e = .returned v ∧ DigRow w' w.heap.size w'.heap.size v t ∧ Below w.heap.size w w') := fun w => specDigits_any t w ht
  have E4 : Hid (∀ (j : Nat) (w : World), j < 6 → Calls Tryd.prog 73 #[.string s, .int .i64 k, .int .i64 j] w fun e w' => e = .returned (.string (beginB s k j)) ∧ Below w.heap.size w w') := fun j w hj => specBegin_any s k j w hs hk0 (by omega) (by omega) (by omega)
  have E5 : Hid (∀ (j : Nat) (w : World), Calls Tryd.prog 72 #[.string (beginB s k j), .int .i64 (digI t j)] w fun e w' => e = .returned (.string (stepsB (digB t j) (beginB s k j))) ∧ Below w.heap.size w w') := fun j w => by
    rw [← digB_cast]
    exact specSteps_any _ _ w (beginB_size _ _ _) (digB_le t j)
  generalize pubsB s = L at *
  generalize pathB L k.toNat = P at *
  clear hs ht
  go_enter Tryd.func40, Tryd.ntmps40
  go_wp2_with fail
  refine (E1.out _).mono ?_
  rintro e w1 ⟨v1, rfl, hown1, hb1⟩
  have H1 : Hid (Below (w.alloc (.cells #[.int .i64 0, .slice none 0 0, .slice none 0 0] 34)).heap.size (w.alloc (.cells #[.int .i64 0, .slice none 0 0, .slice none 0 0] 34)) w1 ∧ Texts w1 w1.heap.size v1 L) := ⟨hb1, hown1.texts⟩
  clear hown1 hb1 E1
  go_wp2_with fail
  refine (E2.out _ _ H1.out.2).mono ?_
  rintro e w2 ⟨v2, rfl, hown2, hb2⟩
  obtain ⟨a2, cap2, rfl⟩ := hown2.len
  have H2 : Hid (Below (w.alloc (.cells #[.int .i64 0, .slice none 0 0, .slice none 0 0] 34)).heap.size (w.alloc (.cells #[.int .i64 0, .slice none 0 0, .slice none 0 0] 34)) w2 ∧ TextsIn w2 (w.heap.size + 1) w2.heap.size (.slice a2 P.length cap2) P) := ⟨H1.out.1.trans (hb2.mono H1.out.1.size), hown2.inside.wide (by have := H1.out.1.size; simp at this; omega) (Nat.le_refl _)⟩
  clear hown2 hb2 E2 H1
  go_wp2_with fail
  refine (E3.out _).mono ?_
  rintro e w3 ⟨v3, rfl, hd3, hb3⟩
  obtain ⟨gd, cap3, rfl, hgA, hgB, hgc⟩ := id hd3
  have hz2 : w.heap.size + 1 ≤ w2.heap.size := by have := H2.out.1.size; simp at this; omega
  have hz3 : w2.heap.size + 1 ≤ w3.heap.size := by have := hb3.size; simp at this; omega
  have H3 : Hid (SigAt w w3 w3.heap.size w2.heap.size k (.slice none 0 0) (.slice a2 P.length cap2) (.slice (some ⟨gd, 0, none⟩) 6 cap3) t P) := by
    have hal : Below w2.heap.size w2 w3 := below_after hb3
    refine ⟨by omega, by omega, Nat.le_refl _, ?_, (hb3.block _ (by simp)).trans (heap_alloc_new w2 _), H2.out.2.below hal, ⟨gd, cap3, rfl, by simpa using hgA, hgB, hgc⟩, (below_after H2.out.1).trans (hal.mono (by omega))⟩
    exact (hal.block _ (by omega)).trans ((H2.out.1.block _ (by simp)).trans (heap_alloc_new w _))
  generalize hHH : w3.heap.size = H at *
  generalize hGG : w2.heap.size = g at *
  clear hd3 hb3 hgA hgB hgc H2 hz2 hz3 E3 hHH hGG
  obtain ⟨f, hf⟩ : ∃ f : Nat → ByteArray, f = fun j : Nat => stepsB (digB t j) (beginB s k j) := ⟨_, rfl⟩
  have HF : Hid (∀ j : Nat, stepsB (digB t j) (beginB s k j) = f j) := fun j => by rw [hf]
  have HFE : Hid ((List.range 6).map f = endsB s k t) := by
    show _ = _
    rw [hf]
    rfl
  clear hf
  go_wp2
  go_loopw [9] (fun x wr => ∃ (j : Nat) (ve : Value), j ≤ 6 ∧ x = .int .i64 j ∧ OwnT wr H ve ((List.range j).map f) ∧ SigAt w wr H g k ve (.slice a2 P.length cap2) (.slice (some ⟨gd, 0, none⟩) 6 cap3) t P) (fun x _ => 6 - (intOf x).toNat)
  case atStart => exact ⟨0, _, by omega, rfl, OwnT.nil _ _, H3.out⟩
  case round =>
    clear H3
    obtain ⟨j, ve, hj, rfl, hown, hS⟩ := hrel
    by_cases hlt : j < 6
    · have G5 := fun w => E5.out j w
      rw [HF.out j] at G5
      have F4 : Hid (∀ W, EndsAt w W H g k ve (.slice a2 P.length cap2) (.slice (some ⟨gd, 0, none⟩) 6 cap3) t P ((List.range j).map f) → Calls Tryd.prog 73 #[.string s, .int .i64 k, .int .i64 j] W fun e w' => e = .returned (.string (beginB s k j)) ∧ EndsAt w w' H g k ve (.slice a2 P.length cap2) (.slice (some ⟨gd, 0, none⟩) 6 cap3) t P ((List.range j).map f)) := fun W hI => (E4.out j W hlt).mono (by
        rintro e w' ⟨rfl, hb⟩
        exact ⟨rfl, hI.below hb⟩)
      have F5 : Hid (∀ W, EndsAt w W H g k ve (.slice a2 P.length cap2) (.slice (some ⟨gd, 0, none⟩) 6 cap3) t P ((List.range j).map f) → Calls Tryd.prog 72 #[.string (beginB s k j), .int .i64 (digI t j)] W fun e w' => e = .returned (.string (f j)) ∧ EndsAt w w' H g k ve (.slice a2 P.length cap2) (.slice (some ⟨gd, 0, none⟩) 6 cap3) t P ((List.range j).map f)) := fun W hI => (G5 W).mono (by
        rintro e w' ⟨rfl, hb⟩
        exact ⟨rfl, hI.below hb⟩)
      have HS : Hid ((List.range j).map f ++ [f j] = (List.range (j + 1)).map f) := by
        show _ = _
        simp [List.range_succ]
      have hll : ((List.range j).map f).length ≤ 1048576 := by simp; omega
      obtain ⟨⟨c1, c2, z1⟩, hal⟩ := hS.cells j hlt
      have HA : Hid (EndsAt w wr H g k ve (.slice a2 P.length cap2) (.slice (some ⟨gd, 0, none⟩) 6 cap3) t P ((List.range j).map f)) := ⟨hown, hS⟩
      have HC : Hid (∀ W, SigAt w W H g k ve (.slice a2 P.length cap2) (.slice (some ⟨gd, 0, none⟩) 6 cap3) t P → (W.cell? ⟨g, 1, none⟩ = some ve ∧ W.cell? ⟨gd, j, none⟩ = some (.int .i64 (digI t j)) ∧ W.frozen? ⟨g, 1, none⟩ = false) ∧
          ∀ q : Obj, ((W.alloc q).cell? ⟨g, 1, none⟩ = some ve ∧ (W.alloc q).cell? ⟨gd, j, none⟩ = some (.int .i64 (digI t j))) ∧ ((W.alloc q).drew.cell? ⟨g, 1, none⟩ = some ve ∧ (W.alloc q).drew.cell? ⟨gd, j, none⟩ = some (.int .i64 (digI t j)))) := fun W h => h.cells j hlt
      generalize (List.range j).map f = l at *
      generalize f j = T at *
      generalize beginB s k j = B at *
      generalize digI t j = d at *
      have hjI : (j : Int) < 6 := by omega
      have hj0 : (0 : Int) ≤ (j : Int) := by omega
      clear G5 hown hS E4 E5
      go_wp2_with fail
      go_region_law (first
        | (refine step_enter rfl 73 #[.string s, .int .i64 k, .int .i64 j] (F4.out _ ?_) ?_ ?_; (first | exact HA.out | exact HA.out.drew); go_simp; rintro e wa ⟨rfl, hia⟩; refine ⟨_, rfl, ?_⟩; have HA1 : Hid (EndsAt w wa H g k ve (.slice a2 P.length cap2) (.slice (some ⟨gd, 0, none⟩) 6 cap3) t P l) := hia; obtain ⟨⟨x1, x2, x3⟩, x4⟩ := HC.out _ hia.2; clear hia)
        | (refine step_enter rfl 72 #[.string B, .int .i64 d] (F5.out _ ?_) ?_ ?_; (first | exact HA1.out | exact HA1.out.drew); go_simp; rintro e wb ⟨rfl, hia⟩; refine ⟨_, rfl, ?_⟩; have HA2 : Hid (EndsAt w wb H g k ve (.slice a2 P.length cap2) (.slice (some ⟨gd, 0, none⟩) 6 cap3) t P l) := hia; obtain ⟨⟨y1, y2, y3⟩, y4⟩ := HC.out _ hia.2; clear hia)
        | (refine step_app_text (w := wb) rfl (.tmp 23) (.tmp 33) rfl H ve l T (by simp [Act.eval]) HA2.out.1 (by simp [Act.eval]) hll HA2.out.2.2.2.1 ?_; intro v4 w4 hown4 hb4; obtain ⟨a4, cap4, rfl⟩ := hown4.len; have HS4 : Hid (OwnT w4 H (.slice a4 (l ++ [T]).length cap4) (l ++ [T]) ∧ SigAt w w4 H g k ve (.slice a2 P.length cap2) (.slice (some ⟨gd, 0, none⟩) 6 cap3) t P) := ⟨hown4, HA2.out.2.step hb4⟩; obtain ⟨⟨r1, r2, r3⟩, r4⟩ := HC.out _ HS4.out.2; clear hown4 hb4))
      all_goals
        have hlen : (l ++ [T]).length = l.length + 1 := by simp
        have H5 : Hid (OwnT (w4.setCell ⟨g, 1, none⟩ (.slice a4 (l.length + 1) cap4)) H (.slice a4 (l.length + 1) cap4) ((List.range (j + 1)).map f) ∧ SigAt w (w4.setCell ⟨g, 1, none⟩ (.slice a4 (l.length + 1) cap4)) H g k (.slice a4 (l.length + 1) cap4) (.slice a2 P.length cap2) (.slice (some ⟨gd, 0, none⟩) 6 cap3) t P) := by
          refine ⟨?_, HS4.out.2.put _⟩
          rw [← HS.out, ← hlen]
          exact HS4.out.1.far HS4.out.2.2.1
        generalize w4.setCell ⟨g, 1, none⟩ (.slice a4 (l.length + 1) cap4) = w5 at *
        clear r1 r2 r3 r4 hlen
        go_wp2
        go_roundw
        case rel => exact ⟨j + 1, _, by omega, by go_num, H5.out.1, H5.out.2⟩
        case measure => simp [intOf]; omega
    · have e6 : j = 6 := by omega
      rw [e6] at hown
      obtain ⟨ae, cape, hve⟩ := hown.len
      have hl6 : ((List.range 6).map f).length = 6 := by simp
      rw [hl6] at hve
      subst hve
      have HFIN : Hid (Texts wr wr.heap.size (.slice ae 6 cape) ((List.range 6).map f) ∧ OwnT wr H (.slice ae 6 cape) ((List.range 6).map f) ∧ SigAt w wr H g k (.slice ae 6 cape) (.slice a2 P.length cap2) (.slice (some ⟨gd, 0, none⟩) 6 cap3) t P) := ⟨hown.texts, hown, hS⟩
      obtain ⟨h1, h2, h3, h4, h5, h6, h7, h8⟩ := hS
      obtain ⟨⟨c0, c1, c2⟩, f0, f1, f2⟩ := three_cells (Below.refl wr.heap.size wr) (show w.heap.size < wr.heap.size by omega) h4
      obtain ⟨⟨d0, d1, d2⟩, g0, g1, g2⟩ := three_cells (Below.refl wr.heap.size wr) (show g < wr.heap.size by omega) h5
      have hjI : ¬ (j : Int) < 6 := by omega
      clear hown e6 hl6 h1 h2 h3 h4 h5 h6 h7 h8 E4 E5
      go_wp2
      refine bodyPost_ret (v := .agg #[.int .i64 k, .slice ae 6 cape, .slice a2 P.length cap2]) (by simp [results, Tryd.results40, go_sem, c0, c1, c2, f0, f1, f2]) rfl ⟨_, _, rfl, ?_, ?_, ?_⟩
      · obtain ⟨hT, ho, hs⟩ := HFIN.out
        rw [← HFE.out]
        have hw : w.heap.size < H := by have := hs.1; have := hs.2.1; omega
        exact ((((ho.far (i := 0) hw).far (i := 1) hw).far (i := 2) hw).inside).wide (Nat.le_of_lt hw) (Nat.le_refl _)
      · obtain ⟨hT, ho, hs⟩ := HFIN.out
        have hp := hs.2.2.2.2.2.1
        have hz : g ≤ (((wr.setCell ⟨w.heap.size, 0, none⟩ (.int .i64 k)).setCell ⟨w.heap.size, 1, none⟩ (.slice ae 6 cape)).setCell ⟨w.heap.size, 2, none⟩ (.slice a2 P.length cap2)).heap.size := by
          have := hs.2.1
          have := hs.2.2.1
          simp [World.setCell]
          omega
        exact (((hp.far (i := 0) (Nat.lt_succ_self _)).far (i := 1) (Nat.lt_succ_self _)).far (i := 2) (Nat.lt_succ_self _)).wide (Nat.le_succ _) hz
      · obtain ⟨hT, ho, hs⟩ := HFIN.out
        exact ((hs.2.2.2.2.2.2.2.setCell (Nat.le_refl _) _).setCell (Nat.le_refl _) _).setCell (Nat.le_refl _) _
end Go.Proofs.YtbfejeeebfknjaaDoor

/-
  The document's Verify.
-/
namespace Go.Proofs.YtbfejeeebfknjaaDoor
open Go.RowKit Go.Lib
set_option linter.unusedVariables false
set_option linter.unusedSimpArgs false

/-- In between: the signature's block, its Ends in block b, the digits. -/
def VerAt (w wr : World) (k : Int) (ve vp : Value) (b off gd : Nat) (el : List ByteArray) (t : ByteArray) : Prop :=
  Below w.heap.size w wr ∧ wr.heap[w.heap.size]? = some (.cells #[.int .i64 k, ve, vp] 34 (0, 0)) ∧ b < w.heap.size ∧ gd < wr.heap.size ∧ (∀ j, j < 6 → wr.cell? ⟨b, off + j, none⟩ = some (.string (el.getD j ByteArray.empty))) ∧ ∀ j, j < 6 → wr.cell? ⟨gd, j, none⟩ = some (.int .i64 (digI t j))
theorem VerAt.below {w wr w1 : World} {k : Int} {ve vp : Value} {b off gd : Nat} {el : List ByteArray} {t : ByteArray} (h : VerAt w wr k ve vp b off gd el t) (hb : Below wr.heap.size wr w1) : VerAt w w1 k ve vp b off gd el t := by
  obtain ⟨h1, h2, h3, h4, h5, h6⟩ := h
  have hl := (Array.getElem?_eq_some_iff.1 h2).1
  exact ⟨h1.trans (hb.mono h1.size), (hb.block _ hl).trans h2, h3, Nat.lt_of_lt_of_le h4 hb.size, fun j hj => (hb.cell (p := ⟨b, off + j, none⟩) (show b < wr.heap.size by omega)).trans (h5 j hj), fun j hj => (hb.cell (p := ⟨gd, j, none⟩) h4).trans (h6 j hj)⟩

set_option maxHeartbeats 2000000 in
set_option maxRecDepth 10000 in
theorem specVerify_any (root text : ByteArray) (k : Int) (ve vp : Value) (el pl : List ByteArray) (w : World) (h1 : Texts w w.heap.size ve el) (h2 : Texts w w.heap.size vp pl) (hl1 : el.length ≤ 1048576) (hl2 : pl.length ≤ 1048576) (hr : root.size ≤ 1048576) (ht : text.size ≤ 1048576) :
    Calls Tryd.prog 56 #[.string root, .string text, .agg #[.int .i64 k, ve, vp]] w fun e w' => e = .returned (.bool (verB root text k el pl)) ∧ Below w.heap.size w w' := by
  obtain ⟨a1, c1, rfl, hx1, _⟩ := id h1
  obtain ⟨a2, c2, rfl, _⟩ := id h2
  obtain ⟨W, hW⟩ : ∃ W, W = w.alloc (.cells #[.int .i64 k, .slice a1 el.length c1, .slice a2 pl.length c2] 34) := ⟨_, rfl⟩
  have hbW : Below w.heap.size w W := by rw [hW]; exact (Below.refl _ _).alloc (Nat.le_refl _) _
  have hgW : W.heap[w.heap.size]? = some (.cells #[.int .i64 k, .slice a1 el.length c1, .slice a2 pl.length c2] 34 (0, 0)) := by rw [hW]; exact heap_alloc_new w _
  have hlW : w.heap.size < W.heap.size := (Array.getElem?_eq_some_iff.1 hgW).1
  have E0 : Hid (Calls Tryd.prog 91 #[.agg #[.int .i64 k, .slice a1 el.length c1, .slice a2 pl.length c2]] W fun e w' => e = .returned (.bool (sigRB k el pl)) ∧ Below W.heap.size W w') := specSigRight_any k _ _ el pl W ((h1.below hbW).up hbW.size) ((h2.below hbW).up hbW.size) hl1 hl2
  have H0 : Hid (Below w.heap.size w W ∧ W.heap[w.heap.size]? = some (.cells #[.int .i64 k, .slice a1 el.length c1, .slice a2 pl.length c2] 34 (0, 0)) ∧ Texts w w.heap.size (.slice a1 el.length c1) el ∧ Texts w w.heap.size (.slice a2 pl.length c2) pl ∧ w.heap.size < W.heap.size) := ⟨hbW, hgW, h1, h2, hlW⟩
  have HW : Hid (W = w.alloc (.cells #[.int .i64 k, .slice a1 el.length c1, .slice a2 pl.length c2] 34)) := hW
  have HX1 : Hid (el.length = 0 ∨ ∃ b off, a1 = some ⟨b, off, none⟩ ∧ b < w.heap.size ∧ ∀ j (h : j < el.length), w.cell? ⟨b, off + j, none⟩ = some (.string el[j])) := hx1
  clear h1 h2 hW hbW hgW hlW hx1
  by_cases hs : sigRB k el pl = true
  · rw [hs] at E0
    have HY : Hid ((0 ≤ k ∧ k ≤ 3) ∧ el.length = 6 ∧ pl.length = 2 ∧ wideB el = true ∧ wideB pl = true) := sigRB_yes hs
    by_cases hr32 : (root.size : Int) = 32
    · have q1 : ((root.size : Int) != 32) = false := by simpa using hr32
      by_cases ht2 : (text.size : Int) ≤ 20000
      · rw [verB_rest hs hr32 ht2]
        have hk0 := HY.out.1.1
        have hk1 := HY.out.1.2
        have htI : ¬ 20000 < (text.size : Int) := by omega
        obtain ⟨b, off, rfl, hbB, hcell⟩ : ∃ b off, a1 = some ⟨b, off, none⟩ ∧ b < w.heap.size ∧ ∀ j, j < 6 → w.cell? ⟨b, off + j, none⟩ = some (.string (el.getD j ByteArray.empty)) := by
          rcases HX1.out with h | ⟨b, off, h3, h4, h5⟩
          · have := HY.out.2.1; omega
          · refine ⟨b, off, h3, h4, fun j hj => ?_⟩
            have hjl : j < el.length := by have := HY.out.2.1; omega
            rw [h5 j hjl]
            simp [List.getD, hjl]
        have HC : Hid (b < w.heap.size ∧ ∀ j, j < 6 → w.cell? ⟨b, off + j, none⟩ = some (.string (el.getD j ByteArray.empty))) := ⟨hbB, hcell⟩
        clear hbB hcell HX1
        have E1 : Hid (∀ w, Calls Tryd.prog 71 #[.string text] w fun e w' => ∃ v, e = .returned v ∧ DigRow w' w.heap.size w'.heap.size v text ∧ Below w.heap.size w w') := fun w => specDigits_any text w (by omega)
        have hz : ∀ j, j < 6 → (el.getD j ByteArray.empty).size = 32 := wide_get HY.out.2.2.2.1 HY.out.2.1
        have E2 : Hid (∀ (j : Nat) (w : World), j < 6 → Calls Tryd.prog 72 #[.string (el.getD j ByteArray.empty), .int .i64 (15 - digI text j)] w fun e w' => e = .returned (.string (stepsB (15 - digB text j) (el.getD j ByteArray.empty))) ∧ Below w.heap.size w w') := fun j w hj => by
          have e : 15 - digI text j = ((15 - digB text j : Nat) : Int) := by rw [← digB_cast]; have := digB_le text j; omega
          rw [e]
          exact specSteps_any _ _ w (hz j hj) (by omega)
        obtain ⟨f, hf⟩ : ∃ f : Nat → ByteArray, f = fun j : Nat => stepsB (15 - digB text j) (el.getD j ByteArray.empty) := ⟨_, rfl⟩
        have HF : Hid (∀ j : Nat, j < 6 → stepsB (15 - digB text j) (el.getD j ByteArray.empty) = f j ∧ (f j).size = 32) := fun j hj => ⟨by rw [hf], by rw [hf]; exact stepsB_size _ (hz j hj)⟩
        have HP : Hid (shaB (catB f 6) = leftB text el) := by
          show _ = _
          rw [hf]
          rfl
        have E3 : Hid (∀ w, Calls Tryd.prog 63 #[.string (catB f 6)] w fun e w' => e = .returned (.string (leftB text el)) ∧ Below w.heap.size w w') := fun w => by
          rw [← HP.out]
          exact all_any _ w (by rw [catB_size f 6 (fun j hj => (HF.out j hj).2)]; omega)
        have E4 : Hid (∀ w, Calls Tryd.prog 27 #[.string (leftB text el)] w fun e w' => e = .returned (.string (leafB (leftB text el))) ∧ Below w.heap.size w w') := fun w => leaf_any _ w (by rw [leftB_size]; omega)
        have E5 : Hid (∀ w', Below w.heap.size w w' → Calls Tryd.prog 92 #[.string (leafB (leftB text el)), .int .i64 k, .int .i64 4, .slice a2 pl.length c2, .string root] w' fun e w'' => e = .returned (.bool (inclB (leafB (leftB text el)) k 4 pl root)) ∧ Below w'.heap.size w' w'') := fun w' hb => specIncl_any _ root k 4 _ pl w' ((H0.out.2.2.2.1.below hb).up hb.size) hl2 (by omega) (by omega) (by omega) (by omega) (by rw [leafB_size]; omega) hr
        generalize inclB (leafB (leftB text el)) k 4 pl root = V at *
        generalize leafB (leftB text el) = LB at *
        generalize leftB text el = PB at *
        have hel6 : 6 ≤ el.length := by have := HY.out.2.1; omega
        clear hz hs hr32 ht2 HY hf HP
        go_enter Tryd.func56, Tryd.ntmps56
        go_wp2_with fail
        rw [← HW.out]
        refine E0.out.mono ?_
        rintro e w1 ⟨rfl, hb1⟩
        have H1 : Hid (Below w.heap.size w w1 ∧ w1.heap[w.heap.size]? = some (.cells #[.int .i64 k, .slice (some ⟨b, off, none⟩) el.length c1, .slice a2 pl.length c2] 34 (0, 0))) := ⟨H0.out.1.trans (hb1.mono H0.out.1.size), (hb1.block _ H0.out.2.2.2.2).trans H0.out.2.1⟩
        clear hb1 E0 HW
        go_wp2_with fail
        refine (E1.out _).mono ?_
        rintro e w2 ⟨vd, rfl, hd2, hb2⟩
        obtain ⟨gd, cap3, rfl, hgA, hgB, hgc⟩ := hd2
        have H2 : Hid (VerAt w w2 k (.slice (some ⟨b, off, none⟩) el.length c1) (.slice a2 pl.length c2) b off gd el text) := by
          have hb : Below w.heap.size w w2 := H1.out.1.trans (hb2.mono H1.out.1.size)
          exact ⟨hb, (hb2.block _ (Array.getElem?_eq_some_iff.1 H1.out.2).1).trans H1.out.2, HC.out.1, hgB, fun j hj => (hb.cell (p := ⟨b, off + j, none⟩) HC.out.1).trans (HC.out.2 j hj), hgc⟩
        clear hb2 hgA hgB hgc H1 HC E1
        go_wp2
        go_loopw [8, 9] (fun t x wr => ∃ j : Nat, j ≤ 6 ∧ x = .int .i64 j ∧ t = .string (catB f j) ∧ VerAt w wr k (.slice (some ⟨b, off, none⟩) el.length c1) (.slice a2 pl.length c2) b off gd el text) (fun _ x _ => 6 - (intOf x).toNat)
        case atStart => exact ⟨0, by omega, rfl, rfl, H2.out⟩
        case round =>
          clear H2
          obtain ⟨j, hj, rfl, rfl, hV⟩ := hrel
          have HV : Hid (VerAt w wr k (.slice (some ⟨b, off, none⟩) el.length c1) (.slice a2 pl.length c2) b off gd el text) := hV
          have hcs := catB_size f j (fun i hi => (HF.out i (by omega)).2)
          by_cases hjl : j < 6
          · have F2 := fun w => E2.out j w hjl
            rw [(HF.out j hjl).1] at F2
            have G2 : Hid (∀ W, VerAt w W k (.slice (some ⟨b, off, none⟩) el.length c1) (.slice a2 pl.length c2) b off gd el text → Calls Tryd.prog 72 #[.string (el.getD j ByteArray.empty), .int .i64 (15 - digI text j)] W fun e w' => e = .returned (.string (f j)) ∧ VerAt w w' k (.slice (some ⟨b, off, none⟩) el.length c1) (.slice a2 pl.length c2) b off gd el text) := fun W hI => (F2 W).mono (by
              rintro e w' ⟨rfl, hb⟩
              exact ⟨rfl, hI.below hb⟩)
            have b1 : wr.cell? ⟨w.heap.size, 1, none⟩ = some (.slice (some ⟨b, off, none⟩) el.length c1) := (three_cells (Below.refl wr.heap.size wr) (Array.getElem?_eq_some_iff.1 hV.2.1).1 hV.2.1).1.2.1
            have b2 := hV.2.2.2.2.1 j hjl
            have b3 := hV.2.2.2.2.2 j hjl
            have HC : Hid (∀ W, VerAt w W k (.slice (some ⟨b, off, none⟩) el.length c1) (.slice a2 pl.length c2) b off gd el text → W.cell? ⟨w.heap.size, 1, none⟩ = some (.slice (some ⟨b, off, none⟩) el.length c1) ∧ W.cell? ⟨b, off + j, none⟩ = some (.string (el.getD j ByteArray.empty)) ∧ W.cell? ⟨gd, j, none⟩ = some (.int .i64 (digI text j))) := fun W h => ⟨(three_cells (Below.refl W.heap.size W) (Array.getElem?_eq_some_iff.1 h.2.1).1 h.2.1).1.2.1, h.2.2.2.2.1 j hjl, h.2.2.2.2.2 j hjl⟩
            have HDR : Hid (VerAt w wr.drew k (.slice (some ⟨b, off, none⟩) el.length c1) (.slice a2 pl.length c2) b off gd el text) := hV.below (below_drew' (Below.refl _ _))
            obtain ⟨hd0, hd1⟩ := digI_bd text j
            have hwr : IntKind.i64.wrap (15 - digI text j) = 15 - digI text j := by rw [IntKind.wrap_i64]; omega
            have HCJ : Hid (catB f j ++ f j = catB f (j + 1)) := rfl
            have zc : (catB f j).size ≤ 192 := by omega
            have zf : (f j).size ≤ 32 := by have := (HF.out j hjl).2; omega
            generalize el.getD j ByteArray.empty = tj at *
            generalize digI text j = d at *
            generalize catB f j = cj at *
            generalize f j = fj at *
            have hjI : (j : Int) < 6 := by omega
            have hj0 : (0 : Int) ≤ (j : Int) := by omega
            have hjE : (j : Int) < (el.length : Int) := by omega
            have hsum : ¬ 9223372036854775807 < cj.size + fj.size := by omega
            clear F2 hV hcs E2
            go_wp2_with fail
            go_region_held3 (fun w' => w'.cell? ⟨w.heap.size, 1, none⟩ = some (.slice (some ⟨b, off, none⟩) el.length c1) ∧ w'.cell? ⟨b, off + j, none⟩ = some (.string tj) ∧ w'.cell? ⟨gd, j, none⟩ = some (.int .i64 d)) (go_keep)
              ((go_at_call 72; (with_reducible refine (G2.out _ ?_).mono ?_); (first | exact HV.out | exact HDR.out); rintro e wa ⟨rfl, hia⟩; have HA1 : Hid (VerAt w wa k (.slice (some ⟨b, off, none⟩) el.length c1) (.slice a2 pl.length c2) b off gd el text) := hia; obtain ⟨x1, x2, x3⟩ := HC.out _ hia; clear hia))
            all_goals
              go_wp2
              go_roundw
              case rel => exact ⟨j + 1, by omega, by go_num, congrArg Value.string HCJ.out, (by first | exact HA1.out | exact HA1.out.below (below_drew' (Below.refl _ _)))⟩
              case measure => simp [intOf]; omega
          · have e6 : j = 6 := by omega
            rw [← e6] at E3
            have G3 : Hid (∀ W, VerAt w W k (.slice (some ⟨b, off, none⟩) el.length c1) (.slice a2 pl.length c2) b off gd el text → Calls Tryd.prog 63 #[.string (catB f j)] W fun e w' => e = .returned (.string PB) ∧ VerAt w w' k (.slice (some ⟨b, off, none⟩) el.length c1) (.slice a2 pl.length c2) b off gd el text) := fun W hI => (E3.out W).mono (by
              rintro e w' ⟨rfl, hb⟩
              exact ⟨rfl, hI.below hb⟩)
            have G4 : Hid (∀ W, VerAt w W k (.slice (some ⟨b, off, none⟩) el.length c1) (.slice a2 pl.length c2) b off gd el text → Calls Tryd.prog 27 #[.string PB] W fun e w' => e = .returned (.string LB) ∧ VerAt w w' k (.slice (some ⟨b, off, none⟩) el.length c1) (.slice a2 pl.length c2) b off gd el text) := fun W hI => (E4.out W).mono (by
              rintro e w' ⟨rfl, hb⟩
              exact ⟨rfl, hI.below hb⟩)
            have G5 : Hid (∀ W, VerAt w W k (.slice (some ⟨b, off, none⟩) el.length c1) (.slice a2 pl.length c2) b off gd el text → Calls Tryd.prog 92 #[.string LB, .int .i64 k, .int .i64 4, .slice a2 pl.length c2, .string root] W fun e w' => e = .returned (.bool V) ∧ VerAt w w' k (.slice (some ⟨b, off, none⟩) el.length c1) (.slice a2 pl.length c2) b off gd el text) := fun W hI => (E5.out W hI.1).mono (by
              rintro e w' ⟨rfl, hb⟩
              exact ⟨rfl, hI.below hb⟩)
            have HC : Hid (∀ W, VerAt w W k (.slice (some ⟨b, off, none⟩) el.length c1) (.slice a2 pl.length c2) b off gd el text → W.cell? ⟨w.heap.size, 0, none⟩ = some (.int .i64 k) ∧ W.cell? ⟨w.heap.size, 2, none⟩ = some (.slice a2 pl.length c2)) := fun W h => ⟨(three_cells (Below.refl W.heap.size W) (Array.getElem?_eq_some_iff.1 h.2.1).1 h.2.1).1.1, (three_cells (Below.refl W.heap.size W) (Array.getElem?_eq_some_iff.1 h.2.1).1 h.2.1).1.2.2⟩
            have HDR : Hid (VerAt w wr.drew k (.slice (some ⟨b, off, none⟩) el.length c1) (.slice a2 pl.length c2) b off gd el text) := hV.below (below_drew' (Below.refl _ _))
            obtain ⟨b0, b2⟩ := HC.out _ hV
            generalize catB f j = cj at *
            have hjI : ¬ (j : Int) < 6 := by omega
            clear hV hcs e6 E2 E3 E4 E5 HF
            go_wp2_with fail
            go_region_held3 (fun w' => w'.cell? ⟨w.heap.size, 0, none⟩ = some (.int .i64 k) ∧ w'.cell? ⟨w.heap.size, 2, none⟩ = some (.slice a2 pl.length c2)) (go_keep)
              (first
                | (go_at_call 63; (with_reducible refine (G3.out _ ?_).mono ?_); (first | exact HV.out | exact HDR.out); rintro e wa ⟨rfl, hia⟩; have HA1 : Hid (VerAt w wa k (.slice (some ⟨b, off, none⟩) el.length c1) (.slice a2 pl.length c2) b off gd el text) := hia; obtain ⟨x1, x2⟩ := HC.out _ hia; clear hia)
                | (go_at_call 27; (with_reducible refine (G4.out _ ?_).mono ?_); exact HA1.out; rintro e wb ⟨rfl, hia⟩; have HA2 : Hid (VerAt w wb k (.slice (some ⟨b, off, none⟩) el.length c1) (.slice a2 pl.length c2) b off gd el text) := hia; obtain ⟨y1, y2⟩ := HC.out _ hia; clear hia)
                | (go_at_call 92; (with_reducible refine (G5.out _ ?_).mono ?_); exact HA2.out; rintro e wc ⟨rfl, hia⟩; have HA3 : Hid (VerAt w wc k (.slice (some ⟨b, off, none⟩) el.length c1) (.slice a2 pl.length c2) b off gd el text) := hia; obtain ⟨z1, z2⟩ := HC.out _ hia; clear hia))
            all_goals
              go_wp2
              go_ret
              exact ⟨rfl, HA3.out.1⟩
      · rw [verB_text hs hr32 ht2]
        have htI : 20000 < (text.size : Int) := by omega
        clear hs ht2 hr32
        go_enter Tryd.func56, Tryd.ntmps56
        go_wp2_with fail
        rw [← HW.out]
        refine E0.out.mono ?_
        rintro e w1 ⟨rfl, hb1⟩
        have H1 : Hid (Below w.heap.size w w1) := H0.out.1.trans (hb1.mono H0.out.1.size)
        clear hb1 E0 HW
        go_wp2
        go_ret
        exact ⟨rfl, H1.out⟩
    · rw [verB_root hs hr32]
      have q1 : ((root.size : Int) != 32) = true := by simpa using hr32
      clear hs hr32
      go_enter Tryd.func56, Tryd.ntmps56
      go_wp2_with fail
      rw [← HW.out]
      refine E0.out.mono ?_
      rintro e w1 ⟨rfl, hb1⟩
      have H1 : Hid (Below w.heap.size w w1) := H0.out.1.trans (hb1.mono H0.out.1.size)
      clear hb1 E0 HW
      go_wp2
      go_ret
      exact ⟨rfl, H1.out⟩
  · have hf : sigRB k el pl = false := by simpa using hs
    rw [hf] at E0
    rw [verB_sig hf]
    clear hs hf
    go_enter Tryd.func56, Tryd.ntmps56
    go_wp2_with fail
    rw [← HW.out]
    refine E0.out.mono ?_
    rintro e w1 ⟨rfl, hb1⟩
    have H1 : Hid (Below w.heap.size w w1) := H0.out.1.trans (hb1.mono H0.out.1.size)
    clear hb1 E0 HW
    go_wp2
    go_ret
    exact ⟨rfl, H1.out⟩
end Go.Proofs.YtbfejeeebfknjaaDoor

/-
  HeadGood, the document's.
-/
namespace Go.Proofs.YtbfejeeebfknjaaDoor
open Go.RowKit Go.Lib
set_option linter.unusedVariables false
set_option linter.unusedSimpArgs false

set_option maxHeartbeats 4000000 in
set_option maxRecDepth 10000 in
theorem specHeadGood_any (r log root : ByteArray) (size time k : Int) (ve vp : Value) (el pl : List ByteArray) (w : World) (h1 : Texts w w.heap.size ve el) (h2 : Texts w w.heap.size vp pl) (hl1 : el.length ≤ 1048576) (hl2 : pl.length ≤ 1048576) (hlog : log.size ≤ 1048576) (hroot : root.size ≤ 1048576) (hr : r.size ≤ 1048576) (hs : -9223372036854775808 ≤ size ∧ size ≤ 9223372036854775807) (ht : -9223372036854775808 ≤ time ∧ time ≤ 9223372036854775807) :
    Calls Tryd.prog 23 #[.string r, .agg #[.string log, .int .i64 size, .string root, .int .i64 time, .int .i64 k, ve, vp]] w fun e w' => e = .returned (.bool (headGB r log size root time k el pl)) ∧ Below w.heap.size w w' := by
  obtain ⟨a1, c1, rfl, _⟩ := id h1
  obtain ⟨a2, c2, rfl, _⟩ := id h2
  obtain ⟨W, hW⟩ : ∃ W, W = w.alloc (.cells #[.string log, .int .i64 size, .string root, .int .i64 time, .int .i64 k, .slice a1 el.length c1, .slice a2 pl.length c2] 36) := ⟨_, rfl⟩
  have hbW : Below w.heap.size w W := by rw [hW]; exact (Below.refl _ _).alloc (Nat.le_refl _) _
  have H0 : Hid (Below w.heap.size w W ∧ W.heap[w.heap.size]? = some (.cells #[.string log, .int .i64 size, .string root, .int .i64 time, .int .i64 k, .slice a1 el.length c1, .slice a2 pl.length c2] 36 (0, 0)) ∧ w.heap.size < W.heap.size) := by
    refine ⟨hbW, ?_, ?_⟩
    · rw [hW]; exact heap_alloc_new w _
    · rw [hW]; simp
  have HW : Hid (W = w.alloc (.cells #[.string log, .int .i64 size, .string root, .int .i64 time, .int .i64 k, .slice a1 el.length c1, .slice a2 pl.length c2] 36)) := hW
  have HT : Hid (∀ W', Below W.heap.size W W' → Texts W' W'.heap.size (.slice a1 el.length c1) el ∧ Texts W' W'.heap.size (.slice a2 pl.length c2) pl) := fun W' hb => by
    have hb2 := hbW.trans (hb.mono hbW.size)
    exact ⟨(h1.below hb2).up hb2.size, (h2.below hb2).up hb2.size⟩
  have HC : Hid (∀ W', Below W.heap.size W W' → (W'.cell? ⟨w.heap.size, 0, none⟩ = some (.string log) ∧ W'.cell? ⟨w.heap.size, 1, none⟩ = some (.int .i64 size) ∧ W'.cell? ⟨w.heap.size, 2, none⟩ = some (.string root) ∧ W'.cell? ⟨w.heap.size, 3, none⟩ = some (.int .i64 time) ∧ W'.cell? ⟨w.heap.size, 4, none⟩ = some (.int .i64 k) ∧ W'.cell? ⟨w.heap.size, 5, none⟩ = some (.slice a1 el.length c1) ∧ W'.cell? ⟨w.heap.size, 6, none⟩ = some (.slice a2 pl.length c2)) ∧ (W'.drew.cell? ⟨w.heap.size, 0, none⟩ = some (.string log) ∧ W'.drew.cell? ⟨w.heap.size, 1, none⟩ = some (.int .i64 size) ∧ W'.drew.cell? ⟨w.heap.size, 2, none⟩ = some (.string root) ∧ W'.drew.cell? ⟨w.heap.size, 3, none⟩ = some (.int .i64 time) ∧ W'.drew.cell? ⟨w.heap.size, 4, none⟩ = some (.int .i64 k) ∧ W'.drew.cell? ⟨w.heap.size, 5, none⟩ = some (.slice a1 el.length c1) ∧ W'.drew.cell? ⟨w.heap.size, 6, none⟩ = some (.slice a2 pl.length c2))) := fun W' hb => by
    obtain ⟨c, _⟩ := seven_cells hb H0.out.2.2 H0.out.2.1
    exact ⟨c, c⟩
  have hhs := headT_size log size root time
  have G0 : Hid (∀ W', Below W.heap.size W W' → Calls Tryd.prog 55 #[.agg #[.string log, .int .i64 size, .string root, .int .i64 time, .int .i64 k, .slice a1 el.length c1, .slice a2 pl.length c2]] W' fun e w'' => e = .returned (.bool (headRB log size root time k el pl)) ∧ Below W.heap.size W w'') := fun W' hb => (specHeadRight_any log root size time k _ _ el pl W' (HT.out W' hb).1 (HT.out W' hb).2 hl1 hl2 hlog hroot).mono fun e w'' h => ⟨h.1, hb.trans (h.2.mono hb.size)⟩
  have G1 : Hid (headRB log size root time k el pl = true → ∀ W', Below W.heap.size W W' → Calls Tryd.prog 41 #[.agg #[.string log, .int .i64 size, .string root, .int .i64 time, .int .i64 k, .slice a1 el.length c1, .slice a2 pl.length c2]] W' fun e w'' => e = .returned (.string (headT log size root time)) ∧ Below W.heap.size W w'') := fun hb1 W' hb => (l05Text_any _ _ _ _ _ _ _ _ _ _ _ W' hlog hroot hs ht).mono fun e w'' h => ⟨h.1, hb.trans (h.2.mono hb.size)⟩
  have G2 : Hid (∀ W', Below W.heap.size W W' → Calls Tryd.prog 56 #[.string r, .string (headT log size root time), .agg #[.int .i64 k, .slice a1 el.length c1, .slice a2 pl.length c2]] W' fun e w'' => e = .returned (.bool (verB r (headT log size root time) k el pl)) ∧ Below W.heap.size W w'') := fun W' hb => (specVerify_any r _ k _ _ el pl W' (HT.out W' hb).1 (HT.out W' hb).2 hl1 hl2 hr (by omega)).mono fun e w'' h => ⟨h.1, hb.trans (h.2.mono hb.size)⟩
  have HB0 : Hid (Below W.heap.size W W) := Below.refl _ _
  have HD0 : Hid (Below W.heap.size W W.drew) := below_drew' (Below.refl _ _)
  obtain ⟨⟨c0, c1', c2', c3, c4, c5, c6⟩, d0, d1, d2, d3, d4, d5, d6⟩ := HC.out W (Below.refl _ _)
  unfold headGB
  generalize headRB log size root time k el pl = b at *
  generalize headT log size root time = t at *
  generalize verB r t k el pl = bv at *
  clear h1 h2 hW hbW hlog hroot hs ht hhs hr HT
  cases b with
  | false =>
    clear G1 G2
    go_enter Tryd.func23, Tryd.ntmps23
    go_wp2_with fail
    rw [← HW.out]
    clear HW
    refine wp_region_any (by kernel_rfl) ?_
    try (change wpAny _ _ _ _ _ _ _ (World.drew _))
    refine wpAny_ready (rs := [0]) (by kernel_rfl) (by simp) ?_
    refine AllReady.cons rfl (fun K hK => ?_) AllReady.nil
    go_simp
    refine hK _ _ ?_
    clear hK K
    refine wpAny_ready (rs := [1]) (by kernel_rfl) (by simp) ?_
    refine AllReady.cons rfl (fun K hK => ?_) AllReady.nil
    go_simp
    go_wp2_with ((go_at_call 55; (with_reducible refine (G0.out _ ?_).mono ?_); (first | exact HB0.out | exact HD0.out); rintro e wa ⟨rfl, hia⟩; have HA1 : Hid (Below W.heap.size W wa) := hia; clear hia))
    refine wpAny_take (i := 2) (v := .bool false) rfl (by kernel_rfl) (by kernel_rfl) (by kernel_rfl) (fun _ _ _ h => h) (Or.inl ⟨by rfl, fun w => by go_simp⟩) ?_
    refine wpAny_take (i := 3) (v := undef) rfl (by kernel_rfl) (by kernel_rfl) (by kernel_rfl) (fun _ _ _ h => h) (Or.inr ⟨by rfl, rfl⟩) ?_
    refine wpAny_take (i := 4) (v := undef) rfl (by kernel_rfl) (by kernel_rfl) (by kernel_rfl) (fun _ _ _ h => h) (Or.inr ⟨by rfl, rfl⟩) ?_
    refine wpAny_take (i := 5) (v := undef) rfl (by kernel_rfl) (by kernel_rfl) (by kernel_rfl) (fun _ _ _ h => h) (Or.inr ⟨by rfl, rfl⟩) ?_
    refine wpAny_take (i := 6) (v := undef) rfl (by kernel_rfl) (by kernel_rfl) (by kernel_rfl) (fun _ _ _ h => h) (Or.inr ⟨by rfl, rfl⟩) ?_
    refine wpAny_take (i := 7) (v := undef) rfl (by kernel_rfl) (by kernel_rfl) (by kernel_rfl) (fun _ _ _ h => h) (Or.inr ⟨by rfl, rfl⟩) ?_
    refine wpAny_take (i := 8) (v := undef) rfl (by kernel_rfl) (by kernel_rfl) (by kernel_rfl) (fun _ _ _ h => h) (Or.inr ⟨by rfl, rfl⟩) ?_
    refine wpAny_take (i := 9) (v := .bool false) rfl (by kernel_rfl) (by kernel_rfl) (by kernel_rfl) (fun _ _ _ h => h) (Or.inl ⟨by rfl, fun w => by go_simp⟩) ?_
    refine wpAny_take (i := 10) (v := .bool false) rfl (by kernel_rfl) (by kernel_rfl) (by kernel_rfl) (fun _ _ _ h => h) (Or.inl ⟨by rfl, fun w => by go_simp⟩) ?_
    refine wpAny_done (by kernel_rfl) ?_ _
    go_wp2
    exact bodyPost_ret (v := .bool false) (by kernel_rfl) rfl ⟨rfl, H0.out.1.trans (HA1.out.mono H0.out.1.size)⟩
  | true =>
    have G1' := G1.out rfl
    clear G1
    have G1 : Hid _ := G1'
    clear G1'
    go_enter Tryd.func23, Tryd.ntmps23
    go_wp2_with fail
    rw [← HW.out]
    clear HW
    go_region_held3 (fun w' => w'.cell? ⟨w.heap.size, 0, none⟩ = some (.string log) ∧ w'.cell? ⟨w.heap.size, 1, none⟩ = some (.int .i64 size) ∧ w'.cell? ⟨w.heap.size, 2, none⟩ = some (.string root) ∧ w'.cell? ⟨w.heap.size, 3, none⟩ = some (.int .i64 time) ∧ w'.cell? ⟨w.heap.size, 4, none⟩ = some (.int .i64 k) ∧ w'.cell? ⟨w.heap.size, 5, none⟩ = some (.slice a1 el.length c1) ∧ w'.cell? ⟨w.heap.size, 6, none⟩ = some (.slice a2 pl.length c2)) (go_keep)
      (first
        | (go_at_call 55; (with_reducible refine (G0.out _ ?_).mono ?_); (first | exact HB0.out | exact HD0.out); rintro e wa ⟨rfl, hia⟩; have HA1 : Hid (Below W.heap.size W wa) := hia; obtain ⟨⟨x0, x1, x2, x3, x4, x5, x6⟩, _⟩ := HC.out _ hia; clear hia)
        | (go_at_call 41; (with_reducible refine (G1.out _ ?_).mono ?_); exact HA1.out; rintro e wb ⟨rfl, hia⟩; have HA2 : Hid (Below W.heap.size W wb) := hia; obtain ⟨⟨y0, y1, y2, y3, y4, y5, y6⟩, _⟩ := HC.out _ hia; clear hia)
        | (go_at_call 56; (with_reducible refine (G2.out _ ?_).mono ?_); exact HA2.out; rintro e wc ⟨rfl, hia⟩; have HA3 : Hid (Below W.heap.size W wc) := hia; obtain ⟨⟨z0, z1, z2, z3, z4, z5, z6⟩, _⟩ := HC.out _ hia; clear hia))
    all_goals
      go_wp2
      go_ret
      exact ⟨rfl, H0.out.1.trans (HA3.out.mono H0.out.1.size)⟩
end Go.Proofs.YtbfejeeebfknjaaDoor

/-
  HeadSign, the document's.
-/
namespace Go.Proofs.YtbfejeeebfknjaaDoor
open Go.RowKit Go.Lib
set_option linter.unusedVariables false
set_option linter.unusedSimpArgs false

set_option maxHeartbeats 4000000 in
set_option maxRecDepth 10000 in
theorem specHeadSignY_any (s : ByteArray) (k : Int) (log : ByteArray) (v : Value) (l : List ByteArray) (t : Int) (w : World) (h : Texts w w.heap.size v l) (hl : l.length ≤ 1048576) (hs : s.size ≤ 1048576) (hlog : log.size ≤ 1048576) (ht : -9223372036854775808 ≤ t ∧ t ≤ 9223372036854775807) (hB : hsB s k log l t = true) :
    Calls Tryd.prog 14 #[.string s, .int .i64 k, .string log, v, .int .i64 t] w fun e w' => HeadTold w log l.length (treeB l) t k (endsB s k (hsT log l t)) (pathB (pubsB s) k.toNat) e w' := by
  obtain ⟨y1, y2, y3, y4, y5⟩ := hsB_yes hB
  have hz := hsT_size y3 l t
  obtain ⟨a, cap, rfl, hxx⟩ := id h
  clear hxx
  obtain ⟨W, hW⟩ : ∃ W, W = w.alloc (.cells #[.string ⟨#[]⟩, .int .i64 0, .string ⟨#[]⟩, .int .i64 0, .int .i64 0, .slice none 0 0, .slice none 0 0] 36) := ⟨_, rfl⟩
  have hbW : Below w.heap.size w W := by rw [hW]; exact (Below.refl _ _).alloc (Nat.le_refl _) _
  have hgW : W.heap[w.heap.size]? = some (.cells #[.string ⟨#[]⟩, .int .i64 0, .string ⟨#[]⟩, .int .i64 0, .int .i64 0, .slice none 0 0, .slice none 0 0] 36 (0, 0)) := by rw [hW]; exact heap_alloc_new w _
  have HW : Hid (W = w.alloc (.cells #[.string ⟨#[]⟩, .int .i64 0, .string ⟨#[]⟩, .int .i64 0, .int .i64 0, .slice none 0 0, .slice none 0 0] 36)) := hW
  have E0 : Hid (∀ w, Calls Tryd.prog 35 #[.string s] w fun e w' => e = .returned (.bool true) ∧ w' = w) := fun w => by rw [← y1]; exact specSeed_any s w hs
  have E1 : Hid (∀ w, Calls Tryd.prog 36 #[.int .i64 k, .int .i64 0, .int .i64 3] w fun e w' => e = .returned (.bool true) ∧ w' = w) := fun w => by rw [← decide_eq_true y2]; exact is_any k 0 3 w
  have E2 : Hid (∀ w, Calls Tryd.prog 37 #[.string log] w fun e w' => e = .returned (.bool true) ∧ w' = w) := fun w => by rw [← y3]; exact (specName_any log w (by unfold maxLen; omega)).mono fun e w' h => ⟨h.1.name, h.2⟩
  have E3 : Hid (Calls Tryd.prog 38 #[.slice a l.length cap] W fun e w' => e = .returned (.bool true) ∧ w' = W) := by rw [← y4]; exact specEntries_any _ l W _ ((h.below hbW).up hbW.size) hl
  have E4 : Hid (∀ w, Calls Tryd.prog 36 #[.int .i64 t, .int .i64 0, .int .i64 1000000000] w fun e w' => e = .returned (.bool true) ∧ w' = w) := fun w => by rw [← decide_eq_true y5]; exact is_any t 0 1000000000 w
  have E5 : Hid (Calls Tryd.prog 39 #[.slice a l.length cap] W fun e w' => e = .returned (.string (treeB l)) ∧ Below W.heap.size W w') := specTree_any l.length l rfl hl (fun j hj => rightB_at y4 hj) _ W ((h.below hbW).up hbW.size)
  have hts : (treeB l).size ≤ 1048576 := by rw [treeB_size]; omega
  have hn64 := rightB_len y4
  have E6 : Hid (∀ X, Calls Tryd.prog 41 #[.agg #[.string log, .int .i64 l.length, .string (treeB l), .int .i64 t, .int .i64 0, .slice none 0 0, .slice none 0 0]] X fun e w' => e = .returned (.string (hsT log l t)) ∧ Below X.heap.size X w') := fun X => l05Text_any log (treeB l) l.length t 0 none none 0 0 0 0 X hlog hts (by omega) ht
  have hss : s.size ≤ 64 := by
    unfold seedB at y1
    simp at y1
    omega
  have E7 : Hid (∀ X, Calls Tryd.prog 40 #[.string s, .int .i64 k, .string (hsT log l t)] X fun e w' => ∃ ve vp, e = .returned (.agg #[.int .i64 k, ve, vp]) ∧ TextsIn w' X.heap.size w'.heap.size ve (endsB s k (hsT log l t)) ∧ TextsIn w' X.heap.size w'.heap.size vp (pathB (pubsB s) k.toNat) ∧ Below X.heap.size X w') := fun X => specSignY_any s k _ X hss y2.1 y2.2 (by omega)
  have H0 : Hid (Below w.heap.size w W ∧ W.heap[w.heap.size]? = some (.cells #[.string ⟨#[]⟩, .int .i64 0, .string ⟨#[]⟩, .int .i64 0, .int .i64 0, .slice none 0 0, .slice none 0 0] 36 (0, 0)) ∧ w.heap.size < W.heap.size) := ⟨hbW, hgW, (Array.getElem?_eq_some_iff.1 hgW).1⟩
  generalize treeB l = R at *
  generalize hsT log l t = T at *
  generalize endsB s k T = E at *
  generalize pathB (pubsB s) k.toNat = P at *
  clear h hl hs hlog ht hB y1 y2 y3 y4 y5 hz hW hbW hgW hts hss
  generalize hn : l.length = n at *
  clear hn
  have hlen : ¬ (400 : Int) < (n : Int) := by omega
  go_enter Tryd.func14, Tryd.ntmps14
  go_wp2_with fail
  rw [← HW.out]
  refine (E0.out _).mono ?_
  rintro e w0 ⟨rfl, h0⟩
  obtain rfl : W = w0 := h0.symm
  go_wp2_with fail
  refine (E1.out _).mono ?_
  rintro e w0 ⟨rfl, h0⟩
  obtain rfl : W = w0 := h0.symm
  go_wp2_with fail
  refine (E2.out _).mono ?_
  rintro e w0 ⟨rfl, h0⟩
  obtain rfl : W = w0 := h0.symm
  go_wp2_with fail
  refine E3.out.mono ?_
  rintro e w0 ⟨rfl, h0⟩
  obtain rfl : W = w0 := h0.symm
  go_wp2_with fail
  refine (E4.out _).mono ?_
  rintro e w0 ⟨rfl, h0⟩
  obtain rfl : W = w0 := h0.symm
  go_wp2_with fail
  refine E5.out.mono ?_
  rintro e w1 ⟨rfl, hb1⟩
  obtain ⟨W1, hW1⟩ : ∃ W, W = w1.alloc (.cells #[.string log, .int .i64 n, .string R, .int .i64 t, .int .i64 0, .slice none 0 0, .slice none 0 0] 36) := ⟨_, rfl⟩
  have hal : Below w1.heap.size w1 W1 := by rw [hW1]; exact (Below.refl _ _).alloc (Nat.le_refl _) _
  have hb01 : Below W.heap.size W W1 := hb1.trans (hal.mono hb1.size)
  have H1 : Hid (Below w.heap.size w W1 ∧ W1.heap[w.heap.size]? = some (.cells #[.string ⟨#[]⟩, .int .i64 0, .string ⟨#[]⟩, .int .i64 0, .int .i64 0, .slice none 0 0, .slice none 0 0] 36 (0, 0)) ∧ W1.heap[w1.heap.size]? = some (.cells #[.string log, .int .i64 n, .string R, .int .i64 t, .int .i64 0, .slice none 0 0, .slice none 0 0] 36 (0, 0)) ∧ w.heap.size < w1.heap.size ∧ w1.heap.size < W1.heap.size) := ⟨H0.out.1.trans (hb01.mono H0.out.1.size), (hb01.block _ H0.out.2.2).trans H0.out.2.1, by rw [hW1]; exact heap_alloc_new w1 _, Nat.lt_of_lt_of_le H0.out.2.2 hb1.size, by rw [hW1]; simp⟩
  have HW1 : Hid (W1 = w1.alloc (.cells #[.string log, .int .i64 n, .string R, .int .i64 t, .int .i64 0, .slice none 0 0, .slice none 0 0] 36)) := hW1
  clear hal hb01 hb1 hW1 E0 E1 E2 E3 E4 E5 HW H0
  go_wp2_with fail
  rw [← HW1.out]
  clear HW1
  generalize hg : w1.heap.size = g at *
  clear hg
  refine (E6.out _).mono ?_
  rintro e w2 ⟨rfl, hb2⟩
  have hz2 : W1.heap.size ≤ w2.heap.size := hb2.size
  have H2 : Hid (Below w.heap.size w w2 ∧ w2.heap[w.heap.size]? = some (.cells #[.string ⟨#[]⟩, .int .i64 0, .string ⟨#[]⟩, .int .i64 0, .int .i64 0, .slice none 0 0, .slice none 0 0] 36 (0, 0)) ∧ w2.heap[g]? = some (.cells #[.string log, .int .i64 n, .string R, .int .i64 t, .int .i64 0, .slice none 0 0, .slice none 0 0] 36 (0, 0)) ∧ w.heap.size < g ∧ g < w2.heap.size) := ⟨H1.out.1.trans (hb2.mono H1.out.1.size), (hb2.block _ (Nat.lt_trans H1.out.2.2.2.1 H1.out.2.2.2.2)).trans H1.out.2.1, (hb2.block _ H1.out.2.2.2.2).trans H1.out.2.2.1, H1.out.2.2.2.1, Nat.lt_of_lt_of_le H1.out.2.2.2.2 hz2⟩
  clear hb2 hz2 H1 E6
  go_wp2_with fail
  refine (E7.out _).mono ?_
  rintro e w3 ⟨ve, vp, rfl, ht1, ht2, hb3⟩
  obtain ⟨a3, c3', rfl⟩ : ∃ a c, ve = .slice a E.length c := by obtain ⟨a, c, h, _⟩ := ht1; exact ⟨a, c, h⟩
  obtain ⟨a4, c4', rfl⟩ : ∃ a c, vp = .slice a P.length c := by obtain ⟨a, c, h, _⟩ := ht2; exact ⟨a, c, h⟩
  have k0 := (hb3.block _ (Nat.lt_trans H2.out.2.2.2.1 H2.out.2.2.2.2)).trans H2.out.2.1
  have k1 := (hb3.block _ H2.out.2.2.2.2).trans H2.out.2.2.1
  obtain ⟨⟨u0, u1, u2, u3, u4, u5, u6⟩, fu⟩ := seven_cells (Below.refl w3.heap.size w3) (Array.getElem?_eq_some_iff.1 k0).1 k0
  obtain ⟨⟨x0, x1, x2, x3, x4, x5, x6⟩, fx⟩ := seven_cells (Below.refl w3.heap.size w3) (Array.getElem?_eq_some_iff.1 k1).1 k1
  have f0 := fu 0
  have f1 := fu 1
  have f2 := fu 2
  have f3 := fu 3
  have f4 := fu 4
  have f5 := fu 5
  have f6 := fu 6
  have g4 := fx 4
  have g5 := fx 5
  have g6 := fx 6
  have hgn : ¬ w.heap.size = g := Nat.ne_of_lt H2.out.2.2.2.1
  have hgn2 : ¬ g = w.heap.size := fun e => hgn e.symm
  have H3 : Hid (Below w.heap.size w w3 ∧ TextsIn w3 w2.heap.size w3.heap.size (.slice a3 E.length c3') E ∧ TextsIn w3 w2.heap.size w3.heap.size (.slice a4 P.length c4') P ∧ w.heap.size < g ∧ g < w2.heap.size) := ⟨H2.out.1.trans (hb3.mono H2.out.1.size), ht1, ht2, H2.out.2.2.2⟩
  clear fu fx k0 k1 ht1 ht2 hb3 H2 E7
  go_wp2
  refine bodyPost_ret (v := .agg #[.string log, .int .i64 n, .string R, .int .i64 t, .int .i64 k, .slice a3 E.length c3', .slice a4 P.length c4']) (by simp [results, Tryd.results14, go_sem, u0, u1, u2, u3, u4, u5, u6, f0, f1, f2, f3, f4, f5, f6, x0, x1, x2, x3, x4, x5, x6, g4, g5, g6, hgn, hgn2]) rfl ⟨_, _, rfl, ?_, ?_, ?_⟩
  · obtain ⟨q1, q2, q3, q4, q5⟩ := H3.out
    refine Texts.up (B := w3.heap.size) (TextsIn.texts (A := w2.heap.size) ?_) (by simp [World.setCell])
    (repeat (refine TextsIn.far ?_ (by omega)))
    exact q2
  · obtain ⟨q1, q2, q3, q4, q5⟩ := H3.out
    refine Texts.up (B := w3.heap.size) (TextsIn.texts (A := w2.heap.size) ?_) (by simp [World.setCell])
    (repeat (refine TextsIn.far ?_ (by omega)))
    exact q3
  · obtain ⟨q1, q2, q3, q4, q5⟩ := H3.out
    (repeat (refine Below.setCell ?_ (by simp <;> omega) _))
    exact q1

set_option maxHeartbeats 2000000 in
set_option maxRecDepth 10000 in
theorem specHeadSign_any (s : ByteArray) (k : Int) (log : ByteArray) (v : Value) (l : List ByteArray) (t : Int) (w : World) (h : Texts w w.heap.size v l) (hl : l.length ≤ 1048576) (hs : s.size ≤ 1048576) (hlog : log.size ≤ 1048576) (ht : -9223372036854775808 ≤ t ∧ t ≤ 9223372036854775807) :
    Calls Tryd.prog 14 #[.string s, .int .i64 k, .string log, v, .int .i64 t] w fun e w' => HeadTold w (hsLog s k log l t) (hsSize s k log l t) (hsRoot s k log l t) (hsTime s k log l t) (hsKey s k log l t) (hsEnds s k log l t) (hsPath s k log l t) e w' := by
  unfold hsLog hsSize hsRoot hsTime hsKey hsEnds hsPath
  by_cases hB : hsB s k log l t = true
  · simp only [if_pos hB]
    exact specHeadSignY_any s k log v l t w h hl hs hlog ht hB
  simp only [if_neg hB]
  have HZ : Hid (∀ W : World, Below w.heap.size w W → HeadTold w ⟨#[]⟩ 0 ⟨#[]⟩ 0 0 [] [] (.returned (.agg #[.string ⟨#[]⟩, .int .i64 0, .string ⟨#[]⟩, .int .i64 0, .int .i64 0, .slice none 0 0, .slice none 0 0])) W) := fun W hb => ⟨_, _, rfl, (OwnT.nil W 0).texts, (OwnT.nil W 0).texts, hb⟩
  obtain ⟨a, cap, rfl, hxx⟩ := id h
  clear hxx
  obtain ⟨W, hW⟩ : ∃ W, W = w.alloc (.cells #[.string ⟨#[]⟩, .int .i64 0, .string ⟨#[]⟩, .int .i64 0, .int .i64 0, .slice none 0 0, .slice none 0 0] 36) := ⟨_, rfl⟩
  have hbW : Below w.heap.size w W := by rw [hW]; exact (Below.refl _ _).alloc (Nat.le_refl _) _
  have E0 : Hid (∀ w, Calls Tryd.prog 35 #[.string s] w fun e w' => e = .returned (.bool (seedB s)) ∧ w' = w) := fun w => specSeed_any s w hs
  have E1 : Hid (∀ w, Calls Tryd.prog 36 #[.int .i64 k, .int .i64 0, .int .i64 3] w fun e w' => e = .returned (.bool (decide (0 ≤ k ∧ k ≤ 3))) ∧ w' = w) := fun w => is_any k 0 3 w
  have E2 : Hid (∀ w, Calls Tryd.prog 37 #[.string log] w fun e w' => e = .returned (.bool (nameB log)) ∧ w' = w) := fun w => (specName_any log w (by unfold maxLen; omega)).mono fun e w' h => ⟨h.1.name, h.2⟩
  have E3 : Hid (Calls Tryd.prog 38 #[.slice a l.length cap] W fun e w' => e = .returned (.bool (rightB l)) ∧ w' = W) := specEntries_any _ l W _ ((h.below hbW).up hbW.size) hl
  have E4 : Hid (∀ w, Calls Tryd.prog 36 #[.int .i64 t, .int .i64 0, .int .i64 1000000000] w fun e w' => e = .returned (.bool (decide (0 ≤ t ∧ t ≤ 1000000000))) ∧ w' = w) := fun w => is_any t 0 1000000000 w
  rw [hW] at E3
  clear h hW hbW
  by_cases hlen : (400 : Int) < (l.length : Int)
  · clear E0 E1 E2 E3 E4 hl
    generalize hn : l.length = n at *
    clear hn
    go_enter Tryd.func14, Tryd.ntmps14
    go_wp2
    exact bodyPost_ret (v := .agg #[.string ⟨#[]⟩, .int .i64 0, .string ⟨#[]⟩, .int .i64 0, .int .i64 0, .slice none 0 0, .slice none 0 0]) (by simp [results, Tryd.results14, go_sem]) rfl (HZ.out _ ((Below.refl _ _).alloc (Nat.le_refl _) _))
  have key : seedB s = false ∨ decide (0 ≤ k ∧ k ≤ 3) = false ∨ nameB log = false ∨ rightB l = false ∨ decide (0 ≤ t ∧ t ≤ 1000000000) = false := by
    unfold hsB at hB
    cases x0 : seedB s <;> cases x1 : decide (0 ≤ k ∧ k ≤ 3) <;> cases x2 : nameB log <;> cases x3 : rightB l <;> cases x4 : decide (0 ≤ t ∧ t ≤ 1000000000) <;> simp [x0, x1, x2, x3, x4] at hB ⊢
  clear hB
  generalize seedB s = b0 at *
  generalize decide (0 ≤ k ∧ k ≤ 3) = b1 at *
  generalize nameB log = b2 at *
  generalize rightB l = b3 at *
  generalize decide (0 ≤ t ∧ t ≤ 1000000000) = b4 at *
  clear hl hs hlog ht
  generalize hn : l.length = n at *
  clear hn
  cases b0 with
  | false =>
    go_enter Tryd.func14, Tryd.ntmps14
    go_wp2_with fail
    refine (E0.out _).mono ?_
    rintro e w0 ⟨rfl, rfl⟩
    go_wp2
    exact bodyPost_ret (v := .agg #[.string ⟨#[]⟩, .int .i64 0, .string ⟨#[]⟩, .int .i64 0, .int .i64 0, .slice none 0 0, .slice none 0 0]) (by simp [results, Tryd.results14, go_sem]) rfl (HZ.out _ ((Below.refl _ _).alloc (Nat.le_refl _) _))
  | true =>
    cases b1 with
    | false =>
      go_enter Tryd.func14, Tryd.ntmps14
      go_wp2_with fail
      refine (E0.out _).mono ?_
      rintro e w0 ⟨rfl, rfl⟩
      go_wp2_with fail
      refine (E1.out _).mono ?_
      rintro e w0 ⟨rfl, rfl⟩
      go_wp2
      exact bodyPost_ret (v := .agg #[.string ⟨#[]⟩, .int .i64 0, .string ⟨#[]⟩, .int .i64 0, .int .i64 0, .slice none 0 0, .slice none 0 0]) (by simp [results, Tryd.results14, go_sem]) rfl (HZ.out _ ((Below.refl _ _).alloc (Nat.le_refl _) _))
    | true =>
      cases b2 with
      | false =>
        go_enter Tryd.func14, Tryd.ntmps14
        go_wp2_with fail
        refine (E0.out _).mono ?_
        rintro e w0 ⟨rfl, rfl⟩
        go_wp2_with fail
        refine (E1.out _).mono ?_
        rintro e w0 ⟨rfl, rfl⟩
        go_wp2_with fail
        refine (E2.out _).mono ?_
        rintro e w0 ⟨rfl, rfl⟩
        go_wp2
        exact bodyPost_ret (v := .agg #[.string ⟨#[]⟩, .int .i64 0, .string ⟨#[]⟩, .int .i64 0, .int .i64 0, .slice none 0 0, .slice none 0 0]) (by simp [results, Tryd.results14, go_sem]) rfl (HZ.out _ ((Below.refl _ _).alloc (Nat.le_refl _) _))
      | true =>
        cases b3 with
        | false =>
          go_enter Tryd.func14, Tryd.ntmps14
          go_wp2_with fail
          refine (E0.out _).mono ?_
          rintro e w0 ⟨rfl, rfl⟩
          go_wp2_with fail
          refine (E1.out _).mono ?_
          rintro e w0 ⟨rfl, rfl⟩
          go_wp2_with fail
          refine (E2.out _).mono ?_
          rintro e w0 ⟨rfl, rfl⟩
          go_wp2_with fail
          refine E3.out.mono ?_
          rintro e w0 ⟨rfl, rfl⟩
          go_wp2
          exact bodyPost_ret (v := .agg #[.string ⟨#[]⟩, .int .i64 0, .string ⟨#[]⟩, .int .i64 0, .int .i64 0, .slice none 0 0, .slice none 0 0]) (by simp [results, Tryd.results14, go_sem]) rfl (HZ.out _ ((Below.refl _ _).alloc (Nat.le_refl _) _))
        | true =>
          cases b4 with
          | true => simp at key
          | false =>
              go_enter Tryd.func14, Tryd.ntmps14
              go_wp2_with fail
              refine (E0.out _).mono ?_
              rintro e w0 ⟨rfl, rfl⟩
              go_wp2_with fail
              refine (E1.out _).mono ?_
              rintro e w0 ⟨rfl, rfl⟩
              go_wp2_with fail
              refine (E2.out _).mono ?_
              rintro e w0 ⟨rfl, rfl⟩
              go_wp2_with fail
              refine E3.out.mono ?_
              rintro e w0 ⟨rfl, rfl⟩
              go_wp2_with fail
              refine (E4.out _).mono ?_
              rintro e w0 ⟨rfl, rfl⟩
              go_wp2
              exact bodyPost_ret (v := .agg #[.string ⟨#[]⟩, .int .i64 0, .string ⟨#[]⟩, .int .i64 0, .int .i64 0, .slice none 0 0, .slice none 0 0]) (by simp [results, Tryd.results14, go_sem]) rfl (HZ.out _ ((Below.refl _ _).alloc (Nat.le_refl _) _))
end Go.Proofs.YtbfejeeebfknjaaDoor
