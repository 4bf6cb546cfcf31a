/-
  The document's Sign.
-/
import Derived.Test.YtpglcbidfghfkaaGreatDoorPkRight
import Derived.Test.YtpglcbidfghfkaaGreatDoorPkSpecTree
import Derived.Test.YtpglcbidfghfkaaGreatDoorPkSpecDigits
import Derived.Test.YtpglcbidfghfkaaGreatDoorPkCells
import Derived.Test.YtpglcbidfghfkaaGreatDoorPkStepLaws
import Derived.Test.YtpglcbidfghfkaaGreatDoorPkHeadSV
import Derived.Test.YtpglcbidfghfkaaGreatDoorPkSpecHeadT
import Derived.Test.YtpglcbidfghfkaaGreatDoorPkTexts
import Derived.Test.YtpglcbidfghfkaaGreatDoorPkDrawSome
import Derived.Test.YtpglcbidfghfkaaGreatDoorPkSpecAll
import Derived.Test.YtpglcbidfghfkaaGreatDoorPkSpecNode
import Derived.Deep.RegionHeld3
import Derived.Deep.RegionWith
namespace Go.Proofs.YtpglcbidfghfkaaGreatDoor
open Go.RowKit Go.Lib
set_option linter.unusedVariables false
set_option linter.unusedSimpArgs false

/-- In between: the answer's block, the signature's block g, its path, the digits. -/
def SigAt (w wr : World) (H g : Nat) (k : Int) (ve vp vd : Value) (t : ByteArray) (pl : List ByteArray) : Prop :=
  w.heap.size < g ∧ g < H ∧ H ≤ wr.heap.size ∧ wr.heap[w.heap.size]? = some (.cells #[.int .i64 0, .slice none 0 0, .slice none 0 0] 27 (0, 0)) ∧
  wr.heap[g]? = some (.cells #[.int .i64 k, ve, vp] 27 (0, 0)) ∧ TextsIn wr (w.heap.size + 1) g vp pl ∧ DigRow wr (g + 1) H vd t ∧ Below w.heap.size w wr
theorem SigAt.step {w wr w1 : World} {H g : Nat} {k : Int} {ve vp vd : Value} {t : ByteArray} {pl : List ByteArray} (h : SigAt w wr H g k ve vp vd t pl) (hb : Below H wr w1) : SigAt w w1 H g k ve vp vd t pl := by
  obtain ⟨h1, h2, h3, h4, h5, h6, h7, h8⟩ := h
  exact ⟨h1, h2, Nat.le_trans h3 hb.size, (hb.block _ (by omega)).trans h4, (hb.block _ h2).trans h5, h6.below (hb.mono (by omega)), h7.below hb, h8.trans (hb.mono (by omega))⟩
theorem SigAt.put {w wr : World} {H g : Nat} {k : Int} {ve vp vd : Value} {t : ByteArray} {pl : List ByteArray} (h : SigAt w wr H g k ve vp vd t pl) (v : Value) : SigAt w (wr.setCell ⟨g, 1, none⟩ v) H g k v vp vd t pl := by
  obtain ⟨h1, h2, h3, h4, h5, h6, h7, h8⟩ := h
  refine ⟨h1, h2, by simpa [World.setCell] using h3, ?_, ?_, h6.below ((Below.refl g wr).setCell (p := ⟨g, 1, none⟩) (Nat.le_refl _) _), h7.put g 1 (by omega) v, h8.setCell (by simp; omega) _⟩
  · rw [heap_setCell_other _ _ _ _ (by simp; omega)]
    exact h4
  · rw [heap_setCell_same wr g 1 _ _ _ h5]
    rfl
theorem SigAt.cells {w wr : World} {H g gd cap : Nat} {k : Int} {ve vp : Value} {t : ByteArray} {pl : List ByteArray} (h : SigAt w wr H g k ve vp (.slice (some ⟨gd, 0, none⟩) 6 cap) t pl) (j : Nat) (hj : j < 6) :
    (wr.cell? ⟨g, 1, none⟩ = some ve ∧ wr.cell? ⟨gd, j, none⟩ = some (.int .i64 (digI t j)) ∧ wr.frozen? ⟨g, 1, none⟩ = false) ∧
    ∀ q : Obj, ((wr.alloc q).cell? ⟨g, 1, none⟩ = some ve ∧ (wr.alloc q).cell? ⟨gd, j, none⟩ = some (.int .i64 (digI t j))) ∧ ((wr.alloc q).drew.cell? ⟨g, 1, none⟩ = some ve ∧ (wr.alloc q).drew.cell? ⟨gd, j, none⟩ = some (.int .i64 (digI t j))) := by
  have key : ∀ W : World, SigAt w W H g k ve vp (.slice (some ⟨gd, 0, none⟩) 6 cap) t pl → W.cell? ⟨g, 1, none⟩ = some ve ∧ W.cell? ⟨gd, j, none⟩ = some (.int .i64 (digI t j)) ∧ W.frozen? ⟨g, 1, none⟩ = false := by
    rintro W ⟨h1, h2, h3, h4, h5, h6, ⟨gd', cap', hv, hA, hB, hc⟩, h8⟩
    simp at hv
    obtain ⟨rfl, rfl⟩ := hv
    exact ⟨by simp [World.cell?, h5], hc j hj, by simp [World.frozen?, h5]⟩
  have hH := h.2.2.1
  refine ⟨key wr h, fun q => ?_⟩
  have ha := h.step ((Below.refl H wr).alloc hH q)
  have hd := h.step (below_drew' ((Below.refl H wr).alloc hH q))
  exact ⟨⟨(key _ ha).1, (key _ ha).2.1⟩, ⟨(key _ hd).1, (key _ hd).2.1⟩⟩
/-- The first Ends are there. -/
def EndsAt (w wr : World) (H g : Nat) (k : Int) (ve vp vd : Value) (t : ByteArray) (pl l : List ByteArray) : Prop := OwnT wr H ve l ∧ SigAt w wr H g k ve vp vd t pl
theorem EndsAt.below {w wr w1 : World} {H g : Nat} {k : Int} {ve vp vd : Value} {t : ByteArray} {pl l : List ByteArray} (h : EndsAt w wr H g k ve vp vd t pl l) (hb : Below wr.heap.size wr w1) : EndsAt w w1 H g k ve vp vd t pl l :=
  ⟨h.1.below hb (Nat.le_refl _), h.2.step (hb.mono h.2.2.2.1)⟩
theorem EndsAt.drew {w wr : World} {H g : Nat} {k : Int} {ve vp vd : Value} {t : ByteArray} {pl l : List ByteArray} (h : EndsAt w wr H g k ve vp vd t pl l) : EndsAt w wr.drew H g k ve vp vd t pl l := ⟨h.1, h.2.step (below_drew' (Below.refl _ _))⟩
theorem ends_snoc (s : ByteArray) (k : Int) (t : ByteArray) (j : Nat) : (List.range j).map (fun j : Nat => stepsB (digB t j) (beginB s k j)) ++ [stepsB (digB t j) (beginB s k j)] = (List.range (j + 1)).map (fun j : Nat => stepsB (digB t j) (beginB s k j)) := by simp [List.range_succ]

/-- A signature whose Ends lie in a row of the call's own, behind n, its Path ahead of it. -/
def SigOut (w : World) (k : Int) (el pl : List ByteArray) (e : Ending) (w' : World) : Prop :=
  ∃ ve vp n, e = .returned (.agg #[.int .i64 k, ve, vp]) ∧ OwnT w' n ve el ∧ TextsIn w' w.heap.size n vp pl ∧ w.heap.size ≤ n ∧ n ≤ w'.heap.size ∧ Below w.heap.size w w'
set_option maxHeartbeats 2000000 in
set_option maxRecDepth 10000 in
theorem specSignO_any (s : ByteArray) (k : Int) (t : ByteArray) (w : World) (hs : s.size ≤ 64) (hk0 : 0 ≤ k) (hk1 : k ≤ 3) (ht : t.size ≤ 20000) :
    Calls Tryz.prog 75 #[.string s, .int .i64 k, .string t] w fun e w' => SigOut w k (endsB s k t) (pathB (pubsB s) k.toNat) e w' := by
  have E1 : Hid (∀ w, Calls Tryz.prog 78 #[.string s] w fun e w' => ∃ v, e = .returned v ∧ OwnT w' w.heap.size v (pubsB s) ∧ Below w.heap.size w w') := fun w => specPubs_any s w hs
  have E2 : Hid (∀ v w, Texts w w.heap.size v (pubsB s) → Calls Tryz.prog 157 #[v, .int .i64 k] w fun e w' => ∃ v', e = .returned v' ∧ OwnT w' w.heap.size v' (pathB (pubsB s) k.toNat) ∧ Below w.heap.size w w') := fun v w h =>
    specPath_any 4 (pubsB s) (pubsB_len s) (by omega) (by omega) (pubsB_size s) k.toNat k v w (by omega) (by omega) h
  have E3 : Hid (∀ w, Calls Tryz.prog 158 #[.string t] w fun e w' => ∃ v, e = .returned v ∧ DigRow w' w.heap.size w'.heap.size v t ∧ Below w.heap.size w w') := fun w => specDigits_any t w ht
  have E4 : Hid (∀ (j : Nat) (w : World), j < 6 → Calls Tryz.prog 160 #[.string s, .int .i64 k, .int .i64 j] w fun e w' => e = .returned (.string (beginB s k j)) ∧ Below w.heap.size w w') := fun j w hj => specBegin_any s k j w hs hk0 (by omega) (by omega) (by omega)
  have E5 : Hid (∀ (j : Nat) (w : World), Calls Tryz.prog 159 #[.string (beginB s k j), .int .i64 (digI t j)] w fun e w' => e = .returned (.string (stepsB (digB t j) (beginB s k j))) ∧ Below w.heap.size w w') := fun j w => by
    rw [← digB_cast]
    exact specSteps_any _ _ w (beginB_size _ _ _) (digB_le t j)
  generalize pubsB s = L at *
  generalize pathB L k.toNat = P at *
  clear hs ht
  go_enter Tryz.func75, Tryz.ntmps75
  go_wp2_with fail
  refine (E1.out _).mono ?_
  rintro e w1 ⟨v1, rfl, hown1, hb1⟩
  have H1 : Hid (Below (w.alloc (.cells #[.int .i64 0, .slice none 0 0, .slice none 0 0] 27)).heap.size (w.alloc (.cells #[.int .i64 0, .slice none 0 0, .slice none 0 0] 27)) w1 ∧ Texts w1 w1.heap.size v1 L) := ⟨hb1, hown1.texts⟩
  clear hown1 hb1 E1
  go_wp2_with fail
  refine (E2.out _ _ H1.out.2).mono ?_
  rintro e w2 ⟨v2, rfl, hown2, hb2⟩
  obtain ⟨a2, cap2, rfl⟩ := hown2.len
  have H2 : Hid (Below (w.alloc (.cells #[.int .i64 0, .slice none 0 0, .slice none 0 0] 27)).heap.size (w.alloc (.cells #[.int .i64 0, .slice none 0 0, .slice none 0 0] 27)) w2 ∧ TextsIn w2 (w.heap.size + 1) w2.heap.size (.slice a2 P.length cap2) P) := ⟨H1.out.1.trans (hb2.mono H1.out.1.size), hown2.inside.wide (by have := H1.out.1.size; simp at this; omega) (Nat.le_refl _)⟩
  clear hown2 hb2 E2 H1
  go_wp2_with fail
  refine (E3.out _).mono ?_
  rintro e w3 ⟨v3, rfl, hd3, hb3⟩
  obtain ⟨gd, cap3, rfl, hgA, hgB, hgc⟩ := id hd3
  have hz2 : w.heap.size + 1 ≤ w2.heap.size := by have := H2.out.1.size; simp at this; omega
  have hz3 : w2.heap.size + 1 ≤ w3.heap.size := by have := hb3.size; simp at this; omega
  have H3 : Hid (SigAt w w3 w3.heap.size w2.heap.size k (.slice none 0 0) (.slice a2 P.length cap2) (.slice (some ⟨gd, 0, none⟩) 6 cap3) t P) := by
    have hal : Below w2.heap.size w2 w3 := below_after hb3
    refine ⟨by omega, by omega, Nat.le_refl _, ?_, (hb3.block _ (by simp)).trans (heap_alloc_new w2 _), H2.out.2.below hal, ⟨gd, cap3, rfl, by simpa using hgA, hgB, hgc⟩, (below_after H2.out.1).trans (hal.mono (by omega))⟩
    exact (hal.block _ (by omega)).trans ((H2.out.1.block _ (by simp)).trans (heap_alloc_new w _))
  generalize hHH : w3.heap.size = H at *
  generalize hGG : w2.heap.size = g at *
  clear hd3 hb3 hgA hgB hgc H2 hz2 hz3 E3 hHH hGG
  obtain ⟨f, hf⟩ : ∃ f : Nat → ByteArray, f = fun j : Nat => stepsB (digB t j) (beginB s k j) := ⟨_, rfl⟩
  have HF : Hid (∀ j : Nat, stepsB (digB t j) (beginB s k j) = f j) := fun j => by rw [hf]
  have HFE : Hid ((List.range 6).map f = endsB s k t) := by
    show _ = _
    rw [hf]
    rfl
  clear hf
  go_wp2
  go_loopw [9] (fun x wr => ∃ (j : Nat) (ve : Value), j ≤ 6 ∧ x = .int .i64 j ∧ OwnT wr H ve ((List.range j).map f) ∧ SigAt w wr H g k ve (.slice a2 P.length cap2) (.slice (some ⟨gd, 0, none⟩) 6 cap3) t P) (fun x _ => 6 - (intOf x).toNat)
  case atStart => exact ⟨0, _, by omega, rfl, OwnT.nil _ _, H3.out⟩
  case round =>
    clear H3
    obtain ⟨j, ve, hj, rfl, hown, hS⟩ := hrel
    by_cases hlt : j < 6
    · have G5 := fun w => E5.out j w
      rw [HF.out j] at G5
      have F4 : Hid (∀ W, EndsAt w W H g k ve (.slice a2 P.length cap2) (.slice (some ⟨gd, 0, none⟩) 6 cap3) t P ((List.range j).map f) → Calls Tryz.prog 160 #[.string s, .int .i64 k, .int .i64 j] W fun e w' => e = .returned (.string (beginB s k j)) ∧ EndsAt w w' H g k ve (.slice a2 P.length cap2) (.slice (some ⟨gd, 0, none⟩) 6 cap3) t P ((List.range j).map f)) := fun W hI => (E4.out j W hlt).mono (by
        rintro e w' ⟨rfl, hb⟩
        exact ⟨rfl, hI.below hb⟩)
      have F5 : Hid (∀ W, EndsAt w W H g k ve (.slice a2 P.length cap2) (.slice (some ⟨gd, 0, none⟩) 6 cap3) t P ((List.range j).map f) → Calls Tryz.prog 159 #[.string (beginB s k j), .int .i64 (digI t j)] W fun e w' => e = .returned (.string (f j)) ∧ EndsAt w w' H g k ve (.slice a2 P.length cap2) (.slice (some ⟨gd, 0, none⟩) 6 cap3) t P ((List.range j).map f)) := fun W hI => (G5 W).mono (by
        rintro e w' ⟨rfl, hb⟩
        exact ⟨rfl, hI.below hb⟩)
      have HS : Hid ((List.range j).map f ++ [f j] = (List.range (j + 1)).map f) := by
        show _ = _
        simp [List.range_succ]
      have hll : ((List.range j).map f).length ≤ 1048576 := by simp; omega
      obtain ⟨⟨c1, c2, z1⟩, hal⟩ := hS.cells j hlt
      have HA : Hid (EndsAt w wr H g k ve (.slice a2 P.length cap2) (.slice (some ⟨gd, 0, none⟩) 6 cap3) t P ((List.range j).map f)) := ⟨hown, hS⟩
      have HC : Hid (∀ W, SigAt w W H g k ve (.slice a2 P.length cap2) (.slice (some ⟨gd, 0, none⟩) 6 cap3) t P → (W.cell? ⟨g, 1, none⟩ = some ve ∧ W.cell? ⟨gd, j, none⟩ = some (.int .i64 (digI t j)) ∧ W.frozen? ⟨g, 1, none⟩ = false) ∧
          ∀ q : Obj, ((W.alloc q).cell? ⟨g, 1, none⟩ = some ve ∧ (W.alloc q).cell? ⟨gd, j, none⟩ = some (.int .i64 (digI t j))) ∧ ((W.alloc q).drew.cell? ⟨g, 1, none⟩ = some ve ∧ (W.alloc q).drew.cell? ⟨gd, j, none⟩ = some (.int .i64 (digI t j)))) := fun W h => h.cells j hlt
      generalize (List.range j).map f = l at *
      generalize f j = T at *
      generalize beginB s k j = B at *
      generalize digI t j = d at *
      have hjI : (j : Int) < 6 := by omega
      have hj0 : (0 : Int) ≤ (j : Int) := by omega
      clear G5 hown hS E4 E5
      go_wp2_with fail
      go_region_law (first
        | (refine step_enter rfl 160 #[.string s, .int .i64 k, .int .i64 j] (F4.out _ ?_) ?_ ?_; (first | exact HA.out | exact HA.out.drew); go_simp; rintro e wa ⟨rfl, hia⟩; refine ⟨_, rfl, ?_⟩; have HA1 : Hid (EndsAt w wa H g k ve (.slice a2 P.length cap2) (.slice (some ⟨gd, 0, none⟩) 6 cap3) t P l) := hia; obtain ⟨⟨x1, x2, x3⟩, x4⟩ := HC.out _ hia.2; clear hia)
        | (refine step_enter rfl 159 #[.string B, .int .i64 d] (F5.out _ ?_) ?_ ?_; (first | exact HA1.out | exact HA1.out.drew); go_simp; rintro e wb ⟨rfl, hia⟩; refine ⟨_, rfl, ?_⟩; have HA2 : Hid (EndsAt w wb H g k ve (.slice a2 P.length cap2) (.slice (some ⟨gd, 0, none⟩) 6 cap3) t P l) := hia; obtain ⟨⟨y1, y2, y3⟩, y4⟩ := HC.out _ hia.2; clear hia)
        | (refine step_app_text (w := wb) rfl (.tmp 23) (.tmp 33) rfl H ve l T (by simp [Act.eval]) HA2.out.1 (by simp [Act.eval]) hll HA2.out.2.2.2.1 ?_; intro v4 w4 hown4 hb4; obtain ⟨a4, cap4, rfl⟩ := hown4.len; have HS4 : Hid (OwnT w4 H (.slice a4 (l ++ [T]).length cap4) (l ++ [T]) ∧ SigAt w w4 H g k ve (.slice a2 P.length cap2) (.slice (some ⟨gd, 0, none⟩) 6 cap3) t P) := ⟨hown4, HA2.out.2.step hb4⟩; obtain ⟨⟨r1, r2, r3⟩, r4⟩ := HC.out _ HS4.out.2; clear hown4 hb4))
      all_goals
        have hlen : (l ++ [T]).length = l.length + 1 := by simp
        have H5 : Hid (OwnT (w4.setCell ⟨g, 1, none⟩ (.slice a4 (l.length + 1) cap4)) H (.slice a4 (l.length + 1) cap4) ((List.range (j + 1)).map f) ∧ SigAt w (w4.setCell ⟨g, 1, none⟩ (.slice a4 (l.length + 1) cap4)) H g k (.slice a4 (l.length + 1) cap4) (.slice a2 P.length cap2) (.slice (some ⟨gd, 0, none⟩) 6 cap3) t P) := by
          refine ⟨?_, HS4.out.2.put _⟩
          rw [← HS.out, ← hlen]
          exact HS4.out.1.far HS4.out.2.2.1
        generalize w4.setCell ⟨g, 1, none⟩ (.slice a4 (l.length + 1) cap4) = w5 at *
        clear r1 r2 r3 r4 hlen
        go_wp2
        go_roundw
        case rel => exact ⟨j + 1, _, by omega, by go_num, H5.out.1, H5.out.2⟩
        case measure => simp [intOf]; omega
    · have e6 : j = 6 := by omega
      rw [e6] at hown
      obtain ⟨ae, cape, hve⟩ := hown.len
      have hl6 : ((List.range 6).map f).length = 6 := by simp
      rw [hl6] at hve
      subst hve
      have HFIN : Hid (Texts wr wr.heap.size (.slice ae 6 cape) ((List.range 6).map f) ∧ OwnT wr H (.slice ae 6 cape) ((List.range 6).map f) ∧ SigAt w wr H g k (.slice ae 6 cape) (.slice a2 P.length cap2) (.slice (some ⟨gd, 0, none⟩) 6 cap3) t P) := ⟨hown.texts, hown, hS⟩
      obtain ⟨h1, h2, h3, h4, h5, h6, h7, h8⟩ := hS
      obtain ⟨⟨c0, c1, c2⟩, f0, f1, f2⟩ := three_cells (Below.refl wr.heap.size wr) (show w.heap.size < wr.heap.size by omega) h4
      obtain ⟨⟨d0, d1, d2⟩, g0, g1, g2⟩ := three_cells (Below.refl wr.heap.size wr) (show g < wr.heap.size by omega) h5
      have hjI : ¬ (j : Int) < 6 := by omega
      clear hown e6 hl6 h1 h2 h3 h4 h5 h6 h7 h8 E4 E5
      go_wp2
      refine bodyPost_ret (v := .agg #[.int .i64 k, .slice ae 6 cape, .slice a2 P.length cap2]) (by simp [results, Tryz.results75, go_sem, c0, c1, c2, f0, f1, f2]) rfl ⟨_, _, H, rfl, ?_, ?_, ?_, ?_, ?_⟩
      · obtain ⟨hT, ho, hs⟩ := HFIN.out
        rw [← HFE.out]
        have hw : w.heap.size < H := by have := hs.1; have := hs.2.1; omega
        exact ((ho.far (i := 0) hw).far (i := 1) hw).far (i := 2) hw
      · obtain ⟨hT, ho, hs⟩ := HFIN.out
        have hp := hs.2.2.2.2.2.1
        have hz : g ≤ H := Nat.le_of_lt hs.2.1
        exact (((hp.far (i := 0) (Nat.lt_succ_self _)).far (i := 1) (Nat.lt_succ_self _)).far (i := 2) (Nat.lt_succ_self _)).wide (Nat.le_succ _) hz
      · obtain ⟨hT, ho, hs⟩ := HFIN.out
        have := hs.1
        have := hs.2.1
        omega
      · obtain ⟨hT, ho, hs⟩ := HFIN.out
        have := hs.2.2.1
        simp [World.setCell]
        omega
      · obtain ⟨hT, ho, hs⟩ := HFIN.out
        exact ((hs.2.2.2.2.2.2.2.setCell (Nat.le_refl _) _).setCell (Nat.le_refl _) _).setCell (Nat.le_refl _) _
theorem specSignY_any (s : ByteArray) (k : Int) (t : ByteArray) (w : World) (hs : s.size ≤ 64) (hk0 : 0 ≤ k) (hk1 : k ≤ 3) (ht : t.size ≤ 20000) :
    Calls Tryz.prog 75 #[.string s, .int .i64 k, .string t] w fun e w' => ∃ ve vp, e = .returned (.agg #[.int .i64 k, ve, vp]) ∧ TextsIn w' w.heap.size w'.heap.size ve (endsB s k t) ∧ TextsIn w' w.heap.size w'.heap.size vp (pathB (pubsB s) k.toNat) ∧ Below w.heap.size w w' :=
  (specSignO_any s k t w hs hk0 hk1 ht).mono fun e w' ⟨ve, vp, n, h1, h2, h3, h4, h5, h6⟩ => ⟨ve, vp, h1, h2.inside.wide h4 (Nat.le_refl _), h3.wide (Nat.le_refl _) h5, h6⟩
end Go.Proofs.YtpglcbidfghfkaaGreatDoor

/-
  HeadSign, the document's.
-/
namespace Go.Proofs.YtpglcbidfghfkaaGreatDoor
open Go.RowKit Go.Lib
set_option linter.unusedVariables false
set_option linter.unusedSimpArgs false

set_option maxHeartbeats 4000000 in
set_option maxRecDepth 10000 in
theorem specHeadSignY_any (s : ByteArray) (k : Int) (log : ByteArray) (v : Value) (l : List ByteArray) (t : Int) (w : World) (h : Texts w w.heap.size v l) (hl : l.length ≤ 1048576) (hs : s.size ≤ 1048576) (hlog : log.size ≤ 1048576) (ht : -9223372036854775808 ≤ t ∧ t ≤ 9223372036854775807) (hB : hsB s k log l t = true) :
    Calls Tryz.prog 10 #[.string s, .int .i64 k, .string log, v, .int .i64 t] w fun e w' => HeadTold w log l.length (treeB l) t k (endsB s k (hsT log l t)) (pathB (pubsB s) k.toNat) e w' := by
  obtain ⟨y1, y2, y3, y4, y5⟩ := hsB_yes hB
  have hz := hsT_size y3 l t
  obtain ⟨a, cap, rfl, hxx⟩ := id h
  clear hxx
  obtain ⟨W, hW⟩ : ∃ W, W = w.alloc (.cells #[.string ⟨#[]⟩, .int .i64 0, .string ⟨#[]⟩, .int .i64 0, .int .i64 0, .slice none 0 0, .slice none 0 0] 29) := ⟨_, rfl⟩
  have hbW : Below w.heap.size w W := by rw [hW]; exact (Below.refl _ _).alloc (Nat.le_refl _) _
  have hgW : W.heap[w.heap.size]? = some (.cells #[.string ⟨#[]⟩, .int .i64 0, .string ⟨#[]⟩, .int .i64 0, .int .i64 0, .slice none 0 0, .slice none 0 0] 29 (0, 0)) := by rw [hW]; exact heap_alloc_new w _
  have HW : Hid (W = w.alloc (.cells #[.string ⟨#[]⟩, .int .i64 0, .string ⟨#[]⟩, .int .i64 0, .int .i64 0, .slice none 0 0, .slice none 0 0] 29)) := hW
  have E0 : Hid (∀ w, Calls Tryz.prog 70 #[.string s] w fun e w' => e = .returned (.bool true) ∧ w' = w) := fun w => by rw [← y1]; exact specSeed_any s w hs
  have E1 : Hid (∀ w, Calls Tryz.prog 71 #[.int .i64 k, .int .i64 0, .int .i64 3] w fun e w' => e = .returned (.bool true) ∧ w' = w) := fun w => by rw [← decide_eq_true y2]; exact is_any k 0 3 w
  have E2 : Hid (∀ w, Calls Tryz.prog 72 #[.string log] w fun e w' => e = .returned (.bool true) ∧ w' = w) := fun w => by rw [← y3]; exact (specName_any log w (by unfold maxLen; omega)).mono fun e w' h => ⟨h.1.name, h.2⟩
  have E3 : Hid (Calls Tryz.prog 73 #[.slice a l.length cap] W fun e w' => e = .returned (.bool true) ∧ w' = W) := by rw [← y4]; exact specEntries_any _ l W _ ((h.below hbW).up hbW.size) hl
  have E4 : Hid (∀ w, Calls Tryz.prog 71 #[.int .i64 t, .int .i64 0, .int .i64 1000000000] w fun e w' => e = .returned (.bool true) ∧ w' = w) := fun w => by rw [← decide_eq_true y5]; exact is_any t 0 1000000000 w
  have E5 : Hid (Calls Tryz.prog 74 #[.slice a l.length cap] W fun e w' => e = .returned (.string (treeB l)) ∧ Below W.heap.size W w') := specTree_any l.length l rfl hl (fun j hj => rightB_at y4 hj) _ W ((h.below hbW).up hbW.size)
  have hts : (treeB l).size ≤ 1048576 := by rw [treeB_size]; omega
  have hn64 := rightB_len y4
  have E6 : Hid (∀ X, Calls Tryz.prog 76 #[.agg #[.string log, .int .i64 l.length, .string (treeB l), .int .i64 t, .int .i64 0, .slice none 0 0, .slice none 0 0]] X fun e w' => e = .returned (.string (hsT log l t)) ∧ Below X.heap.size X w') := fun X => l05Text_any log (treeB l) l.length t 0 none none 0 0 0 0 X hlog hts (by omega) ht
  have hss : s.size ≤ 64 := by
    unfold seedB at y1
    simp at y1
    omega
  have E7 : Hid (∀ X, Calls Tryz.prog 75 #[.string s, .int .i64 k, .string (hsT log l t)] X fun e w' => ∃ ve vp, e = .returned (.agg #[.int .i64 k, ve, vp]) ∧ TextsIn w' X.heap.size w'.heap.size ve (endsB s k (hsT log l t)) ∧ TextsIn w' X.heap.size w'.heap.size vp (pathB (pubsB s) k.toNat) ∧ Below X.heap.size X w') := fun X => specSignY_any s k _ X hss y2.1 y2.2 (by omega)
  have H0 : Hid (Below w.heap.size w W ∧ W.heap[w.heap.size]? = some (.cells #[.string ⟨#[]⟩, .int .i64 0, .string ⟨#[]⟩, .int .i64 0, .int .i64 0, .slice none 0 0, .slice none 0 0] 29 (0, 0)) ∧ w.heap.size < W.heap.size) := ⟨hbW, hgW, (Array.getElem?_eq_some_iff.1 hgW).1⟩
  generalize treeB l = R at *
  generalize hsT log l t = T at *
  generalize endsB s k T = E at *
  generalize pathB (pubsB s) k.toNat = P at *
  clear h hl hs hlog ht hB y1 y2 y3 y4 y5 hz hW hbW hgW hts hss
  generalize hn : l.length = n at *
  clear hn
  have hlen : ¬ (400 : Int) < (n : Int) := by omega
  go_enter Tryz.func10, Tryz.ntmps10
  go_wp2_with fail
  rw [← HW.out]
  refine (E0.out _).mono ?_
  rintro e w0 ⟨rfl, h0⟩
  obtain rfl : W = w0 := h0.symm
  go_wp2_with fail
  refine (E1.out _).mono ?_
  rintro e w0 ⟨rfl, h0⟩
  obtain rfl : W = w0 := h0.symm
  go_wp2_with fail
  refine (E2.out _).mono ?_
  rintro e w0 ⟨rfl, h0⟩
  obtain rfl : W = w0 := h0.symm
  go_wp2_with fail
  refine E3.out.mono ?_
  rintro e w0 ⟨rfl, h0⟩
  obtain rfl : W = w0 := h0.symm
  go_wp2_with fail
  refine (E4.out _).mono ?_
  rintro e w0 ⟨rfl, h0⟩
  obtain rfl : W = w0 := h0.symm
  go_wp2_with fail
  refine E5.out.mono ?_
  rintro e w1 ⟨rfl, hb1⟩
  obtain ⟨W1, hW1⟩ : ∃ W, W = w1.alloc (.cells #[.string log, .int .i64 n, .string R, .int .i64 t, .int .i64 0, .slice none 0 0, .slice none 0 0] 29) := ⟨_, rfl⟩
  have hal : Below w1.heap.size w1 W1 := by rw [hW1]; exact (Below.refl _ _).alloc (Nat.le_refl _) _
  have hb01 : Below W.heap.size W W1 := hb1.trans (hal.mono hb1.size)
  have H1 : Hid (Below w.heap.size w W1 ∧ W1.heap[w.heap.size]? = some (.cells #[.string ⟨#[]⟩, .int .i64 0, .string ⟨#[]⟩, .int .i64 0, .int .i64 0, .slice none 0 0, .slice none 0 0] 29 (0, 0)) ∧ W1.heap[w1.heap.size]? = some (.cells #[.string log, .int .i64 n, .string R, .int .i64 t, .int .i64 0, .slice none 0 0, .slice none 0 0] 29 (0, 0)) ∧ w.heap.size < w1.heap.size ∧ w1.heap.size < W1.heap.size) := ⟨H0.out.1.trans (hb01.mono H0.out.1.size), (hb01.block _ H0.out.2.2).trans H0.out.2.1, by rw [hW1]; exact heap_alloc_new w1 _, Nat.lt_of_lt_of_le H0.out.2.2 hb1.size, by rw [hW1]; simp⟩
  have HW1 : Hid (W1 = w1.alloc (.cells #[.string log, .int .i64 n, .string R, .int .i64 t, .int .i64 0, .slice none 0 0, .slice none 0 0] 29)) := hW1
  clear hal hb01 hb1 hW1 E0 E1 E2 E3 E4 E5 HW H0
  go_wp2_with fail
  rw [← HW1.out]
  clear HW1
  generalize hg : w1.heap.size = g at *
  clear hg
  refine (E6.out _).mono ?_
  rintro e w2 ⟨rfl, hb2⟩
  have hz2 : W1.heap.size ≤ w2.heap.size := hb2.size
  have H2 : Hid (Below w.heap.size w w2 ∧ w2.heap[w.heap.size]? = some (.cells #[.string ⟨#[]⟩, .int .i64 0, .string ⟨#[]⟩, .int .i64 0, .int .i64 0, .slice none 0 0, .slice none 0 0] 29 (0, 0)) ∧ w2.heap[g]? = some (.cells #[.string log, .int .i64 n, .string R, .int .i64 t, .int .i64 0, .slice none 0 0, .slice none 0 0] 29 (0, 0)) ∧ w.heap.size < g ∧ g < w2.heap.size) := ⟨H1.out.1.trans (hb2.mono H1.out.1.size), (hb2.block _ (Nat.lt_trans H1.out.2.2.2.1 H1.out.2.2.2.2)).trans H1.out.2.1, (hb2.block _ H1.out.2.2.2.2).trans H1.out.2.2.1, H1.out.2.2.2.1, Nat.lt_of_lt_of_le H1.out.2.2.2.2 hz2⟩
  clear hb2 hz2 H1 E6
  go_wp2_with fail
  refine (E7.out _).mono ?_
  rintro e w3 ⟨ve, vp, rfl, ht1, ht2, hb3⟩
  obtain ⟨a3, c3', rfl⟩ : ∃ a c, ve = .slice a E.length c := by obtain ⟨a, c, h, _⟩ := ht1; exact ⟨a, c, h⟩
  obtain ⟨a4, c4', rfl⟩ : ∃ a c, vp = .slice a P.length c := by obtain ⟨a, c, h, _⟩ := ht2; exact ⟨a, c, h⟩
  have k0 := (hb3.block _ (Nat.lt_trans H2.out.2.2.2.1 H2.out.2.2.2.2)).trans H2.out.2.1
  have k1 := (hb3.block _ H2.out.2.2.2.2).trans H2.out.2.2.1
  obtain ⟨⟨u0, u1, u2, u3, u4, u5, u6⟩, fu⟩ := seven_cells (Below.refl w3.heap.size w3) (Array.getElem?_eq_some_iff.1 k0).1 k0
  obtain ⟨⟨x0, x1, x2, x3, x4, x5, x6⟩, fx⟩ := seven_cells (Below.refl w3.heap.size w3) (Array.getElem?_eq_some_iff.1 k1).1 k1
  have f0 := fu 0
  have f1 := fu 1
  have f2 := fu 2
  have f3 := fu 3
  have f4 := fu 4
  have f5 := fu 5
  have f6 := fu 6
  have g4 := fx 4
  have g5 := fx 5
  have g6 := fx 6
  have hgn : ¬ w.heap.size = g := Nat.ne_of_lt H2.out.2.2.2.1
  have hgn2 : ¬ g = w.heap.size := fun e => hgn e.symm
  have H3 : Hid (Below w.heap.size w w3 ∧ TextsIn w3 w2.heap.size w3.heap.size (.slice a3 E.length c3') E ∧ TextsIn w3 w2.heap.size w3.heap.size (.slice a4 P.length c4') P ∧ w.heap.size < g ∧ g < w2.heap.size) := ⟨H2.out.1.trans (hb3.mono H2.out.1.size), ht1, ht2, H2.out.2.2.2⟩
  clear fu fx k0 k1 ht1 ht2 hb3 H2 E7
  go_wp2
  refine bodyPost_ret (v := .agg #[.string log, .int .i64 n, .string R, .int .i64 t, .int .i64 k, .slice a3 E.length c3', .slice a4 P.length c4']) (by simp [results, Tryz.results10, go_sem, u0, u1, u2, u3, u4, u5, u6, f0, f1, f2, f3, f4, f5, f6, x0, x1, x2, x3, x4, x5, x6, g4, g5, g6, hgn, hgn2]) rfl ⟨_, _, rfl, ?_, ?_, ?_⟩
  · obtain ⟨q1, q2, q3, q4, q5⟩ := H3.out
    refine Texts.up (B := w3.heap.size) (TextsIn.texts (A := w2.heap.size) ?_) (by simp [World.setCell])
    (repeat (refine TextsIn.far ?_ (by omega)))
    exact q2
  · obtain ⟨q1, q2, q3, q4, q5⟩ := H3.out
    refine Texts.up (B := w3.heap.size) (TextsIn.texts (A := w2.heap.size) ?_) (by simp [World.setCell])
    (repeat (refine TextsIn.far ?_ (by omega)))
    exact q3
  · obtain ⟨q1, q2, q3, q4, q5⟩ := H3.out
    (repeat (refine Below.setCell ?_ (by simp <;> omega) _))
    exact q1

set_option maxHeartbeats 2000000 in
set_option maxRecDepth 10000 in
theorem specHeadSign_any (s : ByteArray) (k : Int) (log : ByteArray) (v : Value) (l : List ByteArray) (t : Int) (w : World) (h : Texts w w.heap.size v l) (hl : l.length ≤ 1048576) (hs : s.size ≤ 1048576) (hlog : log.size ≤ 1048576) (ht : -9223372036854775808 ≤ t ∧ t ≤ 9223372036854775807) :
    Calls Tryz.prog 10 #[.string s, .int .i64 k, .string log, v, .int .i64 t] w fun e w' => HeadTold w (hsLog s k log l t) (hsSize s k log l t) (hsRoot s k log l t) (hsTime s k log l t) (hsKey s k log l t) (hsEnds s k log l t) (hsPath s k log l t) e w' := by
  unfold hsLog hsSize hsRoot hsTime hsKey hsEnds hsPath
  by_cases hB : hsB s k log l t = true
  · simp only [if_pos hB]
    exact specHeadSignY_any s k log v l t w h hl hs hlog ht hB
  simp only [if_neg hB]
  have HZ : Hid (∀ W : World, Below w.heap.size w W → HeadTold w ⟨#[]⟩ 0 ⟨#[]⟩ 0 0 [] [] (.returned (.agg #[.string ⟨#[]⟩, .int .i64 0, .string ⟨#[]⟩, .int .i64 0, .int .i64 0, .slice none 0 0, .slice none 0 0])) W) := fun W hb => ⟨_, _, rfl, (OwnT.nil W 0).texts, (OwnT.nil W 0).texts, hb⟩
  obtain ⟨a, cap, rfl, hxx⟩ := id h
  clear hxx
  obtain ⟨W, hW⟩ : ∃ W, W = w.alloc (.cells #[.string ⟨#[]⟩, .int .i64 0, .string ⟨#[]⟩, .int .i64 0, .int .i64 0, .slice none 0 0, .slice none 0 0] 29) := ⟨_, rfl⟩
  have hbW : Below w.heap.size w W := by rw [hW]; exact (Below.refl _ _).alloc (Nat.le_refl _) _
  have E0 : Hid (∀ w, Calls Tryz.prog 70 #[.string s] w fun e w' => e = .returned (.bool (seedB s)) ∧ w' = w) := fun w => specSeed_any s w hs
  have E1 : Hid (∀ w, Calls Tryz.prog 71 #[.int .i64 k, .int .i64 0, .int .i64 3] w fun e w' => e = .returned (.bool (decide (0 ≤ k ∧ k ≤ 3))) ∧ w' = w) := fun w => is_any k 0 3 w
  have E2 : Hid (∀ w, Calls Tryz.prog 72 #[.string log] w fun e w' => e = .returned (.bool (nameB log)) ∧ w' = w) := fun w => (specName_any log w (by unfold maxLen; omega)).mono fun e w' h => ⟨h.1.name, h.2⟩
  have E3 : Hid (Calls Tryz.prog 73 #[.slice a l.length cap] W fun e w' => e = .returned (.bool (rightB l)) ∧ w' = W) := specEntries_any _ l W _ ((h.below hbW).up hbW.size) hl
  have E4 : Hid (∀ w, Calls Tryz.prog 71 #[.int .i64 t, .int .i64 0, .int .i64 1000000000] w fun e w' => e = .returned (.bool (decide (0 ≤ t ∧ t ≤ 1000000000))) ∧ w' = w) := fun w => is_any t 0 1000000000 w
  rw [hW] at E3
  clear h hW hbW
  by_cases hlen : (400 : Int) < (l.length : Int)
  · clear E0 E1 E2 E3 E4 hl
    generalize hn : l.length = n at *
    clear hn
    go_enter Tryz.func10, Tryz.ntmps10
    go_wp2
    exact bodyPost_ret (v := .agg #[.string ⟨#[]⟩, .int .i64 0, .string ⟨#[]⟩, .int .i64 0, .int .i64 0, .slice none 0 0, .slice none 0 0]) (by simp [results, Tryz.results10, go_sem]) rfl (HZ.out _ ((Below.refl _ _).alloc (Nat.le_refl _) _))
  have key : seedB s = false ∨ decide (0 ≤ k ∧ k ≤ 3) = false ∨ nameB log = false ∨ rightB l = false ∨ decide (0 ≤ t ∧ t ≤ 1000000000) = false := by
    unfold hsB at hB
    cases x0 : seedB s <;> cases x1 : decide (0 ≤ k ∧ k ≤ 3) <;> cases x2 : nameB log <;> cases x3 : rightB l <;> cases x4 : decide (0 ≤ t ∧ t ≤ 1000000000) <;> simp [x0, x1, x2, x3, x4] at hB ⊢
  clear hB
  generalize seedB s = b0 at *
  generalize decide (0 ≤ k ∧ k ≤ 3) = b1 at *
  generalize nameB log = b2 at *
  generalize rightB l = b3 at *
  generalize decide (0 ≤ t ∧ t ≤ 1000000000) = b4 at *
  clear hl hs hlog ht
  generalize hn : l.length = n at *
  clear hn
  cases b0 with
  | false =>
    go_enter Tryz.func10, Tryz.ntmps10
    go_wp2_with fail
    refine (E0.out _).mono ?_
    rintro e w0 ⟨rfl, rfl⟩
    go_wp2
    exact bodyPost_ret (v := .agg #[.string ⟨#[]⟩, .int .i64 0, .string ⟨#[]⟩, .int .i64 0, .int .i64 0, .slice none 0 0, .slice none 0 0]) (by simp [results, Tryz.results10, go_sem]) rfl (HZ.out _ ((Below.refl _ _).alloc (Nat.le_refl _) _))
  | true =>
    cases b1 with
    | false =>
      go_enter Tryz.func10, Tryz.ntmps10
      go_wp2_with fail
      refine (E0.out _).mono ?_
      rintro e w0 ⟨rfl, rfl⟩
      go_wp2_with fail
      refine (E1.out _).mono ?_
      rintro e w0 ⟨rfl, rfl⟩
      go_wp2
      exact bodyPost_ret (v := .agg #[.string ⟨#[]⟩, .int .i64 0, .string ⟨#[]⟩, .int .i64 0, .int .i64 0, .slice none 0 0, .slice none 0 0]) (by simp [results, Tryz.results10, go_sem]) rfl (HZ.out _ ((Below.refl _ _).alloc (Nat.le_refl _) _))
    | true =>
      cases b2 with
      | false =>
        go_enter Tryz.func10, Tryz.ntmps10
        go_wp2_with fail
        refine (E0.out _).mono ?_
        rintro e w0 ⟨rfl, rfl⟩
        go_wp2_with fail
        refine (E1.out _).mono ?_
        rintro e w0 ⟨rfl, rfl⟩
        go_wp2_with fail
        refine (E2.out _).mono ?_
        rintro e w0 ⟨rfl, rfl⟩
        go_wp2
        exact bodyPost_ret (v := .agg #[.string ⟨#[]⟩, .int .i64 0, .string ⟨#[]⟩, .int .i64 0, .int .i64 0, .slice none 0 0, .slice none 0 0]) (by simp [results, Tryz.results10, go_sem]) rfl (HZ.out _ ((Below.refl _ _).alloc (Nat.le_refl _) _))
      | true =>
        cases b3 with
        | false =>
          go_enter Tryz.func10, Tryz.ntmps10
          go_wp2_with fail
          refine (E0.out _).mono ?_
          rintro e w0 ⟨rfl, rfl⟩
          go_wp2_with fail
          refine (E1.out _).mono ?_
          rintro e w0 ⟨rfl, rfl⟩
          go_wp2_with fail
          refine (E2.out _).mono ?_
          rintro e w0 ⟨rfl, rfl⟩
          go_wp2_with fail
          refine E3.out.mono ?_
          rintro e w0 ⟨rfl, rfl⟩
          go_wp2
          exact bodyPost_ret (v := .agg #[.string ⟨#[]⟩, .int .i64 0, .string ⟨#[]⟩, .int .i64 0, .int .i64 0, .slice none 0 0, .slice none 0 0]) (by simp [results, Tryz.results10, go_sem]) rfl (HZ.out _ ((Below.refl _ _).alloc (Nat.le_refl _) _))
        | true =>
          cases b4 with
          | true => simp at key
          | false =>
              go_enter Tryz.func10, Tryz.ntmps10
              go_wp2_with fail
              refine (E0.out _).mono ?_
              rintro e w0 ⟨rfl, rfl⟩
              go_wp2_with fail
              refine (E1.out _).mono ?_
              rintro e w0 ⟨rfl, rfl⟩
              go_wp2_with fail
              refine (E2.out _).mono ?_
              rintro e w0 ⟨rfl, rfl⟩
              go_wp2_with fail
              refine E3.out.mono ?_
              rintro e w0 ⟨rfl, rfl⟩
              go_wp2_with fail
              refine (E4.out _).mono ?_
              rintro e w0 ⟨rfl, rfl⟩
              go_wp2
              exact bodyPost_ret (v := .agg #[.string ⟨#[]⟩, .int .i64 0, .string ⟨#[]⟩, .int .i64 0, .int .i64 0, .slice none 0 0, .slice none 0 0]) (by simp [results, Tryz.results10, go_sem]) rfl (HZ.out _ ((Below.refl _ _).alloc (Nat.le_refl _) _))
end Go.Proofs.YtpglcbidfghfkaaGreatDoor

/-
  The document's Sign, at every argument.
-/
namespace Go.Proofs.YtpglcbidfghfkaaGreatDoor
open Go.RowKit Go.Lib
set_option linter.unusedVariables false
set_option linter.unusedSimpArgs false

/-- An answer that is a signature: what its rows hold can be read. -/
def SigTold (w : World) (k : Int) (el pl : List ByteArray) (e : Ending) (w' : World) : Prop :=
  ∃ ve vp, e = .returned (.agg #[.int .i64 k, ve, vp]) ∧ TextsIn w' w.heap.size w'.heap.size ve el ∧ TextsIn w' w.heap.size w'.heap.size vp pl ∧ Below w.heap.size w w'
theorem textsIn_nil (w : World) (A B : Nat) : TextsIn w A B (.slice none 0 0) [] := ⟨none, 0, rfl, .inl rfl, Nat.le_refl _⟩

set_option maxHeartbeats 1000000 in
set_option maxRecDepth 10000 in
theorem specSign_any (s : ByteArray) (k : Int) (t : ByteArray) (w : World) (hs : s.size ≤ 1048576) (ht : t.size ≤ 1048576) :
    Calls Tryz.prog 209 #[.string s, .int .i64 k, .string t] w fun e w' => SigTold w (sigKey s k t) (sigEnds s k t) (sigPath s k t) e w' := by
  have E0 : Hid (∀ w, Calls Tryz.prog 70 #[.string s] w fun e w' => e = .returned (.bool (seedB s)) ∧ w' = w) := fun w => specSeed_any s w hs
  have E1 : Hid (∀ w, Calls Tryz.prog 71 #[.int .i64 k, .int .i64 0, .int .i64 3] w fun e w' => e = .returned (.bool (decide (0 ≤ k ∧ k ≤ 3))) ∧ w' = w) := fun w => is_any k 0 3 w
  have zero : ∀ W : World, Below w.heap.size w W → SigTold w 0 [] [] (.returned (.agg #[.int .i64 0, .slice none 0 0, .slice none 0 0])) W := fun W hb => ⟨_, _, rfl, textsIn_nil _ _ _, textsIn_nil _ _ _, hb⟩
  have HZ : Hid (∀ W : World, Below w.heap.size w W → SigTold w 0 [] [] (.returned (.agg #[.int .i64 0, .slice none 0 0, .slice none 0 0])) W) := zero
  clear zero
  unfold sigKey sigEnds sigPath
  by_cases h : signB s k t = true
  · obtain ⟨h1, h2, h3, h4⟩ := signB_yes h
    have hs64 := seedB_yes h1
    rw [h1] at E0
    rw [decide_eq_true ⟨h2, h3⟩] at E1
    rw [if_pos h, if_pos h, if_pos h]
    have E2 : Hid (∀ w, Calls Tryz.prog 75 #[.string s, .int .i64 k, .string t] w fun e w' => ∃ ve vp, e = .returned (.agg #[.int .i64 k, ve, vp]) ∧ TextsIn w' w.heap.size w'.heap.size ve (endsB s k t) ∧ TextsIn w' w.heap.size w'.heap.size vp (pathB (pubsB s) k.toNat) ∧ Below w.heap.size w w') := fun w => specSignY_any s k t w (by omega) h2 h3 (by omega)
    generalize endsB s k t = EN at *
    generalize pathB (pubsB s) k.toNat = P at *
    have htI : ¬ 20000 < (t.size : Int) := by omega
    clear h h1 h2 h3 h4 hs64 HZ
    go_enter Tryz.func209, Tryz.ntmps209
    go_wp2_with fail
    refine (E0.out _).mono ?_
    rintro e w0 ⟨rfl, rfl⟩
    go_wp2_with fail
    refine (E1.out _).mono ?_
    rintro e w0 ⟨rfl, rfl⟩
    go_wp2_with fail
    refine (E2.out _).mono ?_
    rintro e w1 ⟨ve, vp, rfl, h1, h2, hb1⟩
    obtain ⟨⟨c0, c1, c2⟩, f0, f1, f2⟩ := three_cells hb1 (show w.heap.size < _ by simp) (heap_alloc_new w _)
    obtain ⟨ae, ce, rfl⟩ : ∃ ae ce, ve = .slice ae EN.length ce := by obtain ⟨a, c, h, _⟩ := h1; exact ⟨a, c, h⟩
    obtain ⟨ap, cp, rfl⟩ : ∃ ap cp, vp = .slice ap P.length cp := by obtain ⟨a, c, h, _⟩ := h2; exact ⟨a, c, h⟩
    have hA : (w.alloc (.cells #[.int .i64 0, .slice none 0 0, .slice none 0 0] 27)).heap.size = w.heap.size + 1 := by simp
    rw [hA] at h1 h2
    have H1 : Hid (TextsIn w1 (w.heap.size + 1) w1.heap.size (.slice ae EN.length ce) EN ∧ TextsIn w1 (w.heap.size + 1) w1.heap.size (.slice ap P.length cp) P ∧ Below w.heap.size w w1) := ⟨h1, h2, below_after hb1⟩
    clear h1 h2 hb1 hA
    go_wp2
    refine bodyPost_ret (v := .agg #[.int .i64 k, .slice ae EN.length ce, .slice ap P.length cp]) (by simp [results, Tryz.results209, go_sem, c0, c1, c2, f0, f1, f2]) rfl ⟨_, _, rfl, ?_, ?_, ((H1.out.2.2.setCell (Nat.le_refl _) _).setCell (Nat.le_refl _) _).setCell (Nat.le_refl _) _⟩
    · exact (((H1.out.1.far (i := 0) (Nat.lt_succ_self _)).far (i := 1) (Nat.lt_succ_self _)).far (i := 2) (Nat.lt_succ_self _)).wide (Nat.le_succ _) (by simp [World.setCell])
    · exact (((H1.out.2.1.far (i := 0) (Nat.lt_succ_self _)).far (i := 1) (Nat.lt_succ_self _)).far (i := 2) (Nat.lt_succ_self _)).wide (Nat.le_succ _) (by simp [World.setCell])
  · rw [if_neg h, if_neg h, if_neg h]
    rcases signB_no h with h1 | ⟨h1, h2⟩ | ⟨h1, h2, h3⟩
    · rw [h1] at E0
      clear h E1
      go_enter Tryz.func209, Tryz.ntmps209
      go_wp2_with fail
      refine (E0.out _).mono ?_
      rintro e w0 ⟨rfl, rfl⟩
      go_wp2
      exact bodyPost_ret (v := .agg #[.int .i64 0, .slice none 0 0, .slice none 0 0]) (by simp [results, Tryz.results209, go_sem]) rfl (HZ.out _ ((Below.refl _ _).alloc (Nat.le_refl _) _))
    · rw [h1] at E0
      rw [decide_eq_false h2] at E1
      clear h
      go_enter Tryz.func209, Tryz.ntmps209
      go_wp2_with fail
      refine (E0.out _).mono ?_
      rintro e w0 ⟨rfl, rfl⟩
      go_wp2_with fail
      refine (E1.out _).mono ?_
      rintro e w0 ⟨rfl, rfl⟩
      go_wp2
      exact bodyPost_ret (v := .agg #[.int .i64 0, .slice none 0 0, .slice none 0 0]) (by simp [results, Tryz.results209, go_sem]) rfl (HZ.out _ ((Below.refl _ _).alloc (Nat.le_refl _) _))
    · rw [h1] at E0
      rw [decide_eq_true h2] at E1
      clear h
      go_enter Tryz.func209, Tryz.ntmps209
      go_wp2_with fail
      refine (E0.out _).mono ?_
      rintro e w0 ⟨rfl, rfl⟩
      go_wp2_with fail
      refine (E1.out _).mono ?_
      rintro e w0 ⟨rfl, rfl⟩
      go_wp2
      exact bodyPost_ret (v := .agg #[.int .i64 0, .slice none 0 0, .slice none 0 0]) (by simp [results, Tryz.results209, go_sem]) rfl (HZ.out _ ((Below.refl _ _).alloc (Nat.le_refl _) _))
end Go.Proofs.YtpglcbidfghfkaaGreatDoor

/-
  The document's Sign where it signs: the Ends lie in a row of the call's own.
-/
namespace Go.Proofs.YtpglcbidfghfkaaGreatDoor
open Go.RowKit Go.Lib
set_option linter.unusedVariables false
set_option linter.unusedSimpArgs false

set_option maxHeartbeats 1000000 in
set_option maxRecDepth 10000 in
theorem specSignV_any (s : ByteArray) (k : Int) (t : ByteArray) (w : World) (hs : s.size ≤ 1048576) (h : signB s k t = true) :
    Calls Tryz.prog 209 #[.string s, .int .i64 k, .string t] w fun e w' => SigOut w k (endsB s k t) (pathB (pubsB s) k.toNat) e w' := by
  have E0 : Hid (∀ w, Calls Tryz.prog 70 #[.string s] w fun e w' => e = .returned (.bool (seedB s)) ∧ w' = w) := fun w => specSeed_any s w hs
  have E1 : Hid (∀ w, Calls Tryz.prog 71 #[.int .i64 k, .int .i64 0, .int .i64 3] w fun e w' => e = .returned (.bool (decide (0 ≤ k ∧ k ≤ 3))) ∧ w' = w) := fun w => is_any k 0 3 w
  obtain ⟨h1, h2, h3, h4⟩ := signB_yes h
  have hs64 := seedB_yes h1
  rw [h1] at E0
  rw [decide_eq_true ⟨h2, h3⟩] at E1
  have E2 : Hid (∀ w, Calls Tryz.prog 75 #[.string s, .int .i64 k, .string t] w fun e w' => SigOut w k (endsB s k t) (pathB (pubsB s) k.toNat) e w') := fun w => specSignO_any s k t w (by omega) h2 h3 (by omega)
  generalize endsB s k t = EN at *
  generalize pathB (pubsB s) k.toNat = P at *
  have htI : ¬ 20000 < (t.size : Int) := by omega
  clear h h1 h2 h3 h4 hs64
  go_enter Tryz.func209, Tryz.ntmps209
  go_wp2_with fail
  refine (E0.out _).mono ?_
  rintro e w0 ⟨rfl, rfl⟩
  go_wp2_with fail
  refine (E1.out _).mono ?_
  rintro e w0 ⟨rfl, rfl⟩
  go_wp2_with fail
  refine (E2.out _).mono ?_
  rintro e w1 ⟨ve, vp, n, rfl, h1, h2, hn1, hn2, hb1⟩
  obtain ⟨⟨c0, c1, c2⟩, f0, f1, f2⟩ := three_cells hb1 (show w.heap.size < _ by simp) (heap_alloc_new w _)
  obtain ⟨ae, ce, rfl⟩ := h1.len
  obtain ⟨ap, cp, rfl⟩ : ∃ ap cp, vp = .slice ap P.length cp := by obtain ⟨a, c, h, _⟩ := h2; exact ⟨a, c, h⟩
  have hA : (w.alloc (.cells #[.int .i64 0, .slice none 0 0, .slice none 0 0] 27)).heap.size = w.heap.size + 1 := by simp
  rw [hA] at h2 hn1
  have H1 : Hid (OwnT w1 n (.slice ae EN.length ce) EN ∧ TextsIn w1 (w.heap.size + 1) n (.slice ap P.length cp) P ∧ Below w.heap.size w w1 ∧ w.heap.size < n ∧ n ≤ w1.heap.size) := ⟨h1, h2, below_after hb1, hn1, hn2⟩
  clear h1 h2 hb1 hA hn1 hn2
  go_wp2
  refine bodyPost_ret (v := .agg #[.int .i64 k, .slice ae EN.length ce, .slice ap P.length cp]) (by simp [results, Tryz.results209, go_sem, c0, c1, c2, f0, f1, f2]) rfl ⟨_, _, n, rfl, ?_, ?_, Nat.le_of_lt H1.out.2.2.2.1, ?_, ((H1.out.2.2.1.setCell (Nat.le_refl _) _).setCell (Nat.le_refl _) _).setCell (Nat.le_refl _) _⟩
  · exact ((H1.out.1.far (i := 0) H1.out.2.2.2.1).far (i := 1) H1.out.2.2.2.1).far (i := 2) H1.out.2.2.2.1
  · exact (((H1.out.2.1.far (i := 0) (Nat.lt_succ_self _)).far (i := 1) (Nat.lt_succ_self _)).far (i := 2) (Nat.lt_succ_self _)).wide (Nat.le_succ _) (Nat.le_refl _)
  · simpa [World.setCell] using H1.out.2.2.2.2
end Go.Proofs.YtpglcbidfghfkaaGreatDoor

/-
  The draws of chapter 5: a signature that is right, as a rule.
-/
namespace Go.Proofs.YtpglcbidfghfkaaGreatDoor
open Go.RowKit Go.Lib
set_option linter.unusedVariables false
set_option linter.unusedSimpArgs false

theorem digV_le (t : ByteArray) : (digV t).size ≤ 32 := by
  unfold digV
  split
  · decide
  · rw [shaB_size]; omega
/-- A signature, however it is; the source stays one, and nothing else has turned. -/
def SigDrawn (q : Nat) (w : World) (e : Ending) (w' : World) : Prop := ∃ k ve vp el pl, e = .returned (.agg #[.int .i64 k, ve, vp]) ∧ Texts w' w'.heap.size ve el ∧ Texts w' w'.heap.size vp pl ∧ el.length ≤ 100 ∧ pl.length ≤ 100 ∧ Src w' q ∧ w.grownBy w' (some q)
theorem pair_texts (w : World) (a b : ByteArray) : ∀ j (hj : j < [a, b].length), (w.alloc (.cells #[.string a, .string b] 9)).cell? ⟨w.heap.size, j, none⟩ = some (.string [a, b][j]) := fun j hj => by
  rw [cell_of_row _ _ j _ _ _ (heap_alloc_new w _)]
  have : j = 0 ∨ j = 1 := by simp at hj; omega
  rcases this with rfl | rfl <;> rfl
theorem TextsIn.grown {w w' : World} {A B q : Nat} {v : Value} {l : List ByteArray} (h : TextsIn w A B v l) (hg : w.grownBy w' (some q)) (hq : q < A) : TextsIn w' A B v l := by
  obtain ⟨a, cap, hv, h | ⟨b, off, ha, hA, hB, hc⟩, hcap⟩ := h
  · exact ⟨a, cap, hv, .inl h, hcap⟩
  · exact ⟨a, cap, hv, .inr ⟨b, off, ha, hA, hB, fun j hj => hg.cell (hc j hj) (by simp; omega)⟩, hcap⟩
theorem Texts.apart {w : World} {g : Nat} {a b c : Value} {t : TypeId} {fr : Nat × Nat} (hg : w.heap[g]? = some (.cells #[a, b, c] t fr)) (ha : ∀ s, a ≠ .string s) (hb : ∀ s, b ≠ .string s) (hc : ∀ s, c ≠ .string s) {B : Nat} {v : Value} {l : List ByteArray} (h : Texts w B v l) (i : Nat) (u : Value) : Texts (w.setCell ⟨g, i, none⟩ u) B v l := by
  obtain ⟨ad, cap, hv, h | ⟨b', off, e1, e2, e3⟩, hcap⟩ := h
  · exact ⟨ad, cap, hv, .inl h, hcap⟩
  · refine ⟨ad, cap, hv, .inr ⟨b', off, e1, e2, fun j hj => ?_⟩, hcap⟩
    have hne : g ≠ b' := by
      rintro rfl
      have := e3 j hj
      simp only [World.cell?, hg] at this
      match off + j, this with
      | 0, this => exact ha _ (by simpa using this)
      | 1, this => exact hb _ (by simpa using this)
      | 2, this => exact hc _ (by simpa using this)
      | n + 3, this => simp at this
    rw [World.cell?_setCell_other w _ _ u (fun e => hne (congrArg Addr.block e))]
    exact e3 j hj
theorem int_no {k : IntKind} {n : Int} : ∀ s, Value.int k n ≠ .string s := fun s e => by cases e
theorem slice_no {a : Option Addr} {n c : Nat} : ∀ s, Value.slice a n c ≠ .string s := fun s e => by cases e
/-- In between: the answer's block g as it was made, the signature in block x. -/
def SgIn (w : World) (q x : Nat) (c : Array Value) (W : World) : Prop :=
  Src W q ∧ w.grownBy W (some q) ∧ W.heap[w.heap.size]? = some (.cells #[.int .i64 0, .slice none 0 0, .slice none 0 0] 27 (0, 0)) ∧ W.heap[x]? = some (.cells c 27 (0, 0)) ∧ w.heap.size < x ∧ q < w.heap.size
theorem SgIn.lt {w W : World} {q x : Nat} {c : Array Value} (h : SgIn w q x c W) : x < W.heap.size := (Array.getElem?_eq_some_iff.1 h.2.2.2.1).1
theorem SgIn.below {w W W' : World} {q x : Nat} {c : Array Value} (h : SgIn w q x c W) (hb : Below W.heap.size W W') : SgIn w q x c W' := by
  have hx := h.lt
  obtain ⟨h1, h2, h3, h4, h5, h6⟩ := h
  exact ⟨h1.below hb h1.lt, grown_below h2 (hb.mono h2.size), (hb.block _ (by omega)).trans h3, (hb.block _ hx).trans h4, h5, h6⟩
theorem SgIn.grow {w W W' : World} {q x : Nat} {c : Array Value} (h : SgIn w q x c W) (hs : Src W' q) (hg : W.grownBy W' (some q)) : SgIn w q x c W' := by
  have hx := h.lt
  obtain ⟨h1, h2, h3, h4, h5, h6⟩ := h
  exact ⟨hs, grown_trans h2 hg, (hg.block _ (by omega) (by simp; omega)).trans h3, (hg.block _ hx (by simp; omega)).trans h4, h5, h6⟩
theorem SgIn.cells {w W : World} {q x : Nat} {a b c : Value} (h : SgIn w q x #[a, b, c] W) :
    ((W.cell? ⟨w.heap.size, 0, none⟩ = some (.int .i64 0) ∧ W.cell? ⟨w.heap.size, 1, none⟩ = some (.slice none 0 0) ∧ W.cell? ⟨w.heap.size, 2, none⟩ = some (.slice none 0 0)) ∧ W.frozen? ⟨w.heap.size, 0, none⟩ = false ∧ W.frozen? ⟨w.heap.size, 1, none⟩ = false ∧ W.frozen? ⟨w.heap.size, 2, none⟩ = false) ∧
    ((W.cell? ⟨x, 0, none⟩ = some a ∧ W.cell? ⟨x, 1, none⟩ = some b ∧ W.cell? ⟨x, 2, none⟩ = some c) ∧ W.frozen? ⟨x, 0, none⟩ = false ∧ W.frozen? ⟨x, 1, none⟩ = false ∧ W.frozen? ⟨x, 2, none⟩ = false) ∧ ¬ w.heap.size = x ∧ ¬ x = w.heap.size := by
  have hx := h.lt
  obtain ⟨h1, h2, h3, h4, h5, h6⟩ := h
  exact ⟨three_cells (Below.refl W.heap.size W) (by omega) h3, three_cells (Below.refl W.heap.size W) hx h4, by omega, by omega⟩
theorem SgIn.put {w W : World} {q x : Nat} {a b c : Value} (h : SgIn w q x #[a, b, c] W) (i : Nat) (v : Value) : SgIn w q x (#[a, b, c].setIfInBounds i v) (W.setCell ⟨x, i, none⟩ v) := by
  have hx := h.lt
  obtain ⟨h1, h2, h3, h4, h5, h6⟩ := h
  have hb : Below (w.heap.size + 1) W (W.setCell ⟨x, i, none⟩ v) := (Below.refl _ _).setCell (p := ⟨x, i, none⟩) (by simp; omega) v
  exact ⟨h1.below hb (by omega), grown_below h2 (hb.mono (by omega)), (hb.block _ (by omega)).trans h3, heap_setCell_same W x i _ _ _ h4, h5, h6⟩
theorem SgIn.wrote {w W : World} {q x g : Nat} {c : Array Value} (h : SgIn w q x c W) (hg : w.heap.size < g) (hx : g < x) (i : Nat) (v : Value) : SgIn w q x c (W.setCell ⟨g, i, none⟩ v) := by
  obtain ⟨h1, h2, h3, h4, h5, h6⟩ := h
  have hb : Below (w.heap.size + 1) W (W.setCell ⟨g, i, none⟩ v) := (Below.refl _ _).setCell (p := ⟨g, i, none⟩) hg v
  exact ⟨h1.below hb (by omega), grown_below h2 (hb.mono (by omega)), (hb.block _ (by omega)).trans h3, by rw [heap_setCell_other _ _ _ _ (by simp; omega)]; exact h4, h5, h6⟩

set_option maxHeartbeats 4000000 in
set_option maxRecDepth 10000 in
theorem sig_any (q : Nat) (w : World) (h : Src w q) :
    Calls Tryz.prog 166 #[.pointer (some ⟨q, 0, none⟩)] w fun e w' => SigDrawn q w e w' := by
  have EN : Hid (∀ m w', Src w' q → m ≤ 1000 → Calls Tryz.prog 56 #[.pointer (some ⟨q, 0, none⟩), .int .i64 m] w' fun e w'' => NumAns m q w' e w'') := fun m w' h hm => n_any _ m w' h (by omega)
  have EO : Hid (∀ w', Src w' q → Calls Tryz.prog 59 #[.pointer (some ⟨q, 0, none⟩), .int .i64 4] w' fun e w'' => BoolAns q w' e w'') := fun w' h => one_any q 4 w' h (by omega)
  have EP : Hid (∀ w', Src w' q → Calls Tryz.prog 57 #[.pointer (some ⟨q, 0, none⟩), .slice (some ⟨w'.heap.size, 0, none⟩) 2 2] (w'.alloc (.cells #[.string ⟨#[97]⟩, .string ⟨#[98]⟩] 9)) fun e w'' => ∃ t : ByteArray, e = .returned (.string t) ∧ t.size ≤ 1 ∧ Src w'' q ∧ w'.grownBy w'' (some q)) := fun w' h =>
    (pick_any q w'.heap.size [⟨#[97]⟩, ⟨#[98]⟩] _ (h.below ((Below.refl _ _).alloc (Nat.le_refl _) _) h.lt) (by simp) (by simp) h.lt (pair_texts w' _ _)).mono fun e w'' ⟨t, h1, h2, h3, h4⟩ => ⟨t, h1, by
      simp at h2
      rcases h2 with rfl | rfl <;> decide, h3, grown_trans (World.grownBy_alloc w' _ _) h4⟩
  have ED0 : Hid (∀ s w', Calls Tryz.prog 165 #[.string ⟨#[s]⟩] w' fun e w'' => DigAns w' e w'') := fun s w' => (specDigest_any ⟨#[s]⟩ w' (show (1 : Nat) ≤ 1048576 by omega)).mono (by
    rintro e w'' ⟨rfl, hb⟩
    exact ⟨_, rfl, digV_le _, hb⟩)
  have ED : Hid (∀ w', Calls Tryz.prog 165 #[.string ⟨#[101]⟩] w' fun e w'' => DigAns w' e w'') := fun w' => ED0.out 101 w'
  have EX : Hid (∀ v l w', Src w' q → Texts w' w'.heap.size v l → l.length ≤ 10 → (∀ t ∈ l, t.size = 32) → Calls Tryz.prog 210 #[.pointer (some ⟨q, 0, none⟩), v] w' fun e w'' => SpoilAns q l.length w' e w'') := fun v l w' hs ht hl hz => spoil_any _ v l w' hs ht (by omega) hz ED0
  have EG : Hid (∀ (k : Int) (t : ByteArray) w', 0 ≤ k → k ≤ 3 → t.size ≤ 1 → Calls Tryz.prog 209 #[.string ⟨#[115, 101, 101, 100]⟩, .int .i64 k, .string t] w' fun e w'' => ∃ ve vp EN P n, e = .returned (.agg #[.int .i64 k, ve, vp]) ∧ OwnT w'' n ve EN ∧ TextsIn w'' w'.heap.size n vp P ∧ w'.heap.size ≤ n ∧ n ≤ w''.heap.size ∧ Below w'.heap.size w' w'' ∧ EN.length = 6 ∧ P.length = 2 ∧ (∀ t ∈ EN, t.size = 32) ∧ (∀ t ∈ P, t.size = 32)) := fun k t w' h0 h1 ht =>
    (specSignV_any _ k t w' (by decide) (by rw [signB_iff (by omega), decide_eq_true ⟨h0, h1⟩]; decide)).mono fun e w'' ⟨ve, vp, n, e1, e2, e3, e4, e5, e6⟩ => ⟨ve, vp, _, _, n, e1, e2, e3, e4, e5, e6, ends_six _ _ _, (path_pubs _ _).1, ends_size _ _ _, path_size _ _⟩
  have hq := h.lt
  obtain ⟨W, hW⟩ : ∃ W, W = w.alloc (.cells #[.int .i64 0, .slice none 0 0, .slice none 0 0] 27) := ⟨_, rfl⟩
  have hbW : Below w.heap.size w W := by rw [hW]; exact (Below.refl _ _).alloc (Nat.le_refl _) _
  have H0 : Hid (Src W q ∧ w.grownBy W (some q) ∧ W.heap[w.heap.size]? = some (.cells #[.int .i64 0, .slice none 0 0, .slice none 0 0] 27 (0, 0)) ∧ w.heap.size < W.heap.size) := ⟨h.below hbW hq, ⟨hbW.os, hbW.tape, hbW.output, hbW.size, fun k hk _ => hbW.block k hk⟩, by rw [hW]; exact heap_alloc_new w _, by rw [hW]; simp⟩
  have HW : Hid (W = w.alloc (.cells #[.int .i64 0, .slice none 0 0, .slice none 0 0] 27)) := hW
  clear hW hbW h
  go_enter Tryz.func166, Tryz.ntmps166
  go_wp2_with fail
  rw [← HW.out]
  refine (EN.out _ _ H0.out.1 (by omega)).mono ?_
  rintro e w1 ⟨k, rfl, hk0, hk1, hs1, hg1⟩
  have hk3 : k ≤ 3 := by omega
  have H1 : Hid (Src w1 q ∧ w.grownBy w1 (some q) ∧ w1.heap[w.heap.size]? = some (.cells #[.int .i64 0, .slice none 0 0, .slice none 0 0] 27 (0, 0)) ∧ w.heap.size < w1.heap.size) := ⟨hs1, grown_trans H0.out.2.1 hg1, (hg1.block _ H0.out.2.2.2 (by simp; omega)).trans H0.out.2.2.1, Nat.lt_of_lt_of_le H0.out.2.2.2 hg1.size⟩
  clear hs1 hg1 H0 HW hk1
  go_wp2_with fail
  refine (EP.out _ H1.out.1).mono ?_
  rintro e w2 ⟨t, rfl, ht1, hs2, hg2⟩
  have H2 : Hid (Src w2 q ∧ w.grownBy w2 (some q) ∧ w2.heap[w.heap.size]? = some (.cells #[.int .i64 0, .slice none 0 0, .slice none 0 0] 27 (0, 0)) ∧ w.heap.size < w2.heap.size) := ⟨hs2, grown_trans H1.out.2.1 hg2, (hg2.block _ H1.out.2.2.2 (by simp; omega)).trans H1.out.2.2.1, Nat.lt_of_lt_of_le H1.out.2.2.2 hg2.size⟩
  clear hs2 hg2 H1
  go_wp2_with fail
  refine (EG.out k t _ hk0 hk3 ht1).mono ?_
  rintro e w3 ⟨ve, vp, EN', P, n, rfl, ho3, ht3, hn1, hn2, hb3, hl6, hl2, hz6, hz2⟩
  obtain ⟨a1, c1, rfl⟩ := ho3.len
  obtain ⟨a2, c2, rfl⟩ : ∃ a c, vp = .slice a P.length c := by obtain ⟨a, c, h, _⟩ := ht3; exact ⟨a, c, h⟩
  obtain ⟨W3, hW3⟩ : ∃ W, W = w3.alloc (.cells #[.int .i64 k, .slice a1 EN'.length c1, .slice a2 P.length c2] 27) := ⟨_, rfl⟩
  have hal : Below w3.heap.size w3 W3 := by rw [hW3]; exact (Below.refl _ _).alloc (Nat.le_refl _) _
  have hb23 : Below w2.heap.size w2 W3 := hb3.trans (hal.mono hb3.size)
  have H3 : Hid (SgIn w q w3.heap.size #[.int .i64 k, .slice a1 EN'.length c1, .slice a2 P.length c2] W3 ∧ OwnT W3 n (.slice a1 EN'.length c1) EN' ∧ TextsIn W3 w2.heap.size n (.slice a2 P.length c2) P ∧ w.heap.size < w2.heap.size ∧ w2.heap.size ≤ n ∧ n ≤ w3.heap.size) := ⟨⟨H2.out.1.below hb23 H2.out.1.lt, grown_below H2.out.2.1 (hb23.mono H2.out.2.1.size), (hb23.block _ H2.out.2.2.2).trans H2.out.2.2.1, by rw [hW3]; exact heap_alloc_new w3 _, Nat.lt_of_lt_of_le H2.out.2.2.2 hb3.size, hq⟩, ho3.below hal (Nat.le_refl _), ht3.below (hal.mono hn2), H2.out.2.2.2, hn1, hn2⟩
  have HW3 : Hid (W3 = w3.alloc (.cells #[.int .i64 k, .slice a1 EN'.length c1, .slice a2 P.length c2] 27)) := hW3
  have HGX : Hid (∀ g, (Value.slice a1 EN'.length c1).ownBlock = some g → n ≤ g ∧ g < w3.heap.size) := fun g hg => World.ownsRow.lt ho3 g hg
  have HZ : Hid ((∀ t ∈ EN', t.size = 32) ∧ (∀ t ∈ P, t.size = 32) ∧ EN'.length = 6 ∧ P.length = 2) := ⟨hz6, hz2, hl6, hl2⟩
  clear hal hb23 hW3 ho3 ht3 hb3 H2 EG EP hz6 hz2 hn1 hn2
  rw [hl6] at H3 HW3 HGX ⊢
  rw [hl2] at H3 HW3 ⊢
  clear hl6 hl2
  go_wp2_with fail
  rw [← HW3.out]
  clear HW3
  generalize hx : w3.heap.size = x at *
  generalize hB : w2.heap.size = B at *
  clear hx hB
  refine (EO.out _ H3.out.1.1).mono ?_
  rintro e w4 ⟨b, rfl, hs4, hg4⟩
  have S4 : Hid (SgIn w q x #[.int .i64 k, .slice a1 6 c1, .slice a2 2 c2] w4 ∧ OwnT w4 n (.slice a1 6 c1) EN' ∧ TextsIn w4 B n (.slice a2 2 c2) P ∧ w.heap.size < B ∧ B ≤ n ∧ n ≤ x) := ⟨H3.out.1.grow hs4 hg4, H3.out.2.1.grown hg4 (by have := H3.out.2.2.2; omega), H3.out.2.2.1.grown hg4 (by have := H3.out.2.2.2; omega), H3.out.2.2.2⟩
  clear hs4 hg4 H3 EO
  have HU : Hid (∀ W, x ≤ W.heap.size → TextsIn W B n (.slice a2 2 c2) P → B ≤ n → n ≤ x → Texts W W.heap.size (.slice a2 2 c2) P) := fun W hx h h1 h2 => h.texts.up (by omega)
  have FIN : Hid (∀ (W : World) (kk : Int) (s1 : Option Addr) (n1 m1 : Nat) (s2 : Option Addr) (n2 m2 : Nat) (el pl : List ByteArray), SgIn w q x #[.int .i64 kk, .slice s1 n1 m1, .slice s2 n2 m2] W → Texts W W.heap.size (.slice s1 n1 m1) el → Texts W W.heap.size (.slice s2 n2 m2) pl → el.length ≤ 100 → pl.length ≤ 100 → SigDrawn q w (.returned (.agg #[.int .i64 kk, .slice s1 n1 m1, .slice s2 n2 m2])) (((W.setCell ⟨w.heap.size, 0, none⟩ (.int .i64 kk)).setCell ⟨w.heap.size, 1, none⟩ (.slice s1 n1 m1)).setCell ⟨w.heap.size, 2, none⟩ (.slice s2 n2 m2))) := fun W kk s1 n1 m1 s2 n2 m2 el pl hI ht1 ht2 hl1 hl2 => by
    have g0 := hI.2.2.1
    have g1 := heap_setCell_same W w.heap.size 0 _ _ (.int .i64 kk) g0
    have g2 := heap_setCell_same _ w.heap.size 1 _ _ (.slice s1 n1 m1) g1
    have p1 := ((ht1.apart g0 int_no slice_no slice_no 0 (.int .i64 kk)).apart g1 int_no slice_no slice_no 1 (.slice s1 n1 m1)).apart g2 int_no slice_no slice_no 2 (.slice s2 n2 m2)
    have p2 := ((ht2.apart g0 int_no slice_no slice_no 0 (.int .i64 kk)).apart g1 int_no slice_no slice_no 1 (.slice s1 n1 m1)).apart g2 int_no slice_no slice_no 2 (.slice s2 n2 m2)
    have hb : Below w.heap.size W (((W.setCell ⟨w.heap.size, 0, none⟩ (.int .i64 kk)).setCell ⟨w.heap.size, 1, none⟩ (.slice s1 n1 m1)).setCell ⟨w.heap.size, 2, none⟩ (.slice s2 n2 m2)) := (((Below.refl w.heap.size W).setCell (p := ⟨w.heap.size, 0, none⟩) (Nat.le_refl _) _).setCell (p := ⟨w.heap.size, 1, none⟩) (Nat.le_refl _) _).setCell (p := ⟨w.heap.size, 2, none⟩) (Nat.le_refl _) _
    exact ⟨kk, _, _, el, pl, rfl, p1.up hb.size, p2.up hb.size, hl1, hl2, hI.1.below hb hI.2.2.2.2.2, grown_below hI.2.1 hb⟩
  cases b with
  | false =>
    obtain ⟨⟨⟨r0, r1, r2⟩, fr0, fr1, fr2⟩, ⟨⟨x0, x1, x2⟩, fx0, fx1, fx2⟩, ne1, ne2⟩ := S4.out.1.cells
    have F := FIN.out w4 _ _ _ _ _ _ _ EN' P S4.out.1 S4.out.2.1.texts (HU.out _ (Nat.le_of_lt S4.out.1.lt) S4.out.2.2.1 S4.out.2.2.2.2.1 S4.out.2.2.2.2.2) (by have := HZ.out.2.2.1; omega) (by have := HZ.out.2.2.2; omega)
    have HF : Hid (SigDrawn q w _ _) := F
    clear F
    go_wp2
    exact bodyPost_ret (v := .agg #[.int .i64 k, .slice a1 6 c1, .slice a2 2 c2]) (by simp [results, Tryz.results166, go_sem, r0, r1, r2, fr0, fr1, fr2, x0, x1, x2]) rfl HF.out
  | true =>
    go_wp2_with fail
    refine (EN.out _ _ S4.out.1.1 (by omega)).mono ?_
    rintro e w5 ⟨y, rfl, hy0, hy1, hs5, hg5⟩
    have S5 : Hid (SgIn w q x #[.int .i64 k, .slice a1 6 c1, .slice a2 2 c2] w5 ∧ OwnT w5 n (.slice a1 6 c1) EN' ∧ TextsIn w5 B n (.slice a2 2 c2) P ∧ w.heap.size < B ∧ B ≤ n ∧ n ≤ x) := ⟨S4.out.1.grow hs5 hg5, S4.out.2.1.grown hg5 (by have := S4.out.2.2.2; omega), S4.out.2.2.1.grown hg5 (by have := S4.out.2.2.2; omega), S4.out.2.2.2⟩
    clear hs5 hg5 S4
    have hy4 : y = 0 ∨ y = 1 ∨ y = 2 ∨ y = 3 := by omega
    clear hy0 hy1
    rcases hy4 with rfl | rfl | rfl | rfl
    · have ha5 : Below w5.heap.size w5 (w5.alloc (.cells #[.int .i64 (-1), .int .i64 4, .int .i64 0, .int .i64 1] 2)) := (Below.refl _ _).alloc (Nat.le_refl _) _
      have HA : Hid (Below w5.heap.size w5 (w5.alloc (.cells #[.int .i64 (-1), .int .i64 4, .int .i64 0, .int .i64 1] 2))) := ha5
      have hq5 : q < w5.heap.size := S5.out.1.1.lt
      clear ha5
      go_wp2_with fail
      refine (EN.out _ _ (S5.out.1.below HA.out).1 (by omega)).mono ?_
      rintro e w6 ⟨z, rfl, hz0, hz1, hs6, hg6⟩
      have k0 := edge_cell hg6 hq5 0
      have k1 := edge_cell hg6 hq5 1
      have k2 := edge_cell hg6 hq5 2
      have k3 := edge_cell hg6 hq5 3
      have S6 : Hid (SgIn w q x #[.int .i64 k, .slice a1 6 c1, .slice a2 2 c2] w6 ∧ OwnT w6 n (.slice a1 6 c1) EN' ∧ TextsIn w6 B n (.slice a2 2 c2) P ∧ w.heap.size < B ∧ B ≤ n ∧ n ≤ x) := ⟨(S5.out.1.below HA.out).grow hs6 hg6, (S5.out.2.1.below HA.out (Nat.le_refl _)).grown hg6 (by have := S5.out.2.2.2; omega), (S5.out.2.2.1.below (HA.out.mono (by have := S5.out.1.lt; have := S5.out.2.2.2; omega))).grown hg6 (by have := S5.out.2.2.2; omega), S5.out.2.2.2⟩
      have hz4 : z = 0 ∨ z = 1 ∨ z = 2 ∨ z = 3 := by omega
      have F : ∀ kk : Int, SigDrawn q w (.returned (.agg #[.int .i64 kk, .slice a1 6 c1, .slice a2 2 c2])) ((((w6.setCell ⟨x, 0, none⟩ (.int .i64 kk)).setCell ⟨w.heap.size, 0, none⟩ (.int .i64 kk)).setCell ⟨w.heap.size, 1, none⟩ (.slice a1 6 c1)).setCell ⟨w.heap.size, 2, none⟩ (.slice a2 2 c2)) := fun kk => by
        have e1 := S6.out.1.put 0 (.int .i64 kk)
        have t1 := S6.out.2.1.texts.apart S6.out.1.2.2.2.1 int_no slice_no slice_no 0 (.int .i64 kk)
        have t2 := (HU.out _ (Nat.le_of_lt S6.out.1.lt) S6.out.2.2.1 S6.out.2.2.2.2.1 S6.out.2.2.2.2.2).apart S6.out.1.2.2.2.1 int_no slice_no slice_no 0 (.int .i64 kk)
        exact FIN.out _ kk _ _ _ _ _ _ EN' P e1 (t1.up (by simp [World.setCell])) (t2.up (by simp [World.setCell])) (by have := HZ.out.2.2.1; omega) (by have := HZ.out.2.2.2; omega)
      have HF : Hid (∀ kk : Int, SigDrawn q w (.returned (.agg #[.int .i64 kk, .slice a1 6 c1, .slice a2 2 c2])) ((((w6.setCell ⟨x, 0, none⟩ (.int .i64 kk)).setCell ⟨w.heap.size, 0, none⟩ (.int .i64 kk)).setCell ⟨w.heap.size, 1, none⟩ (.slice a1 6 c1)).setCell ⟨w.heap.size, 2, none⟩ (.slice a2 2 c2))) := F
      obtain ⟨⟨⟨r0, r1, r2⟩, fr0, fr1, fr2⟩, ⟨⟨x0, x1, x2⟩, fx0, fx1, fx2⟩, ne1, ne2⟩ := S6.out.1.cells
      clear hs6 hg6 S5 hz0 hz1 HA F
      rcases hz4 with rfl | rfl | rfl | rfl
      · go_wp2
        exact bodyPost_ret (v := .agg #[.int .i64 (-1), .slice a1 6 c1, .slice a2 2 c2]) (by simp [results, Tryz.results166, go_sem, r0, r1, r2, fr0, fr1, fr2, x0, x1, x2, fx0, ne1, ne2]) rfl (HF.out _)
      · go_wp2
        exact bodyPost_ret (v := .agg #[.int .i64 4, .slice a1 6 c1, .slice a2 2 c2]) (by simp [results, Tryz.results166, go_sem, r0, r1, r2, fr0, fr1, fr2, x0, x1, x2, fx0, ne1, ne2]) rfl (HF.out _)
      · go_wp2
        exact bodyPost_ret (v := .agg #[.int .i64 0, .slice a1 6 c1, .slice a2 2 c2]) (by simp [results, Tryz.results166, go_sem, r0, r1, r2, fr0, fr1, fr2, x0, x1, x2, fx0, ne1, ne2]) rfl (HF.out _)
      · go_wp2
        exact bodyPost_ret (v := .agg #[.int .i64 1, .slice a1 6 c1, .slice a2 2 c2]) (by simp [results, Tryz.results166, go_sem, r0, r1, r2, fr0, fr1, fr2, x0, x1, x2, fx0, ne1, ne2]) rfl (HF.out _)
    · obtain ⟨_, ⟨⟨x0, x1, x2⟩, _⟩, _⟩ := S5.out.1.cells
      go_wp2_with fail
      refine (EX.out _ _ _ S5.out.1.1 S5.out.2.1.texts (by have := HZ.out.2.2.1; omega) HZ.out.1).mono ?_
      rintro e w6 ⟨v6, l6, rfl, ht6, hl6, _, hs6, hg6⟩
      obtain ⟨s6, m6, rfl, _⟩ := id ht6
      have S6 : Hid (SgIn w q x #[.int .i64 k, .slice a1 6 c1, .slice a2 2 c2] w6 ∧ TextsIn w6 B n (.slice a2 2 c2) P ∧ Texts w6 w6.heap.size (.slice s6 l6.length m6) l6) := ⟨S5.out.1.grow hs6 hg6, S5.out.2.2.1.grown hg6 (by have := S5.out.2.2.2; omega), ht6⟩
      have F : SigDrawn q w (.returned (.agg #[.int .i64 k, .slice s6 l6.length m6, .slice a2 2 c2])) ((((w6.setCell ⟨x, 1, none⟩ (.slice s6 l6.length m6)).setCell ⟨w.heap.size, 0, none⟩ (.int .i64 k)).setCell ⟨w.heap.size, 1, none⟩ (.slice s6 l6.length m6)).setCell ⟨w.heap.size, 2, none⟩ (.slice a2 2 c2)) := by
        have e1 := S6.out.1.put 1 (.slice s6 l6.length m6)
        have t1 := S6.out.2.2.apart S6.out.1.2.2.2.1 int_no slice_no slice_no 1 (.slice s6 l6.length m6)
        have t2 := (HU.out _ (Nat.le_of_lt S6.out.1.lt) S6.out.2.1 S5.out.2.2.2.2.1 S5.out.2.2.2.2.2).apart S6.out.1.2.2.2.1 int_no slice_no slice_no 1 (.slice s6 l6.length m6)
        exact FIN.out _ k _ _ _ _ _ _ l6 P e1 (t1.up (by simp [World.setCell])) (t2.up (by simp [World.setCell])) (by have := HZ.out.2.2.1; omega) (by have := HZ.out.2.2.2; omega)
      have HF : Hid (SigDrawn q w _ _) := F
      clear x0 x1 x2
      obtain ⟨⟨⟨r0, r1, r2⟩, fr0, fr1, fr2⟩, ⟨⟨x0, x1, x2⟩, fx0, fx1, fx2⟩, ne1, ne2⟩ := S6.out.1.cells
      clear ht6 hl6 hs6 hg6 F S5 S6
      go_wp2
      exact bodyPost_ret (v := .agg #[.int .i64 k, .slice s6 l6.length m6, .slice a2 2 c2]) (by simp [results, Tryz.results166, go_sem, r0, r1, r2, fr0, fr1, fr2, x0, x1, x2, fx1, ne1, ne2]) rfl HF.out
    · obtain ⟨_, ⟨⟨x0, x1, x2⟩, _⟩, _⟩ := S5.out.1.cells
      go_wp2_with fail
      refine (EX.out _ _ _ S5.out.1.1 (HU.out _ (Nat.le_of_lt S5.out.1.lt) S5.out.2.2.1 S5.out.2.2.2.2.1 S5.out.2.2.2.2.2) (by have := HZ.out.2.2.2; omega) HZ.out.2.1).mono ?_
      rintro e w6 ⟨v6, l6, rfl, ht6, hl6, _, hs6, hg6⟩
      obtain ⟨s6, m6, rfl, _⟩ := id ht6
      have S6 : Hid (SgIn w q x #[.int .i64 k, .slice a1 6 c1, .slice a2 2 c2] w6 ∧ OwnT w6 n (.slice a1 6 c1) EN' ∧ Texts w6 w6.heap.size (.slice s6 l6.length m6) l6) := ⟨S5.out.1.grow hs6 hg6, S5.out.2.1.grown hg6 (by have := S5.out.2.2.2; omega), ht6⟩
      have F : SigDrawn q w (.returned (.agg #[.int .i64 k, .slice a1 6 c1, .slice s6 l6.length m6])) ((((w6.setCell ⟨x, 2, none⟩ (.slice s6 l6.length m6)).setCell ⟨w.heap.size, 0, none⟩ (.int .i64 k)).setCell ⟨w.heap.size, 1, none⟩ (.slice a1 6 c1)).setCell ⟨w.heap.size, 2, none⟩ (.slice s6 l6.length m6)) := by
        have e1 := S6.out.1.put 2 (.slice s6 l6.length m6)
        have t1 := S6.out.2.1.texts.apart S6.out.1.2.2.2.1 int_no slice_no slice_no 2 (.slice s6 l6.length m6)
        have t2 := S6.out.2.2.apart S6.out.1.2.2.2.1 int_no slice_no slice_no 2 (.slice s6 l6.length m6)
        exact FIN.out _ k _ _ _ _ _ _ EN' l6 e1 (t1.up (by simp [World.setCell])) (t2.up (by simp [World.setCell])) (by have := HZ.out.2.2.1; omega) (by have := HZ.out.2.2.2; omega)
      have HF : Hid (SigDrawn q w _ _) := F
      clear x0 x1 x2
      obtain ⟨⟨⟨r0, r1, r2⟩, fr0, fr1, fr2⟩, ⟨⟨x0, x1, x2⟩, fx0, fx1, fx2⟩, ne1, ne2⟩ := S6.out.1.cells
      clear ht6 hl6 hs6 hg6 F S5 S6
      go_wp2
      exact bodyPost_ret (v := .agg #[.int .i64 k, .slice a1 6 c1, .slice s6 l6.length m6]) (by simp [results, Tryz.results166, go_sem, r0, r1, r2, fr0, fr1, fr2, x0, x1, x2, fx2, ne1, ne2]) rfl HF.out
    · obtain ⟨g, rfl⟩ : ∃ g, a1 = some ⟨g, 0, none⟩ := by
        rcases id S5.out.2.1 with ⟨_, ⟨e, _⟩ | ⟨g, cap', cur, e, _⟩⟩
        · simp at e
        · simp at e; exact ⟨g, e.1⟩
      have hgn := HGX.out g rfl
      have HG2 : Hid (w.heap.size < g ∧ n ≤ g ∧ g < x) := ⟨by have := S5.out.2.2.2; omega, hgn.1, hgn.2⟩
      have hgx1 : ¬ g = x := by omega
      have hgx2 : ¬ x = g := by omega
      clear hgn
      obtain ⟨_, ⟨⟨x0, x1, x2⟩, _⟩, _⟩ := S5.out.1.cells
      have S5d : Hid (Src w5.drew q) := S5.out.1.1.below (below_drew' (Below.refl w5.heap.size w5)) S5.out.1.1.lt
      have N5 : Hid (∀ W W', Src W' q → W.grownBy W' (some q) → (SgIn w q x #[.int .i64 k, .slice (some ⟨g, 0, none⟩) 6 c1, .slice a2 2 c2] W ∧ OwnT W n (.slice (some ⟨g, 0, none⟩) 6 c1) EN' ∧ TextsIn W B n (.slice a2 2 c2) P ∧ w.heap.size < B ∧ B ≤ n ∧ n ≤ x) → (SgIn w q x #[.int .i64 k, .slice (some ⟨g, 0, none⟩) 6 c1, .slice a2 2 c2] W' ∧ OwnT W' n (.slice (some ⟨g, 0, none⟩) 6 c1) EN' ∧ TextsIn W' B n (.slice a2 2 c2) P ∧ w.heap.size < B ∧ B ≤ n ∧ n ≤ x)) := fun W W' hs hg h => ⟨h.1.grow hs hg, h.2.1.grown hg (by have := h.2.2.2; omega), h.2.2.1.grown hg (by have := h.2.2.2; omega), h.2.2.2⟩
      go_wp2_with fail
      go_region_held3 (fun X => X.cell? ⟨x, 1, none⟩ = some (.slice (some ⟨g, 0, none⟩) 6 c1)) (go_keep)
        (first
          | (go_at_call 56; (with_reducible refine (EN.out _ _ ?_ ?_).mono ?_); (first | exact S5.out.1.1 | exact S5d.out); omega; rintro e wa ⟨z, rfl, hz0, hz1, hsa, hga⟩; obtain ⟨j, rfl⟩ := Int.eq_ofNat_of_zero_le hz0; have hj6 : j < 6 := (by omega); have hjI : (j : Int) < 6 := (by omega); have hj0 : (0 : Int) ≤ (j : Int) := (by omega); have SA := N5.out w5 wa hsa (by first | exact hga | exact ⟨hga.os, hga.tape, hga.output, hga.size, hga.block⟩) S5.out; have HSA : Hid (_ ∧ _) := SA; obtain ⟨_, ⟨⟨y0, y1, y2⟩, _⟩, _⟩ := SA.1.cells; clear hsa hga SA hz0 hz1)
          | (go_at_call 165; (with_reducible refine (ED.out _).mono ?_); rintro e wb ⟨d, rfl, hd, hbb⟩; have SB : SgIn w q x #[.int .i64 k, .slice (some ⟨g, 0, none⟩) 6 c1, .slice a2 2 c2] wb ∧ OwnT wb n (.slice (some ⟨g, 0, none⟩) 6 c1) EN' ∧ TextsIn wb B n (.slice a2 2 c2) P := ⟨HSA.out.1.below hbb, HSA.out.2.1.below hbb (Nat.le_refl _), HSA.out.2.2.1.below (hbb.mono (by have := HSA.out.1.lt; have := HSA.out.2.2.2; omega))⟩; have HSB : Hid (_ ∧ _) := SB; obtain ⟨_, ⟨⟨u0, u1, u2⟩, _⟩, _⟩ := SB.1.cells; obtain ⟨hcj, hfj⟩ := SB.2.1.cell HZ.out.2.2.1 j (by have := HZ.out.2.2.1; omega); generalize EN'[j]'(by have := HZ.out.2.2.1; omega) = tj at *; clear hbb SB hd))
      all_goals
        have F : SigDrawn q w (.returned (.agg #[.int .i64 k, .slice (some ⟨g, 0, none⟩) 6 c1, .slice a2 2 c2])) ((((wb.setCell ⟨g, j, none⟩ (.string d)).setCell ⟨w.heap.size, 0, none⟩ (.int .i64 k)).setCell ⟨w.heap.size, 1, none⟩ (.slice (some ⟨g, 0, none⟩) 6 c1)).setCell ⟨w.heap.size, 2, none⟩ (.slice a2 2 c2)) := by
          have e1 := HSB.out.1.wrote HG2.out.1 HG2.out.2.2 j (.string d)
          have t1 := (HSB.out.2.1.store HZ.out.2.2.1 j d).1
          have t2 := HSB.out.2.2.below ((Below.refl n wb).setCell (p := ⟨g, j, none⟩) HG2.out.2.1 (.string d))
          exact FIN.out _ k _ _ _ _ _ _ _ P e1 t1.texts (HU.out _ (by have := HSB.out.1.lt; simp [World.setCell]; omega) t2 S5.out.2.2.2.2.1 S5.out.2.2.2.2.2) (by have := HZ.out.2.2.1; rw [List.length_set]; omega) (by have := HZ.out.2.2.2; omega)
        have HF : Hid (SigDrawn q w _ _) := F
        have e1 : SgIn w q x #[.int .i64 k, .slice (some ⟨g, 0, none⟩) 6 c1, .slice a2 2 c2] (wb.setCell ⟨g, j, none⟩ (.string d)) := HSB.out.1.wrote HG2.out.1 HG2.out.2.2 j (.string d)
        generalize wb.setCell ⟨g, j, none⟩ (.string d) = wc at *
        clear x0 x1 x2 y0 y1 y2 u0 u1 u2 hcj hfj F
        obtain ⟨⟨⟨r0, r1, r2⟩, fr0, fr1, fr2⟩, ⟨⟨x0, x1, x2⟩, fx0, fx1, fx2⟩, ne1, ne2⟩ := e1.cells
        clear e1
        go_wp2
        exact bodyPost_ret (v := .agg #[.int .i64 k, .slice (some ⟨g, 0, none⟩) 6 c1, .slice a2 2 c2]) (by simp [results, Tryz.results166, go_sem, r0, r1, r2, fr0, fr1, fr2, x0, x1, x2, ne1, ne2]) rfl HF.out
end Go.Proofs.YtpglcbidfghfkaaGreatDoor

/-
  The document's Verify.
-/
namespace Go.Proofs.YtpglcbidfghfkaaGreatDoor
open Go.RowKit Go.Lib
set_option linter.unusedVariables false
set_option linter.unusedSimpArgs false

/-- In between: the signature's block, its Ends in block b, the digits. -/
def VerAt (w wr : World) (k : Int) (ve vp : Value) (b off gd : Nat) (el : List ByteArray) (t : ByteArray) : Prop :=
  Below w.heap.size w wr ∧ wr.heap[w.heap.size]? = some (.cells #[.int .i64 k, ve, vp] 27 (0, 0)) ∧ b < w.heap.size ∧ gd < wr.heap.size ∧ (∀ j, j < 6 → wr.cell? ⟨b, off + j, none⟩ = some (.string (el.getD j ByteArray.empty))) ∧ ∀ j, j < 6 → wr.cell? ⟨gd, j, none⟩ = some (.int .i64 (digI t j))
theorem VerAt.below {w wr w1 : World} {k : Int} {ve vp : Value} {b off gd : Nat} {el : List ByteArray} {t : ByteArray} (h : VerAt w wr k ve vp b off gd el t) (hb : Below wr.heap.size wr w1) : VerAt w w1 k ve vp b off gd el t := by
  obtain ⟨h1, h2, h3, h4, h5, h6⟩ := h
  have hl := (Array.getElem?_eq_some_iff.1 h2).1
  exact ⟨h1.trans (hb.mono h1.size), (hb.block _ hl).trans h2, h3, Nat.lt_of_lt_of_le h4 hb.size, fun j hj => (hb.cell (p := ⟨b, off + j, none⟩) (show b < wr.heap.size by omega)).trans (h5 j hj), fun j hj => (hb.cell (p := ⟨gd, j, none⟩) h4).trans (h6 j hj)⟩

set_option maxHeartbeats 2000000 in
set_option maxRecDepth 10000 in
theorem specVerify_any (root text : ByteArray) (k : Int) (ve vp : Value) (el pl : List ByteArray) (w : World) (h1 : Texts w w.heap.size ve el) (h2 : Texts w w.heap.size vp pl) (hl1 : el.length ≤ 1048576) (hl2 : pl.length ≤ 1048576) (hr : root.size ≤ 1048576) (ht : text.size ≤ 1048576) :
    Calls Tryz.prog 81 #[.string root, .string text, .agg #[.int .i64 k, ve, vp]] w fun e w' => e = .returned (.bool (verB root text k el pl)) ∧ Below w.heap.size w w' := by
  obtain ⟨a1, c1, rfl, hx1, _⟩ := id h1
  obtain ⟨a2, c2, rfl, _⟩ := id h2
  obtain ⟨W, hW⟩ : ∃ W, W = w.alloc (.cells #[.int .i64 k, .slice a1 el.length c1, .slice a2 pl.length c2] 27) := ⟨_, rfl⟩
  have hbW : Below w.heap.size w W := by rw [hW]; exact (Below.refl _ _).alloc (Nat.le_refl _) _
  have hgW : W.heap[w.heap.size]? = some (.cells #[.int .i64 k, .slice a1 el.length c1, .slice a2 pl.length c2] 27 (0, 0)) := by rw [hW]; exact heap_alloc_new w _
  have hlW : w.heap.size < W.heap.size := (Array.getElem?_eq_some_iff.1 hgW).1
  have E0 : Hid (Calls Tryz.prog 83 #[.agg #[.int .i64 k, .slice a1 el.length c1, .slice a2 pl.length c2]] W fun e w' => e = .returned (.bool (sigRB k el pl)) ∧ Below W.heap.size W w') := specSigRight_any k _ _ el pl W ((h1.below hbW).up hbW.size) ((h2.below hbW).up hbW.size) hl1 hl2
  have H0 : Hid (Below w.heap.size w W ∧ W.heap[w.heap.size]? = some (.cells #[.int .i64 k, .slice a1 el.length c1, .slice a2 pl.length c2] 27 (0, 0)) ∧ Texts w w.heap.size (.slice a1 el.length c1) el ∧ Texts w w.heap.size (.slice a2 pl.length c2) pl ∧ w.heap.size < W.heap.size) := ⟨hbW, hgW, h1, h2, hlW⟩
  have HW : Hid (W = w.alloc (.cells #[.int .i64 k, .slice a1 el.length c1, .slice a2 pl.length c2] 27)) := hW
  have HX1 : Hid (el.length = 0 ∨ ∃ b off, a1 = some ⟨b, off, none⟩ ∧ b < w.heap.size ∧ ∀ j (h : j < el.length), w.cell? ⟨b, off + j, none⟩ = some (.string el[j])) := hx1
  clear h1 h2 hW hbW hgW hlW hx1
  by_cases hs : sigRB k el pl = true
  · rw [hs] at E0
    have HY : Hid ((0 ≤ k ∧ k ≤ 3) ∧ el.length = 6 ∧ pl.length = 2 ∧ wideB el = true ∧ wideB pl = true) := sigRB_yes hs
    by_cases hr32 : (root.size : Int) = 32
    · have q1 : ((root.size : Int) != 32) = false := by simpa using hr32
      by_cases ht2 : (text.size : Int) ≤ 20000
      · rw [verB_rest hs hr32 ht2]
        have hk0 := HY.out.1.1
        have hk1 := HY.out.1.2
        have htI : ¬ 20000 < (text.size : Int) := by omega
        obtain ⟨b, off, rfl, hbB, hcell⟩ : ∃ b off, a1 = some ⟨b, off, none⟩ ∧ b < w.heap.size ∧ ∀ j, j < 6 → w.cell? ⟨b, off + j, none⟩ = some (.string (el.getD j ByteArray.empty)) := by
          rcases HX1.out with h | ⟨b, off, h3, h4, h5⟩
          · have := HY.out.2.1; omega
          · refine ⟨b, off, h3, h4, fun j hj => ?_⟩
            have hjl : j < el.length := by have := HY.out.2.1; omega
            rw [h5 j hjl]
            simp [List.getD, hjl]
        have HC : Hid (b < w.heap.size ∧ ∀ j, j < 6 → w.cell? ⟨b, off + j, none⟩ = some (.string (el.getD j ByteArray.empty))) := ⟨hbB, hcell⟩
        clear hbB hcell HX1
        have E1 : Hid (∀ w, Calls Tryz.prog 158 #[.string text] w fun e w' => ∃ v, e = .returned v ∧ DigRow w' w.heap.size w'.heap.size v text ∧ Below w.heap.size w w') := fun w => specDigits_any text w (by omega)
        have hz : ∀ j, j < 6 → (el.getD j ByteArray.empty).size = 32 := wide_get HY.out.2.2.2.1 HY.out.2.1
        have E2 : Hid (∀ (j : Nat) (w : World), j < 6 → Calls Tryz.prog 159 #[.string (el.getD j ByteArray.empty), .int .i64 (15 - digI text j)] w fun e w' => e = .returned (.string (stepsB (15 - digB text j) (el.getD j ByteArray.empty))) ∧ Below w.heap.size w w') := fun j w hj => by
          have e : 15 - digI text j = ((15 - digB text j : Nat) : Int) := by rw [← digB_cast]; have := digB_le text j; omega
          rw [e]
          exact specSteps_any _ _ w (hz j hj) (by omega)
        obtain ⟨f, hf⟩ : ∃ f : Nat → ByteArray, f = fun j : Nat => stepsB (15 - digB text j) (el.getD j ByteArray.empty) := ⟨_, rfl⟩
        have HF : Hid (∀ j : Nat, j < 6 → stepsB (15 - digB text j) (el.getD j ByteArray.empty) = f j ∧ (f j).size = 32) := fun j hj => ⟨by rw [hf], by rw [hf]; exact stepsB_size _ (hz j hj)⟩
        have HP : Hid (shaB (catB f 6) = leftB text el) := by
          show _ = _
          rw [hf]
          rfl
        have E3 : Hid (∀ w, Calls Tryz.prog 153 #[.string (catB f 6)] w fun e w' => e = .returned (.string (leftB text el)) ∧ Below w.heap.size w w') := fun w => by
          rw [← HP.out]
          exact all_any _ w (by rw [catB_size f 6 (fun j hj => (HF.out j hj).2)]; omega)
        have E4 : Hid (∀ w, Calls Tryz.prog 154 #[.string (leftB text el)] w fun e w' => e = .returned (.string (leafB (leftB text el))) ∧ Below w.heap.size w w') := fun w => leaf_any _ w (by rw [leftB_size]; omega)
        have E5 : Hid (∀ w', Below w.heap.size w w' → Calls Tryz.prog 167 #[.string (leafB (leftB text el)), .int .i64 k, .int .i64 4, .slice a2 pl.length c2, .string root] w' fun e w'' => e = .returned (.bool (inclB (leafB (leftB text el)) k 4 pl root)) ∧ Below w'.heap.size w' w'') := fun w' hb => specIncl_any _ root k 4 _ pl w' ((H0.out.2.2.2.1.below hb).up hb.size) hl2 (by omega) (by omega) (by omega) (by omega) (by rw [leafB_size]; omega) hr
        generalize inclB (leafB (leftB text el)) k 4 pl root = V at *
        generalize leafB (leftB text el) = LB at *
        generalize leftB text el = PB at *
        have hel6 : 6 ≤ el.length := by have := HY.out.2.1; omega
        clear hz hs hr32 ht2 HY hf HP
        go_enter Tryz.func81, Tryz.ntmps81
        go_wp2_with fail
        rw [← HW.out]
        refine E0.out.mono ?_
        rintro e w1 ⟨rfl, hb1⟩
        have H1 : Hid (Below w.heap.size w w1 ∧ w1.heap[w.heap.size]? = some (.cells #[.int .i64 k, .slice (some ⟨b, off, none⟩) el.length c1, .slice a2 pl.length c2] 27 (0, 0))) := ⟨H0.out.1.trans (hb1.mono H0.out.1.size), (hb1.block _ H0.out.2.2.2.2).trans H0.out.2.1⟩
        clear hb1 E0 HW
        go_wp2_with fail
        refine (E1.out _).mono ?_
        rintro e w2 ⟨vd, rfl, hd2, hb2⟩
        obtain ⟨gd, cap3, rfl, hgA, hgB, hgc⟩ := hd2
        have H2 : Hid (VerAt w w2 k (.slice (some ⟨b, off, none⟩) el.length c1) (.slice a2 pl.length c2) b off gd el text) := by
          have hb : Below w.heap.size w w2 := H1.out.1.trans (hb2.mono H1.out.1.size)
          exact ⟨hb, (hb2.block _ (Array.getElem?_eq_some_iff.1 H1.out.2).1).trans H1.out.2, HC.out.1, hgB, fun j hj => (hb.cell (p := ⟨b, off + j, none⟩) HC.out.1).trans (HC.out.2 j hj), hgc⟩
        clear hb2 hgA hgB hgc H1 HC E1
        go_wp2
        go_loopw [8, 9] (fun t x wr => ∃ j : Nat, j ≤ 6 ∧ x = .int .i64 j ∧ t = .string (catB f j) ∧ VerAt w wr k (.slice (some ⟨b, off, none⟩) el.length c1) (.slice a2 pl.length c2) b off gd el text) (fun _ x _ => 6 - (intOf x).toNat)
        case atStart => exact ⟨0, by omega, rfl, rfl, H2.out⟩
        case round =>
          clear H2
          obtain ⟨j, hj, rfl, rfl, hV⟩ := hrel
          have HV : Hid (VerAt w wr k (.slice (some ⟨b, off, none⟩) el.length c1) (.slice a2 pl.length c2) b off gd el text) := hV
          have hcs := catB_size f j (fun i hi => (HF.out i (by omega)).2)
          by_cases hjl : j < 6
          · have F2 := fun w => E2.out j w hjl
            rw [(HF.out j hjl).1] at F2
            have G2 : Hid (∀ W, VerAt w W k (.slice (some ⟨b, off, none⟩) el.length c1) (.slice a2 pl.length c2) b off gd el text → Calls Tryz.prog 159 #[.string (el.getD j ByteArray.empty), .int .i64 (15 - digI text j)] W fun e w' => e = .returned (.string (f j)) ∧ VerAt w w' k (.slice (some ⟨b, off, none⟩) el.length c1) (.slice a2 pl.length c2) b off gd el text) := fun W hI => (F2 W).mono (by
              rintro e w' ⟨rfl, hb⟩
              exact ⟨rfl, hI.below hb⟩)
            have b1 : wr.cell? ⟨w.heap.size, 1, none⟩ = some (.slice (some ⟨b, off, none⟩) el.length c1) := (three_cells (Below.refl wr.heap.size wr) (Array.getElem?_eq_some_iff.1 hV.2.1).1 hV.2.1).1.2.1
            have b2 := hV.2.2.2.2.1 j hjl
            have b3 := hV.2.2.2.2.2 j hjl
            have HC : Hid (∀ W, VerAt w W k (.slice (some ⟨b, off, none⟩) el.length c1) (.slice a2 pl.length c2) b off gd el text → W.cell? ⟨w.heap.size, 1, none⟩ = some (.slice (some ⟨b, off, none⟩) el.length c1) ∧ W.cell? ⟨b, off + j, none⟩ = some (.string (el.getD j ByteArray.empty)) ∧ W.cell? ⟨gd, j, none⟩ = some (.int .i64 (digI text j))) := fun W h => ⟨(three_cells (Below.refl W.heap.size W) (Array.getElem?_eq_some_iff.1 h.2.1).1 h.2.1).1.2.1, h.2.2.2.2.1 j hjl, h.2.2.2.2.2 j hjl⟩
            have HDR : Hid (VerAt w wr.drew k (.slice (some ⟨b, off, none⟩) el.length c1) (.slice a2 pl.length c2) b off gd el text) := hV.below (below_drew' (Below.refl _ _))
            obtain ⟨hd0, hd1⟩ := digI_bd text j
            have hwr : IntKind.i64.wrap (15 - digI text j) = 15 - digI text j := by rw [IntKind.wrap_i64]; omega
            have HCJ : Hid (catB f j ++ f j = catB f (j + 1)) := rfl
            have zc : (catB f j).size ≤ 192 := by omega
            have zf : (f j).size ≤ 32 := by have := (HF.out j hjl).2; omega
            generalize el.getD j ByteArray.empty = tj at *
            generalize digI text j = d at *
            generalize catB f j = cj at *
            generalize f j = fj at *
            have hjI : (j : Int) < 6 := by omega
            have hj0 : (0 : Int) ≤ (j : Int) := by omega
            have hjE : (j : Int) < (el.length : Int) := by omega
            have hsum : ¬ 9223372036854775807 < cj.size + fj.size := by omega
            clear F2 hV hcs E2
            go_wp2_with fail
            go_region_held3 (fun w' => w'.cell? ⟨w.heap.size, 1, none⟩ = some (.slice (some ⟨b, off, none⟩) el.length c1) ∧ w'.cell? ⟨b, off + j, none⟩ = some (.string tj) ∧ w'.cell? ⟨gd, j, none⟩ = some (.int .i64 d)) (go_keep)
              ((go_at_call 159; (with_reducible refine (G2.out _ ?_).mono ?_); (first | exact HV.out | exact HDR.out); rintro e wa ⟨rfl, hia⟩; have HA1 : Hid (VerAt w wa k (.slice (some ⟨b, off, none⟩) el.length c1) (.slice a2 pl.length c2) b off gd el text) := hia; obtain ⟨x1, x2, x3⟩ := HC.out _ hia; clear hia))
            all_goals
              go_wp2
              go_roundw
              case rel => exact ⟨j + 1, by omega, by go_num, congrArg Value.string HCJ.out, (by first | exact HA1.out | exact HA1.out.below (below_drew' (Below.refl _ _)))⟩
              case measure => simp [intOf]; omega
          · have e6 : j = 6 := by omega
            rw [← e6] at E3
            have G3 : Hid (∀ W, VerAt w W k (.slice (some ⟨b, off, none⟩) el.length c1) (.slice a2 pl.length c2) b off gd el text → Calls Tryz.prog 153 #[.string (catB f j)] W fun e w' => e = .returned (.string PB) ∧ VerAt w w' k (.slice (some ⟨b, off, none⟩) el.length c1) (.slice a2 pl.length c2) b off gd el text) := fun W hI => (E3.out W).mono (by
              rintro e w' ⟨rfl, hb⟩
              exact ⟨rfl, hI.below hb⟩)
            have G4 : Hid (∀ W, VerAt w W k (.slice (some ⟨b, off, none⟩) el.length c1) (.slice a2 pl.length c2) b off gd el text → Calls Tryz.prog 154 #[.string PB] W fun e w' => e = .returned (.string LB) ∧ VerAt w w' k (.slice (some ⟨b, off, none⟩) el.length c1) (.slice a2 pl.length c2) b off gd el text) := fun W hI => (E4.out W).mono (by
              rintro e w' ⟨rfl, hb⟩
              exact ⟨rfl, hI.below hb⟩)
            have G5 : Hid (∀ W, VerAt w W k (.slice (some ⟨b, off, none⟩) el.length c1) (.slice a2 pl.length c2) b off gd el text → Calls Tryz.prog 167 #[.string LB, .int .i64 k, .int .i64 4, .slice a2 pl.length c2, .string root] W fun e w' => e = .returned (.bool V) ∧ VerAt w w' k (.slice (some ⟨b, off, none⟩) el.length c1) (.slice a2 pl.length c2) b off gd el text) := fun W hI => (E5.out W hI.1).mono (by
              rintro e w' ⟨rfl, hb⟩
              exact ⟨rfl, hI.below hb⟩)
            have HC : Hid (∀ W, VerAt w W k (.slice (some ⟨b, off, none⟩) el.length c1) (.slice a2 pl.length c2) b off gd el text → W.cell? ⟨w.heap.size, 0, none⟩ = some (.int .i64 k) ∧ W.cell? ⟨w.heap.size, 2, none⟩ = some (.slice a2 pl.length c2)) := fun W h => ⟨(three_cells (Below.refl W.heap.size W) (Array.getElem?_eq_some_iff.1 h.2.1).1 h.2.1).1.1, (three_cells (Below.refl W.heap.size W) (Array.getElem?_eq_some_iff.1 h.2.1).1 h.2.1).1.2.2⟩
            have HDR : Hid (VerAt w wr.drew k (.slice (some ⟨b, off, none⟩) el.length c1) (.slice a2 pl.length c2) b off gd el text) := hV.below (below_drew' (Below.refl _ _))
            obtain ⟨b0, b2⟩ := HC.out _ hV
            generalize catB f j = cj at *
            have hjI : ¬ (j : Int) < 6 := by omega
            clear hV hcs e6 E2 E3 E4 E5 HF
            go_wp2_with fail
            go_region_held3 (fun w' => w'.cell? ⟨w.heap.size, 0, none⟩ = some (.int .i64 k) ∧ w'.cell? ⟨w.heap.size, 2, none⟩ = some (.slice a2 pl.length c2)) (go_keep)
              (first
                | (go_at_call 153; (with_reducible refine (G3.out _ ?_).mono ?_); (first | exact HV.out | exact HDR.out); rintro e wa ⟨rfl, hia⟩; have HA1 : Hid (VerAt w wa k (.slice (some ⟨b, off, none⟩) el.length c1) (.slice a2 pl.length c2) b off gd el text) := hia; obtain ⟨x1, x2⟩ := HC.out _ hia; clear hia)
                | (go_at_call 154; (with_reducible refine (G4.out _ ?_).mono ?_); exact HA1.out; rintro e wb ⟨rfl, hia⟩; have HA2 : Hid (VerAt w wb k (.slice (some ⟨b, off, none⟩) el.length c1) (.slice a2 pl.length c2) b off gd el text) := hia; obtain ⟨y1, y2⟩ := HC.out _ hia; clear hia)
                | (go_at_call 167; (with_reducible refine (G5.out _ ?_).mono ?_); exact HA2.out; rintro e wc ⟨rfl, hia⟩; have HA3 : Hid (VerAt w wc k (.slice (some ⟨b, off, none⟩) el.length c1) (.slice a2 pl.length c2) b off gd el text) := hia; obtain ⟨z1, z2⟩ := HC.out _ hia; clear hia))
            all_goals
              go_wp2
              go_ret
              exact ⟨rfl, HA3.out.1⟩
      · rw [verB_text hs hr32 ht2]
        have htI : 20000 < (text.size : Int) := by omega
        clear hs ht2 hr32
        go_enter Tryz.func81, Tryz.ntmps81
        go_wp2_with fail
        rw [← HW.out]
        refine E0.out.mono ?_
        rintro e w1 ⟨rfl, hb1⟩
        have H1 : Hid (Below w.heap.size w w1) := H0.out.1.trans (hb1.mono H0.out.1.size)
        clear hb1 E0 HW
        go_wp2
        go_ret
        exact ⟨rfl, H1.out⟩
    · rw [verB_root hs hr32]
      have q1 : ((root.size : Int) != 32) = true := by simpa using hr32
      clear hs hr32
      go_enter Tryz.func81, Tryz.ntmps81
      go_wp2_with fail
      rw [← HW.out]
      refine E0.out.mono ?_
      rintro e w1 ⟨rfl, hb1⟩
      have H1 : Hid (Below w.heap.size w w1) := H0.out.1.trans (hb1.mono H0.out.1.size)
      clear hb1 E0 HW
      go_wp2
      go_ret
      exact ⟨rfl, H1.out⟩
  · have hf : sigRB k el pl = false := by simpa using hs
    rw [hf] at E0
    rw [verB_sig hf]
    clear hs hf
    go_enter Tryz.func81, Tryz.ntmps81
    go_wp2_with fail
    rw [← HW.out]
    refine E0.out.mono ?_
    rintro e w1 ⟨rfl, hb1⟩
    have H1 : Hid (Below w.heap.size w w1) := H0.out.1.trans (hb1.mono H0.out.1.size)
    clear hb1 E0 HW
    go_wp2
    go_ret
    exact ⟨rfl, H1.out⟩
end Go.Proofs.YtpglcbidfghfkaaGreatDoor
