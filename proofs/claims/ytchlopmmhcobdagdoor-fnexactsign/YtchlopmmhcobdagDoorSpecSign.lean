/-
  The document's Sign.
-/
import Derived.Test.YtchlopmmhcobdagDoorSigV
import Derived.Test.YtchlopmmhcobdagDoorSpecPubs
import Derived.Test.YtchlopmmhcobdagDoorSpecDigits
import Derived.Test.YtchlopmmhcobdagDoorSpecPath
import Derived.Test.YtchlopmmhcobdagDoorSpecSeed
import Derived.Deep.RegionHeld3
import Derived.Test.YtchlopmmhcobdagDoorStepLaws
namespace Go.Proofs.YtchlopmmhcobdagDoor
open Go.RowKit Go.Lib
set_option linter.unusedVariables false
set_option linter.unusedSimpArgs false

/-- In between: the answer's block, the signature's block g, its path, the digits. -/
def SigAt (w wr : World) (H g : Nat) (k : Int) (ve vp vd : Value) (t : ByteArray) (pl : List ByteArray) : Prop :=
  w.heap.size < g ∧ g < H ∧ H ≤ wr.heap.size ∧ wr.heap[w.heap.size]? = some (.cells #[.int .i64 0, .slice none 0 0, .slice none 0 0] 26 (0, 0)) ∧
  wr.heap[g]? = some (.cells #[.int .i64 k, ve, vp] 26 (0, 0)) ∧ TextsIn wr (w.heap.size + 1) g vp pl ∧ DigRow wr (g + 1) H vd t ∧ Below w.heap.size w wr
theorem SigAt.step {w wr w1 : World} {H g : Nat} {k : Int} {ve vp vd : Value} {t : ByteArray} {pl : List ByteArray} (h : SigAt w wr H g k ve vp vd t pl) (hb : Below H wr w1) : SigAt w w1 H g k ve vp vd t pl := by
  obtain ⟨h1, h2, h3, h4, h5, h6, h7, h8⟩ := h
  exact ⟨h1, h2, Nat.le_trans h3 hb.size, (hb.block _ (by omega)).trans h4, (hb.block _ h2).trans h5, h6.below (hb.mono (by omega)), h7.below hb, h8.trans (hb.mono (by omega))⟩
theorem SigAt.put {w wr : World} {H g : Nat} {k : Int} {ve vp vd : Value} {t : ByteArray} {pl : List ByteArray} (h : SigAt w wr H g k ve vp vd t pl) (v : Value) : SigAt w (wr.setCell ⟨g, 1, none⟩ v) H g k v vp vd t pl := by
  obtain ⟨h1, h2, h3, h4, h5, h6, h7, h8⟩ := h
  refine ⟨h1, h2, by simpa [World.setCell] using h3, ?_, ?_, h6.below ((Below.refl g wr).setCell (p := ⟨g, 1, none⟩) (Nat.le_refl _) _), h7.put g 1 (by omega) v, h8.setCell (by simp; omega) _⟩
  · rw [heap_setCell_other _ _ _ _ (by simp; omega)]
    exact h4
  · rw [heap_setCell_same wr g 1 _ _ _ h5]
    rfl
theorem SigAt.cells {w wr : World} {H g gd cap : Nat} {k : Int} {ve vp : Value} {t : ByteArray} {pl : List ByteArray} (h : SigAt w wr H g k ve vp (.slice (some ⟨gd, 0, none⟩) 6 cap) t pl) (j : Nat) (hj : j < 6) :
    (wr.cell? ⟨g, 1, none⟩ = some ve ∧ wr.cell? ⟨gd, j, none⟩ = some (.int .i64 (digI t j)) ∧ wr.frozen? ⟨g, 1, none⟩ = false) ∧
    ∀ q : Obj, ((wr.alloc q).cell? ⟨g, 1, none⟩ = some ve ∧ (wr.alloc q).cell? ⟨gd, j, none⟩ = some (.int .i64 (digI t j))) ∧ ((wr.alloc q).drew.cell? ⟨g, 1, none⟩ = some ve ∧ (wr.alloc q).drew.cell? ⟨gd, j, none⟩ = some (.int .i64 (digI t j))) := by
  have key : ∀ W : World, SigAt w W H g k ve vp (.slice (some ⟨gd, 0, none⟩) 6 cap) t pl → W.cell? ⟨g, 1, none⟩ = some ve ∧ W.cell? ⟨gd, j, none⟩ = some (.int .i64 (digI t j)) ∧ W.frozen? ⟨g, 1, none⟩ = false := by
    rintro W ⟨h1, h2, h3, h4, h5, h6, ⟨gd', cap', hv, hA, hB, hc⟩, h8⟩
    simp at hv
    obtain ⟨rfl, rfl⟩ := hv
    exact ⟨by simp [World.cell?, h5], hc j hj, by simp [World.frozen?, h5]⟩
  have hH := h.2.2.1
  refine ⟨key wr h, fun q => ?_⟩
  have ha := h.step ((Below.refl H wr).alloc hH q)
  have hd := h.step (below_drew' ((Below.refl H wr).alloc hH q))
  exact ⟨⟨(key _ ha).1, (key _ ha).2.1⟩, ⟨(key _ hd).1, (key _ hd).2.1⟩⟩
/-- The first Ends are there. -/
def EndsAt (w wr : World) (H g : Nat) (k : Int) (ve vp vd : Value) (t : ByteArray) (pl l : List ByteArray) : Prop := OwnT wr H ve l ∧ SigAt w wr H g k ve vp vd t pl
theorem EndsAt.below {w wr w1 : World} {H g : Nat} {k : Int} {ve vp vd : Value} {t : ByteArray} {pl l : List ByteArray} (h : EndsAt w wr H g k ve vp vd t pl l) (hb : Below wr.heap.size wr w1) : EndsAt w w1 H g k ve vp vd t pl l :=
  ⟨h.1.below hb (Nat.le_refl _), h.2.step (hb.mono h.2.2.2.1)⟩
theorem EndsAt.drew {w wr : World} {H g : Nat} {k : Int} {ve vp vd : Value} {t : ByteArray} {pl l : List ByteArray} (h : EndsAt w wr H g k ve vp vd t pl l) : EndsAt w wr.drew H g k ve vp vd t pl l := ⟨h.1, h.2.step (below_drew' (Below.refl _ _))⟩
theorem ends_snoc (s : ByteArray) (k : Int) (t : ByteArray) (j : Nat) : (List.range j).map (fun j : Nat => stepsB (digB t j) (beginB s k j)) ++ [stepsB (digB t j) (beginB s k j)] = (List.range (j + 1)).map (fun j : Nat => stepsB (digB t j) (beginB s k j)) := by simp [List.range_succ]

set_option maxHeartbeats 2000000 in
set_option maxRecDepth 10000 in
theorem specSignY_any (s : ByteArray) (k : Int) (t : ByteArray) (w : World) (hs : s.size ≤ 64) (hk0 : 0 ≤ k) (hk1 : k ≤ 3) (ht : t.size ≤ 20000) :
    Calls Tryd.prog 24 #[.string s, .int .i64 k, .string t] w fun e w' => ∃ ve vp, e = .returned (.agg #[.int .i64 k, ve, vp]) ∧ TextsIn w' w.heap.size w'.heap.size ve (endsB s k t) ∧ TextsIn w' w.heap.size w'.heap.size vp (pathB (pubsB s) k.toNat) ∧ Below w.heap.size w w' := by
  have E1 : Hid (∀ w, Calls Tryd.prog 19 #[.string s] w fun e w' => ∃ v, e = .returned v ∧ OwnT w' w.heap.size v (pubsB s) ∧ Below w.heap.size w w') := fun w => specPubs_any s w hs
  have E2 : Hid (∀ v w, Texts w w.heap.size v (pubsB s) → Calls Tryd.prog 56 #[v, .int .i64 k] w fun e w' => ∃ v', e = .returned v' ∧ OwnT w' w.heap.size v' (pathB (pubsB s) k.toNat) ∧ Below w.heap.size w w') := fun v w h =>
    specPath_any 4 (pubsB s) (pubsB_len s) (by omega) (by omega) (pubsB_size s) k.toNat k v w (by omega) (by omega) h
  have E3 : Hid (∀ w, Calls Tryd.prog 37 #[.string t] w fun e w' => ∃ v, e = .returned v ∧ DigRow w' w.heap.size w'.heap.size v t ∧ Below w.heap.size w w') := fun w => specDigits_any t w ht
  have E4 : Hid (∀ (j : Nat) (w : World), j < 6 → Calls Tryd.prog 52 #[.string s, .int .i64 k, .int .i64 j] w fun e w' => e = .returned (.string (beginB s k j)) ∧ Below w.heap.size w w') := fun j w hj => specBegin_any s k j w hs hk0 (by omega) (by omega) (by omega)
  have E5 : Hid (∀ (j : Nat) (w : World), Calls Tryd.prog 38 #[.string (beginB s k j), .int .i64 (digI t j)] w fun e w' => e = .returned (.string (stepsB (digB t j) (beginB s k j))) ∧ Below w.heap.size w w') := fun j w => by
    rw [← digB_cast]
    exact specSteps_any _ _ w (beginB_size _ _ _) (digB_le t j)
  generalize pubsB s = L at *
  generalize pathB L k.toNat = P at *
  clear hs ht
  go_enter Tryd.func24, Tryd.ntmps24
  go_wp2_with fail
  refine (E1.out _).mono ?_
  rintro e w1 ⟨v1, rfl, hown1, hb1⟩
  have H1 : Hid (Below (w.alloc (.cells #[.int .i64 0, .slice none 0 0, .slice none 0 0] 26)).heap.size (w.alloc (.cells #[.int .i64 0, .slice none 0 0, .slice none 0 0] 26)) w1 ∧ Texts w1 w1.heap.size v1 L) := ⟨hb1, hown1.texts⟩
  clear hown1 hb1 E1
  go_wp2_with fail
  refine (E2.out _ _ H1.out.2).mono ?_
  rintro e w2 ⟨v2, rfl, hown2, hb2⟩
  obtain ⟨a2, cap2, rfl⟩ := hown2.len
  have H2 : Hid (Below (w.alloc (.cells #[.int .i64 0, .slice none 0 0, .slice none 0 0] 26)).heap.size (w.alloc (.cells #[.int .i64 0, .slice none 0 0, .slice none 0 0] 26)) w2 ∧ TextsIn w2 (w.heap.size + 1) w2.heap.size (.slice a2 P.length cap2) P) := ⟨H1.out.1.trans (hb2.mono H1.out.1.size), hown2.inside.wide (by have := H1.out.1.size; simp at this; omega) (Nat.le_refl _)⟩
  clear hown2 hb2 E2 H1
  go_wp2_with fail
  refine (E3.out _).mono ?_
  rintro e w3 ⟨v3, rfl, hd3, hb3⟩
  obtain ⟨gd, cap3, rfl, hgA, hgB, hgc⟩ := id hd3
  have hz2 : w.heap.size + 1 ≤ w2.heap.size := by have := H2.out.1.size; simp at this; omega
  have hz3 : w2.heap.size + 1 ≤ w3.heap.size := by have := hb3.size; simp at this; omega
  have H3 : Hid (SigAt w w3 w3.heap.size w2.heap.size k (.slice none 0 0) (.slice a2 P.length cap2) (.slice (some ⟨gd, 0, none⟩) 6 cap3) t P) := by
    have hal : Below w2.heap.size w2 w3 := below_after hb3
    refine ⟨by omega, by omega, Nat.le_refl _, ?_, (hb3.block _ (by simp)).trans (heap_alloc_new w2 _), H2.out.2.below hal, ⟨gd, cap3, rfl, by simpa using hgA, hgB, hgc⟩, (below_after H2.out.1).trans (hal.mono (by omega))⟩
    exact (hal.block _ (by omega)).trans ((H2.out.1.block _ (by simp)).trans (heap_alloc_new w _))
  generalize hHH : w3.heap.size = H at *
  generalize hGG : w2.heap.size = g at *
  clear hd3 hb3 hgA hgB hgc H2 hz2 hz3 E3 hHH hGG
  obtain ⟨f, hf⟩ : ∃ f : Nat → ByteArray, f = fun j : Nat => stepsB (digB t j) (beginB s k j) := ⟨_, rfl⟩
  have HF : Hid (∀ j : Nat, stepsB (digB t j) (beginB s k j) = f j) := fun j => by rw [hf]
  have HFE : Hid ((List.range 6).map f = endsB s k t) := by
    show _ = _
    rw [hf]
    rfl
  clear hf
  go_wp2
  go_loopw [9] (fun x wr => ∃ (j : Nat) (ve : Value), j ≤ 6 ∧ x = .int .i64 j ∧ OwnT wr H ve ((List.range j).map f) ∧ SigAt w wr H g k ve (.slice a2 P.length cap2) (.slice (some ⟨gd, 0, none⟩) 6 cap3) t P) (fun x _ => 6 - (intOf x).toNat)
  case atStart => exact ⟨0, _, by omega, rfl, OwnT.nil _ _, H3.out⟩
  case round =>
    clear H3
    obtain ⟨j, ve, hj, rfl, hown, hS⟩ := hrel
    by_cases hlt : j < 6
    · have G5 := fun w => E5.out j w
      rw [HF.out j] at G5
      have F4 : Hid (∀ W, EndsAt w W H g k ve (.slice a2 P.length cap2) (.slice (some ⟨gd, 0, none⟩) 6 cap3) t P ((List.range j).map f) → Calls Tryd.prog 52 #[.string s, .int .i64 k, .int .i64 j] W fun e w' => e = .returned (.string (beginB s k j)) ∧ EndsAt w w' H g k ve (.slice a2 P.length cap2) (.slice (some ⟨gd, 0, none⟩) 6 cap3) t P ((List.range j).map f)) := fun W hI => (E4.out j W hlt).mono (by
        rintro e w' ⟨rfl, hb⟩
        exact ⟨rfl, hI.below hb⟩)
      have F5 : Hid (∀ W, EndsAt w W H g k ve (.slice a2 P.length cap2) (.slice (some ⟨gd, 0, none⟩) 6 cap3) t P ((List.range j).map f) → Calls Tryd.prog 38 #[.string (beginB s k j), .int .i64 (digI t j)] W fun e w' => e = .returned (.string (f j)) ∧ EndsAt w w' H g k ve (.slice a2 P.length cap2) (.slice (some ⟨gd, 0, none⟩) 6 cap3) t P ((List.range j).map f)) := fun W hI => (G5 W).mono (by
        rintro e w' ⟨rfl, hb⟩
        exact ⟨rfl, hI.below hb⟩)
      have HS : Hid ((List.range j).map f ++ [f j] = (List.range (j + 1)).map f) := by
        show _ = _
        simp [List.range_succ]
      have hll : ((List.range j).map f).length ≤ 1048576 := by simp; omega
      obtain ⟨⟨c1, c2, z1⟩, hal⟩ := hS.cells j hlt
      have HA : Hid (EndsAt w wr H g k ve (.slice a2 P.length cap2) (.slice (some ⟨gd, 0, none⟩) 6 cap3) t P ((List.range j).map f)) := ⟨hown, hS⟩
      have HC : Hid (∀ W, SigAt w W H g k ve (.slice a2 P.length cap2) (.slice (some ⟨gd, 0, none⟩) 6 cap3) t P → (W.cell? ⟨g, 1, none⟩ = some ve ∧ W.cell? ⟨gd, j, none⟩ = some (.int .i64 (digI t j)) ∧ W.frozen? ⟨g, 1, none⟩ = false) ∧
          ∀ q : Obj, ((W.alloc q).cell? ⟨g, 1, none⟩ = some ve ∧ (W.alloc q).cell? ⟨gd, j, none⟩ = some (.int .i64 (digI t j))) ∧ ((W.alloc q).drew.cell? ⟨g, 1, none⟩ = some ve ∧ (W.alloc q).drew.cell? ⟨gd, j, none⟩ = some (.int .i64 (digI t j)))) := fun W h => h.cells j hlt
      generalize (List.range j).map f = l at *
      generalize f j = T at *
      generalize beginB s k j = B at *
      generalize digI t j = d at *
      have hjI : (j : Int) < 6 := by omega
      have hj0 : (0 : Int) ≤ (j : Int) := by omega
      clear G5 hown hS E4 E5
      go_wp2_with fail
      go_region_law (first
        | (refine step_enter rfl 52 #[.string s, .int .i64 k, .int .i64 j] (F4.out _ ?_) ?_ ?_; (first | exact HA.out | exact HA.out.drew); go_simp; rintro e wa ⟨rfl, hia⟩; refine ⟨_, rfl, ?_⟩; have HA1 : Hid (EndsAt w wa H g k ve (.slice a2 P.length cap2) (.slice (some ⟨gd, 0, none⟩) 6 cap3) t P l) := hia; obtain ⟨⟨x1, x2, x3⟩, x4⟩ := HC.out _ hia.2; clear hia)
        | (refine step_enter rfl 38 #[.string B, .int .i64 d] (F5.out _ ?_) ?_ ?_; (first | exact HA1.out | exact HA1.out.drew); go_simp; rintro e wb ⟨rfl, hia⟩; refine ⟨_, rfl, ?_⟩; have HA2 : Hid (EndsAt w wb H g k ve (.slice a2 P.length cap2) (.slice (some ⟨gd, 0, none⟩) 6 cap3) t P l) := hia; obtain ⟨⟨y1, y2, y3⟩, y4⟩ := HC.out _ hia.2; clear hia)
        | (refine step_app_text (w := wb) rfl (.tmp 23) (.tmp 33) rfl H ve l T (by simp [Act.eval]) HA2.out.1 (by simp [Act.eval]) hll HA2.out.2.2.2.1 ?_; intro v4 w4 hown4 hb4; obtain ⟨a4, cap4, rfl⟩ := hown4.len; have HS4 : Hid (OwnT w4 H (.slice a4 (l ++ [T]).length cap4) (l ++ [T]) ∧ SigAt w w4 H g k ve (.slice a2 P.length cap2) (.slice (some ⟨gd, 0, none⟩) 6 cap3) t P) := ⟨hown4, HA2.out.2.step hb4⟩; obtain ⟨⟨r1, r2, r3⟩, r4⟩ := HC.out _ HS4.out.2; clear hown4 hb4))
      all_goals
        have hlen : (l ++ [T]).length = l.length + 1 := by simp
        have H5 : Hid (OwnT (w4.setCell ⟨g, 1, none⟩ (.slice a4 (l.length + 1) cap4)) H (.slice a4 (l.length + 1) cap4) ((List.range (j + 1)).map f) ∧ SigAt w (w4.setCell ⟨g, 1, none⟩ (.slice a4 (l.length + 1) cap4)) H g k (.slice a4 (l.length + 1) cap4) (.slice a2 P.length cap2) (.slice (some ⟨gd, 0, none⟩) 6 cap3) t P) := by
          refine ⟨?_, HS4.out.2.put _⟩
          rw [← HS.out, ← hlen]
          exact HS4.out.1.far HS4.out.2.2.1
        generalize w4.setCell ⟨g, 1, none⟩ (.slice a4 (l.length + 1) cap4) = w5 at *
        clear r1 r2 r3 r4 hlen
        go_wp2
        go_roundw
        case rel => exact ⟨j + 1, _, by omega, by go_num, H5.out.1, H5.out.2⟩
        case measure => simp [intOf]; omega
    · have e6 : j = 6 := by omega
      rw [e6] at hown
      obtain ⟨ae, cape, hve⟩ := hown.len
      have hl6 : ((List.range 6).map f).length = 6 := by simp
      rw [hl6] at hve
      subst hve
      have HFIN : Hid (Texts wr wr.heap.size (.slice ae 6 cape) ((List.range 6).map f) ∧ OwnT wr H (.slice ae 6 cape) ((List.range 6).map f) ∧ SigAt w wr H g k (.slice ae 6 cape) (.slice a2 P.length cap2) (.slice (some ⟨gd, 0, none⟩) 6 cap3) t P) := ⟨hown.texts, hown, hS⟩
      obtain ⟨h1, h2, h3, h4, h5, h6, h7, h8⟩ := hS
      obtain ⟨⟨c0, c1, c2⟩, f0, f1, f2⟩ := three_cells (Below.refl wr.heap.size wr) (show w.heap.size < wr.heap.size by omega) h4
      obtain ⟨⟨d0, d1, d2⟩, g0, g1, g2⟩ := three_cells (Below.refl wr.heap.size wr) (show g < wr.heap.size by omega) h5
      have hjI : ¬ (j : Int) < 6 := by omega
      clear hown e6 hl6 h1 h2 h3 h4 h5 h6 h7 h8 E4 E5
      go_wp2
      refine bodyPost_ret (v := .agg #[.int .i64 k, .slice ae 6 cape, .slice a2 P.length cap2]) (by simp [results, Tryd.results24, go_sem, c0, c1, c2, f0, f1, f2]) rfl ⟨_, _, rfl, ?_, ?_, ?_⟩
      · obtain ⟨hT, ho, hs⟩ := HFIN.out
        rw [← HFE.out]
        have hw : w.heap.size < H := by have := hs.1; have := hs.2.1; omega
        exact ((((ho.far (i := 0) hw).far (i := 1) hw).far (i := 2) hw).inside).wide (Nat.le_of_lt hw) (Nat.le_refl _)
      · obtain ⟨hT, ho, hs⟩ := HFIN.out
        have hp := hs.2.2.2.2.2.1
        have hz : g ≤ (((wr.setCell ⟨w.heap.size, 0, none⟩ (.int .i64 k)).setCell ⟨w.heap.size, 1, none⟩ (.slice ae 6 cape)).setCell ⟨w.heap.size, 2, none⟩ (.slice a2 P.length cap2)).heap.size := by
          have := hs.2.1
          have := hs.2.2.1
          simp [World.setCell]
          omega
        exact (((hp.far (i := 0) (Nat.lt_succ_self _)).far (i := 1) (Nat.lt_succ_self _)).far (i := 2) (Nat.lt_succ_self _)).wide (Nat.le_succ _) hz
      · obtain ⟨hT, ho, hs⟩ := HFIN.out
        exact ((hs.2.2.2.2.2.2.2.setCell (Nat.le_refl _) _).setCell (Nat.le_refl _) _).setCell (Nat.le_refl _) _
end Go.Proofs.YtchlopmmhcobdagDoor
