/-
  The document's public texts of a seed's keys.
-/
import Derived.Test.YtchlopmmhcobdagDoorSpecSteps
namespace Go.Proofs.YtchlopmmhcobdagDoor
open Go.RowKit Go.Lib
set_option linter.unusedVariables false
set_option linter.unusedSimpArgs false

set_option maxHeartbeats 2000000 in
set_option maxRecDepth 10000 in
theorem specPubs_any (s : ByteArray) (w : World) (hs : s.size ≤ 64) :
    Calls Tryd.prog 19 #[.string s] w fun e w' => ∃ v, e = .returned v ∧ OwnT w' w.heap.size v (pubsB s) ∧ Below w.heap.size w w' := by
  have E1 : Hid (∀ (k j : Nat) (w : World), k ≤ 3 → j ≤ 5 → Calls Tryd.prog 52 #[.string s, .int .i64 k, .int .i64 j] w fun e w' => e = .returned (.string (beginB s k j)) ∧ Below w.heap.size w w') := fun k j w hk hj => specBegin_any s k j w hs (by omega) (by omega) (by omega) (by omega)
  have E2 : Hid (∀ t w, t.size = 32 → Calls Tryd.prog 38 #[.string t, .int .i64 15] w fun e w' => e = .returned (.string (stepsB 15 t)) ∧ Below w.heap.size w w') := fun t w ht => specSteps_any t 15 w ht (by omega)
  have E3 : Hid (∀ t w, t.size ≤ 192 → Calls Tryd.prog 41 #[.string t] w fun e w' => e = .returned (.string (shaB t)) ∧ Below w.heap.size w w') := fun t w ht => all_any t w (by omega)
  clear hs
  unfold pubsB
  go_enter Tryd.func19, Tryd.ntmps19
  go_wp2
  go_loopw [3, 4] (fun a x wr => ∃ k : Nat, k ≤ 4 ∧ x = .int .i64 k ∧ OwnT wr w.heap.size a ((List.range k).map (publicB s)) ∧ Below w.heap.size w wr) (fun _ x _ => 4 - (intOf x).toNat)
  case atStart => exact ⟨0, by omega, rfl, OwnT.made _ _ (Nat.le_refl _), (Below.refl _ _).alloc (Nat.le_refl _) _⟩
  case round =>
    obtain ⟨k, hk, rfl, hown, hb⟩ := hrel
    by_cases hlt : k < 4
    · have HS : Hid ((List.range k).map (publicB s) ++ [publicB s k] = (List.range (k + 1)).map (publicB s)) := by
        show _ = _
        simp [List.range_succ]
      have HL : Hid (((List.range k).map (publicB s)).length ≤ 1048576) := by show _ ≤ _; simp; omega
      obtain ⟨l, hl⟩ : ∃ l, l = (List.range k).map (publicB s) := ⟨_, rfl⟩
      rw [← hl] at HS HL hown
      have HO : Hid (OwnT wr w.heap.size u3 l ∧ Below w.heap.size w wr) := ⟨hown, hb⟩
      obtain ⟨f, hf⟩ : ∃ f : Nat → ByteArray, f = fun j : Nat => stepsB 15 (beginB s k j) := ⟨_, rfl⟩
      have HP : Hid (shaB (catB f 6) = publicB s k) := by
        show _ = _
        rw [hf]
        rfl
      have HF : Hid (∀ j : Nat, stepsB 15 (beginB s k j) = f j ∧ (f j).size = 32) := fun j => ⟨by rw [hf], by rw [hf]; exact stepsB_size _ (beginB_size _ _ _)⟩
      have hkI : (k : Int) < 4 := by omega
      clear hown hb hl hf
      go_wp2
      go_loopw [5, 6] (fun a x wr => ∃ j : Nat, j ≤ 6 ∧ x = .int .i64 j ∧ a = .string (catB f j) ∧ OwnT wr w.heap.size u3 l ∧ Below w.heap.size w wr) (fun _ x _ => 6 - (intOf x).toNat)
      case atStart => exact ⟨0, by omega, rfl, rfl, HO.out.1, HO.out.2⟩
      case round =>
        clear HO
        obtain ⟨j, hj, rfl, rfl, hown, hb⟩ := hrel
        have HO : Hid (OwnT wr w.heap.size u3 l ∧ Below w.heap.size w wr) := ⟨hown, hb⟩
        have hcs := catB_size f j (fun i _ => (HF.out i).2)
        clear hown hb
        by_cases hjl : j < 6
        · have G1 := fun w => E1.out k j w (by omega) (by omega)
          have G2 := fun w => E2.out (beginB s k j) w (beginB_size _ _ _)
          rw [(HF.out j).1] at G2
          have F1 : Hid (∀ w, Calls Tryd.prog 52 #[.string s, .int .i64 k, .int .i64 j] w fun e w' => e = .returned (.string (beginB s k j)) ∧ Below w.heap.size w w') := G1
          have F2 : Hid (∀ w, Calls Tryd.prog 38 #[.string (beginB s k j), .int .i64 15] w fun e w' => e = .returned (.string (f j)) ∧ Below w.heap.size w w') := G2
          have HC : Hid (catB f j ++ f j = catB f (j + 1)) := rfl
          have z1 := (HF.out j).2
          have zc : (catB f j).size ≤ 192 := by omega
          have zf : (f j).size ≤ 32 := by omega
          generalize beginB s k j = B at *
          generalize hcj : catB f j = cj at *
          generalize hfj : f j = fj at *
          have HCJ : Hid (cj ++ fj = catB f (j + 1)) := HC.out
          clear G1 G2 hcs z1 HC hcj hfj
          have hjI : (j : Int) < 6 := by omega
          go_wp2_with fail
          refine (F1.out _).mono ?_
          rintro e w1 ⟨rfl, hb1⟩
          have HO1 : Hid (OwnT w1 w.heap.size u3 l ∧ Below w.heap.size w w1) := ⟨HO.out.1.below hb1 (Nat.le_refl _), HO.out.2.trans (hb1.mono HO.out.2.size)⟩
          clear hb1 HO F1
          go_wp2_with fail
          refine (F2.out _).mono ?_
          rintro e w2 ⟨rfl, hb2⟩
          have HO2 : Hid (OwnT w2 w.heap.size u3 l ∧ Below w.heap.size w w2) := ⟨HO1.out.1.below hb2 (Nat.le_refl _), HO1.out.2.trans (hb2.mono HO1.out.2.size)⟩
          clear hb2 HO1 F2
          go_wp2
          go_roundw
          case rel => exact ⟨j + 1, by omega, by go_num, congrArg Value.string HCJ.out, HO2.out.1, HO2.out.2⟩
          case measure => simp [intOf]; omega
        · have e6 : j = 6 := by omega
          have G3 := fun w => E3.out (catB f j) w (by omega)
          have F3 : Hid (∀ w, Calls Tryd.prog 41 #[.string (catB f j)] w fun e w' => e = .returned (.string (publicB s k)) ∧ Below w.heap.size w w') := by
            rw [e6] at G3 ⊢
            rw [HP.out] at G3
            exact G3
          generalize catB f j = cj at *
          generalize publicB s k = t at *
          have hjI : ¬ (j : Int) < 6 := by omega
          clear G3 hcs e6 HF HP
          go_wp2_with fail
          refine (F3.out _).mono ?_
          rintro e w1 ⟨rfl, hb1⟩
          have HO1 : Hid (OwnT w1 w.heap.size u3 l ∧ Below w.heap.size w w1) := ⟨HO.out.1.below hb1 (Nat.le_refl _), HO.out.2.trans (hb1.mono HO.out.2.size)⟩
          clear hb1 HO F3
          have hown1 := HO1.out.1
          have hszw := HO1.out.2.size
          have hll := HL.out
          go_wp2_with (at_builtin; go_must (refine wp_app_text rfl (.tmp 23) (.tmp 26) rfl w.heap.size _ _ rfl hown1 t rfl hll hszw ?_); intro v2 w2 hown2 hb2)
          have HO2 : Hid (OwnT w2 w.heap.size v2 ((List.range (k + 1)).map (publicB s)) ∧ Below w.heap.size w w2) := ⟨by rw [← HS.out]; exact hown2, HO1.out.2.trans hb2⟩
          clear hown2 hb2
          go_roundw
          case rel => exact ⟨k + 1, by omega, by go_num, HO2.out.1, HO2.out.2⟩
          case measure => simp [intOf]; omega
    · have e4 : k = 4 := by omega
      rw [e4] at hown
      have HO : Hid (OwnT wr w.heap.size u3 ((List.range 4).map (publicB s)) ∧ Below w.heap.size w wr) := ⟨hown, hb⟩
      have hkI : ¬ (k : Int) < 4 := by omega
      clear e4 hown hb E1 E2 E3
      go_wp2
      go_ret
      exact ⟨_, rfl, HO.out.1, HO.out.2⟩
end Go.Proofs.YtchlopmmhcobdagDoor
