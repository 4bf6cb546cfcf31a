/-
  The program's public texts of a seed's keys.
-/
import Derived.Test.YtchlopmmhcobdagDoorTakenEnd
import Derived.Test.YtchlopmmhcobdagDoorChainOf
namespace Go.Proofs.YtchlopmmhcobdagDoor
open Go.RowKit Go.Lib
set_option linter.unusedVariables false
set_option linter.unusedSimpArgs false

theorem toEnd_any (k : Nat) (w : World) : Calls Tryd.prog 55 #[.int .i64 k] w fun e w' => e = .returned (.int .i64 ((15 : Nat) : Int)) ∧ w' = w := by
  go_enter Tryd.func55, Tryd.ntmps55
  go_wp2
  go_ret
  exact ⟨rfl, rfl⟩
theorem pubs_snoc (s : ByteArray) (k : Nat) : (List.range k).map (publicB s) ++ [publicB s k] = (List.range (k + 1)).map (publicB s) := by simp [List.range_succ]

set_option maxHeartbeats 1000000 in
set_option maxRecDepth 10000 in
theorem implPubs_any (s : ByteArray) (w : World) (hs : s.size ≤ 64) (hK : Keys w) :
    Calls Tryd.prog 22 #[.string s] w fun e w' => ∃ v, e = .returned v ∧ OwnT w' w.heap.size v (pubsB s) ∧ Below w.heap.size w w' := by
  have E1 : Hid (∀ (k : Nat) (w : World), k ≤ 3 → Keys w → Calls Tryd.prog 28 #[.string s, .int .i64 k] w fun e w' => e = .returned (.agg (cellsT 6 fun j => beginB s k j)) ∧ Below w.heap.size w w') := fun k w hk hK => chainsOf_any s k w hs (by omega) (by omega) hK
  have E2 : Hid (∀ (f : Nat → ByteArray) (w : World), (∀ j, j < 6 → (f j).size = 32) → Keys w → Calls Tryd.prog 29 #[.agg (cellsT 6 f), .func (.func 55) #[] #[]] w fun e w' => e = .returned (.agg (cellsT 6 fun j => stepsB 15 (f j))) ∧ Below w.heap.size w w') :=
    fun f w hf hK => takenEnd_any f (fun _ => 15) w hf (fun _ _ => Nat.le_refl _) hK fun k W _ _ => toEnd_any k W
  have E3 : Hid (∀ (f : Nat → ByteArray) (w : World), (∀ j, j < 6 → (f j).size = 32) → Keys w → Calls Tryd.prog 47 #[.agg (cellsT 6 f)] w fun e w' => e = .returned (.string (publicOf f)) ∧ Below w.heap.size w w') := public_any
  have HK : Hid (Keys w ∧ 0 < w.heap.size) := ⟨hK, hK.lt⟩
  clear hs hK
  unfold pubsB
  go_enter Tryd.func22, Tryd.ntmps22
  go_wp2
  go_loopw [4, 6] (fun a x wr => ∃ k : Nat, k ≤ 4 ∧ x = .int .i64 k ∧ OwnT wr w.heap.size a ((List.range k).map (publicB s)) ∧ Below w.heap.size w wr ∧ Keys wr) (fun _ x _ => 4 - (intOf x).toNat)
  case atStart => exact ⟨0, by omega, rfl, OwnT.nil _ _, Below.refl _ _, HK.out.1⟩
  case round =>
    obtain ⟨k, hk, rfl, hown, hb, hKr⟩ := hrel
    by_cases hlt : k < 4
    · have HS : Hid ((List.range k).map (publicB s) ++ [publicB s k] = (List.range (k + 1)).map (publicB s)) := pubs_snoc s k
      have hll : ((List.range k).map (publicB s)).length ≤ 1048576 := by simp; omega
      have HO : Hid (OwnT wr w.heap.size u4 ((List.range k).map (publicB s)) ∧ Below w.heap.size w wr ∧ Keys wr) := ⟨hown, hb, hKr⟩
      have HP : Hid (publicOf (fun j => stepsB 15 (beginB s k j)) = publicB s k) := rfl
      have F1 := fun w hK => E1.out k w (by omega) hK
      have hz0 : ∀ j : Nat, j < 6 → (beginB s k j).size = 32 := fun j _ => beginB_size _ _ _
      have F2 := fun w hK => E2.out (fun j => beginB s k j) w hz0 hK
      have F3 := fun w hK => E3.out (fun j => stepsB 15 (beginB s k j)) w (fun j hj => stepsB_size _ (hz0 j hj)) hK
      rw [HP.out] at F3
      have G1 : Hid (∀ w, Keys w → Calls Tryd.prog 28 #[.string s, .int .i64 k] w fun e w' => e = .returned (.agg (cellsT 6 fun j => beginB s k j)) ∧ Below w.heap.size w w') := F1
      have G2 : Hid (∀ w, Keys w → Calls Tryd.prog 29 #[.agg (cellsT 6 fun j => beginB s k j), .func (.func 55) #[] #[]] w fun e w' => e = .returned (.agg (cellsT 6 fun j => stepsB 15 (beginB s k j))) ∧ Below w.heap.size w w') := F2
      have G3 : Hid (∀ w, Keys w → Calls Tryd.prog 47 #[.agg (cellsT 6 fun j => stepsB 15 (beginB s k j))] w fun e w' => e = .returned (.string (publicB s k)) ∧ Below w.heap.size w w') := F3
      generalize (List.range k).map (publicB s) = l at *
      generalize publicB s k = t at *
      generalize (cellsT 6 fun j => stepsB 15 (beginB s k j)) = A2 at *
      generalize (cellsT 6 fun j => beginB s k j) = A1 at *
      have hkI : (k : Int) < 4 := by omega
      have hk0 : (0 : Int) ≤ (k : Int) := by omega
      clear hown hb hKr F1 F2 F3 hz0 HP
      go_wp2_with fail
      refine (G1.out _ HO.out.2.2).mono ?_
      rintro e w1 ⟨rfl, hb1⟩
      have HO1 : Hid (OwnT w1 w.heap.size u4 l ∧ Below w.heap.size w w1 ∧ Keys w1) := ⟨HO.out.1.below hb1 (Nat.le_refl _), HO.out.2.1.trans (hb1.mono HO.out.2.1.size), HO.out.2.2.below hb1 HO.out.2.2.lt⟩
      clear hb1 HO G1
      go_wp2_with fail
      refine (G2.out _ HO1.out.2.2).mono ?_
      rintro e w2 ⟨rfl, hb2⟩
      have HO2 : Hid (OwnT w2 w.heap.size u4 l ∧ Below w.heap.size w w2 ∧ Keys w2) := ⟨HO1.out.1.below hb2 (Nat.le_refl _), HO1.out.2.1.trans (hb2.mono HO1.out.2.1.size), HO1.out.2.2.below hb2 HO1.out.2.2.lt⟩
      clear hb2 HO1 G2
      go_wp2_with fail
      refine (G3.out _ HO2.out.2.2).mono ?_
      rintro e w3 ⟨rfl, hb3⟩
      have HO3 : Hid (OwnT w3 w.heap.size u4 l ∧ Below w.heap.size w w3 ∧ Keys w3) := ⟨HO2.out.1.below hb3 (Nat.le_refl _), HO2.out.2.1.trans (hb3.mono HO2.out.2.1.size), HO2.out.2.2.below hb3 HO2.out.2.2.lt⟩
      have hown3 := HO3.out.1
      have hszw := HO3.out.2.1.size
      clear hb3 HO2 G3
      go_wp2_with (at_builtin; go_must (refine wp_app_text rfl (.tmp 9) (.tmp 16) rfl w.heap.size _ _ rfl hown3 t rfl hll hszw ?_); intro v4 w4 hown4 hb4)
      have HO4 : Hid (OwnT w4 w.heap.size v4 ((List.range (k + 1)).map (publicB s)) ∧ Below w.heap.size w w4 ∧ Keys w4) := ⟨by rw [← HS.out]; exact hown4, HO3.out.2.1.trans hb4, HO3.out.2.2.below hb4 HK.out.2⟩
      clear hown4 hb4
      go_roundw
      case rel => exact ⟨k + 1, by omega, by go_num, HO4.out.1, HO4.out.2.1, HO4.out.2.2⟩
      case measure => simp [intOf]; omega
    · have e4 : k = 4 := by omega
      rw [e4] at hown
      have HO : Hid (OwnT wr w.heap.size u4 ((List.range 4).map (publicB s)) ∧ Below w.heap.size w wr) := ⟨hown, hb⟩
      have hkI : ¬ (k : Int) < 4 := by omega
      clear e4 hown hb hKr E1 E2 E3
      go_wp2
      go_ret
      exact ⟨_, rfl, HO.out.1, HO.out.2⟩
end Go.Proofs.YtchlopmmhcobdagDoor
