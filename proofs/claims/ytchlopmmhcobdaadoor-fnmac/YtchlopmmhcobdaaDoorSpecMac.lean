/-
  The document's Mac and Stretch.
-/
import Derived.Test.YtchlopmmhcobdaaDoorMacPure
import Derived.Test.YtchlopmmhcobdaaDoorSpecAll
import Derived.Laws.Concat
namespace Go.Proofs.YtchlopmmhcobdaaDoor
open Go.RowKit Go.Lib
set_option linter.unusedVariables false

set_option maxHeartbeats 1000000 in
set_option maxRecDepth 10000 in
theorem specPad_any (k : ByteArray) (m : Int) (w : World) (hk : k.size ≤ 64) (hm0 : 0 ≤ m) (hm1 : m < 256) :
    Calls Tryd.prog 125 #[.string k, .int .u8 m] w fun e w' => e = .returned (.string (maskB k m)) ∧ Below w.heap.size w w' := by
  obtain ⟨w1, hmk, hg1, hb1⟩ := make_64 w
  obtain ⟨w2, hcp, hg2, hb2⟩ := copy_key w1 w.heap.size k hg1 hk w.heap.size (Nat.le_refl _)
  have HMK : Hid (_ = _) := hmk
  have e0 : masked k.data.toList 0 0 = masked k.data.toList m 0 := by unfold masked; simp
  rw [e0] at hg2
  have H2 : Hid (w2.heap[w.heap.size]? = _ ∧ Below w.heap.size w w2) := ⟨hg2, hb1.trans hb2⟩
  clear hmk hg1 hb1 hg2 hb2 e0
  go_enter Tryd.func125, Tryd.ntmps125
  go_wp2_with (at_make; go_must (refine wp_make_run rfl _ _ 22 rfl _ _ _ w1 rfl rfl HMK.out ?_))
  go_loopw [6] (fun i wr => ∃ j : Nat, j ≤ 64 ∧ i = .int .i64 j ∧ wr.heap[w.heap.size]? = some (.cells (cells8 64 (masked k.data.toList m j)) 5 (0, 0)) ∧ Below w.heap.size w wr) (fun i _ => 64 - (intOf i).toNat)
  case atStart => exact ⟨0, by omega, rfl, H2.out.1, H2.out.2⟩
  case round =>
    obtain ⟨j, hj, rfl, hg, hb⟩ := hrel
    by_cases hlt : j < 64
    · obtain ⟨hc, hf⟩ := key_cell hg hlt
      have e : masked k.data.toList m j j = byteL k.data.toList j := by unfold masked; rw [if_neg (by omega)]
      rw [e] at hc
      have hs := heap_setCell_same wr w.heap.size j _ _ (.int .u8 (bits .xor .u8 (byteL k.data.toList j) m)) hg
      rw [masked_set] at hs
      have H3 : Hid (_ ∧ Below w.heap.size w wr) := ⟨hs, hb⟩
      obtain ⟨p0, p1⟩ := byteL_bd k.data.toList j
      generalize byteL k.data.toList j = x at *
      clear hs hg hb e hcp
      go_wp2
      go_roundw
      case rel => exact ⟨j + 1, by omega, by go_num, H3.out.1, H3.out.2.setCell (Nat.le_refl _) _⟩
      case measure => simp [intOf]; omega
    · have e64 : j = 64 := by omega
      rw [e64] at hg
      have hcv := conv_text wr w.heap.size 64 64 (maskL k.data.toList m) _ _ _ hg (masked_all _ _) (maskL_len _ _)
      have HB : Hid (Below w.heap.size w wr) := hb
      clear hg hb e64 hcp
      go_wp2
      go_ret
      exact ⟨rfl, HB.out⟩

set_option maxHeartbeats 1000000 in
set_option maxRecDepth 10000 in
theorem specMac_small (k t : ByteArray) (w : World) (hk : k.size ≤ 64) (ht : t.size ≤ 40000) :
    Calls Tryd.prog 73 #[.string k, .string t] w fun e w' => e = .returned (.string (macK k t)) ∧ Below w.heap.size w w' := by
  unfold macK
  have E1 : Hid (∀ w, Calls Tryd.prog 125 #[.string k, .int .u8 92] w fun e w' => e = .returned (.string (maskB k 92)) ∧ Below w.heap.size w w') := fun w => specPad_any k 92 w hk (by omega) (by omega)
  have E2 : Hid (∀ w, Calls Tryd.prog 125 #[.string k, .int .u8 54] w fun e w' => e = .returned (.string (maskB k 54)) ∧ Below w.heap.size w w') := fun w => specPad_any k 54 w hk (by omega) (by omega)
  have s1 := maskB_size k 92
  have s2 := maskB_size k 54
  have E3 : Hid (∀ w, Calls Tryd.prog 72 #[.string (maskB k 54 ++ t)] w fun e w' => e = .returned (.string (shaB (maskB k 54 ++ t))) ∧ Below w.heap.size w w') := fun w => all_any _ w (by rw [ByteArray.size_append]; omega)
  have s3 := shaB_size (maskB k 54 ++ t)
  have E4 : Hid (∀ w, Calls Tryd.prog 72 #[.string (maskB k 92 ++ shaB (maskB k 54 ++ t))] w fun e w' => e = .returned (.string (shaB (maskB k 92 ++ shaB (maskB k 54 ++ t)))) ∧ Below w.heap.size w w') := fun w => all_any _ w (by rw [ByteArray.size_append]; omega)
  generalize shaB (maskB k 92 ++ shaB (maskB k 54 ++ t)) = V at *
  generalize shaB (maskB k 54 ++ t) = I at *
  generalize maskB k 92 = A at *
  generalize maskB k 54 = B at *
  have z1 : A.size ≤ 64 := by omega
  have z2 : B.size ≤ 64 := by omega
  have z3 : I.size ≤ 32 := by omega
  clear s1 s2 s3
  go_enter Tryd.func73, Tryd.ntmps73
  go_wp2_with fail
  refine (E1.out _).mono ?_
  rintro e w1 ⟨rfl, hb1⟩
  have H1 : Hid (Below w.heap.size w w1) := hb1
  clear hb1
  go_wp2_with fail
  refine (E2.out _).mono ?_
  rintro e w2 ⟨rfl, hb2⟩
  have H2 : Hid (Below w.heap.size w w2) := H1.out.trans (hb2.mono H1.out.size)
  clear hb2 H1
  go_wp2_with fail
  refine (E3.out _).mono ?_
  rintro e w3 ⟨rfl, hb3⟩
  have H3 : Hid (Below w.heap.size w w3) := H2.out.trans (hb3.mono H2.out.size)
  clear hb3 H2
  go_wp2_with fail
  refine (E4.out _).mono ?_
  rintro e w4 ⟨rfl, hb4⟩
  have H4 : Hid (Below w.heap.size w w4) := H3.out.trans (hb4.mono H3.out.size)
  clear hb4 H3
  go_wp2
  go_ret
  exact ⟨rfl, H4.out⟩

set_option maxHeartbeats 1000000 in
set_option maxRecDepth 10000 in
theorem specMac_great (K k t : ByteArray) (w : World) (hK : 64 < (K.size : Int)) (hk : k.size ≤ 64) (ht : t.size ≤ 40000)
    (E0 : Hid (∀ w, Calls Tryd.prog 72 #[.string K] w fun e w' => e = .returned (.string k) ∧ Below w.heap.size w w')) :
    Calls Tryd.prog 73 #[.string K, .string t] w fun e w' => e = .returned (.string (macK k t)) ∧ Below w.heap.size w w' := by
  unfold macK
  have E1 : Hid (∀ w, Calls Tryd.prog 125 #[.string k, .int .u8 92] w fun e w' => e = .returned (.string (maskB k 92)) ∧ Below w.heap.size w w') := fun w => specPad_any k 92 w hk (by omega) (by omega)
  have E2 : Hid (∀ w, Calls Tryd.prog 125 #[.string k, .int .u8 54] w fun e w' => e = .returned (.string (maskB k 54)) ∧ Below w.heap.size w w') := fun w => specPad_any k 54 w hk (by omega) (by omega)
  have s1 := maskB_size k 92
  have s2 := maskB_size k 54
  have E3 : Hid (∀ w, Calls Tryd.prog 72 #[.string (maskB k 54 ++ t)] w fun e w' => e = .returned (.string (shaB (maskB k 54 ++ t))) ∧ Below w.heap.size w w') := fun w => all_any _ w (by rw [ByteArray.size_append]; omega)
  have s3 := shaB_size (maskB k 54 ++ t)
  have E4 : Hid (∀ w, Calls Tryd.prog 72 #[.string (maskB k 92 ++ shaB (maskB k 54 ++ t))] w fun e w' => e = .returned (.string (shaB (maskB k 92 ++ shaB (maskB k 54 ++ t)))) ∧ Below w.heap.size w w') := fun w => all_any _ w (by rw [ByteArray.size_append]; omega)
  generalize shaB (maskB k 92 ++ shaB (maskB k 54 ++ t)) = V at *
  generalize shaB (maskB k 54 ++ t) = I at *
  generalize maskB k 92 = A at *
  generalize maskB k 54 = B at *
  have z1 : A.size ≤ 64 := by omega
  have z2 : B.size ≤ 64 := by omega
  have z3 : I.size ≤ 32 := by omega
  clear s1 s2 s3
  go_enter Tryd.func73, Tryd.ntmps73
  go_wp2_with fail
  refine (E0.out _).mono ?_
  rintro e w0 ⟨rfl, hb0⟩
  have H0 : Hid (Below w.heap.size w w0) := hb0
  clear hb0
  go_wp2_with fail
  refine (E1.out _).mono ?_
  rintro e w1 ⟨rfl, hb1⟩
  have H1 : Hid (Below w.heap.size w w1) := H0.out.trans (hb1.mono H0.out.size)
  clear hb1
  go_wp2_with fail
  refine (E2.out _).mono ?_
  rintro e w2 ⟨rfl, hb2⟩
  have H2 : Hid (Below w.heap.size w w2) := H1.out.trans (hb2.mono H1.out.size)
  clear hb2 H1
  go_wp2_with fail
  refine (E3.out _).mono ?_
  rintro e w3 ⟨rfl, hb3⟩
  have H3 : Hid (Below w.heap.size w w3) := H2.out.trans (hb3.mono H2.out.size)
  clear hb3 H2
  go_wp2_with fail
  refine (E4.out _).mono ?_
  rintro e w4 ⟨rfl, hb4⟩
  have H4 : Hid (Below w.heap.size w w4) := H3.out.trans (hb4.mono H3.out.size)
  clear hb4 H3
  go_wp2
  go_ret
  exact ⟨rfl, H4.out⟩

theorem specMacB (k t : ByteArray) (w : World) (hk : k.size ≤ 40000) (ht : t.size ≤ 40000) :
    Calls Tryd.prog 73 #[.string k, .string t] w fun e w' => e = .returned (.string (macB k t)) ∧ Below w.heap.size w w' := by
  unfold macB keyB
  by_cases h : 64 < (k.size : Int)
  · rw [if_pos h]
    exact specMac_great k (shaB k) t w h (by rw [shaB_size]; omega) ht (fun w => all_any k w (by omega))
  · rw [if_neg h]
    exact specMac_small k t w (by omega) ht
end Go.Proofs.YtchlopmmhcobdaaDoor
