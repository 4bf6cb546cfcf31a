/-
  The program's key, filled up to a block, each byte put together with one.
-/
import Derived.Test.YtchlopmmhcobdaaDoorMaskPure
namespace Go.Proofs.YtchlopmmhcobdaaDoor
open Go.RowKit Go.Lib
set_option linter.unusedVariables false

set_option maxHeartbeats 1000000 in
set_option maxRecDepth 10000 in
theorem maskedKey_any (k : ByteArray) (m : Int) (w : World) (hk : k.size ≤ 64) (hm0 : 0 ≤ m) (hm1 : m < 256) :
    Calls Tryd.prog 70 #[.string k, .int .u8 m] w fun e w' => e = .returned (.string (maskB k m)) ∧ Below w.heap.size w w' := by
  obtain ⟨w1, hmk, hg1, hb1⟩ := make_64 w
  obtain ⟨w2, hcp, hg2, hb2⟩ := copy_key w1 w.heap.size k hg1 hk w.heap.size (Nat.le_refl _)
  have HMK : Hid (_ = _) := hmk
  have e0 : masked k.data.toList 0 0 = masked k.data.toList m 0 := by unfold masked; simp
  rw [e0] at hg2
  have H2 : Hid (w2.heap[w.heap.size]? = _ ∧ Below w.heap.size w w2) := ⟨hg2, hb1.trans hb2⟩
  clear hmk hg1 hb1 hg2 hb2 e0
  go_enter Tryd.func70, Tryd.ntmps70
  go_wp2_with (at_make; go_must (refine wp_make_run rfl _ _ 22 rfl _ _ _ w1 rfl rfl HMK.out ?_))
  go_loopw [13] (fun i wr => ∃ j : Nat, j ≤ 64 ∧ i = .int .i64 j ∧ wr.heap[w.heap.size]? = some (.cells (cells8 64 (masked k.data.toList m j)) 5 (0, 0)) ∧ Below w.heap.size w wr) (fun i _ => 64 - (intOf i).toNat)
  case atStart => exact ⟨0, by omega, rfl, H2.out.1, H2.out.2⟩
  case round =>
    obtain ⟨j, hj, rfl, hg, hb⟩ := hrel
    by_cases hlt : j < 64
    · obtain ⟨hc, hf⟩ := key_cell hg hlt
      have e : masked k.data.toList m j j = byteL k.data.toList j := by unfold masked; rw [if_neg (by omega)]
      rw [e] at hc
      have hs := heap_setCell_same wr w.heap.size j _ _ (.int .u8 (bits .xor .u8 (byteL k.data.toList j) m)) hg
      rw [masked_set] at hs
      have H3 : Hid (_ ∧ Below w.heap.size w wr) := ⟨hs, hb⟩
      obtain ⟨p0, p1⟩ := byteL_bd k.data.toList j
      generalize byteL k.data.toList j = x at *
      clear hs hg hb e hcp
      go_wp2
      go_roundw
      case rel => exact ⟨j + 1, by omega, by go_num, H3.out.1, H3.out.2.setCell (Nat.le_refl _) _⟩
      case measure => simp [intOf]; omega
    · have e64 : j = 64 := by omega
      rw [e64] at hg
      have hcv := conv_text wr w.heap.size 64 64 (maskL k.data.toList m) _ _ _ hg (masked_all _ _) (maskL_len _ _)
      have HB : Hid (Below w.heap.size w wr) := hb
      clear hg hb e64 hcp
      go_wp2
      go_ret
      exact ⟨rfl, HB.out⟩
end Go.Proofs.YtchlopmmhcobdaaDoor
