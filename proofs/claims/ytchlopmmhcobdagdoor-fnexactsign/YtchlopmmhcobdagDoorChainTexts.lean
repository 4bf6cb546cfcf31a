/-
  The texts of the program's chains.
-/
import Derived.Test.YtchlopmmhcobdagDoorChainOf
namespace Go.Proofs.YtchlopmmhcobdagDoor
open Go.RowKit Go.Lib
set_option linter.unusedVariables false
set_option linter.unusedSimpArgs false

theorem range_snoc (f : Nat → ByteArray) (k : Nat) : (List.range k).map f ++ [f k] = (List.range (k + 1)).map f := by simp [List.range_succ]
set_option maxHeartbeats 1000000 in
set_option maxRecDepth 10000 in
theorem texts_any (f : Nat → ByteArray) (w : World) :
    Calls Tryd.prog 30 #[.agg (cellsT 6 f)] w fun e w' => ∃ v, e = .returned v ∧ OwnT w' w.heap.size v ((List.range 6).map f) ∧ Below w.heap.size w w' := by
  have hg0 : (w.alloc (.cells (cellsT 6 f) 47)).heap[w.heap.size]? = some (.cells (cellsT 6 f) 47 (0, 0)) := heap_alloc_new w _
  go_enter Tryd.func30, Tryd.ntmps30
  go_wp2_with (first | (refine wpList_load_row rfl 47 (.tmp 1) rfl w.heap.size rfl _ _ _ _ hg0 Tryd.underlying47 rfl (by rw [cellsT_size]; exact info6) ?_))
  go_loopw [3, 7] (fun a x wr => ∃ k : Nat, k ≤ 6 ∧ x = .int .i64 k ∧ OwnT wr w.heap.size a ((List.range k).map f) ∧ Below w.heap.size w wr) (fun _ x _ => 6 - (intOf x).toNat)
  case atStart => exact ⟨0, by omega, rfl, OwnT.nil _ _, (Below.refl _ _).alloc (Nat.le_refl _) _⟩
  case round =>
    obtain ⟨k, hk, rfl, hown, hb⟩ := hrel
    by_cases hlt : k < 6
    · have hi := index6 f k hlt
      have HS : Hid ((List.range k).map f ++ [f k] = (List.range (k + 1)).map f) := range_snoc f k
      have hll : ((List.range k).map f).length ≤ 1048576 := by simp; omega
      have HO : Hid (OwnT (wr.alloc (.cells #[.string (f k)] 45)) w.heap.size u3 ((List.range k).map f) ∧ Below w.heap.size w (wr.alloc (.cells #[.string (f k)] 45))) :=
        ⟨hown.below ((Below.refl wr.heap.size wr).alloc (Nat.le_refl _) _) (Nat.le_refl _), hb.alloc hb.size _⟩
      generalize (List.range k).map f = l at *
      generalize f k = t at *
      have hown1 := HO.out.1
      have hszw : w.heap.size ≤ (wr.alloc (.cells #[.string t] 45)).heap.size := HO.out.2.size
      have hkI : (k : Int) < 6 := by omega
      have hk0 : (0 : Int) ≤ (k : Int) := by omega
      clear hown hb
      go_wp2_with (at_builtin; go_must (refine wp_app_text rfl (.tmp 10) (.tmp 13) rfl w.heap.size _ _ rfl hown1 t (by simp [Act.eval]) hll hszw ?_); intro v2 w2 hown2 hb2)
      have HO2 : Hid (OwnT w2 w.heap.size v2 ((List.range (k + 1)).map f) ∧ Below w.heap.size w w2) := ⟨by rw [← HS.out]; exact hown2, HO.out.2.trans hb2⟩
      clear hown2 hb2
      go_roundw
      case rel => exact ⟨k + 1, by omega, by go_num, HO2.out.1, HO2.out.2⟩
      case measure => simp [intOf]; omega
    · have e6 : k = 6 := by omega
      rw [e6] at hown
      have HO : Hid (OwnT wr w.heap.size u3 ((List.range 6).map f) ∧ Below w.heap.size w wr) := ⟨hown, hb⟩
      have hkI : ¬ (k : Int) < 6 := by omega
      clear e6 hown hb
      go_wp2
      go_ret
      exact ⟨_, rfl, HO.out.1, HO.out.2⟩
end Go.Proofs.YtchlopmmhcobdagDoor
