/-
  The program's Sign, at every argument.
-/
import Derived.Test.YtchlopmmhcobdagDoorImplSign
namespace Go.Proofs.YtchlopmmhcobdagDoor
open Go.RowKit Go.Lib
set_option linter.unusedVariables false
set_option linter.unusedSimpArgs false

set_option maxHeartbeats 1000000 in
set_option maxRecDepth 10000 in
theorem implSign_any (s : ByteArray) (k : Int) (t : ByteArray) (w : World) (hs : s.size ≤ 1048576) (ht : t.size ≤ 1048576) (hK : Keys w) :
    Calls Tryd.prog 9 #[.string s, .int .i64 k, .string t] w fun e w' => SigAns w (sigKey s k t) (sigEnds s k t) (sigPath s k t) e w' := by
  unfold sigKey sigEnds sigPath
  by_cases h : signB s k t = true
  · obtain ⟨h1, h2, h3, h4⟩ := signB_yes h
    rw [if_pos h, if_pos h, if_pos h]
    exact implSignY_any s k t w h1 h2 h3 (by omega) hK
  have E0 : Hid (∀ w, Calls Tryd.prog 20 #[.string s] w fun e w' => e = .returned (.bool (seedB s)) ∧ w' = w) := fun w => seedRight_any s w hs
  have E1 : Hid (∀ w, Calls Tryd.prog 25 #[.int .i64 k] w fun e w' => e = .returned (.bool (decide (0 ≤ k ∧ k ≤ 3))) ∧ w' = w) := fun w => keyRight_any k w
  have HZ : Hid (∀ W : World, Below w.heap.size w W → SigAns w 0 [] [] (.returned (.agg #[.int .i64 0, .slice none 0 0, .slice none 0 0])) W) := fun W hb => ⟨_, _, w.heap.size, rfl, OwnT.nil _ _, OwnT.nil _ _, fun g hg => by simp [Value.ownBlock] at hg, Nat.le_refl _, hb.size, hb⟩
  clear hK
  · rw [if_neg h, if_neg h, if_neg h]
    rcases signB_no h with h1 | ⟨h1, h2⟩ | ⟨h1, h2, h3⟩
    · rw [h1] at E0
      clear h E1
      go_enter Tryd.func9, Tryd.ntmps9
      go_wp2_with fail
      refine (E0.out _).mono ?_
      rintro e w0 ⟨rfl, rfl⟩
      go_wp2
      exact bodyPost_ret (v := .agg #[.int .i64 0, .slice none 0 0, .slice none 0 0]) (by simp [results, Tryd.results9, go_sem]) rfl (HZ.out _ ((Below.refl _ _).alloc (Nat.le_refl _) _))
    · rw [h1] at E0
      rw [decide_eq_false h2] at E1
      clear h
      go_enter Tryd.func9, Tryd.ntmps9
      go_wp2_with fail
      refine (E0.out _).mono ?_
      rintro e w0 ⟨rfl, rfl⟩
      go_wp2_with fail
      refine (E1.out _).mono ?_
      rintro e w0 ⟨rfl, rfl⟩
      go_wp2
      exact bodyPost_ret (v := .agg #[.int .i64 0, .slice none 0 0, .slice none 0 0]) (by simp [results, Tryd.results9, go_sem]) rfl (HZ.out _ ((Below.refl _ _).alloc (Nat.le_refl _) _))
    · rw [h1] at E0
      rw [decide_eq_true h2] at E1
      clear h
      go_enter Tryd.func9, Tryd.ntmps9
      go_wp2_with fail
      refine (E0.out _).mono ?_
      rintro e w0 ⟨rfl, rfl⟩
      go_wp2_with fail
      refine (E1.out _).mono ?_
      rintro e w0 ⟨rfl, rfl⟩
      go_wp2
      exact bodyPost_ret (v := .agg #[.int .i64 0, .slice none 0 0, .slice none 0 0]) (by simp [results, Tryd.results9, go_sem]) rfl (HZ.out _ ((Below.refl _ _).alloc (Nat.le_refl _) _))
end Go.Proofs.YtchlopmmhcobdagDoor
