/-
  The program's KeyRoot.
-/
import Derived.Test.YtchlopmmhcobdagDoorImplPubs
import Derived.Test.YtchlopmmhcobdagDoorImplSeed
import Derived.Test.YtchlopmmhcobdagDoorKeyV
import Derived.Test.YtchlopmmhcobdagDoorImplTreeHash
namespace Go.Proofs.YtchlopmmhcobdagDoor
open Go.RowKit Go.Lib
set_option linter.unusedVariables false
set_option linter.unusedSimpArgs false

set_option maxHeartbeats 1000000 in
set_option maxRecDepth 10000 in
theorem implKeyRoot_any (s : ByteArray) (w : World) (hz : s.size ≤ 1048576) (hK : Keys w) :
    Calls Tryd.prog 7 #[.string s] w fun e w' => e = .returned (.string (keyV s)) ∧ Below w.heap.size w w' := by
  have E0 : Hid (∀ w, Calls Tryd.prog 20 #[.string s] w fun e w' => e = .returned (.bool (seedB s)) ∧ w' = w) := fun w => seedRight_any s w hz
  have HK : Hid (Keys w) := hK
  unfold keyV
  by_cases h : seedB s = true
  · rw [if_pos h]
    have hs := seedB_yes h
    rw [h] at E0
    have E1 : Hid (Calls Tryd.prog 22 #[.string s] w fun e w' => ∃ v, e = .returned v ∧ OwnT w' w.heap.size v (pubsB s) ∧ Below w.heap.size w w') := implPubs_any s w (by omega) hK
    have E2 : Hid (∀ v w, Texts w w.heap.size v (pubsB s) → Keys w → Calls Tryd.prog 21 #[v] w fun e w' => e = .returned (.string (treeB (pubsB s))) ∧ Below w.heap.size w w') := fun v w ht hK => by
      have := implTreeHash_any v (pubsB s) w ht (by rw [pubsB_len]; omega) hK
      rw [treeV_pubs] at this
      exact this
    generalize pubsB s = l at *
    generalize treeB l = V at *
    clear hK hs h
    go_enter Tryd.func7, Tryd.ntmps7
    go_wp2_with fail
    refine (E0.out _).mono ?_
    rintro e w0 ⟨rfl, rfl⟩
    go_wp2_with fail
    refine E1.out.mono ?_
    rintro e w1 ⟨v, rfl, hown, hb1⟩
    have H1 : Hid (Below w0.heap.size w0 w1 ∧ Texts w1 w1.heap.size v l ∧ Keys w1) := ⟨hb1, hown.texts, HK.out.below hb1 HK.out.lt⟩
    clear hown hb1 E1
    go_wp2_with fail
    refine (E2.out _ _ H1.out.2.1 H1.out.2.2).mono ?_
    rintro e w2 ⟨rfl, hb2⟩
    have H2 : Hid (Below w0.heap.size w0 w2) := H1.out.1.trans (hb2.mono H1.out.1.size)
    clear hb2 H1
    go_wp2
    go_ret
    exact ⟨rfl, H2.out⟩
  · rw [if_neg h]
    have hf : seedB s = false := by simpa using h
    rw [hf] at E0
    clear hK h hf
    go_enter Tryd.func7, Tryd.ntmps7
    go_wp2_with fail
    refine (E0.out _).mono ?_
    rintro e w0 ⟨rfl, rfl⟩
    go_wp2
    go_ret
    exact ⟨rfl, Below.refl _ _⟩
end Go.Proofs.YtchlopmmhcobdagDoor
