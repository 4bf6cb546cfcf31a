/-
  The document's ProofOf.
-/
import Derived.Test.YtchlopmmhcobdafDoorSpecProof
import Derived.Test.YtchlopmmhcobdafDoorSpecEntries
namespace Go.Proofs.YtchlopmmhcobdafDoor
open Go.RowKit Go.Lib
set_option linter.unusedVariables false

theorem proofV_no {l : List ByteArray} {i : Int} (h : rightB l = false ∨ i < 1 ∨ (l.length : Int) < i) : proofV l i = [] := by
  unfold proofV
  rw [if_neg]
  rintro ⟨h1, h2, h3⟩
  rcases h with h | h | h
  · rw [h] at h1; cases h1
  · omega
  · omega
set_option maxHeartbeats 1000000 in
theorem specProofOf_any (v : Value) (l : List ByteArray) (i : Int) (w : World) (h : Texts w w.heap.size v l) (hl : l.length ≤ 1048576) (hi0 : -9223372036854775808 ≤ i) (hi1 : i ≤ 9223372036854775807) :
    Calls Tryd.prog 13 #[v, .int .i64 i] w fun e w' => ∃ v', e = .returned v' ∧ OwnT w' w.heap.size v' (proofV l i) ∧ Below w.heap.size w w' := by
  have E : Hid (Calls Tryd.prog 32 #[v] w fun e w' => e = .returned (.bool (rightB l)) ∧ w' = w) := specEntries_any v l w _ h hl
  by_cases h400 : 400 < l.length
  · rw [proofV_no (.inl (rightB_long (by omega)))]
    obtain ⟨a, cap, rfl, hx, hy⟩ := h
    clear hx hy
    have hI2 : (400 : Int) < (l.length : Int) := by omega
    clear E
    generalize l.length = n at *
    go_enter Tryd.func13, Tryd.ntmps13
    go_wp2_with fail
    go_ret
    exact ⟨_, rfl, OwnT.made _ _ (Nat.le_refl _), (Below.refl _ _).alloc (Nat.le_refl _) _⟩
  have hI : ¬ (400 : Int) < (l.length : Int) := by omega
  by_cases hr : rightB l = true
  · rw [hr] at E
    by_cases hin : 1 ≤ i ∧ i ≤ (l.length : Int)
    · obtain ⟨hi2, hi3⟩ := hin
      have hlen := rightB_len hr
      have ET : Hid (Calls Tryd.prog 33 #[.int .i64 i, v, .bool true] w fun e w' => ∃ v', e = .returned v' ∧ OwnT w' w.heap.size v' (proofB i.toNat l true) ∧ Below w.heap.size w w') := specProof_any l.length l rfl (by omega) (fun j hj => rightB_at hr hj) i.toNat i true v w (by omega) (by omega) (by omega) h
      have ht : proofV l i = proofB i.toNat l true := by unfold proofV; rw [if_pos ⟨hr, hi2, hi3⟩]
      rw [ht]
      generalize proofB i.toNat l true = T at *
      obtain ⟨a, cap, rfl, hx, hy⟩ := h
      clear hx hy hr ht
      have h0i : ¬ i < 1 := by omega
      have hgi : ¬ (l.length : Int) < i := by omega
      generalize l.length = n at *
      go_enter Tryd.func13, Tryd.ntmps13
      go_wp2_with fail
      refine E.out.mono ?_
      rintro e w1 ⟨rfl, rfl⟩
      clear E
      go_wp2_with fail
      refine ET.out.mono ?_
      rintro e w2 ⟨v2, rfl, ho, hb⟩
      have HB : Hid (OwnT w2 w1.heap.size v2 T ∧ Below w1.heap.size w1 w2) := ⟨ho, hb⟩
      clear hb ho
      go_wp2
      go_ret
      exact ⟨_, rfl, HB.out.1, HB.out.2⟩
    · rw [proofV_no (.inr (by omega))]
      obtain ⟨a, cap, rfl, hx, hy⟩ := h
      clear hx hy hr
      by_cases h0i : i < 1
      · clear hin
        generalize l.length = n at *
        go_enter Tryd.func13, Tryd.ntmps13
        go_wp2_with fail
        refine E.out.mono ?_
        rintro e w1 ⟨rfl, rfl⟩
        clear E
        go_wp2
        go_ret
        exact ⟨_, rfl, OwnT.made _ _ (Nat.le_refl _), (Below.refl _ _).alloc (Nat.le_refl _) _⟩
      · have hgi : (l.length : Int) < i := by omega
        clear hin
        generalize l.length = n at *
        go_enter Tryd.func13, Tryd.ntmps13
        go_wp2_with fail
        refine E.out.mono ?_
        rintro e w1 ⟨rfl, rfl⟩
        clear E
        go_wp2
        go_ret
        exact ⟨_, rfl, OwnT.made _ _ (Nat.le_refl _), (Below.refl _ _).alloc (Nat.le_refl _) _⟩
  · have hr' : rightB l = false := by simpa using hr
    rw [proofV_no (.inl hr')]
    rw [hr'] at E
    obtain ⟨a, cap, rfl, hx, hy⟩ := h
    clear hx hy hr hr'
    generalize l.length = n at *
    go_enter Tryd.func13, Tryd.ntmps13
    go_wp2_with fail
    refine E.out.mono ?_
    rintro e w1 ⟨rfl, rfl⟩
    clear E
    go_wp2
    go_ret
    exact ⟨_, rfl, OwnT.made _ _ (Nat.le_refl _), (Below.refl _ _).alloc (Nat.le_refl _) _⟩
end Go.Proofs.YtchlopmmhcobdafDoor
