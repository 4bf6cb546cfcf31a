/-
  The program's PathOf.
-/
import Derived.Test.YtchlopmmhcobdagDoorImplPath
import Derived.Test.YtchlopmmhcobdagDoorImplEntries
namespace Go.Proofs.YtchlopmmhcobdagDoor
open Go.RowKit Go.Lib
set_option linter.unusedVariables false

theorem pathV_not {l : List ByteArray} {i : Int} (h : rightB l = false ∨ i < 0 ∨ (l.length : Int) ≤ i) : pathV l i = [] := by
  unfold pathV
  rw [if_neg]
  rintro ⟨h1, h2, h3⟩
  rcases h with h | h | h
  · rw [h] at h1; cases h1
  · omega
  · omega
set_option maxHeartbeats 1000000 in
theorem implPathOf_any (v : Value) (l : List ByteArray) (i : Int) (w : World) (h : Texts w w.heap.size v l) (hl : l.length ≤ 1048576) (hi0 : -9223372036854775808 ≤ i) (hi1 : i ≤ 9223372036854775807) (hK : Keys w) :
    Calls Tryd.prog 31 #[v, .int .i64 i] w fun e w' => ∃ v', e = .returned v' ∧ OwnT w' w.heap.size v' (pathV l i) ∧ Below w.heap.size w w' := by
  have E : Hid (Calls Tryd.prog 53 #[v] w fun e w' => e = .returned (.bool (rightB l)) ∧ w' = w) := entriesRight_any v l w _ h hl
  by_cases hr : rightB l = true
  · rw [hr] at E
    by_cases hin : 0 ≤ i ∧ i < (l.length : Int)
    · obtain ⟨hi2, hi3⟩ := hin
      have hlen := rightB_len hr
      have ET : Hid (Calls Tryd.prog 62 #[v, .int .i64 i] w fun e w' => ∃ v', e = .returned v' ∧ OwnT w' w.heap.size v' (pathB l i.toNat) ∧ Below w.heap.size w w') := pathIn_any l.length l rfl (by omega) (by omega) (fun j hj => rightB_at hr hj) i.toNat i v w (by omega) (by omega) h hK
      have ht : pathV l i = pathB l i.toNat := by unfold pathV; rw [if_pos ⟨hr, hi2, hi3⟩]
      rw [ht]
      generalize pathB l i.toNat = T at *
      obtain ⟨a, cap, rfl, hx, hy⟩ := h
      clear hx hy hr ht hK
      have h0i : ¬ i < 0 := by omega
      have hgi : ¬ (l.length : Int) ≤ i := by omega
      generalize l.length = n at *
      go_enter Tryd.func31, Tryd.ntmps31
      go_wp2_with fail
      refine E.out.mono ?_
      rintro e w1 ⟨rfl, rfl⟩
      clear E
      go_wp2_with fail
      refine ET.out.mono ?_
      rintro e w2 ⟨v2, rfl, ho, hb⟩
      have HB : Hid (OwnT w2 w1.heap.size v2 T ∧ Below w1.heap.size w1 w2) := ⟨ho, hb⟩
      clear hb ho
      go_wp2
      go_ret
      exact ⟨_, rfl, HB.out.1, HB.out.2⟩
    · rw [pathV_not (.inr (by omega))]
      obtain ⟨a, cap, rfl, hx, hy⟩ := h
      clear hx hy hr hK
      by_cases h0i : i < 0
      · clear hin
        generalize l.length = n at *
        go_enter Tryd.func31, Tryd.ntmps31
        go_wp2_with fail
        refine E.out.mono ?_
        rintro e w1 ⟨rfl, rfl⟩
        clear E
        go_wp2
        go_ret
        exact ⟨_, rfl, OwnT.nil _ _, Below.refl _ _⟩
      · have hgi : (l.length : Int) ≤ i := by omega
        clear hin
        generalize l.length = n at *
        go_enter Tryd.func31, Tryd.ntmps31
        go_wp2_with fail
        refine E.out.mono ?_
        rintro e w1 ⟨rfl, rfl⟩
        clear E
        go_wp2
        go_ret
        exact ⟨_, rfl, OwnT.nil _ _, Below.refl _ _⟩
  · have hr' : rightB l = false := by simpa using hr
    rw [pathV_not (.inl hr')]
    rw [hr'] at E
    obtain ⟨a, cap, rfl, hx, hy⟩ := h
    clear hx hy hr hr' hK
    generalize l.length = n at *
    go_enter Tryd.func31, Tryd.ntmps31
    go_wp2_with fail
    refine E.out.mono ?_
    rintro e w1 ⟨rfl, rfl⟩
    clear E
    go_wp2
    go_ret
    exact ⟨_, rfl, OwnT.nil _ _, Below.refl _ _⟩
end Go.Proofs.YtchlopmmhcobdagDoor
