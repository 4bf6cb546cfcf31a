/-
  The document's TreeHash.
-/
import Derived.Test.YtchlopmmhcobdaeDoorSpecTree
import Derived.Test.YtchlopmmhcobdaeDoorSpecEntries
namespace Go.Proofs.YtchlopmmhcobdaeDoor
open Go.RowKit Go.Lib
set_option linter.unusedVariables false

set_option maxHeartbeats 400000 in
theorem specTreeHash_any (v : Value) (l : List ByteArray) (w : World) (h : Texts w w.heap.size v l) (hl : l.length ≤ 1048576) :
    Calls Tryd.prog 18 #[v] w fun e w' => e = .returned (.string (treeV l)) ∧ Below w.heap.size w w' := by
  have E : Hid (Calls Tryd.prog 34 #[v] w fun e w' => e = .returned (.bool (rightB l)) ∧ w' = w) := specEntries_any v l w _ h hl
  by_cases h400 : 400 < l.length
  · have ht : treeV l = ByteArray.empty := by unfold treeV; rw [rightB_long (by omega)]; rfl
    rw [ht]
    obtain ⟨a, cap, rfl, hx, hy⟩ := h
    clear hx hy
    have hI : ¬ (l.length : Int) ≤ 400 := by omega
    have hI2 : (400 : Int) < (l.length : Int) := by omega
    clear E ht
    generalize l.length = n at *
    go_enter Tryd.func18, Tryd.ntmps18
    go_wp2_with fail
    go_ret
    exact ⟨rfl, Below.refl _ _⟩
  · have hI : ¬ (400 : Int) < (l.length : Int) := by omega
    by_cases hr : rightB l = true
    · have ET : Hid (Calls Tryd.prog 35 #[v] w fun e w' => e = .returned (.string (treeB l)) ∧ Below w.heap.size w w') := specTree_any l.length l rfl hl (fun j hj => rightB_at hr hj) v w h
      have ht : treeV l = treeB l := by unfold treeV; rw [if_pos hr]
      rw [ht]
      rw [hr] at E
      generalize treeB l = T at *
      obtain ⟨a, cap, rfl, hx, hy⟩ := h
      clear hx hy
      clear hr ht
      generalize l.length = n at *
      go_enter Tryd.func18, Tryd.ntmps18
      go_wp2_with fail
      refine E.out.mono ?_
      rintro e w1 ⟨rfl, rfl⟩
      clear E
      go_wp2_with fail
      refine ET.out.mono ?_
      rintro e w2 ⟨rfl, hb⟩
      have HB : Hid (Below w1.heap.size w1 w2) := hb
      clear hb
      go_wp2
      go_ret
      exact ⟨rfl, HB.out⟩
    · have hr' : rightB l = false := by simpa using hr
      have ht : treeV l = ByteArray.empty := by unfold treeV; rw [hr']; rfl
      rw [ht]
      rw [hr'] at E
      obtain ⟨a, cap, rfl, hx, hy⟩ := h
      clear hx hy
      clear hr hr' ht
      generalize l.length = n at *
      go_enter Tryd.func18, Tryd.ntmps18
      go_wp2_with fail
      refine E.out.mono ?_
      rintro e w1 ⟨rfl, rfl⟩
      clear E
      go_wp2
      go_ret
      exact ⟨rfl, Below.refl _ _⟩
end Go.Proofs.YtchlopmmhcobdaeDoor
