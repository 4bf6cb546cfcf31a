/-
  The program's TreeHash.
-/
import Derived.Test.YtchlopmmhcobdagDoorTreeOf
import Derived.Test.YtchlopmmhcobdagDoorImplEntries
namespace Go.Proofs.YtchlopmmhcobdagDoor
open Go.RowKit Go.Lib
set_option linter.unusedVariables false

set_option maxHeartbeats 400000 in
theorem implTreeHash_any (v : Value) (l : List ByteArray) (w : World) (h : Texts w w.heap.size v l) (hl : l.length ≤ 1048576) (hK : Keys w) :
    Calls Tryd.prog 21 #[v] w fun e w' => e = .returned (.string (treeV l)) ∧ Below w.heap.size w w' := by
  have E : Hid (Calls Tryd.prog 53 #[v] w fun e w' => e = .returned (.bool (rightB l)) ∧ w' = w) := entriesRight_any v l w _ h hl
  by_cases hr : rightB l = true
  · have ET : Hid (Calls Tryd.prog 54 #[v] w fun e w' => e = .returned (.string (treeB l)) ∧ Below w.heap.size w w') := treeOf_any v l w h hl (fun j hj => rightB_at hr hj) hK
    have ht : treeV l = treeB l := by unfold treeV; rw [if_pos hr]
    rw [ht]
    rw [hr] at E
    generalize treeB l = T at *
    clear hr ht h hK
    go_enter Tryd.func21, Tryd.ntmps21
    go_wp2_with fail
    refine E.out.mono ?_
    rintro e w1 ⟨rfl, rfl⟩
    clear E
    go_wp2_with fail
    refine ET.out.mono ?_
    rintro e w2 ⟨rfl, hb⟩
    have HB : Hid (Below w1.heap.size w1 w2) := hb
    clear hb
    go_wp2
    go_ret
    exact ⟨rfl, HB.out⟩
  · have hr' : rightB l = false := by simpa using hr
    have ht : treeV l = ByteArray.empty := by unfold treeV; rw [hr']; rfl
    rw [ht]
    rw [hr'] at E
    clear hr hr' ht h hK
    go_enter Tryd.func21, Tryd.ntmps21
    go_wp2_with fail
    refine E.out.mono ?_
    rintro e w1 ⟨rfl, rfl⟩
    clear E
    go_wp2
    go_ret
    exact ⟨rfl, Below.refl _ _⟩
end Go.Proofs.YtchlopmmhcobdagDoor
