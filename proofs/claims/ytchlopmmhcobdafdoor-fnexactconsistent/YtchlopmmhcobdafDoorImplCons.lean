/-
  The program's Consistent: it answers as a run from below.
-/
import Derived.Test.YtchlopmmhcobdafDoorRetAll
import Derived.Test.YtchlopmmhcobdafDoorConsV
namespace Go.Proofs.YtchlopmmhcobdafDoor
open Go.RowKit Go.Lib
set_option linter.unusedVariables false

set_option maxHeartbeats 4000000 in
theorem implCons_any (was root : ByteArray) (i n : Int) (v : Value) (path : List ByteArray) (w : World) (h : Texts w w.heap.size v path) (hl : path.length ≤ 1048576) (hi0 : -9223372036854775808 ≤ i) (hi1 : i ≤ 9223372036854775807) (hn0 : -9223372036854775808 ≤ n) (hn1 : n ≤ 9223372036854775807) (hz1 : was.size ≤ 1048576) (hz2 : root.size ≤ 1048576) (hK : Keys w) :
    Calls Tryd.prog 18 #[.int .i64 i, .int .i64 n, v, .string was, .string root] w fun e w' => e = .returned (.bool (consB i n path was root)) ∧ Below w.heap.size w w' := by
  by_cases c5 : i < 1
  · rw [consB_no (.inr (.inr (.inr (.inr (.inl c5)))))]
    clear h hK
    go_enter Tryd.func18, Tryd.ntmps18
    go_wp2_with fail
    go_ret
    exact ⟨rfl, Below.refl _ _⟩
  by_cases c6 : n < i
  · rw [consB_no (.inr (.inr (.inr (.inr (.inr c6)))))]
    clear h hK
    go_enter Tryd.func18, Tryd.ntmps18
    go_wp2_with fail
    go_ret
    exact ⟨rfl, Below.refl _ _⟩
  by_cases c1 : (64 : Int) < (path.length : Int)
  · rw [consB_no (.inl c1)]
    obtain ⟨a, cap, rfl, hx, hy⟩ := h
    clear hx hy hK
    generalize path.length = m at *
    go_enter Tryd.func18, Tryd.ntmps18
    go_wp2_with fail
    go_ret
    exact ⟨rfl, Below.refl _ _⟩
  have E1 : Hid (Calls Tryd.prog 30 #[.slice (some ⟨w.heap.size, 0, none⟩) 2 2] (w.alloc (.cells #[.string was, .string root] 9)) fun e w' => e = .returned (.bool (wideB [was, root])) ∧ w' = w.alloc (.cells #[.string was, .string root] 9)) := areDigests_any _ [was, root] _ _ (two_texts w was root) (by simp)
  rw [wide_two] at E1
  have hal : Below w.heap.size w (w.alloc (.cells #[.string was, .string root] 9)) := (Below.refl _ _).alloc (Nat.le_refl _) _
  by_cases c34 : (was.size : Int) = 32 ∧ (root.size : Int) = 32
  · obtain ⟨c3, c4⟩ := c34
    rw [decide_eq_true c3, decide_eq_true c4, Bool.true_and] at E1
    have E2 : Hid (Calls Tryd.prog 30 #[v] (w.alloc (.cells #[.string was, .string root] 9)) fun e w' => e = .returned (.bool (wideB path)) ∧ w' = w.alloc (.cells #[.string was, .string root] 9)) := areDigests_any v path _ w.heap.size (h.below hal) hl
    by_cases c2 : wideB path = true
    · rw [c2] at E2
      rw [consB_yes (by omega) c2 c3 c4 (by omega) (by omega), cons_ret _ _ _ _ _ (by omega) (by omega)]
      have E3 : Hid (Calls Tryd.prog 38 #[.int .i64 i, .int .i64 n, .bool true, v, .string was] (w.alloc (.cells #[.string was, .string root] 9)) fun e w' => RetAns (retB was path.reverse i.toNat n.toNat true) e ∧ Below w.heap.size w w') := by
        refine (retrace_any path.length path rfl (by omega) (fun j hj => by have := wideB_at c2 hj; omega) was i.toNat n.toNat i n true v _ (by omega) (by omega) (by omega) (by omega) (by omega) (by omega) ((h.below hal).up (by simp)) (hK.below hal hK.lt)).mono ?_
        rintro e w' ⟨h1, hb⟩
        exact ⟨h1, hal.trans (hb.mono (by simp))⟩
      show Calls _ _ _ _ fun e w' => e = .returned (.bool ((retB was path.reverse i.toNat n.toNat true).2 && (((retB was path.reverse i.toNat n.toNat true).1.1.toList == was.toList) && ((retB was path.reverse i.toNat n.toNat true).1.2.toList == root.toList)))) ∧ _
      generalize retB was path.reverse i.toNat n.toNat true = C at *
      obtain ⟨⟨C1, C3⟩, C2⟩ := C
      obtain ⟨a, cap, rfl, hx, hy⟩ := h
      clear hx hy c2 hK
      generalize path.length = m at *
      go_enter Tryd.func18, Tryd.ntmps18
      go_wp2_with fail
      refine E1.out.mono ?_
      rintro e w1 ⟨rfl, hw1⟩
      rw [← hw1] at E2 E3
      clear E1 hw1 hal
      go_wp2_with fail
      refine E2.out.mono ?_
      rintro e w2 ⟨rfl, hw2⟩
      subst hw2
      clear E2
      go_wp2_with fail
      refine E3.out.mono ?_
      rintro e w3 ⟨hc3, hb3⟩
      unfold RetAns pairV at hc3
      subst hc3
      have H3 : Hid (Below w.heap.size w w3) := hb3
      clear hb3 E3
      cases C2 with
      | true =>
        by_cases q1 : C1.toList = was.toList
        · by_cases q2 : C3.toList = root.toList
          · have HV : Hid ((true && ((C1.toList == was.toList) && (C3.toList == root.toList))) = true) := show _ = _ by rw [q1, q2]; simp
            go_wp2
            go_ret
            exact ⟨ret_bool HV.out.symm, H3.out.alloc H3.out.size _⟩
          · have HV : Hid ((true && ((C1.toList == was.toList) && (C3.toList == root.toList))) = false) := show _ = _ by rw [beq_eq_false_iff_ne.2 q2]; simp
            go_wp2
            go_ret
            exact ⟨ret_bool HV.out.symm, H3.out.alloc H3.out.size _⟩
        · have HV : Hid ((true && ((C1.toList == was.toList) && (C3.toList == root.toList))) = false) := show _ = _ by rw [beq_eq_false_iff_ne.2 q1]; simp
          go_wp2
          go_ret
          exact ⟨ret_bool HV.out.symm, H3.out.alloc H3.out.size _⟩
      | false =>
        go_wp2
        go_ret
        exact ⟨rfl, H3.out.alloc H3.out.size _⟩
    · have c2' : wideB path = false := by simpa using c2
      rw [c2'] at E2
      rw [consB_no (.inr (.inl c2'))]
      obtain ⟨a, cap, rfl, hx, hy⟩ := h
      clear hx hy c2 hK c2'
      generalize path.length = m at *
      go_enter Tryd.func18, Tryd.ntmps18
      go_wp2_with fail
      refine E1.out.mono ?_
      rintro e w1 ⟨rfl, hw1⟩
      rw [← hw1] at E2 hal
      have HAL : Hid (Below w.heap.size w w1) := hal
      clear E1 hw1 hal
      go_wp2_with fail
      refine E2.out.mono ?_
      rintro e w2 ⟨rfl, hw2⟩
      subst hw2
      have H3 : Hid (Below w.heap.size w w2) := HAL.out
      clear E2 HAL
      go_wp2
      go_ret
      exact ⟨rfl, H3.out⟩
  · have hno : (decide ((was.size : Int) = 32) && decide ((root.size : Int) = 32)) = false := by
      rw [Bool.and_eq_false_iff]
      by_cases h1 : (was.size : Int) = 32
      · exact .inr (decide_eq_false fun h2 => c34 ⟨h1, h2⟩)
      · exact .inl (decide_eq_false h1)
    rw [consB_no (by by_cases h1 : (was.size : Int) = 32; exact .inr (.inr (.inr (.inl fun h2 => c34 ⟨h1, h2⟩))); exact .inr (.inr (.inl h1)))]
    rw [hno] at E1
    obtain ⟨a, cap, rfl, hx, hy⟩ := h
    clear hx hy hK hno c34
    generalize path.length = m at *
    go_enter Tryd.func18, Tryd.ntmps18
    go_wp2_with fail
    refine E1.out.mono ?_
    rintro e w1 ⟨rfl, hw1⟩
    have H1 : Hid (Below w.heap.size w w1) := by rw [hw1]; exact hal
    clear hw1 E1 hal
    go_wp2
    go_ret
    exact ⟨rfl, H1.out⟩
end Go.Proofs.YtchlopmmhcobdafDoor
