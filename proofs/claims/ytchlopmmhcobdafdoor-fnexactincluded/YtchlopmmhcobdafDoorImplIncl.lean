/-
  The program's Included: it answers as a run from below.
-/
import Derived.Test.YtchlopmmhcobdafDoorClimb
import Derived.Test.YtchlopmmhcobdafDoorInclV
namespace Go.Proofs.YtchlopmmhcobdafDoor
open Go.RowKit Go.Lib
set_option linter.unusedVariables false

/-- Climbed from above, and held against the root. -/
theorem incl_climb {leaf root : ByteArray} {i n : Int} {path : List ByteArray} (h1 : path.length ≤ 63) (h2 : wideB path = true) (h3 : (leaf.size : Int) = 32) (h4 : (root.size : Int) = 32) (h5 : 0 ≤ i) (h6 : i < n) :
    inclB leaf i n path root = ((climbB leaf path.reverse i.toNat n.toNat).2 && ((climbB leaf path.reverse i.toNat n.toNat).1.toList == root.toList)) := by
  have e : inclB leaf i n path root = inclEnd root (inclRun nodeB (some (i.toNat, (n - 1).toNat, leaf)) path) := by
    unfold inclB
    rw [if_neg]
    rintro (h | h | h | h | h | h)
    · omega
    · rw [h2] at h; cases h
    · exact h h3
    · exact h h4
    · omega
    · omega
  have hc := climb_run nodeB ByteArray.empty leaf i.toNat n.toNat path (by omega) (by omega)
  rw [e, show (n - 1).toNat = n.toNat - 1 by omega]
  show inclEnd root _ = ((climbR nodeB ByteArray.empty leaf path.reverse i.toNat n.toNat).2 && _)
  cases hs : inclRun nodeB (some (i.toNat, n.toNat - 1, leaf)) path with
  | none =>
    rw [hs] at hc
    by_cases hf : (climbR nodeB ByteArray.empty leaf path.reverse i.toNat n.toNat).2 = true
    · rw [if_pos hf] at hc; cases hc
    · have hf' : (climbR nodeB ByteArray.empty leaf path.reverse i.toNat n.toNat).2 = false := by simpa using hf
      rw [hf']
      rfl
  | some s =>
    obtain ⟨a, b, d⟩ := s
    rw [hs] at hc
    simp only [inclOut] at hc
    by_cases hb : b = 0
    · rw [if_pos hb] at hc
      by_cases hf : (climbR nodeB ByteArray.empty leaf path.reverse i.toNat n.toNat).2 = true
      · rw [if_pos hf] at hc
        have hd := Option.some.inj hc
        rw [hf, ← hd]
        simp [inclEnd, hb]
      · rw [if_neg hf] at hc; cases hc
    · rw [if_neg hb] at hc
      by_cases hf : (climbR nodeB ByteArray.empty leaf path.reverse i.toNat n.toNat).2 = true
      · rw [if_pos hf] at hc; cases hc
      · have hf' : (climbR nodeB ByteArray.empty leaf path.reverse i.toNat n.toNat).2 = false := by simpa using hf
        rw [hf']
        simp [inclEnd, hb]
theorem inclB_not {leaf root : ByteArray} {i n : Int} {path : List ByteArray} (h : 63 < (path.length : Int) ∨ wideB path = false ∨ ¬ (leaf.size : Int) = 32 ∨ ¬ (root.size : Int) = 32 ∨ i < 0 ∨ n ≤ i) : inclB leaf i n path root = false := by
  unfold inclB
  rw [if_pos h]

set_option maxHeartbeats 4000000 in
theorem implIncl_any (leaf root : ByteArray) (i n : Int) (v : Value) (path : List ByteArray) (w : World) (h : Texts w w.heap.size v path) (hl : path.length ≤ 1048576) (hi0 : -9223372036854775808 ≤ i) (hi1 : i ≤ 9223372036854775807) (hn0 : -9223372036854775808 ≤ n) (hn1 : n ≤ 9223372036854775807) (hz1 : leaf.size ≤ 1048576) (hz2 : root.size ≤ 1048576) (hK : Keys w) :
    Calls Tryd.prog 11 #[.string leaf, .int .i64 i, .int .i64 n, v, .string root] w fun e w' => e = .returned (.bool (inclB leaf i n path root)) ∧ Below w.heap.size w w' := by
  by_cases c5 : i < 0
  · rw [inclB_not (.inr (.inr (.inr (.inr (.inl c5)))))]
    clear h hK
    go_enter Tryd.func11, Tryd.ntmps11
    go_wp2_with fail
    go_ret
    exact ⟨rfl, Below.refl _ _⟩
  by_cases c6 : n ≤ i
  · rw [inclB_not (.inr (.inr (.inr (.inr (.inr c6)))))]
    clear h hK
    go_enter Tryd.func11, Tryd.ntmps11
    go_wp2_with fail
    go_ret
    exact ⟨rfl, Below.refl _ _⟩
  by_cases c1 : (63 : Int) < (path.length : Int)
  · rw [inclB_not (.inl c1)]
    obtain ⟨a, cap, rfl, hx, hy⟩ := h
    clear hx hy hK
    generalize path.length = m at *
    go_enter Tryd.func11, Tryd.ntmps11
    go_wp2_with fail
    go_ret
    exact ⟨rfl, Below.refl _ _⟩
  have E1 : Hid (Calls Tryd.prog 30 #[.slice (some ⟨w.heap.size, 0, none⟩) 2 2] (w.alloc (.cells #[.string leaf, .string root] 9)) fun e w' => e = .returned (.bool (wideB [leaf, root])) ∧ w' = w.alloc (.cells #[.string leaf, .string root] 9)) := areDigests_any _ [leaf, root] _ _ (two_texts w leaf root) (by simp)
  rw [wide_two] at E1
  have hal : Below w.heap.size w (w.alloc (.cells #[.string leaf, .string root] 9)) := (Below.refl _ _).alloc (Nat.le_refl _) _
  by_cases c34 : (leaf.size : Int) = 32 ∧ (root.size : Int) = 32
  · obtain ⟨c3, c4⟩ := c34
    rw [decide_eq_true c3, decide_eq_true c4, Bool.true_and] at E1
    have E2 : Hid (Calls Tryd.prog 30 #[v] (w.alloc (.cells #[.string leaf, .string root] 9)) fun e w' => e = .returned (.bool (wideB path)) ∧ w' = w.alloc (.cells #[.string leaf, .string root] 9)) := areDigests_any v path _ w.heap.size (h.below hal) hl
    by_cases c2 : wideB path = true
    · rw [c2] at E2
      rw [incl_climb (by omega) c2 c3 c4 (by omega) (by omega)]
      have E3 : Hid (Calls Tryd.prog 31 #[.string leaf, .int .i64 i, .int .i64 n, v] (w.alloc (.cells #[.string leaf, .string root] 9)) fun e w' => ClimbAns (climbB leaf path.reverse i.toNat n.toNat) e ∧ Below w.heap.size w w') := by
        refine (climb_any path.length path rfl (by omega) (fun j hj => by have := wideB_at c2 hj; omega) leaf i.toNat n.toNat i n v _ (by omega) (by omega) (by omega) (by omega) (by omega) (by omega) ((h.below hal).up (by simp)) (hK.below hal hK.lt)).mono ?_
        rintro e w' ⟨h1, hb⟩
        exact ⟨h1, hal.trans (hb.mono (by simp))⟩
      generalize climbB leaf path.reverse i.toNat n.toNat = C at *
      obtain ⟨C1, C2⟩ := C
      obtain ⟨a, cap, rfl, hx, hy⟩ := h
      clear hx hy c2 hK
      generalize path.length = m at *
      go_enter Tryd.func11, Tryd.ntmps11
      go_wp2_with fail
      refine E1.out.mono ?_
      rintro e w1 ⟨rfl, hw1⟩
      rw [← hw1] at E2 E3
      clear E1 hw1 hal
      go_wp2_with fail
      refine E2.out.mono ?_
      rintro e w2 ⟨rfl, hw2⟩
      subst hw2
      clear E2
      go_wp2_with fail
      refine E3.out.mono ?_
      rintro e w3 ⟨hc3, hb3⟩
      unfold ClimbAns at hc3
      subst hc3
      have H3 : Hid (Below w.heap.size w w3) := hb3
      clear hb3 E3
      cases C2 with
      | true =>
        go_wp2
        go_ret
        exact ⟨rfl, H3.out⟩
      | false =>
        go_wp2
        go_ret
        exact ⟨rfl, H3.out⟩
    · have c2' : wideB path = false := by simpa using c2
      rw [c2'] at E2
      rw [inclB_not (.inr (.inl c2'))]
      obtain ⟨a, cap, rfl, hx, hy⟩ := h
      clear hx hy c2 hK c2'
      generalize path.length = m at *
      go_enter Tryd.func11, Tryd.ntmps11
      go_wp2_with fail
      refine E1.out.mono ?_
      rintro e w1 ⟨rfl, hw1⟩
      rw [← hw1] at E2 hal
      have HAL : Hid (Below w.heap.size w w1) := hal
      clear E1 hw1 hal
      go_wp2_with fail
      refine E2.out.mono ?_
      rintro e w2 ⟨rfl, hw2⟩
      subst hw2
      have H3 : Hid (Below w.heap.size w w2) := HAL.out
      clear E2 HAL
      go_wp2
      go_ret
      exact ⟨rfl, H3.out⟩
  · have hno : (decide ((leaf.size : Int) = 32) && decide ((root.size : Int) = 32)) = false := by
      rw [Bool.and_eq_false_iff]
      by_cases h1 : (leaf.size : Int) = 32
      · exact .inr (decide_eq_false fun h2 => c34 ⟨h1, h2⟩)
      · exact .inl (decide_eq_false h1)
    rw [inclB_not (by by_cases h1 : (leaf.size : Int) = 32; exact .inr (.inr (.inr (.inl fun h2 => c34 ⟨h1, h2⟩))); exact .inr (.inr (.inl h1)))]
    rw [hno] at E1
    obtain ⟨a, cap, rfl, hx, hy⟩ := h
    clear hx hy hK hno c34
    generalize path.length = m at *
    go_enter Tryd.func11, Tryd.ntmps11
    go_wp2_with fail
    refine E1.out.mono ?_
    rintro e w1 ⟨rfl, hw1⟩
    have H1 : Hid (Below w.heap.size w w1) := by rw [hw1]; exact hal
    clear hw1 E1 hal
    go_wp2
    go_ret
    exact ⟨rfl, H1.out⟩
end Go.Proofs.YtchlopmmhcobdafDoor
