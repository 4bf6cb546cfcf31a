/-
  The walk of the exact law of NodeHash. Condition: the program's variable holds the rounds' numbers.
-/
import Derived.Test.YtchlopmmhcobdaeDoorSpecNode
import Derived.Test.YtchlopmmhcobdaeDoorTogether
namespace Go.Proofs.YtchlopmmhcobdaeDoor
open Go.RowKit Go.Lib
set_option linter.unusedVariables false

/-- The digest that is told of two. -/
def nodeV (l r : ByteArray) : ByteArray := if (l.size : Int) = 32 ∧ (r.size : Int) = 32 then nodeB l r else ByteArray.empty
theorem nodeV_yes {l r : ByteArray} (h1 : (l.size : Int) = 32) (h2 : (r.size : Int) = 32) : nodeV l r = nodeB l r := by unfold nodeV; rw [if_pos ⟨h1, h2⟩]
theorem nodeV_no {l r : ByteArray} (h : ¬ (l.size : Int) = 32 ∨ ¬ (r.size : Int) = 32) : nodeV l r = ByteArray.empty := by
  unfold nodeV
  rw [if_neg]
  rintro ⟨h1, h2⟩
  rcases h with h | h
  · exact h h1
  · exact h h2

set_option maxHeartbeats 400000 in
theorem specNodeHash_any (l r : ByteArray) (w : World) (hl : l.size ≤ 1048576) (hr : r.size ≤ 1048576) :
    Calls Tryd.prog 15 #[.string l, .string r] w fun e w' => e = .returned (.string (nodeV l r)) ∧ Below w.heap.size w w' := by
  by_cases h1 : (l.size : Int) = 32
  · by_cases h2 : (r.size : Int) = 32
    · rw [nodeV_yes h1 h2]
      have E : Hid (Calls Tryd.prog 31 #[.string l, .string r] w fun e w' => e = .returned (.string (nodeB l r)) ∧ Below w.heap.size w w') := node_any l r w (by omega) (by omega)
      generalize nodeB l r = v at *
      go_enter Tryd.func15, Tryd.ntmps15
      go_wp2_with fail
      refine E.out.mono ?_
      rintro e w1 ⟨rfl, hb⟩
      have HB : Hid (Below w.heap.size w w1) := hb
      clear hb
      go_wp2
      go_ret
      exact ⟨rfl, HB.out⟩
    · rw [nodeV_no (.inr h2)]
      go_enter Tryd.func15, Tryd.ntmps15
      go_wp2
      go_ret
      exact ⟨rfl, Below.refl _ _⟩
  · rw [nodeV_no (.inl h1)]
    go_enter Tryd.func15, Tryd.ntmps15
    go_wp2
    go_ret
    exact ⟨rfl, Below.refl _ _⟩

set_option maxHeartbeats 400000 in
theorem implNodeHash_any (l r : ByteArray) (w : World) (hl : l.size ≤ 1048576) (hr : r.size ≤ 1048576) (hK : Keys w) :
    Calls Tryd.prog 16 #[.string l, .string r] w fun e w' => e = .returned (.string (nodeV l r)) ∧ Below w.heap.size w w' := by
  have E1 : Hid (Calls Tryd.prog 32 #[.slice (some ⟨w.heap.size, 0, none⟩) 2 2] (w.alloc (.cells #[.string l, .string r] 9)) fun e w' => e = .returned (.bool (wideB [l, r])) ∧ w' = w.alloc (.cells #[.string l, .string r] 9)) := areDigests_any _ [l, r] _ _ (two_texts w l r) (by simp)
  rw [wide_two] at E1
  by_cases h : (l.size : Int) = 32 ∧ (r.size : Int) = 32
  · obtain ⟨h1, h2⟩ := h
    rw [nodeV_yes h1 h2]
    rw [decide_eq_true h1, decide_eq_true h2, Bool.true_and] at E1
    have E2 : Hid (∀ w', Keys w' → Calls Tryd.prog 33 #[.slice (some ⟨w'.heap.size, 0, none⟩) 2 2] (w'.alloc (.cells #[.string l, .string r] 9)) fun e w'' => e = .returned (.string (nodeB l r)) ∧ Below w'.heap.size w' w'') := fun w' hK' => together_two l r w' (by omega) (by omega) hK'
    have HK : Hid (Keys w) := hK
    generalize nodeB l r = v at *
    clear hK
    go_enter Tryd.func16, Tryd.ntmps16
    go_wp2_with fail
    refine E1.out.mono ?_
    rintro e w1 ⟨rfl, hw1⟩
    have H1 : Hid (Below w.heap.size w w1) := by rw [hw1]; exact (Below.refl _ _).alloc (Nat.le_refl _) _
    clear hw1 E1
    go_wp2_with fail
    refine (E2.out _ (HK.out.below H1.out HK.out.lt)).mono ?_
    rintro e w2 ⟨rfl, hb2⟩
    have H2 : Hid (Below w.heap.size w w2) := H1.out.trans (hb2.mono H1.out.size)
    clear hb2
    go_wp2
    go_ret
    exact ⟨rfl, H2.out⟩
  · have hno : (decide ((l.size : Int) = 32) && decide ((r.size : Int) = 32)) = false := by
      rw [Bool.and_eq_false_iff]
      by_cases h1 : (l.size : Int) = 32
      · exact .inr (decide_eq_false fun h2 => h ⟨h1, h2⟩)
      · exact .inl (decide_eq_false h1)
    rw [nodeV_no (by by_cases h1 : (l.size : Int) = 32; exact .inr fun h2 => h ⟨h1, h2⟩; exact .inl h1)]
    rw [hno] at E1
    clear hK h hno
    go_enter Tryd.func16, Tryd.ntmps16
    go_wp2_with fail
    refine E1.out.mono ?_
    rintro e w1 ⟨rfl, hw1⟩
    have H1 : Hid (Below w.heap.size w w1) := by rw [hw1]; exact (Below.refl _ _).alloc (Nat.le_refl _) _
    clear hw1 E1
    go_wp2
    go_ret
    exact ⟨rfl, H1.out⟩

set_option maxHeartbeats 400000 in
theorem lawNodeHash_any (s t : ByteArray) (w : World) (hs : s.size ≤ maxLen) (ht : t.size ≤ maxLen) (hK : Keys w) :
    Calls Tryd.prog 6 #[.string s, .string t] w fun e w' => e = .returned (.bool true) ∧ Below w.heap.size w w' := by
  unfold maxLen at hs ht
  by_cases h1 : (1048576 : Int) < s.size
  · clear hK
    go_enter Tryd.func6, Tryd.ntmps6
    go_wp2
    go_ret
    exact ⟨rfl, Below.refl _ _⟩
  by_cases h2 : (1048576 : Int) < t.size
  · clear hK
    go_enter Tryd.func6, Tryd.ntmps6
    go_wp2
    go_ret
    exact ⟨rfl, Below.refl _ _⟩
  have HE1 : Hid (∀ w, Calls Tryd.prog 15 #[.string s, .string t] w fun e w' => e = .returned (.string (nodeV s t)) ∧ Below w.heap.size w w') := fun w => specNodeHash_any s t w (by omega) (by omega)
  have HE2 : Hid (∀ w, Keys w → Calls Tryd.prog 16 #[.string s, .string t] w fun e w' => e = .returned (.string (nodeV s t)) ∧ Below w.heap.size w w') := fun w hK => implNodeHash_any s t w (by omega) (by omega) hK
  generalize nodeV s t = v at *
  have HK : Hid (Keys w) := hK
  clear hK
  go_enter Tryd.func6, Tryd.ntmps6
  go_wp2_with fail
  refine (HE1.out _).mono ?_
  rintro e w1 ⟨rfl, hb⟩
  have H1 : Hid (Keys w1 ∧ Below w.heap.size w w1) := ⟨HK.out.below hb HK.out.lt, hb⟩
  clear hb
  go_wp2_with fail
  refine (HE2.out _ H1.out.1).mono ?_
  rintro e w2 ⟨rfl, hb2⟩
  have H2 : Hid (Below w.heap.size w w2) := H1.out.2.trans (hb2.mono H1.out.2.size)
  clear hb2
  go_wp2
  go_ret
  exact ⟨rfl, H2.out⟩
end Go.Proofs.YtchlopmmhcobdaeDoor
