/-
  The document's Included, whatever it is given.
-/
import Derived.Test.YtchlopmmhcobdafDoorSpecIncl
namespace Go.Proofs.YtchlopmmhcobdafDoor
open Go.RowKit Go.Lib
set_option linter.unusedVariables false

theorem inclB_no {leaf root : ByteArray} {i n : Int} {path : List ByteArray} (h : 63 < (path.length : Int) ∨ wideB path = false ∨ ¬ (leaf.size : Int) = 32 ∨ ¬ (root.size : Int) = 32 ∨ i < 0 ∨ n ≤ i) : inclB leaf i n path root = false := by
  unfold inclB
  rw [if_pos h]
theorem inclB_yes {leaf root : ByteArray} {i n : Int} {path : List ByteArray} (h1 : path.length ≤ 63) (h2 : wideB path = true) (h3 : (leaf.size : Int) = 32) (h4 : (root.size : Int) = 32) (h5 : 0 ≤ i) (h6 : i < n) : inclB leaf i n path root = inclEnd root (inclRun nodeB (some (i.toNat, (n - 1).toNat, leaf)) path) := by
  unfold inclB
  rw [if_neg]
  rintro (h | h | h | h | h | h)
  · omega
  · rw [h2] at h; cases h
  · exact h h3
  · exact h h4
  · omega
  · omega

set_option maxHeartbeats 1000000 in
theorem specIncl_any (leaf root : ByteArray) (i n : Int) (v : Value) (path : List ByteArray) (w : World) (h : Texts w w.heap.size v path) (hl : path.length ≤ 1048576) (hi0 : -9223372036854775808 ≤ i) (hi1 : i ≤ 9223372036854775807) (hn0 : -9223372036854775808 ≤ n) (hn1 : n ≤ 9223372036854775807) (hz1 : leaf.size ≤ 1048576) (hz2 : root.size ≤ 1048576) :
    Calls Tryd.prog 9 #[.string leaf, .int .i64 i, .int .i64 n, v, .string root] w fun e w' => e = .returned (.bool (inclB leaf i n path root)) ∧ Below w.heap.size w w' := by
  have E : Hid (Calls Tryd.prog 28 #[v] w fun e w' => e = .returned (.bool (wideB path)) ∧ w' = w) := wide_any v path w w.heap.size h hl
  by_cases c1 : (63 : Int) < (path.length : Int)
  · rw [inclB_no (.inl c1)]
    obtain ⟨a, cap, rfl, hx, hy⟩ := h
    clear hx hy E
    generalize path.length = m at *
    go_enter Tryd.func9, Tryd.ntmps9
    go_wp2_with fail
    go_ret
    exact ⟨rfl, Below.refl _ _⟩
  by_cases c2 : wideB path = true
  · by_cases c3 : (leaf.size : Int) = 32
    · by_cases c4 : (root.size : Int) = 32
      · by_cases c5 : i < 0
        · rw [inclB_no (.inr (.inr (.inr (.inr (.inl c5)))))]
          rw [c2] at E
          obtain ⟨a, cap, rfl, hx, hy⟩ := h
          clear hx hy c2
          generalize path.length = m at *
          go_enter Tryd.func9, Tryd.ntmps9
          go_wp2_with fail
          refine E.out.mono ?_
          rintro e w1 ⟨rfl, rfl⟩
          clear E
          go_wp2
          go_ret
          exact ⟨rfl, Below.refl _ _⟩
        · by_cases c6 : n ≤ i
          · rw [inclB_no (.inr (.inr (.inr (.inr (.inr c6)))))]
            rw [c2] at E
            obtain ⟨a, cap, rfl, hx, hy⟩ := h
            clear hx hy c2
            generalize path.length = m at *
            go_enter Tryd.func9, Tryd.ntmps9
            go_wp2_with fail
            refine E.out.mono ?_
            rintro e w1 ⟨rfl, rfl⟩
            clear E
            go_wp2
            go_ret
            exact ⟨rfl, Below.refl _ _⟩
          · rw [inclB_yes (by omega) c2 c3 c4 (by omega) (by omega)]
            exact specIncl_yes leaf root i n v path w h (by omega) c2 (by omega) (by omega) (by omega) (by omega) hn1
      · rw [inclB_no (.inr (.inr (.inr (.inl c4))))]
        rw [c2] at E
        obtain ⟨a, cap, rfl, hx, hy⟩ := h
        clear hx hy c2
        generalize path.length = m at *
        go_enter Tryd.func9, Tryd.ntmps9
        go_wp2_with fail
        refine E.out.mono ?_
        rintro e w1 ⟨rfl, rfl⟩
        clear E
        go_wp2
        go_ret
        exact ⟨rfl, Below.refl _ _⟩
    · rw [inclB_no (.inr (.inr (.inl c3)))]
      rw [c2] at E
      obtain ⟨a, cap, rfl, hx, hy⟩ := h
      clear hx hy c2
      generalize path.length = m at *
      go_enter Tryd.func9, Tryd.ntmps9
      go_wp2_with fail
      refine E.out.mono ?_
      rintro e w1 ⟨rfl, rfl⟩
      clear E
      go_wp2
      go_ret
      exact ⟨rfl, Below.refl _ _⟩
  · have c2' : wideB path = false := by simpa using c2
    rw [inclB_no (.inr (.inl c2'))]
    rw [c2'] at E
    obtain ⟨a, cap, rfl, hx, hy⟩ := h
    clear hx hy c2 c2'
    generalize path.length = m at *
    go_enter Tryd.func9, Tryd.ntmps9
    go_wp2_with fail
    refine E.out.mono ?_
    rintro e w1 ⟨rfl, rfl⟩
    clear E
    go_wp2
    go_ret
    exact ⟨rfl, Below.refl _ _⟩
end Go.Proofs.YtchlopmmhcobdafDoor
