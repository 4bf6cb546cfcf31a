/-
  The document's Consistent, whatever it is given.
-/
import Derived.Test.YtchlopmmhcobdafDoorSpecConsNot
namespace Go.Proofs.YtchlopmmhcobdafDoor
open Go.RowKit Go.Lib
set_option linter.unusedVariables false

set_option maxHeartbeats 1000000 in
theorem specCons_any (was root : ByteArray) (i n : Int) (v : Value) (path : List ByteArray) (w : World) (h : Texts w w.heap.size v path) (hl : path.length ≤ 1048576) (hi0 : -9223372036854775808 ≤ i) (hi1 : i ≤ 9223372036854775807) (hn0 : -9223372036854775808 ≤ n) (hn1 : n ≤ 9223372036854775807) (hz1 : was.size ≤ 1048576) (hz2 : root.size ≤ 1048576) :
    Calls Tryd.prog 17 #[.int .i64 i, .int .i64 n, v, .string was, .string root] w fun e w' => e = .returned (.bool (consB i n path was root)) ∧ Below w.heap.size w w' := by
  have E : Hid (Calls Tryd.prog 28 #[v] w fun e w' => e = .returned (.bool (wideB path)) ∧ w' = w) := wide_any v path w w.heap.size h hl
  by_cases c1 : (64 : Int) < (path.length : Int)
  · rw [consB_no (.inl c1)]
    obtain ⟨a, cap, rfl, hx, hy⟩ := h
    clear hx hy E
    generalize path.length = m at *
    go_enter Tryd.func17, Tryd.ntmps17
    go_wp2_with fail
    go_ret
    exact ⟨rfl, Below.refl _ _⟩
  by_cases c2 : wideB path = true
  · by_cases c3 : (was.size : Int) = 32
    · by_cases c4 : (root.size : Int) = 32
      · by_cases c5 : i < 1
        · rw [consB_no (.inr (.inr (.inr (.inr (.inl c5)))))]
          rw [c2] at E
          obtain ⟨a, cap, rfl, hx, hy⟩ := h
          clear hx hy c2
          generalize path.length = m at *
          go_enter Tryd.func17, Tryd.ntmps17
          go_wp2_with fail
          refine E.out.mono ?_
          rintro e w1 ⟨rfl, rfl⟩
          clear E
          go_wp2
          go_ret
          exact ⟨rfl, Below.refl _ _⟩
        · by_cases c6 : n < i
          · rw [consB_no (.inr (.inr (.inr (.inr (.inr c6)))))]
            rw [c2] at E
            obtain ⟨a, cap, rfl, hx, hy⟩ := h
            clear hx hy c2
            generalize path.length = m at *
            go_enter Tryd.func17, Tryd.ntmps17
            go_wp2_with fail
            refine E.out.mono ?_
            rintro e w1 ⟨rfl, rfl⟩
            clear E
            go_wp2
            go_ret
            exact ⟨rfl, Below.refl _ _⟩
          · rw [consB_yes (by omega) c2 c3 c4 (by omega) (by omega)]
            obtain ⟨m, rfl⟩ := Int.eq_ofNat_of_zero_le (show 0 ≤ i by omega)
            obtain ⟨k, rfl⟩ := Int.eq_ofNat_of_zero_le (show 0 ≤ n by omega)
            rw [Int.toNat_natCast, Int.toNat_natCast]
            by_cases hmk : m = k
            · subst hmk
              rw [c2] at E
              unfold consY
              rw [if_pos rfl]
              obtain ⟨a, cap, rfl, hx, hy⟩ := h
              clear hx hy c2
              generalize path.length = L at *
              by_cases hL0 : L = 0
              · subst hL0
                go_enter Tryd.func17, Tryd.ntmps17
                go_wp2_with fail
                refine E.out.mono ?_
                rintro e w1 ⟨rfl, rfl⟩
                clear E
                go_wp2
                go_ret
                exact ⟨ret_bool (by simp), Below.refl _ _⟩
              · have hLB : ((L : Int) == 0) = false := beq_eq_false_iff_ne.2 (by omega)
                have hLI : ¬ (L : Int) = 0 := by omega
                have HF : Hid ((decide (L = 0) && (was.toList == root.toList)) = false) := by
                  show _ = _
                  rw [decide_eq_false hL0, Bool.false_and]
                go_enter Tryd.func17, Tryd.ntmps17
                go_wp2_with fail
                refine E.out.mono ?_
                rintro e w1 ⟨rfl, rfl⟩
                clear E
                go_wp2
                go_ret
                exact ⟨ret_bool HF.out.symm, Below.refl _ _⟩
            · unfold consY
              rw [if_neg hmk]
              unfold rowB
              by_cases hp : powB m = true
              · rw [if_pos hp]
                exact specCons_pow was root m k v path w h (by omega) c2 (by omega) (by omega) (by omega) (by omega) (by omega) hp
              · rw [if_neg hp]
                exact specCons_not was root m k v path w h (by omega) c2 (by omega) (by omega) (by omega) (by omega) (by omega) (by simpa using hp)
      · rw [consB_no (.inr (.inr (.inr (.inl c4))))]
        rw [c2] at E
        obtain ⟨a, cap, rfl, hx, hy⟩ := h
        clear hx hy c2
        generalize path.length = m at *
        go_enter Tryd.func17, Tryd.ntmps17
        go_wp2_with fail
        refine E.out.mono ?_
        rintro e w1 ⟨rfl, rfl⟩
        clear E
        go_wp2
        go_ret
        exact ⟨rfl, Below.refl _ _⟩
    · rw [consB_no (.inr (.inr (.inl c3)))]
      rw [c2] at E
      obtain ⟨a, cap, rfl, hx, hy⟩ := h
      clear hx hy c2
      generalize path.length = m at *
      go_enter Tryd.func17, Tryd.ntmps17
      go_wp2_with fail
      refine E.out.mono ?_
      rintro e w1 ⟨rfl, rfl⟩
      clear E
      go_wp2
      go_ret
      exact ⟨rfl, Below.refl _ _⟩
  · have c2' : wideB path = false := by simpa using c2
    rw [consB_no (.inr (.inl c2'))]
    rw [c2'] at E
    obtain ⟨a, cap, rfl, hx, hy⟩ := h
    clear hx hy c2 c2'
    generalize path.length = m at *
    go_enter Tryd.func17, Tryd.ntmps17
    go_wp2_with fail
    refine E.out.mono ?_
    rintro e w1 ⟨rfl, rfl⟩
    clear E
    go_wp2
    go_ret
    exact ⟨rfl, Below.refl _ _⟩
end Go.Proofs.YtchlopmmhcobdafDoor
