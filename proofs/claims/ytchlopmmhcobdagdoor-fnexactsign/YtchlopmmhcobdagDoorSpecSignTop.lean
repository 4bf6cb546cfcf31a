/-
  The document's Sign, at every argument.
-/
import Derived.Test.YtchlopmmhcobdagDoorSpecSign
import Derived.Test.YtchlopmmhcobdagDoorSpecIs
namespace Go.Proofs.YtchlopmmhcobdagDoor
open Go.RowKit Go.Lib
set_option linter.unusedVariables false
set_option linter.unusedSimpArgs false

/-- An answer that is a signature: what its rows hold can be read. -/
def SigTold (w : World) (k : Int) (el pl : List ByteArray) (e : Ending) (w' : World) : Prop :=
  ∃ ve vp, e = .returned (.agg #[.int .i64 k, ve, vp]) ∧ TextsIn w' w.heap.size w'.heap.size ve el ∧ TextsIn w' w.heap.size w'.heap.size vp pl ∧ Below w.heap.size w w'
theorem textsIn_nil (w : World) (A B : Nat) : TextsIn w A B (.slice none 0 0) [] := ⟨none, 0, rfl, .inl rfl, Nat.le_refl _⟩

set_option maxHeartbeats 1000000 in
set_option maxRecDepth 10000 in
theorem specSign_any (s : ByteArray) (k : Int) (t : ByteArray) (w : World) (hs : s.size ≤ 1048576) (ht : t.size ≤ 1048576) :
    Calls Tryd.prog 8 #[.string s, .int .i64 k, .string t] w fun e w' => SigTold w (sigKey s k t) (sigEnds s k t) (sigPath s k t) e w' := by
  have E0 : Hid (∀ w, Calls Tryd.prog 17 #[.string s] w fun e w' => e = .returned (.bool (seedB s)) ∧ w' = w) := fun w => specSeed_any s w hs
  have E1 : Hid (∀ w, Calls Tryd.prog 23 #[.int .i64 k, .int .i64 0, .int .i64 3] w fun e w' => e = .returned (.bool (decide (0 ≤ k ∧ k ≤ 3))) ∧ w' = w) := fun w => is_any k 0 3 w
  have zero : ∀ W : World, Below w.heap.size w W → SigTold w 0 [] [] (.returned (.agg #[.int .i64 0, .slice none 0 0, .slice none 0 0])) W := fun W hb => ⟨_, _, rfl, textsIn_nil _ _ _, textsIn_nil _ _ _, hb⟩
  have HZ : Hid (∀ W : World, Below w.heap.size w W → SigTold w 0 [] [] (.returned (.agg #[.int .i64 0, .slice none 0 0, .slice none 0 0])) W) := zero
  clear zero
  unfold sigKey sigEnds sigPath
  by_cases h : signB s k t = true
  · obtain ⟨h1, h2, h3, h4⟩ := signB_yes h
    have hs64 := seedB_yes h1
    rw [h1] at E0
    rw [decide_eq_true ⟨h2, h3⟩] at E1
    rw [if_pos h, if_pos h, if_pos h]
    have E2 : Hid (∀ w, Calls Tryd.prog 24 #[.string s, .int .i64 k, .string t] w fun e w' => ∃ ve vp, e = .returned (.agg #[.int .i64 k, ve, vp]) ∧ TextsIn w' w.heap.size w'.heap.size ve (endsB s k t) ∧ TextsIn w' w.heap.size w'.heap.size vp (pathB (pubsB s) k.toNat) ∧ Below w.heap.size w w') := fun w => specSignY_any s k t w (by omega) h2 h3 (by omega)
    generalize endsB s k t = EN at *
    generalize pathB (pubsB s) k.toNat = P at *
    have htI : ¬ 20000 < (t.size : Int) := by omega
    clear h h1 h2 h3 h4 hs64 HZ
    go_enter Tryd.func8, Tryd.ntmps8
    go_wp2_with fail
    refine (E0.out _).mono ?_
    rintro e w0 ⟨rfl, rfl⟩
    go_wp2_with fail
    refine (E1.out _).mono ?_
    rintro e w0 ⟨rfl, rfl⟩
    go_wp2_with fail
    refine (E2.out _).mono ?_
    rintro e w1 ⟨ve, vp, rfl, h1, h2, hb1⟩
    obtain ⟨⟨c0, c1, c2⟩, f0, f1, f2⟩ := three_cells hb1 (show w.heap.size < _ by simp) (heap_alloc_new w _)
    obtain ⟨ae, ce, rfl⟩ : ∃ ae ce, ve = .slice ae EN.length ce := by obtain ⟨a, c, h, _⟩ := h1; exact ⟨a, c, h⟩
    obtain ⟨ap, cp, rfl⟩ : ∃ ap cp, vp = .slice ap P.length cp := by obtain ⟨a, c, h, _⟩ := h2; exact ⟨a, c, h⟩
    have hA : (w.alloc (.cells #[.int .i64 0, .slice none 0 0, .slice none 0 0] 26)).heap.size = w.heap.size + 1 := by simp
    rw [hA] at h1 h2
    have H1 : Hid (TextsIn w1 (w.heap.size + 1) w1.heap.size (.slice ae EN.length ce) EN ∧ TextsIn w1 (w.heap.size + 1) w1.heap.size (.slice ap P.length cp) P ∧ Below w.heap.size w w1) := ⟨h1, h2, below_after hb1⟩
    clear h1 h2 hb1 hA
    go_wp2
    refine bodyPost_ret (v := .agg #[.int .i64 k, .slice ae EN.length ce, .slice ap P.length cp]) (by simp [results, Tryd.results8, go_sem, c0, c1, c2, f0, f1, f2]) rfl ⟨_, _, rfl, ?_, ?_, ((H1.out.2.2.setCell (Nat.le_refl _) _).setCell (Nat.le_refl _) _).setCell (Nat.le_refl _) _⟩
    · exact (((H1.out.1.far (i := 0) (Nat.lt_succ_self _)).far (i := 1) (Nat.lt_succ_self _)).far (i := 2) (Nat.lt_succ_self _)).wide (Nat.le_succ _) (by simp [World.setCell])
    · exact (((H1.out.2.1.far (i := 0) (Nat.lt_succ_self _)).far (i := 1) (Nat.lt_succ_self _)).far (i := 2) (Nat.lt_succ_self _)).wide (Nat.le_succ _) (by simp [World.setCell])
  · rw [if_neg h, if_neg h, if_neg h]
    rcases signB_no h with h1 | ⟨h1, h2⟩ | ⟨h1, h2, h3⟩
    · rw [h1] at E0
      clear h E1
      go_enter Tryd.func8, Tryd.ntmps8
      go_wp2_with fail
      refine (E0.out _).mono ?_
      rintro e w0 ⟨rfl, rfl⟩
      go_wp2
      exact bodyPost_ret (v := .agg #[.int .i64 0, .slice none 0 0, .slice none 0 0]) (by simp [results, Tryd.results8, go_sem]) rfl (HZ.out _ ((Below.refl _ _).alloc (Nat.le_refl _) _))
    · rw [h1] at E0
      rw [decide_eq_false h2] at E1
      clear h
      go_enter Tryd.func8, Tryd.ntmps8
      go_wp2_with fail
      refine (E0.out _).mono ?_
      rintro e w0 ⟨rfl, rfl⟩
      go_wp2_with fail
      refine (E1.out _).mono ?_
      rintro e w0 ⟨rfl, rfl⟩
      go_wp2
      exact bodyPost_ret (v := .agg #[.int .i64 0, .slice none 0 0, .slice none 0 0]) (by simp [results, Tryd.results8, go_sem]) rfl (HZ.out _ ((Below.refl _ _).alloc (Nat.le_refl _) _))
    · rw [h1] at E0
      rw [decide_eq_true h2] at E1
      clear h
      go_enter Tryd.func8, Tryd.ntmps8
      go_wp2_with fail
      refine (E0.out _).mono ?_
      rintro e w0 ⟨rfl, rfl⟩
      go_wp2_with fail
      refine (E1.out _).mono ?_
      rintro e w0 ⟨rfl, rfl⟩
      go_wp2
      exact bodyPost_ret (v := .agg #[.int .i64 0, .slice none 0 0, .slice none 0 0]) (by simp [results, Tryd.results8, go_sem]) rfl (HZ.out _ ((Below.refl _ _).alloc (Nat.le_refl _) _))
end Go.Proofs.YtchlopmmhcobdagDoor
