/-
  The document's path of an entry.
-/
import Derived.Test.YtchlopmmhcobdagDoorSpecTree
import Derived.Test.YtchlopmmhcobdagDoorPathV
namespace Go.Proofs.YtchlopmmhcobdagDoor
open Go.RowKit Go.Lib
set_option linter.unusedVariables false

set_option maxHeartbeats 4000000 in
set_option maxRecDepth 10000 in
theorem specPath_any (n : Nat) : ∀ (l : List ByteArray), l.length = n → 1 ≤ n → n ≤ 1000 → (∀ j (hj : j < l.length), l[j].size ≤ 100) → ∀ (i : Nat) (x : Int) (v : Value) (w : World), x = (i : Int) → i < n → Texts w w.heap.size v l →
    Calls Tryd.prog 56 #[v, .int .i64 x] w fun e w' => ∃ v', e = .returned v' ∧ OwnT w' w.heap.size v' (pathB l i) ∧ Below w.heap.size w w' := by
  induction n using Nat.strongRecOn with
  | ind n ih =>
    intro l hn h1 hl hz i x v w hx hi h
    subst hx
    by_cases hn1 : n = 1
    · subst hn1
      rw [pathB_one i hn]
      obtain ⟨a, cap, rfl, hx, hy⟩ := h
      clear hx hy ih hz
      rw [hn]
      go_enter Tryd.func56, Tryd.ntmps56
      go_wp2
      go_ret
      exact ⟨_, rfl, OwnT.made _ _ (Nat.le_refl _), (Below.refl _ _).alloc (Nat.le_refl _) _⟩
    have hl2 : 2 ≤ l.length := by omega
    obtain ⟨ex, he, hk1, hk2⟩ := half_spec hl2
    have hp := Nat.two_pow_pos ex
    have hpl := pathB_left (l := l) (i := i) hl2
    have hpr := pathB_right (l := l) (i := i) hl2
    rw [hn] at hk1 hk2 he hpl hpr
    have EH : Hid (Calls Tryd.prog 50 #[.int .i64 n] w fun e w' => e = .returned (.int .i64 (half n)) ∧ w' = w) := half_any n w (by omega)
    obtain ⟨k, hk⟩ : ∃ k, k = half n := ⟨_, rfl⟩
    rw [← hk] at hk1 hk2 he EH hpl hpr
    have hn1I : ¬ (n : Int) = 1 := by omega
    have hn1B : ((n : Int) == 1) = false := beq_eq_false_iff_ne.2 hn1I
    have l1 : (l.take k).length = k := by rw [List.length_take]; omega
    have l2 : (l.drop k).length = n - k := by rw [List.length_drop]; omega
    obtain ⟨v1, hs1, ht1⟩ := slice_h h k (by omega) (k : Int) rfl
    obtain ⟨v2, hs2, ht2⟩ := slice_l h k (by omega) (k : Int) rfl
    have EP1 : Hid (i < k → ∀ w', Below w.heap.size w w' → Calls Tryd.prog 56 #[v1, .int .i64 i] w' fun e w'' => ∃ v', e = .returned v' ∧ OwnT w'' w.heap.size v' (pathB (l.take k) i) ∧ Below w.heap.size w w'') := by
      intro hik w' hb
      refine (ih k (by omega) (l.take k) l1 (by omega) (by omega) (part_small hz k).1 i i v1 w' rfl hik ((ht1.below hb).up hb.size)).mono ?_
      rintro e w'' ⟨v', rfl, ho, hb2⟩
      exact ⟨v', rfl, ho.lower hb.size, hb.trans (hb2.mono hb.size)⟩
    have EP2 : Hid (¬ i < k → ∀ w', Below w.heap.size w w' → Calls Tryd.prog 56 #[v2, .int .i64 ((i : Int) - (k : Int))] w' fun e w'' => ∃ v', e = .returned v' ∧ OwnT w'' w.heap.size v' (pathB (l.drop k) (i - k)) ∧ Below w.heap.size w w'') := by
      intro hik w' hb
      refine (ih (n - k) (by omega) (l.drop k) l2 (by omega) (by omega) (part_small hz k).2 (i - k) _ v2 w' (by omega) (by omega) ((ht2.below hb).up hb.size)).mono ?_
      rintro e w'' ⟨v', rfl, ho, hb2⟩
      exact ⟨v', rfl, ho.lower hb.size, hb.trans (hb2.mono hb.size)⟩
    have ET1 : Hid (∀ w', Below w.heap.size w w' → Calls Tryd.prog 18 #[v1] w' fun e w'' => e = .returned (.string (treeB (l.take k))) ∧ Below w'.heap.size w' w'') := fun w' hb => specTree_any k (l.take k) l1 (by omega) (part_small hz k).1 v1 w' ((ht1.below hb).up hb.size)
    have ET2 : Hid (∀ w', Below w.heap.size w w' → Calls Tryd.prog 18 #[v2] w' fun e w'' => e = .returned (.string (treeB (l.drop k))) ∧ Below w'.heap.size w' w'') := fun w' hb => specTree_any (n - k) (l.drop k) l2 (by omega) (part_small hz k).2 v2 w' ((ht2.below hb).up hb.size)
    have HP1 : Hid ((pathB (l.take k) i).length ≤ 1048576 ∧ (pathB (l.drop k) (i - k)).length ≤ 1048576) := ⟨by have := pathB_len k (l.take k) i l1; omega, by have := pathB_len (n - k) (l.drop k) (i - k) l2; omega⟩
    obtain ⟨a, cap, rfl, hx, hy⟩ := h
    clear hx hy ih hz hk he hp l1 l2 ht1 ht2
    have HA : Hid (Below w.heap.size w w) := Below.refl _ _
    by_cases hik : i < k
    · have HP : Hid (pathB l i = pathB (l.take k) i ++ [treeB (l.drop k)]) := hpl hik
      have E1 : Hid _ := EP1.out hik
      have hikI : (i : Int) < (k : Int) := by omega
      have hll := HP1.out.1
      clear hpl hpr EP1 EP2 ET1 HP1
      generalize hpb : pathB (l.take k) i = P at *
      generalize treeB (l.drop k) = T at *
      clear hpb
      rw [hn] at hs1 hs2 ⊢
      go_enter Tryd.func56, Tryd.ntmps56
      go_wp2_with fail
      refine EH.out.mono ?_
      rintro e w1 ⟨rfl, rfl⟩
      clear EH
      go_wp2_with fail
      go_region_law (first
        | (refine step_enter rfl 56 #[v1, .int .i64 i] (E1.out _ ?_) ?_ ?_; (first | exact HA.out | exact below_drew' HA.out); go_simp; rintro e wa ⟨va, rfl, hoa, hba⟩; refine ⟨va, rfl, ?_⟩; have HA : Hid (Below w1.heap.size w1 wa) := hba; have HO : Hid (OwnT wa w1.heap.size va P) := hoa; clear hba hoa)
        | (refine step_enter rfl 18 #[v2] (ET2.out _ HA.out) ?_ ?_; go_simp; rintro e wb ⟨rfl, hbb⟩; refine ⟨_, rfl, ?_⟩; have HO : Hid (OwnT wb w1.heap.size va P) := HO.out.below hbb (Nat.le_refl _); have HA : Hid (Below w1.heap.size w1 wb) := HA.out.trans (hbb.mono HA.out.size); clear hbb)
        | (refine step_app_text (w := wb) rfl (.tmp 20) (.tmp 25) rfl w1.heap.size va P T (by simp [Act.eval]) HO.out (by simp [Act.eval]) hll HA.out.size ?_; intro v4 w4 hown4 hb4))
      all_goals
        have H4 : Hid (OwnT w4 w1.heap.size v4 (P ++ [T]) ∧ Below w1.heap.size w1 w4) := ⟨hown4, HA.out.trans hb4⟩
        clear hown4 hb4
        go_wp2
        go_ret
        exact ⟨_, rfl, by rw [HP.out]; exact H4.out.1, H4.out.2⟩
    · have HP : Hid (pathB l i = pathB (l.drop k) (i - k) ++ [treeB (l.take k)]) := hpr hik
      have E1 : Hid _ := EP2.out hik
      have hikI : ¬ (i : Int) < (k : Int) := by omega
      have hwr : IntKind.i64.wrap ((i : Int) - (k : Int)) = (i : Int) - (k : Int) := by rw [IntKind.wrap_i64]; omega
      have hll := HP1.out.2
      clear hpl hpr EP1 EP2 ET2 HP1
      generalize hpb : pathB (l.drop k) (i - k) = P at *
      generalize treeB (l.take k) = T at *
      clear hpb
      rw [hn] at hs1 hs2 ⊢
      go_enter Tryd.func56, Tryd.ntmps56
      go_wp2_with fail
      refine EH.out.mono ?_
      rintro e w1 ⟨rfl, rfl⟩
      clear EH
      go_wp2_with fail
      go_region_law (first
        | (refine step_enter rfl 56 #[v2, .int .i64 ((i : Int) - (k : Int))] (E1.out _ ?_) ?_ ?_; (first | exact HA.out | exact below_drew' HA.out); go_simp; rintro e wa ⟨va, rfl, hoa, hba⟩; refine ⟨va, rfl, ?_⟩; have HA : Hid (Below w1.heap.size w1 wa) := hba; have HO : Hid (OwnT wa w1.heap.size va P) := hoa; clear hba hoa)
        | (refine step_enter rfl 18 #[v1] (ET1.out _ HA.out) ?_ ?_; go_simp; rintro e wb ⟨rfl, hbb⟩; refine ⟨_, rfl, ?_⟩; have HO : Hid (OwnT wb w1.heap.size va P) := HO.out.below hbb (Nat.le_refl _); have HA : Hid (Below w1.heap.size w1 wb) := HA.out.trans (hbb.mono HA.out.size); clear hbb)
        | (refine step_app_text (w := wb) rfl (.tmp 33) (.tmp 38) rfl w1.heap.size va P T (by simp [Act.eval]) HO.out (by simp [Act.eval]) hll HA.out.size ?_; intro v4 w4 hown4 hb4))
      all_goals
        have H4 : Hid (OwnT w4 w1.heap.size v4 (P ++ [T]) ∧ Below w1.heap.size w1 w4) := ⟨hown4, HA.out.trans hb4⟩
        clear hown4 hb4
        go_wp2
        go_ret
        exact ⟨_, rfl, by rw [HP.out]; exact H4.out.1, H4.out.2⟩
end Go.Proofs.YtchlopmmhcobdagDoor
