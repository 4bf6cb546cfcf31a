/-
  The document's proof of the first ones.
-/
import Derived.Test.YtchlopmmhcobdafDoorSpecTree
import Derived.Test.YtchlopmmhcobdafDoorPathV
namespace Go.Proofs.YtchlopmmhcobdafDoor
open Go.RowKit Go.Lib
set_option linter.unusedVariables false

theorem OwnT.lone (w : World) (B : Nat) (t : ByteArray) (hB : B ≤ w.heap.size) : OwnT (w.alloc (.cells #[.string t] 9)) B (.slice (some ⟨w.heap.size, 0, none⟩) 1 1) [t] :=
  ⟨rfl, .inr ⟨w.heap.size, 1, _, rfl, hB, heap_alloc_new w _, Nat.le_refl _, by unfold maxLen; omega, rfl, rfl⟩⟩

set_option maxHeartbeats 4000000 in
set_option maxRecDepth 10000 in
theorem specProof_any (n : Nat) : ∀ (l : List ByteArray), l.length = n → n ≤ 1000 → (∀ j (hj : j < l.length), l[j].size ≤ 100) → ∀ (m : Nat) (x : Int) (wh : Bool) (v : Value) (w : World), x = (m : Int) → 1 ≤ m → m ≤ n → Texts w w.heap.size v l →
    Calls Tryd.prog 33 #[.int .i64 x, v, .bool wh] w fun e w' => ∃ v', e = .returned v' ∧ OwnT w' w.heap.size v' (proofB m l wh) ∧ Below w.heap.size w w' := by
  induction n using Nat.strongRecOn with
  | ind n ih =>
    intro l hn hl hz m x wh v w hx hm0 hm1 h
    subst hx
    by_cases hmn : m = n
    · rw [proofB_all wh (by omega)]
      have E : Hid (Calls Tryd.prog 49 #[v] w fun e w' => e = .returned (.string (treeB l)) ∧ Below w.heap.size w w') := specTree_any n l hn (by omega) hz v w h
      generalize treeB l = T at *
      obtain ⟨a, cap, rfl, hx, hy⟩ := h
      clear hx hy ih hz
      rw [hn] at E ⊢
      subst hmn
      cases wh with
      | true =>
        clear E
        go_enter Tryd.func33, Tryd.ntmps33
        go_wp2
        go_ret
        exact ⟨_, rfl, OwnT.made _ _ (Nat.le_refl _), (Below.refl _ _).alloc (Nat.le_refl _) _⟩
      | false =>
        go_enter Tryd.func33, Tryd.ntmps33
        go_wp2_with fail
        refine E.out.mono ?_
        rintro e w1 ⟨rfl, hb⟩
        have HB : Hid (Below w.heap.size w w1) := hb
        clear hb
        go_wp2
        go_ret
        exact ⟨_, rfl, OwnT.lone _ _ _ HB.out.size, HB.out.alloc HB.out.size _⟩
    have hl2 : 2 ≤ l.length := by omega
    obtain ⟨ex, he, hk1, hk2⟩ := half_spec hl2
    have hp := Nat.two_pow_pos ex
    have hpl := proofB_left (l := l) (m := m) wh hl2 (by omega)
    have hpr := proofB_right (l := l) (m := m) wh hl2 (by omega)
    rw [hn] at hk1 hk2 he hpl hpr
    have EH : Hid (Calls Tryd.prog 50 #[.int .i64 n] w fun e w' => e = .returned (.int .i64 (half n)) ∧ w' = w) := half_any n w (by omega)
    obtain ⟨k, hk⟩ : ∃ k, k = half n := ⟨_, rfl⟩
    rw [← hk] at hk1 hk2 he EH hpl hpr
    have hn1I : ¬ (m : Int) = (n : Int) := by omega
    have hn1B : ((m : Int) == (n : Int)) = false := beq_eq_false_iff_ne.2 hn1I
    have l1 : (l.take k).length = k := by rw [List.length_take]; omega
    have l2 : (l.drop k).length = n - k := by rw [List.length_drop]; omega
    obtain ⟨v1, hs1, ht1⟩ := slice_h h k (by omega) (k : Int) rfl
    obtain ⟨v2, hs2, ht2⟩ := slice_l h k (by omega) (k : Int) rfl
    have EP1 : Hid (m ≤ k → ∀ w', Below w.heap.size w w' → Calls Tryd.prog 33 #[.int .i64 m, v1, .bool wh] w' fun e w'' => ∃ v', e = .returned v' ∧ OwnT w'' w.heap.size v' (proofB m (l.take k) wh) ∧ Below w.heap.size w w'') := by
      intro hik w' hb
      refine (ih k (by omega) (l.take k) l1 (by omega) (part_small hz k).1 m m wh v1 w' rfl hm0 hik ((ht1.below hb).up hb.size)).mono ?_
      rintro e w'' ⟨v', rfl, ho, hb2⟩
      exact ⟨v', rfl, ho.lower hb.size, hb.trans (hb2.mono hb.size)⟩
    have EP2 : Hid (¬ m ≤ k → ∀ w', Below w.heap.size w w' → Calls Tryd.prog 33 #[.int .i64 ((m : Int) - (k : Int)), v2, .bool false] w' fun e w'' => ∃ v', e = .returned v' ∧ OwnT w'' w.heap.size v' (proofB (m - k) (l.drop k) false) ∧ Below w.heap.size w w'') := by
      intro hik w' hb
      refine (ih (n - k) (by omega) (l.drop k) l2 (by omega) (part_small hz k).2 (m - k) _ false v2 w' (by omega) (by omega) (by omega) ((ht2.below hb).up hb.size)).mono ?_
      rintro e w'' ⟨v', rfl, ho, hb2⟩
      exact ⟨v', rfl, ho.lower hb.size, hb.trans (hb2.mono hb.size)⟩
    have ET1 : Hid (∀ w', Below w.heap.size w w' → Calls Tryd.prog 49 #[v1] w' fun e w'' => e = .returned (.string (treeB (l.take k))) ∧ Below w'.heap.size w' w'') := fun w' hb => specTree_any k (l.take k) l1 (by omega) (part_small hz k).1 v1 w' ((ht1.below hb).up hb.size)
    have ET2 : Hid (∀ w', Below w.heap.size w w' → Calls Tryd.prog 49 #[v2] w' fun e w'' => e = .returned (.string (treeB (l.drop k))) ∧ Below w'.heap.size w' w'') := fun w' hb => specTree_any (n - k) (l.drop k) l2 (by omega) (part_small hz k).2 v2 w' ((ht2.below hb).up hb.size)
    have HP1 : Hid ((proofB m (l.take k) wh).length ≤ 1048576 ∧ (proofB (m - k) (l.drop k) false).length ≤ 1048576) := ⟨by have := proofB_len k (l.take k) m wh l1; omega, by have := proofB_len (n - k) (l.drop k) (m - k) false l2; omega⟩
    obtain ⟨a, cap, rfl, hx, hy⟩ := h
    clear hx hy ih hz hk he hp l1 l2 ht1 ht2
    have HA : Hid (Below w.heap.size w w) := Below.refl _ _
    by_cases hik : m ≤ k
    · have HP : Hid (proofB m l wh = proofB m (l.take k) wh ++ [treeB (l.drop k)]) := hpl hik
      have E1 : Hid _ := EP1.out hik
      have hikI : (m : Int) ≤ (k : Int) := by omega
      have hll := HP1.out.1
      clear hpl hpr EP1 EP2 ET1 HP1
      generalize hpb : proofB m (l.take k) wh = P at *
      generalize treeB (l.drop k) = T at *
      clear hpb
      rw [hn] at hs1 hs2 ⊢
      go_enter Tryd.func33, Tryd.ntmps33
      go_wp2_with fail
      refine EH.out.mono ?_
      rintro e w1 ⟨rfl, rfl⟩
      clear EH
      go_wp2_with fail
      go_region_law (first
        | (refine step_enter rfl 33 #[.int .i64 m, v1, .bool wh] (E1.out _ ?_) ?_ ?_; (first | exact HA.out | exact below_drew' HA.out); go_simp; rintro e wa ⟨va, rfl, hoa, hba⟩; refine ⟨va, rfl, ?_⟩; have HA : Hid (Below w1.heap.size w1 wa) := hba; have HO : Hid (OwnT wa w1.heap.size va P) := hoa; clear hba hoa)
        | (refine step_enter rfl 49 #[v2] (ET2.out _ HA.out) ?_ ?_; go_simp; rintro e wb ⟨rfl, hbb⟩; refine ⟨_, rfl, ?_⟩; have HO : Hid (OwnT wb w1.heap.size va P) := HO.out.below hbb (Nat.le_refl _); have HA : Hid (Below w1.heap.size w1 wb) := HA.out.trans (hbb.mono HA.out.size); clear hbb)
        | (refine step_app_text (w := wb) rfl (.tmp 28) (.tmp 33) rfl w1.heap.size va P T (by simp [Act.eval]) HO.out (by simp [Act.eval]) hll HA.out.size ?_; intro v4 w4 hown4 hb4))
      all_goals
        have H4 : Hid (OwnT w4 w1.heap.size v4 (P ++ [T]) ∧ Below w1.heap.size w1 w4) := ⟨hown4, HA.out.trans hb4⟩
        clear hown4 hb4
        go_wp2
        go_ret
        exact ⟨_, rfl, by rw [HP.out]; exact H4.out.1, H4.out.2⟩
    · have HP : Hid (proofB m l wh = proofB (m - k) (l.drop k) false ++ [treeB (l.take k)]) := hpr hik
      have E1 : Hid _ := EP2.out hik
      have hikI : ¬ (m : Int) ≤ (k : Int) := by omega
      have hwr : IntKind.i64.wrap ((m : Int) - (k : Int)) = (m : Int) - (k : Int) := by rw [IntKind.wrap_i64]; omega
      have hll := HP1.out.2
      clear hpl hpr EP1 EP2 ET2 HP1
      generalize hpb : proofB (m - k) (l.drop k) false = P at *
      generalize treeB (l.take k) = T at *
      clear hpb
      rw [hn] at hs1 hs2 ⊢
      go_enter Tryd.func33, Tryd.ntmps33
      go_wp2_with fail
      refine EH.out.mono ?_
      rintro e w1 ⟨rfl, rfl⟩
      clear EH
      go_wp2_with fail
      go_region_law (first
        | (refine step_enter rfl 33 #[.int .i64 ((m : Int) - (k : Int)), v2, .bool false] (E1.out _ ?_) ?_ ?_; (first | exact HA.out | exact below_drew' HA.out); go_simp; rintro e wa ⟨va, rfl, hoa, hba⟩; refine ⟨va, rfl, ?_⟩; have HA : Hid (Below w1.heap.size w1 wa) := hba; have HO : Hid (OwnT wa w1.heap.size va P) := hoa; clear hba hoa)
        | (refine step_enter rfl 49 #[v1] (ET1.out _ HA.out) ?_ ?_; go_simp; rintro e wb ⟨rfl, hbb⟩; refine ⟨_, rfl, ?_⟩; have HO : Hid (OwnT wb w1.heap.size va P) := HO.out.below hbb (Nat.le_refl _); have HA : Hid (Below w1.heap.size w1 wb) := HA.out.trans (hbb.mono HA.out.size); clear hbb)
        | (refine step_app_text (w := wb) rfl (.tmp 41) (.tmp 46) rfl w1.heap.size va P T (by simp [Act.eval]) HO.out (by simp [Act.eval]) hll HA.out.size ?_; intro v4 w4 hown4 hb4))
      all_goals
        have H4 : Hid (OwnT w4 w1.heap.size v4 (P ++ [T]) ∧ Below w1.heap.size w1 w4) := ⟨hown4, HA.out.trans hb4⟩
        clear hown4 hb4
        go_wp2
        go_ret
        exact ⟨_, rfl, by rw [HP.out]; exact H4.out.1, H4.out.2⟩
end Go.Proofs.YtchlopmmhcobdafDoor
