/-
  The document's tree of right entries; whether entries are right.
-/
import Derived.Test.YtollfcjbcfnfdaaDoorPkSpecNode
import Derived.Test.YtollfcjbcfnfdaaDoorPkSpecHalf
import Derived.Test.YtollfcjbcfnfdaaDoorPkStepLaws
import Derived.Test.YtollfcjbcfnfdaaDoorPkCells
import Derived.Test.YtollfcjbcfnfdaaDoorPkRight
import Derived.Test.YtollfcjbcfnfdaaDoorPkImplNode
import Derived.Deep.RegionWith
namespace Go.Proofs.YtollfcjbcfnfdaaDoor
open Go.RowKit Go.Lib
set_option linter.unusedVariables false

set_option maxHeartbeats 4000000 in
set_option maxRecDepth 10000 in
theorem specTree_any (n : Nat) : ∀ (l : List ByteArray), l.length = n → n ≤ 1048576 → (∀ j (hj : j < l.length), l[j].size ≤ 100) → ∀ (v : Value) (w : World), Texts w w.heap.size v l →
    Calls Tryd.prog 40 #[v] w fun e w' => e = .returned (.string (treeB l)) ∧ Below w.heap.size w w' := by
  induction n using Nat.strongRecOn with
  | ind n ih =>
    intro l hn hl hz v w h
    by_cases h0 : n = 0
    · subst h0
      have E : Hid (Calls Tryd.prog 81 #[.string ByteArray.empty] w fun e w' => e = .returned (.string noneB) ∧ Below w.heap.size w w') := all_any ByteArray.empty w (by show 0 ≤ 50000; omega)
      rw [treeB_none hn]
      obtain ⟨a, cap, rfl, _, _⟩ := h
      rw [hn]
      generalize noneB = D at *
      unfold ByteArray.empty ByteArray.emptyWithCapacity at E
      clear ih hn hl hz
      go_enter Tryd.func40, Tryd.ntmps40
      go_wp2_with fail
      refine E.out.mono ?_
      rintro e w1 ⟨rfl, hb⟩
      have HB : Hid (Below w.heap.size w w1) := hb
      clear hb
      go_wp2
      go_ret
      exact ⟨rfl, HB.out⟩
    by_cases h1 : n = 1
    · subst h1
      obtain ⟨a, cap, rfl, hcap, hc⟩ := h.at
      obtain ⟨b, off, rfl, hB, hc0⟩ := hc 0 (by omega)
      rw [Nat.add_zero] at hc0
      have E : Hid (Calls Tryd.prog 58 #[.string l[0]] w fun e w' => e = .returned (.string (leafB l[0])) ∧ Below w.heap.size w w') := leaf_any l[0] w (by have := hz 0 (by omega); omega)
      rw [treeB_one hn (by omega)]
      clear ih hl hz hc h hcap
      generalize leafB l[0] = D at *
      generalize l[0] = t at *
      rw [hn]
      go_enter Tryd.func40, Tryd.ntmps40
      go_wp2_with fail
      refine E.out.mono ?_
      rintro e w1 ⟨rfl, hb⟩
      have HB : Hid (Below w.heap.size w w1) := hb
      clear hb
      go_wp2
      go_ret
      exact ⟨rfl, HB.out⟩
    have hl2 : 2 ≤ l.length := by omega
    obtain ⟨e, he, hk1, hk2⟩ := half_spec hl2
    have hp := Nat.two_pow_pos e
    rw [treeB_more hl2, hn]
    rw [hn] at hk1 hk2 he
    have EH : Hid (Calls Tryd.prog 85 #[.int .i64 n] w fun e w' => e = .returned (.int .i64 (half n)) ∧ w' = w) := half_any n w (by omega)
    obtain ⟨k, hk⟩ : ∃ k, k = half n := ⟨_, rfl⟩
    rw [← hk] at hk1 hk2 he EH ⊢
    obtain ⟨v1, hs1, ht1⟩ := slice_h h k (by omega) (k : Int) rfl
    obtain ⟨v2, hs2, ht2⟩ := slice_l h k (by omega) (k : Int) rfl
    have E1 : Hid (∀ w', Below w.heap.size w w' → Calls Tryd.prog 40 #[v1] w' fun e w'' => e = .returned (.string (treeB (l.take k))) ∧ Below w.heap.size w w'') := by
      intro w' hb
      have hlen : (l.take k).length = k := by rw [List.length_take]; omega
      refine (ih k (by omega) (l.take k) hlen (by omega) (fun j hj => ?_) v1 w' ((ht1.below hb).up hb.size)).mono ?_
      · rw [List.getElem_take]; exact hz _ _
      · rintro e w'' ⟨rfl, hb2⟩
        exact ⟨rfl, hb.trans (hb2.mono hb.size)⟩
    have E2 : Hid (∀ w', Below w.heap.size w w' → Calls Tryd.prog 40 #[v2] w' fun e w'' => e = .returned (.string (treeB (l.drop k))) ∧ Below w.heap.size w w'') := by
      intro w' hb
      have hlen : (l.drop k).length = n - k := by rw [List.length_drop]; omega
      refine (ih (n - k) (by omega) (l.drop k) hlen (by omega) (fun j hj => ?_) v2 w' ((ht2.below hb).up hb.size)).mono ?_
      · rw [List.getElem_drop]; exact hz _ _
      · rintro e w'' ⟨rfl, hb2⟩
        exact ⟨rfl, hb.trans (hb2.mono hb.size)⟩
    have E3 : Hid (∀ w', Below w.heap.size w w' → Calls Tryd.prog 59 #[.string (treeB (l.take k)), .string (treeB (l.drop k))] w' fun e w'' => e = .returned (.string (nodeB (treeB (l.take k)) (treeB (l.drop k)))) ∧ Below w.heap.size w w'') := by
      intro w' hb
      refine (node_any _ _ w' (by rw [treeB_size]; omega) (by rw [treeB_size]; omega)).mono ?_
      rintro e w'' ⟨rfl, hb2⟩
      exact ⟨rfl, hb.trans (hb2.mono hb.size)⟩
    generalize nodeB (treeB (l.take k)) (treeB (l.drop k)) = T at *
    generalize treeB (l.take k) = t1 at *
    generalize treeB (l.drop k) = t2 at *
    obtain ⟨a, cap, rfl, hcap, hc⟩ := h.at
    have hn0 : ((n : Int) == 0) = false := beq_eq_false_iff_ne.2 (by omega)
    have hn1 : ((n : Int) == 1) = false := beq_eq_false_iff_ne.2 (by omega)
    have hn0' : ¬ (n : Int) = 0 := by omega
    have hn1' : ¬ (n : Int) = 1 := by omega
    rw [hn] at hs1 hs2 ⊢
    clear ih hz hc h ht1 ht2 hk he hp h0 h1 hl2 hcap
    go_enter Tryd.func40, Tryd.ntmps40
    go_wp2_with fail
    refine EH.out.mono ?_
    rintro e w1 ⟨rfl, rfl⟩
    clear EH
    have HA : Hid (Below w1.heap.size w1 w1) := Below.refl _ _
    go_wp2_with fail
    go_region_with (first
      | (go_at_call 40; ((with_reducible refine (E1.out _ ?_).mono ?_); (first | exact HA.out | exact below_drew' HA.out | exact below_drew' (below_drew' HA.out)); rintro e wa ⟨rfl, hba⟩; have HA : Hid (Below w1.heap.size w1 wa) := hba; clear hba))
      | (go_at_call 40; (with_reducible refine (E2.out _ ?_).mono ?_); (first | exact HA.out | exact below_drew' HA.out | exact below_drew' (below_drew' HA.out)); rintro e wa ⟨rfl, hba⟩; have HA : Hid (Below w1.heap.size w1 wa) := hba; clear hba)
      | (go_at_call 59; (with_reducible refine (E3.out _ ?_).mono ?_); (first | exact HA.out | exact below_drew' HA.out | exact below_drew' (below_drew' HA.out)); rintro e wa ⟨rfl, hba⟩; have HA : Hid (Below w1.heap.size w1 wa) := hba; clear hba))
    all_goals
      go_wp2
      go_ret
      exact ⟨rfl, HA.out⟩
theorem part_small {l : List ByteArray} {n : Nat} (hz : ∀ j (hj : j < l.length), l[j].size ≤ n) (k : Nat) : (∀ j (hj : j < (l.take k).length), (l.take k)[j].size ≤ n) ∧ (∀ j (hj : j < (l.drop k).length), (l.drop k)[j].size ≤ n) :=
  ⟨fun j hj => by rw [List.getElem_take]; exact hz _ _, fun j hj => by rw [List.getElem_drop]; exact hz _ _⟩
end Go.Proofs.YtollfcjbcfnfdaaDoor

/-
  The document's TreeHash.
-/
namespace Go.Proofs.YtollfcjbcfnfdaaDoor
open Go.RowKit Go.Lib
set_option linter.unusedVariables false

set_option maxHeartbeats 400000 in
theorem specTreeHash_any (v : Value) (l : List ByteArray) (w : World) (h : Texts w w.heap.size v l) (hl : l.length ≤ 1048576) :
    Calls Tryd.prog 8 #[v] w fun e w' => e = .returned (.string (treeV l)) ∧ Below w.heap.size w w' := by
  have E : Hid (Calls Tryd.prog 39 #[v] w fun e w' => e = .returned (.bool (rightB l)) ∧ w' = w) := specEntries_any v l w _ h hl
  by_cases h400 : 400 < l.length
  · have ht : treeV l = ByteArray.empty := by unfold treeV; rw [rightB_long (by omega)]; rfl
    rw [ht]
    obtain ⟨a, cap, rfl, hx, hy⟩ := h
    clear hx hy
    have hI : ¬ (l.length : Int) ≤ 400 := by omega
    have hI2 : (400 : Int) < (l.length : Int) := by omega
    clear E ht
    generalize l.length = n at *
    go_enter Tryd.func8, Tryd.ntmps8
    go_wp2_with fail
    go_ret
    exact ⟨rfl, Below.refl _ _⟩
  · have hI : ¬ (400 : Int) < (l.length : Int) := by omega
    by_cases hr : rightB l = true
    · have ET : Hid (Calls Tryd.prog 40 #[v] w fun e w' => e = .returned (.string (treeB l)) ∧ Below w.heap.size w w') := specTree_any l.length l rfl hl (fun j hj => rightB_at hr hj) v w h
      have ht : treeV l = treeB l := by unfold treeV; rw [if_pos hr]
      rw [ht]
      rw [hr] at E
      generalize treeB l = T at *
      obtain ⟨a, cap, rfl, hx, hy⟩ := h
      clear hx hy
      clear hr ht
      generalize l.length = n at *
      go_enter Tryd.func8, Tryd.ntmps8
      go_wp2_with fail
      refine E.out.mono ?_
      rintro e w1 ⟨rfl, rfl⟩
      clear E
      go_wp2_with fail
      refine ET.out.mono ?_
      rintro e w2 ⟨rfl, hb⟩
      have HB : Hid (Below w1.heap.size w1 w2) := hb
      clear hb
      go_wp2
      go_ret
      exact ⟨rfl, HB.out⟩
    · have hr' : rightB l = false := by simpa using hr
      have ht : treeV l = ByteArray.empty := by unfold treeV; rw [hr']; rfl
      rw [ht]
      rw [hr'] at E
      obtain ⟨a, cap, rfl, hx, hy⟩ := h
      clear hx hy
      clear hr hr' ht
      generalize l.length = n at *
      go_enter Tryd.func8, Tryd.ntmps8
      go_wp2_with fail
      refine E.out.mono ?_
      rintro e w1 ⟨rfl, rfl⟩
      clear E
      go_wp2
      go_ret
      exact ⟨rfl, Below.refl _ _⟩
end Go.Proofs.YtollfcjbcfnfdaaDoor

/-
  The document's path of an entry.
-/
namespace Go.Proofs.YtollfcjbcfnfdaaDoor
open Go.RowKit Go.Lib
set_option linter.unusedVariables false

set_option maxHeartbeats 4000000 in
set_option maxRecDepth 10000 in
theorem specPath_any (n : Nat) : ∀ (l : List ByteArray), l.length = n → 1 ≤ n → n ≤ 1000 → (∀ j (hj : j < l.length), l[j].size ≤ 100) → ∀ (i : Nat) (x : Int) (v : Value) (w : World), x = (i : Int) → i < n → Texts w w.heap.size v l →
    Calls Tryd.prog 41 #[v, .int .i64 x] w fun e w' => ∃ v', e = .returned v' ∧ OwnT w' w.heap.size v' (pathB l i) ∧ Below w.heap.size w w' := by
  induction n using Nat.strongRecOn with
  | ind n ih =>
    intro l hn h1 hl hz i x v w hx hi h
    subst hx
    by_cases hn1 : n = 1
    · subst hn1
      rw [pathB_one i hn]
      obtain ⟨a, cap, rfl, hx, hy⟩ := h
      clear hx hy ih hz
      rw [hn]
      go_enter Tryd.func41, Tryd.ntmps41
      go_wp2
      go_ret
      exact ⟨_, rfl, OwnT.made _ _ (Nat.le_refl _), (Below.refl _ _).alloc (Nat.le_refl _) _⟩
    have hl2 : 2 ≤ l.length := by omega
    obtain ⟨ex, he, hk1, hk2⟩ := half_spec hl2
    have hp := Nat.two_pow_pos ex
    have hpl := pathB_left (l := l) (i := i) hl2
    have hpr := pathB_right (l := l) (i := i) hl2
    rw [hn] at hk1 hk2 he hpl hpr
    have EH : Hid (Calls Tryd.prog 85 #[.int .i64 n] w fun e w' => e = .returned (.int .i64 (half n)) ∧ w' = w) := half_any n w (by omega)
    obtain ⟨k, hk⟩ : ∃ k, k = half n := ⟨_, rfl⟩
    rw [← hk] at hk1 hk2 he EH hpl hpr
    have hn1I : ¬ (n : Int) = 1 := by omega
    have hn1B : ((n : Int) == 1) = false := beq_eq_false_iff_ne.2 hn1I
    have l1 : (l.take k).length = k := by rw [List.length_take]; omega
    have l2 : (l.drop k).length = n - k := by rw [List.length_drop]; omega
    obtain ⟨v1, hs1, ht1⟩ := slice_h h k (by omega) (k : Int) rfl
    obtain ⟨v2, hs2, ht2⟩ := slice_l h k (by omega) (k : Int) rfl
    have EP1 : Hid (i < k → ∀ w', Below w.heap.size w w' → Calls Tryd.prog 41 #[v1, .int .i64 i] w' fun e w'' => ∃ v', e = .returned v' ∧ OwnT w'' w.heap.size v' (pathB (l.take k) i) ∧ Below w.heap.size w w'') := by
      intro hik w' hb
      refine (ih k (by omega) (l.take k) l1 (by omega) (by omega) (part_small hz k).1 i i v1 w' rfl hik ((ht1.below hb).up hb.size)).mono ?_
      rintro e w'' ⟨v', rfl, ho, hb2⟩
      exact ⟨v', rfl, ho.lower hb.size, hb.trans (hb2.mono hb.size)⟩
    have EP2 : Hid (¬ i < k → ∀ w', Below w.heap.size w w' → Calls Tryd.prog 41 #[v2, .int .i64 ((i : Int) - (k : Int))] w' fun e w'' => ∃ v', e = .returned v' ∧ OwnT w'' w.heap.size v' (pathB (l.drop k) (i - k)) ∧ Below w.heap.size w w'') := by
      intro hik w' hb
      refine (ih (n - k) (by omega) (l.drop k) l2 (by omega) (by omega) (part_small hz k).2 (i - k) _ v2 w' (by omega) (by omega) ((ht2.below hb).up hb.size)).mono ?_
      rintro e w'' ⟨v', rfl, ho, hb2⟩
      exact ⟨v', rfl, ho.lower hb.size, hb.trans (hb2.mono hb.size)⟩
    have ET1 : Hid (∀ w', Below w.heap.size w w' → Calls Tryd.prog 40 #[v1] w' fun e w'' => e = .returned (.string (treeB (l.take k))) ∧ Below w'.heap.size w' w'') := fun w' hb => specTree_any k (l.take k) l1 (by omega) (part_small hz k).1 v1 w' ((ht1.below hb).up hb.size)
    have ET2 : Hid (∀ w', Below w.heap.size w w' → Calls Tryd.prog 40 #[v2] w' fun e w'' => e = .returned (.string (treeB (l.drop k))) ∧ Below w'.heap.size w' w'') := fun w' hb => specTree_any (n - k) (l.drop k) l2 (by omega) (part_small hz k).2 v2 w' ((ht2.below hb).up hb.size)
    have HP1 : Hid ((pathB (l.take k) i).length ≤ 1048576 ∧ (pathB (l.drop k) (i - k)).length ≤ 1048576) := ⟨by have := pathB_len k (l.take k) i l1; omega, by have := pathB_len (n - k) (l.drop k) (i - k) l2; omega⟩
    obtain ⟨a, cap, rfl, hx, hy⟩ := h
    clear hx hy ih hz hk he hp l1 l2 ht1 ht2
    have HA : Hid (Below w.heap.size w w) := Below.refl _ _
    by_cases hik : i < k
    · have HP : Hid (pathB l i = pathB (l.take k) i ++ [treeB (l.drop k)]) := hpl hik
      have E1 : Hid _ := EP1.out hik
      have hikI : (i : Int) < (k : Int) := by omega
      have hll := HP1.out.1
      clear hpl hpr EP1 EP2 ET1 HP1
      generalize hpb : pathB (l.take k) i = P at *
      generalize treeB (l.drop k) = T at *
      clear hpb
      rw [hn] at hs1 hs2 ⊢
      go_enter Tryd.func41, Tryd.ntmps41
      go_wp2_with fail
      refine EH.out.mono ?_
      rintro e w1 ⟨rfl, rfl⟩
      clear EH
      go_wp2_with fail
      go_region_law (first
        | (refine step_enter rfl 41 #[v1, .int .i64 i] (E1.out _ ?_) ?_ ?_; (first | exact HA.out | exact below_drew' HA.out); go_simp; rintro e wa ⟨va, rfl, hoa, hba⟩; refine ⟨va, rfl, ?_⟩; have HA : Hid (Below w1.heap.size w1 wa) := hba; have HO : Hid (OwnT wa w1.heap.size va P) := hoa; clear hba hoa)
        | (refine step_enter rfl 40 #[v2] (ET2.out _ HA.out) ?_ ?_; go_simp; rintro e wb ⟨rfl, hbb⟩; refine ⟨_, rfl, ?_⟩; have HO : Hid (OwnT wb w1.heap.size va P) := HO.out.below hbb (Nat.le_refl _); have HA : Hid (Below w1.heap.size w1 wb) := HA.out.trans (hbb.mono HA.out.size); clear hbb)
        | (refine step_app_text (w := wb) rfl (.tmp 20) (.tmp 25) rfl w1.heap.size va P T (by simp [Act.eval]) HO.out (by simp [Act.eval]) hll HA.out.size ?_; intro v4 w4 hown4 hb4))
      all_goals
        have H4 : Hid (OwnT w4 w1.heap.size v4 (P ++ [T]) ∧ Below w1.heap.size w1 w4) := ⟨hown4, HA.out.trans hb4⟩
        clear hown4 hb4
        go_wp2
        go_ret
        exact ⟨_, rfl, by rw [HP.out]; exact H4.out.1, H4.out.2⟩
    · have HP : Hid (pathB l i = pathB (l.drop k) (i - k) ++ [treeB (l.take k)]) := hpr hik
      have E1 : Hid _ := EP2.out hik
      have hikI : ¬ (i : Int) < (k : Int) := by omega
      have hwr : IntKind.i64.wrap ((i : Int) - (k : Int)) = (i : Int) - (k : Int) := by rw [IntKind.wrap_i64]; omega
      have hll := HP1.out.2
      clear hpl hpr EP1 EP2 ET2 HP1
      generalize hpb : pathB (l.drop k) (i - k) = P at *
      generalize treeB (l.take k) = T at *
      clear hpb
      rw [hn] at hs1 hs2 ⊢
      go_enter Tryd.func41, Tryd.ntmps41
      go_wp2_with fail
      refine EH.out.mono ?_
      rintro e w1 ⟨rfl, rfl⟩
      clear EH
      go_wp2_with fail
      go_region_law (first
        | (refine step_enter rfl 41 #[v2, .int .i64 ((i : Int) - (k : Int))] (E1.out _ ?_) ?_ ?_; (first | exact HA.out | exact below_drew' HA.out); go_simp; rintro e wa ⟨va, rfl, hoa, hba⟩; refine ⟨va, rfl, ?_⟩; have HA : Hid (Below w1.heap.size w1 wa) := hba; have HO : Hid (OwnT wa w1.heap.size va P) := hoa; clear hba hoa)
        | (refine step_enter rfl 40 #[v1] (ET1.out _ HA.out) ?_ ?_; go_simp; rintro e wb ⟨rfl, hbb⟩; refine ⟨_, rfl, ?_⟩; have HO : Hid (OwnT wb w1.heap.size va P) := HO.out.below hbb (Nat.le_refl _); have HA : Hid (Below w1.heap.size w1 wb) := HA.out.trans (hbb.mono HA.out.size); clear hbb)
        | (refine step_app_text (w := wb) rfl (.tmp 33) (.tmp 38) rfl w1.heap.size va P T (by simp [Act.eval]) HO.out (by simp [Act.eval]) hll HA.out.size ?_; intro v4 w4 hown4 hb4))
      all_goals
        have H4 : Hid (OwnT w4 w1.heap.size v4 (P ++ [T]) ∧ Below w1.heap.size w1 w4) := ⟨hown4, HA.out.trans hb4⟩
        clear hown4 hb4
        go_wp2
        go_ret
        exact ⟨_, rfl, by rw [HP.out]; exact H4.out.1, H4.out.2⟩
end Go.Proofs.YtollfcjbcfnfdaaDoor

/-
  The document's PathOf.
-/
namespace Go.Proofs.YtollfcjbcfnfdaaDoor
open Go.RowKit Go.Lib
set_option linter.unusedVariables false

theorem pathV_no {l : List ByteArray} {i : Int} (h : rightB l = false ∨ i < 0 ∨ (l.length : Int) ≤ i) : pathV l i = [] := by
  unfold pathV
  rw [if_neg]
  rintro ⟨h1, h2, h3⟩
  rcases h with h | h | h
  · rw [h] at h1; cases h1
  · omega
  · omega
set_option maxHeartbeats 1000000 in
theorem specPathOf_any (v : Value) (l : List ByteArray) (i : Int) (w : World) (h : Texts w w.heap.size v l) (hl : l.length ≤ 1048576) (hi0 : -9223372036854775808 ≤ i) (hi1 : i ≤ 9223372036854775807) :
    Calls Tryd.prog 10 #[v, .int .i64 i] w fun e w' => ∃ v', e = .returned v' ∧ OwnT w' w.heap.size v' (pathV l i) ∧ Below w.heap.size w w' := by
  have E : Hid (Calls Tryd.prog 39 #[v] w fun e w' => e = .returned (.bool (rightB l)) ∧ w' = w) := specEntries_any v l w _ h hl
  by_cases h400 : 400 < l.length
  · rw [pathV_no (.inl (rightB_long (by omega)))]
    obtain ⟨a, cap, rfl, hx, hy⟩ := h
    clear hx hy
    have hI2 : (400 : Int) < (l.length : Int) := by omega
    clear E
    generalize l.length = n at *
    go_enter Tryd.func10, Tryd.ntmps10
    go_wp2_with fail
    go_ret
    exact ⟨_, rfl, OwnT.made _ _ (Nat.le_refl _), (Below.refl _ _).alloc (Nat.le_refl _) _⟩
  have hI : ¬ (400 : Int) < (l.length : Int) := by omega
  by_cases hr : rightB l = true
  · rw [hr] at E
    by_cases hin : 0 ≤ i ∧ i < (l.length : Int)
    · obtain ⟨hi2, hi3⟩ := hin
      have hlen := rightB_len hr
      have ET : Hid (Calls Tryd.prog 41 #[v, .int .i64 i] w fun e w' => ∃ v', e = .returned v' ∧ OwnT w' w.heap.size v' (pathB l i.toNat) ∧ Below w.heap.size w w') := specPath_any l.length l rfl (by omega) (by omega) (fun j hj => rightB_at hr hj) i.toNat i v w (by omega) (by omega) h
      have ht : pathV l i = pathB l i.toNat := by unfold pathV; rw [if_pos ⟨hr, hi2, hi3⟩]
      rw [ht]
      generalize pathB l i.toNat = T at *
      obtain ⟨a, cap, rfl, hx, hy⟩ := h
      clear hx hy hr ht
      have h0i : ¬ i < 0 := by omega
      have hgi : ¬ (l.length : Int) ≤ i := by omega
      generalize l.length = n at *
      go_enter Tryd.func10, Tryd.ntmps10
      go_wp2_with fail
      refine E.out.mono ?_
      rintro e w1 ⟨rfl, rfl⟩
      clear E
      go_wp2_with fail
      refine ET.out.mono ?_
      rintro e w2 ⟨v2, rfl, ho, hb⟩
      have HB : Hid (OwnT w2 w1.heap.size v2 T ∧ Below w1.heap.size w1 w2) := ⟨ho, hb⟩
      clear hb ho
      go_wp2
      go_ret
      exact ⟨_, rfl, HB.out.1, HB.out.2⟩
    · rw [pathV_no (.inr (by omega))]
      obtain ⟨a, cap, rfl, hx, hy⟩ := h
      clear hx hy hr
      by_cases h0i : i < 0
      · clear hin
        generalize l.length = n at *
        go_enter Tryd.func10, Tryd.ntmps10
        go_wp2_with fail
        refine E.out.mono ?_
        rintro e w1 ⟨rfl, rfl⟩
        clear E
        go_wp2
        go_ret
        exact ⟨_, rfl, OwnT.made _ _ (Nat.le_refl _), (Below.refl _ _).alloc (Nat.le_refl _) _⟩
      · have hgi : (l.length : Int) ≤ i := by omega
        clear hin
        generalize l.length = n at *
        go_enter Tryd.func10, Tryd.ntmps10
        go_wp2_with fail
        refine E.out.mono ?_
        rintro e w1 ⟨rfl, rfl⟩
        clear E
        go_wp2
        go_ret
        exact ⟨_, rfl, OwnT.made _ _ (Nat.le_refl _), (Below.refl _ _).alloc (Nat.le_refl _) _⟩
  · have hr' : rightB l = false := by simpa using hr
    rw [pathV_no (.inl hr')]
    rw [hr'] at E
    obtain ⟨a, cap, rfl, hx, hy⟩ := h
    clear hx hy hr hr'
    generalize l.length = n at *
    go_enter Tryd.func10, Tryd.ntmps10
    go_wp2_with fail
    refine E.out.mono ?_
    rintro e w1 ⟨rfl, rfl⟩
    clear E
    go_wp2
    go_ret
    exact ⟨_, rfl, OwnT.made _ _ (Nat.le_refl _), (Below.refl _ _).alloc (Nat.le_refl _) _⟩
end Go.Proofs.YtollfcjbcfnfdaaDoor

/-
  LeafHash, the document's.
-/
namespace Go.Proofs.YtollfcjbcfnfdaaDoor
open Go.RowKit Go.Lib
set_option linter.unusedVariables false

set_option maxHeartbeats 400000 in
theorem specLeafHash_any (t : ByteArray) (w : World) (ht : t.size ≤ 1048576) :
    Calls Tryd.prog 50 #[.string t] w fun e w' => e = .returned (.string (leafV t)) ∧ Below w.heap.size w w' := by
  unfold leafV
  by_cases h : 100 < (t.size : Int)
  · rw [if_pos h]
    go_enter Tryd.func50, Tryd.ntmps50
    go_wp2
    go_ret
    exact ⟨rfl, Below.refl _ _⟩
  · rw [if_neg h]
    have E : Hid (Calls Tryd.prog 58 #[.string t] w fun e w' => e = .returned (.string (leafB t)) ∧ Below w.heap.size w w') := leaf_any t w (by omega)
    generalize leafB t = v at *
    go_enter Tryd.func50, Tryd.ntmps50
    go_wp2_with fail
    refine E.out.mono ?_
    rintro e w1 ⟨rfl, hb⟩
    have HB : Hid (Below w.heap.size w w1) := hb
    clear hb
    go_wp2
    go_ret
    exact ⟨rfl, HB.out⟩
end Go.Proofs.YtollfcjbcfnfdaaDoor

/-
  NodeHash, both sides.
-/
namespace Go.Proofs.YtollfcjbcfnfdaaDoor
open Go.RowKit Go.Lib
set_option linter.unusedVariables false

/-- The digest that is told of two. -/
def nodeV (l r : ByteArray) : ByteArray := if (l.size : Int) = 32 ∧ (r.size : Int) = 32 then nodeB l r else ByteArray.empty
theorem nodeV_yes {l r : ByteArray} (h1 : (l.size : Int) = 32) (h2 : (r.size : Int) = 32) : nodeV l r = nodeB l r := by unfold nodeV; rw [if_pos ⟨h1, h2⟩]
theorem nodeV_no {l r : ByteArray} (h : ¬ (l.size : Int) = 32 ∨ ¬ (r.size : Int) = 32) : nodeV l r = ByteArray.empty := by
  unfold nodeV
  rw [if_neg]
  rintro ⟨h1, h2⟩
  rcases h with h | h
  · exact h h1
  · exact h h2

set_option maxHeartbeats 400000 in
theorem specNodeHash_any (l r : ByteArray) (w : World) (hl : l.size ≤ 1048576) (hr : r.size ≤ 1048576) :
    Calls Tryd.prog 21 #[.string l, .string r] w fun e w' => e = .returned (.string (nodeV l r)) ∧ Below w.heap.size w w' := by
  by_cases h1 : (l.size : Int) = 32
  · by_cases h2 : (r.size : Int) = 32
    · rw [nodeV_yes h1 h2]
      have E : Hid (Calls Tryd.prog 59 #[.string l, .string r] w fun e w' => e = .returned (.string (nodeB l r)) ∧ Below w.heap.size w w') := node_any l r w (by omega) (by omega)
      generalize nodeB l r = v at *
      go_enter Tryd.func21, Tryd.ntmps21
      go_wp2_with fail
      refine E.out.mono ?_
      rintro e w1 ⟨rfl, hb⟩
      have HB : Hid (Below w.heap.size w w1) := hb
      clear hb
      go_wp2
      go_ret
      exact ⟨rfl, HB.out⟩
    · rw [nodeV_no (.inr h2)]
      go_enter Tryd.func21, Tryd.ntmps21
      go_wp2
      go_ret
      exact ⟨rfl, Below.refl _ _⟩
  · rw [nodeV_no (.inl h1)]
    go_enter Tryd.func21, Tryd.ntmps21
    go_wp2
    go_ret
    exact ⟨rfl, Below.refl _ _⟩

set_option maxHeartbeats 400000 in
theorem implNodeHash_any (l r : ByteArray) (w : World) (hl : l.size ≤ 1048576) (hr : r.size ≤ 1048576) (hK : Keys w) :
    Calls Tryd.prog 20 #[.string l, .string r] w fun e w' => e = .returned (.string (nodeV l r)) ∧ Below w.heap.size w w' := by
  have E1 : Hid (Calls Tryd.prog 46 #[.slice (some ⟨w.heap.size, 0, none⟩) 2 2] (w.alloc (.cells #[.string l, .string r] 9)) fun e w' => e = .returned (.bool (wideB [l, r])) ∧ w' = w.alloc (.cells #[.string l, .string r] 9)) := areDigests_any _ [l, r] _ _ (two_texts w l r) (by simp)
  rw [wide_two] at E1
  by_cases h : (l.size : Int) = 32 ∧ (r.size : Int) = 32
  · obtain ⟨h1, h2⟩ := h
    rw [nodeV_yes h1 h2]
    rw [decide_eq_true h1, decide_eq_true h2, Bool.true_and] at E1
    have E2 : Hid (∀ w', Keys w' → Calls Tryd.prog 45 #[.slice (some ⟨w'.heap.size, 0, none⟩) 2 2] (w'.alloc (.cells #[.string l, .string r] 9)) fun e w'' => e = .returned (.string (nodeB l r)) ∧ Below w'.heap.size w' w'') := fun w' hK' => together_two l r w' (by omega) (by omega) hK'
    have HK : Hid (Keys w) := hK
    generalize nodeB l r = v at *
    clear hK
    go_enter Tryd.func20, Tryd.ntmps20
    go_wp2_with fail
    refine E1.out.mono ?_
    rintro e w1 ⟨rfl, hw1⟩
    have H1 : Hid (Below w.heap.size w w1) := by rw [hw1]; exact (Below.refl _ _).alloc (Nat.le_refl _) _
    clear hw1 E1
    go_wp2_with fail
    refine (E2.out _ (HK.out.below H1.out HK.out.lt)).mono ?_
    rintro e w2 ⟨rfl, hb2⟩
    have H2 : Hid (Below w.heap.size w w2) := H1.out.trans (hb2.mono H1.out.size)
    clear hb2
    go_wp2
    go_ret
    exact ⟨rfl, H2.out⟩
  · have hno : (decide ((l.size : Int) = 32) && decide ((r.size : Int) = 32)) = false := by
      rw [Bool.and_eq_false_iff]
      by_cases h1 : (l.size : Int) = 32
      · exact .inr (decide_eq_false fun h2 => h ⟨h1, h2⟩)
      · exact .inl (decide_eq_false h1)
    rw [nodeV_no (by by_cases h1 : (l.size : Int) = 32; exact .inr fun h2 => h ⟨h1, h2⟩; exact .inl h1)]
    rw [hno] at E1
    clear hK h hno
    go_enter Tryd.func20, Tryd.ntmps20
    go_wp2_with fail
    refine E1.out.mono ?_
    rintro e w1 ⟨rfl, hw1⟩
    have H1 : Hid (Below w.heap.size w w1) := by rw [hw1]; exact (Below.refl _ _).alloc (Nat.le_refl _) _
    clear hw1 E1
    go_wp2
    go_ret
    exact ⟨rfl, H1.out⟩
end Go.Proofs.YtollfcjbcfnfdaaDoor
