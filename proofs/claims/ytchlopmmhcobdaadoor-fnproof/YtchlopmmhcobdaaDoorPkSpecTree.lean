/-
  The document's tree of right entries; whether entries are right.
-/
import Derived.Test.YtchlopmmhcobdaaDoorPkSpecNode
import Derived.Test.YtchlopmmhcobdaaDoorPkSpecHalf
import Derived.Test.YtchlopmmhcobdaaDoorPkStepLaws
import Derived.Test.YtchlopmmhcobdaaDoorPkCells
import Derived.Test.YtchlopmmhcobdaaDoorPkRight
import Derived.Test.YtchlopmmhcobdaaDoorPkTexts
import Derived.Deep.RegionWith
namespace Go.Proofs.YtchlopmmhcobdaaDoor
open Go.RowKit Go.Lib
set_option linter.unusedVariables false

set_option maxHeartbeats 4000000 in
set_option maxRecDepth 10000 in
theorem specTree_any (n : Nat) : ∀ (l : List ByteArray), l.length = n → n ≤ 1048576 → (∀ j (hj : j < l.length), l[j].size ≤ 100) → ∀ (v : Value) (w : World), Texts w w.heap.size v l →
    Calls Tryd.prog 79 #[v] w fun e w' => e = .returned (.string (treeB l)) ∧ Below w.heap.size w w' := by
  induction n using Nat.strongRecOn with
  | ind n ih =>
    intro l hn hl hz v w h
    by_cases h0 : n = 0
    · subst h0
      have E : Hid (Calls Tryd.prog 72 #[.string ByteArray.empty] w fun e w' => e = .returned (.string noneB) ∧ Below w.heap.size w w') := all_any ByteArray.empty w (by show 0 ≤ 50000; omega)
      rw [treeB_none hn]
      obtain ⟨a, cap, rfl, _, _⟩ := h
      rw [hn]
      generalize noneB = D at *
      unfold ByteArray.empty ByteArray.emptyWithCapacity at E
      clear ih hn hl hz
      go_enter Tryd.func79, Tryd.ntmps79
      go_wp2_with fail
      refine E.out.mono ?_
      rintro e w1 ⟨rfl, hb⟩
      have HB : Hid (Below w.heap.size w w1) := hb
      clear hb
      go_wp2
      go_ret
      exact ⟨rfl, HB.out⟩
    by_cases h1 : n = 1
    · subst h1
      obtain ⟨a, cap, rfl, hcap, hc⟩ := h.at
      obtain ⟨b, off, rfl, hB, hc0⟩ := hc 0 (by omega)
      rw [Nat.add_zero] at hc0
      have E : Hid (Calls Tryd.prog 91 #[.string l[0]] w fun e w' => e = .returned (.string (leafB l[0])) ∧ Below w.heap.size w w') := leaf_any l[0] w (by have := hz 0 (by omega); omega)
      rw [treeB_one hn (by omega)]
      clear ih hl hz hc h hcap
      generalize leafB l[0] = D at *
      generalize l[0] = t at *
      rw [hn]
      go_enter Tryd.func79, Tryd.ntmps79
      go_wp2_with fail
      refine E.out.mono ?_
      rintro e w1 ⟨rfl, hb⟩
      have HB : Hid (Below w.heap.size w w1) := hb
      clear hb
      go_wp2
      go_ret
      exact ⟨rfl, HB.out⟩
    have hl2 : 2 ≤ l.length := by omega
    obtain ⟨e, he, hk1, hk2⟩ := half_spec hl2
    have hp := Nat.two_pow_pos e
    rw [treeB_more hl2, hn]
    rw [hn] at hk1 hk2 he
    have EH : Hid (Calls Tryd.prog 129 #[.int .i64 n] w fun e w' => e = .returned (.int .i64 (half n)) ∧ w' = w) := half_any n w (by omega)
    obtain ⟨k, hk⟩ : ∃ k, k = half n := ⟨_, rfl⟩
    rw [← hk] at hk1 hk2 he EH ⊢
    obtain ⟨v1, hs1, ht1⟩ := slice_h h k (by omega) (k : Int) rfl
    obtain ⟨v2, hs2, ht2⟩ := slice_l h k (by omega) (k : Int) rfl
    have E1 : Hid (∀ w', Below w.heap.size w w' → Calls Tryd.prog 79 #[v1] w' fun e w'' => e = .returned (.string (treeB (l.take k))) ∧ Below w.heap.size w w'') := by
      intro w' hb
      have hlen : (l.take k).length = k := by rw [List.length_take]; omega
      refine (ih k (by omega) (l.take k) hlen (by omega) (fun j hj => ?_) v1 w' ((ht1.below hb).up hb.size)).mono ?_
      · rw [List.getElem_take]; exact hz _ _
      · rintro e w'' ⟨rfl, hb2⟩
        exact ⟨rfl, hb.trans (hb2.mono hb.size)⟩
    have E2 : Hid (∀ w', Below w.heap.size w w' → Calls Tryd.prog 79 #[v2] w' fun e w'' => e = .returned (.string (treeB (l.drop k))) ∧ Below w.heap.size w w'') := by
      intro w' hb
      have hlen : (l.drop k).length = n - k := by rw [List.length_drop]; omega
      refine (ih (n - k) (by omega) (l.drop k) hlen (by omega) (fun j hj => ?_) v2 w' ((ht2.below hb).up hb.size)).mono ?_
      · rw [List.getElem_drop]; exact hz _ _
      · rintro e w'' ⟨rfl, hb2⟩
        exact ⟨rfl, hb.trans (hb2.mono hb.size)⟩
    have E3 : Hid (∀ w', Below w.heap.size w w' → Calls Tryd.prog 92 #[.string (treeB (l.take k)), .string (treeB (l.drop k))] w' fun e w'' => e = .returned (.string (nodeB (treeB (l.take k)) (treeB (l.drop k)))) ∧ Below w.heap.size w w'') := by
      intro w' hb
      refine (node_any _ _ w' (by rw [treeB_size]; omega) (by rw [treeB_size]; omega)).mono ?_
      rintro e w'' ⟨rfl, hb2⟩
      exact ⟨rfl, hb.trans (hb2.mono hb.size)⟩
    generalize nodeB (treeB (l.take k)) (treeB (l.drop k)) = T at *
    generalize treeB (l.take k) = t1 at *
    generalize treeB (l.drop k) = t2 at *
    obtain ⟨a, cap, rfl, hcap, hc⟩ := h.at
    have hn0 : ((n : Int) == 0) = false := beq_eq_false_iff_ne.2 (by omega)
    have hn1 : ((n : Int) == 1) = false := beq_eq_false_iff_ne.2 (by omega)
    have hn0' : ¬ (n : Int) = 0 := by omega
    have hn1' : ¬ (n : Int) = 1 := by omega
    rw [hn] at hs1 hs2 ⊢
    clear ih hz hc h ht1 ht2 hk he hp h0 h1 hl2 hcap
    go_enter Tryd.func79, Tryd.ntmps79
    go_wp2_with fail
    refine EH.out.mono ?_
    rintro e w1 ⟨rfl, rfl⟩
    clear EH
    have HA : Hid (Below w1.heap.size w1 w1) := Below.refl _ _
    go_wp2_with fail
    go_region_with (first
      | (go_at_call 79; ((with_reducible refine (E1.out _ ?_).mono ?_); (first | exact HA.out | exact below_drew' HA.out | exact below_drew' (below_drew' HA.out)); rintro e wa ⟨rfl, hba⟩; have HA : Hid (Below w1.heap.size w1 wa) := hba; clear hba))
      | (go_at_call 79; (with_reducible refine (E2.out _ ?_).mono ?_); (first | exact HA.out | exact below_drew' HA.out | exact below_drew' (below_drew' HA.out)); rintro e wa ⟨rfl, hba⟩; have HA : Hid (Below w1.heap.size w1 wa) := hba; clear hba)
      | (go_at_call 92; (with_reducible refine (E3.out _ ?_).mono ?_); (first | exact HA.out | exact below_drew' HA.out | exact below_drew' (below_drew' HA.out)); rintro e wa ⟨rfl, hba⟩; have HA : Hid (Below w1.heap.size w1 wa) := hba; clear hba))
    all_goals
      go_wp2
      go_ret
      exact ⟨rfl, HA.out⟩
theorem part_small {l : List ByteArray} {n : Nat} (hz : ∀ j (hj : j < l.length), l[j].size ≤ n) (k : Nat) : (∀ j (hj : j < (l.take k).length), (l.take k)[j].size ≤ n) ∧ (∀ j (hj : j < (l.drop k).length), (l.drop k)[j].size ≤ n) :=
  ⟨fun j hj => by rw [List.getElem_take]; exact hz _ _, fun j hj => by rw [List.getElem_drop]; exact hz _ _⟩
end Go.Proofs.YtchlopmmhcobdaaDoor

/-
  The document's TreeHash.
-/
namespace Go.Proofs.YtchlopmmhcobdaaDoor
open Go.RowKit Go.Lib
set_option linter.unusedVariables false

set_option maxHeartbeats 400000 in
theorem specTreeHash_any (v : Value) (l : List ByteArray) (w : World) (h : Texts w w.heap.size v l) (hl : l.length ≤ 1048576) :
    Calls Tryd.prog 28 #[v] w fun e w' => e = .returned (.string (treeV l)) ∧ Below w.heap.size w w' := by
  have E : Hid (Calls Tryd.prog 78 #[v] w fun e w' => e = .returned (.bool (rightB l)) ∧ w' = w) := specEntries_any v l w _ h hl
  by_cases h400 : 400 < l.length
  · have ht : treeV l = ByteArray.empty := by unfold treeV; rw [rightB_long (by omega)]; rfl
    rw [ht]
    obtain ⟨a, cap, rfl, hx, hy⟩ := h
    clear hx hy
    have hI : ¬ (l.length : Int) ≤ 400 := by omega
    have hI2 : (400 : Int) < (l.length : Int) := by omega
    clear E ht
    generalize l.length = n at *
    go_enter Tryd.func28, Tryd.ntmps28
    go_wp2_with fail
    go_ret
    exact ⟨rfl, Below.refl _ _⟩
  · have hI : ¬ (400 : Int) < (l.length : Int) := by omega
    by_cases hr : rightB l = true
    · have ET : Hid (Calls Tryd.prog 79 #[v] w fun e w' => e = .returned (.string (treeB l)) ∧ Below w.heap.size w w') := specTree_any l.length l rfl hl (fun j hj => rightB_at hr hj) v w h
      have ht : treeV l = treeB l := by unfold treeV; rw [if_pos hr]
      rw [ht]
      rw [hr] at E
      generalize treeB l = T at *
      obtain ⟨a, cap, rfl, hx, hy⟩ := h
      clear hx hy
      clear hr ht
      generalize l.length = n at *
      go_enter Tryd.func28, Tryd.ntmps28
      go_wp2_with fail
      refine E.out.mono ?_
      rintro e w1 ⟨rfl, rfl⟩
      clear E
      go_wp2_with fail
      refine ET.out.mono ?_
      rintro e w2 ⟨rfl, hb⟩
      have HB : Hid (Below w1.heap.size w1 w2) := hb
      clear hb
      go_wp2
      go_ret
      exact ⟨rfl, HB.out⟩
    · have hr' : rightB l = false := by simpa using hr
      have ht : treeV l = ByteArray.empty := by unfold treeV; rw [hr']; rfl
      rw [ht]
      rw [hr'] at E
      obtain ⟨a, cap, rfl, hx, hy⟩ := h
      clear hx hy
      clear hr hr' ht
      generalize l.length = n at *
      go_enter Tryd.func28, Tryd.ntmps28
      go_wp2_with fail
      refine E.out.mono ?_
      rintro e w1 ⟨rfl, rfl⟩
      clear E
      go_wp2
      go_ret
      exact ⟨rfl, Below.refl _ _⟩
end Go.Proofs.YtchlopmmhcobdaaDoor

/-
  The document's proof of the first ones.
-/
namespace Go.Proofs.YtchlopmmhcobdaaDoor
open Go.RowKit Go.Lib
set_option linter.unusedVariables false

theorem OwnT.lone (w : World) (B : Nat) (t : ByteArray) (hB : B ≤ w.heap.size) : OwnT (w.alloc (.cells #[.string t] 9)) B (.slice (some ⟨w.heap.size, 0, none⟩) 1 1) [t] :=
  ⟨rfl, .inr ⟨w.heap.size, 1, _, rfl, hB, heap_alloc_new w _, Nat.le_refl _, by unfold maxLen; omega, rfl, rfl⟩⟩

set_option maxHeartbeats 4000000 in
set_option maxRecDepth 10000 in
theorem specProof_any (n : Nat) : ∀ (l : List ByteArray), l.length = n → n ≤ 1000 → (∀ j (hj : j < l.length), l[j].size ≤ 100) → ∀ (m : Nat) (x : Int) (wh : Bool) (v : Value) (w : World), x = (m : Int) → 1 ≤ m → m ≤ n → Texts w w.heap.size v l →
    Calls Tryd.prog 95 #[.int .i64 x, v, .bool wh] w fun e w' => ∃ v', e = .returned v' ∧ OwnT w' w.heap.size v' (proofB m l wh) ∧ Below w.heap.size w w' := by
  induction n using Nat.strongRecOn with
  | ind n ih =>
    intro l hn hl hz m x wh v w hx hm0 hm1 h
    subst hx
    by_cases hmn : m = n
    · rw [proofB_all wh (by omega)]
      have E : Hid (Calls Tryd.prog 79 #[v] w fun e w' => e = .returned (.string (treeB l)) ∧ Below w.heap.size w w') := specTree_any n l hn (by omega) hz v w h
      generalize treeB l = T at *
      obtain ⟨a, cap, rfl, hx, hy⟩ := h
      clear hx hy ih hz
      rw [hn] at E ⊢
      subst hmn
      cases wh with
      | true =>
        clear E
        go_enter Tryd.func95, Tryd.ntmps95
        go_wp2
        go_ret
        exact ⟨_, rfl, OwnT.made _ _ (Nat.le_refl _), (Below.refl _ _).alloc (Nat.le_refl _) _⟩
      | false =>
        go_enter Tryd.func95, Tryd.ntmps95
        go_wp2_with fail
        refine E.out.mono ?_
        rintro e w1 ⟨rfl, hb⟩
        have HB : Hid (Below w.heap.size w w1) := hb
        clear hb
        go_wp2
        go_ret
        exact ⟨_, rfl, OwnT.lone _ _ _ HB.out.size, HB.out.alloc HB.out.size _⟩
    have hl2 : 2 ≤ l.length := by omega
    obtain ⟨ex, he, hk1, hk2⟩ := half_spec hl2
    have hp := Nat.two_pow_pos ex
    have hpl := proofB_left (l := l) (m := m) wh hl2 (by omega)
    have hpr := proofB_right (l := l) (m := m) wh hl2 (by omega)
    rw [hn] at hk1 hk2 he hpl hpr
    have EH : Hid (Calls Tryd.prog 129 #[.int .i64 n] w fun e w' => e = .returned (.int .i64 (half n)) ∧ w' = w) := half_any n w (by omega)
    obtain ⟨k, hk⟩ : ∃ k, k = half n := ⟨_, rfl⟩
    rw [← hk] at hk1 hk2 he EH hpl hpr
    have hn1I : ¬ (m : Int) = (n : Int) := by omega
    have hn1B : ((m : Int) == (n : Int)) = false := beq_eq_false_iff_ne.2 hn1I
    have l1 : (l.take k).length = k := by rw [List.length_take]; omega
    have l2 : (l.drop k).length = n - k := by rw [List.length_drop]; omega
    obtain ⟨v1, hs1, ht1⟩ := slice_h h k (by omega) (k : Int) rfl
    obtain ⟨v2, hs2, ht2⟩ := slice_l h k (by omega) (k : Int) rfl
    have EP1 : Hid (m ≤ k → ∀ w', Below w.heap.size w w' → Calls Tryd.prog 95 #[.int .i64 m, v1, .bool wh] w' fun e w'' => ∃ v', e = .returned v' ∧ OwnT w'' w.heap.size v' (proofB m (l.take k) wh) ∧ Below w.heap.size w w'') := by
      intro hik w' hb
      refine (ih k (by omega) (l.take k) l1 (by omega) (part_small hz k).1 m m wh v1 w' rfl hm0 hik ((ht1.below hb).up hb.size)).mono ?_
      rintro e w'' ⟨v', rfl, ho, hb2⟩
      exact ⟨v', rfl, ho.lower hb.size, hb.trans (hb2.mono hb.size)⟩
    have EP2 : Hid (¬ m ≤ k → ∀ w', Below w.heap.size w w' → Calls Tryd.prog 95 #[.int .i64 ((m : Int) - (k : Int)), v2, .bool false] w' fun e w'' => ∃ v', e = .returned v' ∧ OwnT w'' w.heap.size v' (proofB (m - k) (l.drop k) false) ∧ Below w.heap.size w w'') := by
      intro hik w' hb
      refine (ih (n - k) (by omega) (l.drop k) l2 (by omega) (part_small hz k).2 (m - k) _ false v2 w' (by omega) (by omega) (by omega) ((ht2.below hb).up hb.size)).mono ?_
      rintro e w'' ⟨v', rfl, ho, hb2⟩
      exact ⟨v', rfl, ho.lower hb.size, hb.trans (hb2.mono hb.size)⟩
    have ET1 : Hid (∀ w', Below w.heap.size w w' → Calls Tryd.prog 79 #[v1] w' fun e w'' => e = .returned (.string (treeB (l.take k))) ∧ Below w'.heap.size w' w'') := fun w' hb => specTree_any k (l.take k) l1 (by omega) (part_small hz k).1 v1 w' ((ht1.below hb).up hb.size)
    have ET2 : Hid (∀ w', Below w.heap.size w w' → Calls Tryd.prog 79 #[v2] w' fun e w'' => e = .returned (.string (treeB (l.drop k))) ∧ Below w'.heap.size w' w'') := fun w' hb => specTree_any (n - k) (l.drop k) l2 (by omega) (part_small hz k).2 v2 w' ((ht2.below hb).up hb.size)
    have HP1 : Hid ((proofB m (l.take k) wh).length ≤ 1048576 ∧ (proofB (m - k) (l.drop k) false).length ≤ 1048576) := ⟨by have := proofB_len k (l.take k) m wh l1; omega, by have := proofB_len (n - k) (l.drop k) (m - k) false l2; omega⟩
    obtain ⟨a, cap, rfl, hx, hy⟩ := h
    clear hx hy ih hz hk he hp l1 l2 ht1 ht2
    have HA : Hid (Below w.heap.size w w) := Below.refl _ _
    by_cases hik : m ≤ k
    · have HP : Hid (proofB m l wh = proofB m (l.take k) wh ++ [treeB (l.drop k)]) := hpl hik
      have E1 : Hid _ := EP1.out hik
      have hikI : (m : Int) ≤ (k : Int) := by omega
      have hll := HP1.out.1
      clear hpl hpr EP1 EP2 ET1 HP1
      generalize hpb : proofB m (l.take k) wh = P at *
      generalize treeB (l.drop k) = T at *
      clear hpb
      rw [hn] at hs1 hs2 ⊢
      go_enter Tryd.func95, Tryd.ntmps95
      go_wp2_with fail
      refine EH.out.mono ?_
      rintro e w1 ⟨rfl, rfl⟩
      clear EH
      go_wp2_with fail
      go_region_law (first
        | (refine step_enter rfl 95 #[.int .i64 m, v1, .bool wh] (E1.out _ ?_) ?_ ?_; (first | exact HA.out | exact below_drew' HA.out); go_simp; rintro e wa ⟨va, rfl, hoa, hba⟩; refine ⟨va, rfl, ?_⟩; have HA : Hid (Below w1.heap.size w1 wa) := hba; have HO : Hid (OwnT wa w1.heap.size va P) := hoa; clear hba hoa)
        | (refine step_enter rfl 79 #[v2] (ET2.out _ HA.out) ?_ ?_; go_simp; rintro e wb ⟨rfl, hbb⟩; refine ⟨_, rfl, ?_⟩; have HO : Hid (OwnT wb w1.heap.size va P) := HO.out.below hbb (Nat.le_refl _); have HA : Hid (Below w1.heap.size w1 wb) := HA.out.trans (hbb.mono HA.out.size); clear hbb)
        | (refine step_app_text (w := wb) rfl (.tmp 28) (.tmp 33) rfl w1.heap.size va P T (by simp [Act.eval]) HO.out (by simp [Act.eval]) hll HA.out.size ?_; intro v4 w4 hown4 hb4))
      all_goals
        have H4 : Hid (OwnT w4 w1.heap.size v4 (P ++ [T]) ∧ Below w1.heap.size w1 w4) := ⟨hown4, HA.out.trans hb4⟩
        clear hown4 hb4
        go_wp2
        go_ret
        exact ⟨_, rfl, by rw [HP.out]; exact H4.out.1, H4.out.2⟩
    · have HP : Hid (proofB m l wh = proofB (m - k) (l.drop k) false ++ [treeB (l.take k)]) := hpr hik
      have E1 : Hid _ := EP2.out hik
      have hikI : ¬ (m : Int) ≤ (k : Int) := by omega
      have hwr : IntKind.i64.wrap ((m : Int) - (k : Int)) = (m : Int) - (k : Int) := by rw [IntKind.wrap_i64]; omega
      have hll := HP1.out.2
      clear hpl hpr EP1 EP2 ET2 HP1
      generalize hpb : proofB (m - k) (l.drop k) false = P at *
      generalize treeB (l.take k) = T at *
      clear hpb
      rw [hn] at hs1 hs2 ⊢
      go_enter Tryd.func95, Tryd.ntmps95
      go_wp2_with fail
      refine EH.out.mono ?_
      rintro e w1 ⟨rfl, rfl⟩
      clear EH
      go_wp2_with fail
      go_region_law (first
        | (refine step_enter rfl 95 #[.int .i64 ((m : Int) - (k : Int)), v2, .bool false] (E1.out _ ?_) ?_ ?_; (first | exact HA.out | exact below_drew' HA.out); go_simp; rintro e wa ⟨va, rfl, hoa, hba⟩; refine ⟨va, rfl, ?_⟩; have HA : Hid (Below w1.heap.size w1 wa) := hba; have HO : Hid (OwnT wa w1.heap.size va P) := hoa; clear hba hoa)
        | (refine step_enter rfl 79 #[v1] (ET1.out _ HA.out) ?_ ?_; go_simp; rintro e wb ⟨rfl, hbb⟩; refine ⟨_, rfl, ?_⟩; have HO : Hid (OwnT wb w1.heap.size va P) := HO.out.below hbb (Nat.le_refl _); have HA : Hid (Below w1.heap.size w1 wb) := HA.out.trans (hbb.mono HA.out.size); clear hbb)
        | (refine step_app_text (w := wb) rfl (.tmp 41) (.tmp 46) rfl w1.heap.size va P T (by simp [Act.eval]) HO.out (by simp [Act.eval]) hll HA.out.size ?_; intro v4 w4 hown4 hb4))
      all_goals
        have H4 : Hid (OwnT w4 w1.heap.size v4 (P ++ [T]) ∧ Below w1.heap.size w1 w4) := ⟨hown4, HA.out.trans hb4⟩
        clear hown4 hb4
        go_wp2
        go_ret
        exact ⟨_, rfl, by rw [HP.out]; exact H4.out.1, H4.out.2⟩
end Go.Proofs.YtchlopmmhcobdaaDoor

/-
  The document's ProofOf.
-/
namespace Go.Proofs.YtchlopmmhcobdaaDoor
open Go.RowKit Go.Lib
set_option linter.unusedVariables false

theorem proofV_no {l : List ByteArray} {i : Int} (h : rightB l = false ∨ i < 1 ∨ (l.length : Int) < i) : proofV l i = [] := by
  unfold proofV
  rw [if_neg]
  rintro ⟨h1, h2, h3⟩
  rcases h with h | h | h
  · rw [h] at h1; cases h1
  · omega
  · omega
set_option maxHeartbeats 1000000 in
theorem specProofOf_any (v : Value) (l : List ByteArray) (i : Int) (w : World) (h : Texts w w.heap.size v l) (hl : l.length ≤ 1048576) (hi0 : -9223372036854775808 ≤ i) (hi1 : i ≤ 9223372036854775807) :
    Calls Tryd.prog 44 #[v, .int .i64 i] w fun e w' => ∃ v', e = .returned v' ∧ OwnT w' w.heap.size v' (proofV l i) ∧ Below w.heap.size w w' := by
  have E : Hid (Calls Tryd.prog 78 #[v] w fun e w' => e = .returned (.bool (rightB l)) ∧ w' = w) := specEntries_any v l w _ h hl
  by_cases h400 : 400 < l.length
  · rw [proofV_no (.inl (rightB_long (by omega)))]
    obtain ⟨a, cap, rfl, hx, hy⟩ := h
    clear hx hy
    have hI2 : (400 : Int) < (l.length : Int) := by omega
    clear E
    generalize l.length = n at *
    go_enter Tryd.func44, Tryd.ntmps44
    go_wp2_with fail
    go_ret
    exact ⟨_, rfl, OwnT.made _ _ (Nat.le_refl _), (Below.refl _ _).alloc (Nat.le_refl _) _⟩
  have hI : ¬ (400 : Int) < (l.length : Int) := by omega
  by_cases hr : rightB l = true
  · rw [hr] at E
    by_cases hin : 1 ≤ i ∧ i ≤ (l.length : Int)
    · obtain ⟨hi2, hi3⟩ := hin
      have hlen := rightB_len hr
      have ET : Hid (Calls Tryd.prog 95 #[.int .i64 i, v, .bool true] w fun e w' => ∃ v', e = .returned v' ∧ OwnT w' w.heap.size v' (proofB i.toNat l true) ∧ Below w.heap.size w w') := specProof_any l.length l rfl (by omega) (fun j hj => rightB_at hr hj) i.toNat i true v w (by omega) (by omega) (by omega) h
      have ht : proofV l i = proofB i.toNat l true := by unfold proofV; rw [if_pos ⟨hr, hi2, hi3⟩]
      rw [ht]
      generalize proofB i.toNat l true = T at *
      obtain ⟨a, cap, rfl, hx, hy⟩ := h
      clear hx hy hr ht
      have h0i : ¬ i < 1 := by omega
      have hgi : ¬ (l.length : Int) < i := by omega
      generalize l.length = n at *
      go_enter Tryd.func44, Tryd.ntmps44
      go_wp2_with fail
      refine E.out.mono ?_
      rintro e w1 ⟨rfl, rfl⟩
      clear E
      go_wp2_with fail
      refine ET.out.mono ?_
      rintro e w2 ⟨v2, rfl, ho, hb⟩
      have HB : Hid (OwnT w2 w1.heap.size v2 T ∧ Below w1.heap.size w1 w2) := ⟨ho, hb⟩
      clear hb ho
      go_wp2
      go_ret
      exact ⟨_, rfl, HB.out.1, HB.out.2⟩
    · rw [proofV_no (.inr (by omega))]
      obtain ⟨a, cap, rfl, hx, hy⟩ := h
      clear hx hy hr
      by_cases h0i : i < 1
      · clear hin
        generalize l.length = n at *
        go_enter Tryd.func44, Tryd.ntmps44
        go_wp2_with fail
        refine E.out.mono ?_
        rintro e w1 ⟨rfl, rfl⟩
        clear E
        go_wp2
        go_ret
        exact ⟨_, rfl, OwnT.made _ _ (Nat.le_refl _), (Below.refl _ _).alloc (Nat.le_refl _) _⟩
      · have hgi : (l.length : Int) < i := by omega
        clear hin
        generalize l.length = n at *
        go_enter Tryd.func44, Tryd.ntmps44
        go_wp2_with fail
        refine E.out.mono ?_
        rintro e w1 ⟨rfl, rfl⟩
        clear E
        go_wp2
        go_ret
        exact ⟨_, rfl, OwnT.made _ _ (Nat.le_refl _), (Below.refl _ _).alloc (Nat.le_refl _) _⟩
  · have hr' : rightB l = false := by simpa using hr
    rw [proofV_no (.inl hr')]
    rw [hr'] at E
    obtain ⟨a, cap, rfl, hx, hy⟩ := h
    clear hx hy hr hr'
    generalize l.length = n at *
    go_enter Tryd.func44, Tryd.ntmps44
    go_wp2_with fail
    refine E.out.mono ?_
    rintro e w1 ⟨rfl, rfl⟩
    clear E
    go_wp2
    go_ret
    exact ⟨_, rfl, OwnT.made _ _ (Nat.le_refl _), (Below.refl _ _).alloc (Nat.le_refl _) _⟩
end Go.Proofs.YtchlopmmhcobdaaDoor

/-
  The document's Consistent, of fewer first ones than all: a run over a row.
-/
namespace Go.Proofs.YtchlopmmhcobdaaDoor
open Go.RowKit Go.Lib
set_option linter.unusedVariables false

theorem consRun_cons (s : Option (Nat × Nat × ByteArray × ByteArray)) (p : ByteArray) (r : List ByteArray) : consRun nodeB s (p :: r) = consRun nodeB (consStep nodeB s p) r := rfl
theorem consEnd_all (was root : ByteArray) (ab : Nat × Nat) (row : List ByteArray) (h : row.length = 0) : consEnd was root (consAll nodeB ab row) = false := by
  obtain rfl := List.eq_nil_of_length_eq_zero h
  rfl
theorem consAll_first {row : List ByteArray} {r0 : ByteArray} {rest : List ByteArray} (ab : Nat × Nat) (h : row = r0 :: rest) : consAll nodeB ab row = consRun nodeB (some (ab.1, ab.2, r0, r0)) rest := by subst h; rfl
theorem OwnT.alone (w : World) (B : Nat) (t : ByteArray) (hB : B ≤ w.heap.size) : OwnT (w.alloc (.cells #[.string t] 9)) B (.slice (some ⟨w.heap.size, 0, none⟩) 1 1) [t] :=
  ⟨rfl, .inr ⟨w.heap.size, 1, _, rfl, hB, heap_alloc_new w _, Nat.le_refl _, by unfold maxLen; omega, rfl, rfl⟩⟩

set_option maxHeartbeats 8000000 in
set_option maxRecDepth 10000 in
theorem specCons_pow (was root : ByteArray) (m n : Nat) (v : Value) (proof : List ByteArray) (w : World) (h : Texts w w.heap.size v proof) (h1 : proof.length ≤ 64) (h2 : wideB proof = true) (h3 : was.size = 32) (h4 : root.size = 32) (h5 : 1 ≤ m) (h6 : m < n) (h7 : n ≤ 9223372036854775807) (hpw : powB m = true) :
    Calls Tryd.prog 47 #[.int .i64 m, .int .i64 n, v, .string was, .string root] w fun e w' => e = .returned (.bool (consEnd was root (consAll nodeB (odds (m - 1) (n - 1)) (was :: proof)))) ∧ Below w.heap.size w w' := by
  have HWD : Hid (Calls Tryd.prog 93 #[v] w fun e w' => e = .returned (.bool true) ∧ w' = w) := by
    have e := wide_any v proof w w.heap.size h (by omega)
    rw [h2] at e
    exact e
  have E : Hid (∀ l r w, l.size ≤ 32 → r.size ≤ 32 → Calls Tryd.prog 92 #[.string l, .string r] w fun e w' => e = .returned (.string (nodeB l r)) ∧ Below w.heap.size w w') := fun l r w hl hr => node_any l r w (by omega) (by omega)
  have EP : Hid (∀ w, Calls Tryd.prog 97 #[.int .i64 m] w fun e w' => e = .returned (.bool true) ∧ w' = w) := fun w => by
    have e := power_any m w h5 (by omega)
    rw [hpw] at e
    exact e
  have hal : Below w.heap.size w (w.alloc (.cells #[] 9)) := (Below.refl _ _).alloc (Nat.le_refl _) _
  have hown0 := OwnT.made w w.heap.size (Nat.le_refl _)
  have hT0 : Texts (w.alloc (.cells #[] 9)) (w.alloc (.cells #[] 9)).heap.size v proof := (h.below hal).up hal.size
  have HAL : Hid (Below w.heap.size w (w.alloc (.cells #[] 9))) := hal
  have hs0 : w.heap.size ≤ (w.alloc (.cells #[] 9)).heap.size := hal.size
  obtain ⟨row, hrow⟩ : ∃ row, row = was :: proof := ⟨_, rfl⟩
  rw [← hrow]
  have HWI : Hid (∀ j (h : j < row.length), row[j].size = 32) := by
    intro j hj
    subst hrow
    cases j with
    | zero => exact h3
    | succ j => exact wideB_at h2 (by simpa using hj)
  have hrl : row.length ≤ 65 := by
    subst hrow
    rw [List.length_cons]; omega
  obtain ⟨L, hL⟩ : ∃ L, L = row.length := ⟨_, rfl⟩
  have HLEN : Hid (([was] ++ proof).length = L) := by
    show _ = _
    rw [hL, hrow]; rfl
  have HL0 : Hid (L = row.length) := hL
  have hL65 : L ≤ 65 := by omega
  have hL1 : 1 ≤ L := by rw [hL, hrow, List.length_cons]; omega
  have hLI : ¬ (L : Int) = 0 := by omega
  have hLB : ((L : Int) == 0) = false := beq_eq_false_iff_ne.2 hLI
  have HRW : Hid (row = was :: proof) := hrow
  obtain ⟨V, hV⟩ : ∃ V, V = consEnd was root (consAll nodeB (odds (m - 1) (n - 1)) row) := ⟨_, rfl⟩
  rw [← hV]
  have HV : Hid (consEnd was root (consAll nodeB (odds (m - 1) (n - 1)) row) = V) := hV.symm
  have HP : Hid (proof.length ≤ 64) := h1
  obtain ⟨ad, cap, rfl, hx, hy⟩ := id h
  have h1' : (proof.length : Int) ≤ 64 := by omega
  have hml : proof.length ≤ 1048577 := by omega
  have h3' : (was.size : Int) = 32 := by omega
  have h4' : (root.size : Int) = 32 := by omega
  have hmnI : ¬ (m : Int) = (n : Int) := by omega
  have hmnB : ((m : Int) == (n : Int)) = false := beq_eq_false_iff_ne.2 hmnI
  clear hV h2 hx hy h h3 h4 hrow hpw hal hL hrl
  go_enter Tryd.func47, Tryd.ntmps47
  go_wp2_with fail
  refine HWD.out.mono ?_
  rintro e w0 ⟨rfl, rfl⟩
  clear HWD
  go_wp2_with (at_builtin; go_must (refine wp_app_texts rfl (.tmp 55) (.tmp 56) rfl w0.heap.size _ _ [] proof rfl hown0 rfl hT0 (by simp) hml hs0 ?_); intro v1 w1 hown1 hb1)
  refine (EP.out _).mono ?_
  rintro e w2 ⟨rfl, rfl⟩
  clear EP hown0 hT0 hs0
  rw [List.nil_append] at hown1
  have H2 : Hid (Below w0.heap.size w0 w2 ∧ OwnT w2 w0.heap.size v1 proof) := ⟨HAL.out.trans hb1, hown1⟩
  have hal2 : Below w2.heap.size w2 (w2.alloc (.cells #[.string was] 9)) := (Below.refl _ _).alloc (Nat.le_refl _) _
  have hown2 := OwnT.alone w2 w0.heap.size was H2.out.1.size
  have hT2 : Texts (w2.alloc (.cells #[.string was] 9)) (w2.alloc (.cells #[.string was] 9)).heap.size v1 proof := (H2.out.2.texts.below hal2).up hal2.size
  have hs2 : w0.heap.size ≤ (w2.alloc (.cells #[.string was] 9)).heap.size := Nat.le_trans H2.out.1.size hal2.size
  have HAL2 : Hid (Below w2.heap.size w2 (w2.alloc (.cells #[.string was] 9))) := hal2
  clear hb1 hown1 HAL hal2
  go_wp2_with (at_builtin; go_must (refine wp_app_texts rfl (.tmp 61) (.tmp 62) rfl w0.heap.size _ _ [was] proof rfl hown2 rfl hT2 (by simp) hml hs2 ?_); intro v5 w5 hown5 hb5; obtain ⟨ar, cr, hvr⟩ := OwnT.len hown5; rw [HLEN.out] at hvr; subst hvr)
  have H5 : Hid (Below w0.heap.size w0 w5) := H2.out.1.trans ((HAL2.out.mono H2.out.1.size).trans hb5)
  have hownR : OwnT w5 w0.heap.size (.slice ar L cr) row := by
    rw [HRW.out]
    exact hown5
  obtain ⟨a', c', hv', hcap', hcR⟩ := hownR.texts.at
  obtain ⟨rfl, hLr, rfl⟩ : ar = a' ∧ L = row.length ∧ cr = c' := by simpa using hv'
  have HL : Hid (L = row.length) := hLr
  have hr0l : 0 < row.length := by omega
  obtain ⟨bb, off, rfl, hB, hc00⟩ := hcR 0 hr0l
  rw [Nat.add_zero] at hc00
  have HC : Hid (∀ j (hj : j < row.length), ∃ b o, (some ⟨bb, off, none⟩ : Option Addr) = some ⟨b, o, none⟩ ∧ b < w5.heap.size ∧ w5.cell? ⟨b, o + j, none⟩ = some (.string row[j])) := hcR
  have HR0' := HWI.out 0 hr0l
  obtain ⟨r0, hr0⟩ : ∃ r0, r0 = row[0] := ⟨_, rfl⟩
  have HROW : Hid (row = r0 :: row.drop 1) := by
    show _ = _
    rw [hr0]
    exact (List.drop_eq_getElem_cons hr0l).symm.trans (by rfl) |>.symm
  rw [← hr0] at hc00 HR0'
  have HR0 : Hid (r0.size ≤ 32) := Nat.le_of_eq HR0'
  clear hr0 HR0' hownR hown5 hcap' hcR hv' hLr hr0l HLEN HRW HL0
  go_loop [12, 13] (fun x y => ∃ a b : Nat, x = .int .i64 a ∧ y = .int .i64 b ∧ a ≤ 9223372036854775807 ∧ b ≤ 9223372036854775807 ∧ odds a b = odds (m - 1) (n - 1)) (fun x _ => (RowKit.intOf x).toNat)
  case atStart => exact ⟨m - 1, n - 1, by go_num, by go_num, by omega, by omega, rfl⟩
  case round =>
    obtain ⟨a0, b0, rfl, rfl, ha0, hb0', ho0⟩ := hrel
    by_cases hod : a0 % 2 = 1
    · have HO : Hid (odds (a0 / 2) (b0 / 2) = odds (m - 1) (n - 1)) := by
        show _ = _
        rw [← ho0, odds_odd hod]
      have hodI : (a0 : Int) % 2 = 1 := by omega
      clear ho0
      go_wp2
      go_round
      case rel => exact ⟨a0 / 2, b0 / 2, by go_num, by go_num, by omega, by omega, HO.out⟩
      case measure => simp [RowKit.intOf]; omega
    · have HO : Hid (odds (m - 1) (n - 1) = (a0, b0)) := by
        show _ = _
        rw [← ho0, odds_even (by omega)]
      have hodI : ¬ (a0 : Int) % 2 = 1 := by omega
      have HV0 : Hid (consEnd was root (consRun nodeB (some (a0, b0, r0, r0)) (row.drop 1)) = V) := by
        show _ = _
        rw [← HV.out, HO.out]
        exact congrArg (consEnd was root) (consAll_first (a0, b0) HROW.out).symm
      clear ho0 HO HV
      go_wp2
      go_loopw [12, 13, 14, 15, 16] (fun x y s t i wr => ∃ (k a b : Nat) (d f : ByteArray), k ≤ L ∧ i = .int .i64 k ∧ x = .int .i64 a ∧ y = .int .i64 b ∧ a ≤ 9223372036854775807 ∧ b ≤ 9223372036854775807 ∧ s = .string d ∧ t = .string f ∧ d.size ≤ 32 ∧ f.size ≤ 32 ∧ consEnd was root (consRun nodeB (some (a, b, d, f)) (row.drop k)) = V ∧ Below w5.heap.size w5 wr) (fun _ _ _ _ i _ => L - (RowKit.intOf i).toNat)
      case atStart => exact ⟨1, a0, b0, r0, r0, by omega, rfl, rfl, rfl, ha0, hb0', rfl, rfl, HR0.out, HR0.out, HV0.out, Below.refl _ _⟩
      case round =>
        obtain ⟨k, a, b, d, f, hk, rfl, rfl, rfl, ha, hbb, rfl, rfl, hd, hf, hr, hb⟩ := hrel
        have H2 : Hid (Below w5.heap.size w5 wr) := hb
        clear hc00 HV0
        by_cases hkm : k < L
        · have hkl : k < row.length := by rw [← HL.out]; exact hkm
          obtain ⟨bb', off', hbo, _, hcell⟩ := HC.out k hkl
          obtain ⟨rfl, rfl⟩ : bb = bb' ∧ off = off' := by simp at hbo; exact hbo
          have hc : wr.cell? ⟨bb, off + k, none⟩ = some (.string row[k]) := (hb.cell (p := ⟨bb, off + k, none⟩) hB).trans hcell
          have hps := HWI.out k hkl
          rw [List.drop_eq_getElem_cons hkl, consRun_cons] at hr
          have hkmI : (k : Int) < (L : Int) := by omega
          obtain ⟨p, hp⟩ : ∃ p, p = row[k] := ⟨_, rfl⟩
          rw [← hp] at hc hps hr hcell
          have HC0 : Hid (w5.cell? ⟨bb, off + k, none⟩ = some (.string p)) := hcell
          clear hp hb hcell HC hbo
          have HSZ : Hid ((nodeB p d).size ≤ 32 ∧ (nodeB p f).size ≤ 32 ∧ (nodeB f p).size ≤ 32) := ⟨by rw [nodeB_size]; omega, by rw [nodeB_size]; omega, by rw [nodeB_size]; omega⟩
          by_cases hb0 : b = 0
          · subst hb0
            have HF : Hid (V = false) := by
              show _ = _
              rw [← hr]
              simp only [consStep, if_true]
              rw [cons_none]
              rfl
            clear hr
            go_wp2
            go_ret
            exact ⟨ret_bool HF.out.symm, H5.out.trans (H2.out.mono H5.out.size)⟩
          · have hb0I : ¬ (b : Int) = 0 := by omega
            by_cases hodd : a % 2 = 1 ∨ a = b
            · have HR : Hid (consEnd was root (consRun nodeB (some ((evens a b).1 / 2, (evens a b).2 / 2, nodeB p d, nodeB p f)) (row.drop (k + 1))) = V) := by
                have h := hr
                simp only [consStep, if_neg hb0, if_pos hodd] at h
                exact h
              clear hr
              by_cases ho1 : (a : Int) % 2 = 1
              · go_wp2_with fail
                refine (E.out p d _ (by omega) (by omega)).mono ?_
                rintro e w1 ⟨rfl, hb1⟩
                have H3 : Hid (Below w5.heap.size w5 w1) := H2.out.trans (hb1.mono H2.out.size)
                have hc1 : w1.cell? ⟨bb, off + k, none⟩ = some (.string p) := (H3.out.cell (p := ⟨bb, off + k, none⟩) hB).trans HC0.out
                clear hb1
                go_wp2_with fail
                refine (E.out p f _ (by omega) (by omega)).mono ?_
                rintro e w2 ⟨rfl, hb2⟩
                have H3 : Hid (Below w5.heap.size w5 w2) := H3.out.trans (hb2.mono H3.out.size)
                clear hb2 hc1
                go_wp2
                go_loop [12, 13] (fun x y => ∃ a' b' : Nat, x = .int .i64 a' ∧ y = .int .i64 b' ∧ a' ≤ 9223372036854775807 ∧ b' ≤ 9223372036854775807 ∧ evens a' b' = evens a b) (fun x _ => (RowKit.intOf x).toNat)
                case atStart => exact ⟨a, b, rfl, rfl, ha, hbb, rfl⟩
                case round =>
                  obtain ⟨a', b', rfl, rfl, ha', hb', hev⟩ := hrel
                  have HEV : Hid (evens a' b' = evens a b) := hev
                  clear hev
                  by_cases hz : a' % 2 = 0 ∧ 0 < a'
                  · obtain ⟨hz1, hz2⟩ := hz
                    have hz1I : (a' : Int) % 2 = 0 := by omega
                    have hz2I : 0 < (a' : Int) := by omega
                    have HE2 : Hid (evens (a' / 2) (b' / 2) = evens a b) := by
                      show _ = _
                      rw [← HEV.out, evens_eq a' b', dif_pos ⟨hz1, hz2⟩]
                    go_wp2
                    go_round
                    case rel => exact ⟨a' / 2, b' / 2, by go_num, by go_num, by omega, by omega, HE2.out⟩
                    case measure => simp [RowKit.intOf]; omega
                  · have HE3 : Hid ((evens a b).1 = a' ∧ (evens a b).2 = b') := by
                      have h := HEV.out
                      rw [evens_eq a' b', dif_neg hz] at h
                      exact ⟨by rw [← h], by rw [← h]⟩
                    have HR2 : Hid (consEnd was root (consRun nodeB (some (a' / 2, b' / 2, nodeB p d, nodeB p f)) (row.drop (k + 1))) = V) := by
                      have h := HR.out
                      rw [HE3.out.1, HE3.out.2] at h
                      exact h
                    clear HR HE3 HEV
                    by_cases hz1 : (a' : Int) % 2 = 0
                    · have hz2 : ¬ 0 < (a' : Int) := by omega
                      go_wp2
                      go_roundw
                      case rel => exact ⟨k + 1, a' / 2, b' / 2, nodeB p d, nodeB p f, by omega, by go_num, by go_num, by go_num, by omega, by omega, rfl, rfl, HSZ.out.1, HSZ.out.2.1, HR2.out, H3.out⟩
                      case measure => simp [RowKit.intOf]; omega
                    · go_wp2
                      go_roundw
                      case rel => exact ⟨k + 1, a' / 2, b' / 2, nodeB p d, nodeB p f, by omega, by go_num, by go_num, by go_num, by omega, by omega, rfl, rfl, HSZ.out.1, HSZ.out.2.1, HR2.out, H3.out⟩
                      case measure => simp [RowKit.intOf]; omega
              · have hab : a = b := by omega
                subst hab
                go_wp2_with fail
                refine (E.out p d _ (by omega) (by omega)).mono ?_
                rintro e w1 ⟨rfl, hb1⟩
                have H3 : Hid (Below w5.heap.size w5 w1) := H2.out.trans (hb1.mono H2.out.size)
                have hc1 : w1.cell? ⟨bb, off + k, none⟩ = some (.string p) := (H3.out.cell (p := ⟨bb, off + k, none⟩) hB).trans HC0.out
                clear hb1
                go_wp2_with fail
                refine (E.out p f _ (by omega) (by omega)).mono ?_
                rintro e w2 ⟨rfl, hb2⟩
                have H3 : Hid (Below w5.heap.size w5 w2) := H3.out.trans (hb2.mono H3.out.size)
                clear hb2 hc1
                go_wp2
                go_loop [12, 13] (fun x y => ∃ a' b' : Nat, x = .int .i64 a' ∧ y = .int .i64 b' ∧ a' ≤ 9223372036854775807 ∧ b' ≤ 9223372036854775807 ∧ evens a' b' = evens a a) (fun x _ => (RowKit.intOf x).toNat)
                case atStart => exact ⟨a, a, rfl, rfl, ha, ha, rfl⟩
                case round =>
                  obtain ⟨a', b', rfl, rfl, ha', hb', hev⟩ := hrel
                  have HEV : Hid (evens a' b' = evens a a) := hev
                  clear hev
                  by_cases hz : a' % 2 = 0 ∧ 0 < a'
                  · obtain ⟨hz1, hz2⟩ := hz
                    have hz1I : (a' : Int) % 2 = 0 := by omega
                    have hz2I : 0 < (a' : Int) := by omega
                    have HE2 : Hid (evens (a' / 2) (b' / 2) = evens a a) := by
                      show _ = _
                      rw [← HEV.out, evens_eq a' b', dif_pos ⟨hz1, hz2⟩]
                    go_wp2
                    go_round
                    case rel => exact ⟨a' / 2, b' / 2, by go_num, by go_num, by omega, by omega, HE2.out⟩
                    case measure => simp [RowKit.intOf]; omega
                  · have HE3 : Hid ((evens a a).1 = a' ∧ (evens a a).2 = b') := by
                      have h := HEV.out
                      rw [evens_eq a' b', dif_neg hz] at h
                      exact ⟨by rw [← h], by rw [← h]⟩
                    have HR2 : Hid (consEnd was root (consRun nodeB (some (a' / 2, b' / 2, nodeB p d, nodeB p f)) (row.drop (k + 1))) = V) := by
                      have h := HR.out
                      rw [HE3.out.1, HE3.out.2] at h
                      exact h
                    clear HR HE3 HEV
                    by_cases hz1 : (a' : Int) % 2 = 0
                    · have hz2 : ¬ 0 < (a' : Int) := by omega
                      go_wp2
                      go_roundw
                      case rel => exact ⟨k + 1, a' / 2, b' / 2, nodeB p d, nodeB p f, by omega, by go_num, by go_num, by go_num, by omega, by omega, rfl, rfl, HSZ.out.1, HSZ.out.2.1, HR2.out, H3.out⟩
                      case measure => simp [RowKit.intOf]; omega
                    · go_wp2
                      go_roundw
                      case rel => exact ⟨k + 1, a' / 2, b' / 2, nodeB p d, nodeB p f, by omega, by go_num, by go_num, by go_num, by omega, by omega, rfl, rfl, HSZ.out.1, HSZ.out.2.1, HR2.out, H3.out⟩
                      case measure => simp [RowKit.intOf]; omega
            · have HR : Hid (consEnd was root (consRun nodeB (some (a / 2, b / 2, d, nodeB f p)) (row.drop (k + 1))) = V) := by
                have h := hr
                simp only [consStep, if_neg hb0, if_neg hodd] at h
                exact h
              have ho1 : (a : Int) % 2 = 0 := by omega
              have ho2 : ¬ (a : Int) = (b : Int) := by omega
              have ho3 : ¬ a = b := by omega
              have ho4 : ((a : Int) == (b : Int)) = false := by simpa using ho2
              clear hr
              go_wp2_with fail
              refine (E.out f p _ (by omega) (by omega)).mono ?_
              rintro e w1 ⟨rfl, hb1⟩
              have H3 : Hid (Below w5.heap.size w5 w1) := H2.out.trans (hb1.mono H2.out.size)
              clear hb1
              go_wp2
              go_roundw
              case rel => exact ⟨k + 1, a / 2, b / 2, d, nodeB f p, by omega, by go_num, by go_num, by go_num, by omega, by omega, rfl, rfl, hd, HSZ.out.2.2, HR.out, H3.out⟩
              case measure => simp [RowKit.intOf]; omega
        · have hdr : row.drop k = [] := List.drop_eq_nil_of_le (by rw [← HL.out]; omega)
          rw [hdr] at hr
          have HR : Hid ((decide (b = 0) && (d.toList == was.toList) && (f.toList == root.toList)) = V) := hr
          have hkmI : ¬ (k : Int) < (L : Int) := by omega
          clear hr hdr hb HC
          by_cases hb0 : (b : Int) = 0
          · by_cases q1 : d.toList = was.toList
            · have HR2 : Hid ((f.toList == root.toList) = V) := by
                have h := HR.out
                rw [decide_eq_true (show b = 0 by omega), Bool.true_and, q1] at h
                have h2 : (f.toList == root.toList) = V := by simpa using h
                exact h2
              go_wp2
              go_ret
              exact ⟨ret_bool HR2.out, H5.out.trans (H2.out.mono H5.out.size)⟩
            · have HF : Hid (V = false) := by
                have h := HR.out
                rw [beq_eq_false_iff_ne.2 q1, Bool.and_false, Bool.false_and] at h
                exact h.symm
              go_wp2
              go_ret
              exact ⟨ret_bool HF.out.symm, H5.out.trans (H2.out.mono H5.out.size)⟩
          · have HF : Hid (V = false) := by
              have h := HR.out
              rw [decide_eq_false (show ¬ b = 0 by omega), Bool.false_and, Bool.false_and] at h
              exact h.symm
            go_wp2
            go_ret
            exact ⟨ret_bool HF.out.symm, H5.out.trans (H2.out.mono H5.out.size)⟩
end Go.Proofs.YtchlopmmhcobdaaDoor

/-
  The document's Consistent, of a number of first ones that is no power of two.
-/
namespace Go.Proofs.YtchlopmmhcobdaaDoor
open Go.RowKit Go.Lib
set_option linter.unusedVariables false

set_option maxHeartbeats 8000000 in
set_option maxRecDepth 10000 in
theorem specCons_not (was root : ByteArray) (m n : Nat) (v : Value) (proof : List ByteArray) (w : World) (h : Texts w w.heap.size v proof) (h1 : proof.length ≤ 64) (h2 : wideB proof = true) (h3 : was.size = 32) (h4 : root.size = 32) (h5 : 1 ≤ m) (h6 : m < n) (h7 : n ≤ 9223372036854775807) (hpw : powB m = false) :
    Calls Tryd.prog 47 #[.int .i64 m, .int .i64 n, v, .string was, .string root] w fun e w' => e = .returned (.bool (consEnd was root (consAll nodeB (odds (m - 1) (n - 1)) (proof)))) ∧ Below w.heap.size w w' := by
  have HWD : Hid (Calls Tryd.prog 93 #[v] w fun e w' => e = .returned (.bool true) ∧ w' = w) := by
    have e := wide_any v proof w w.heap.size h (by omega)
    rw [h2] at e
    exact e
  have E : Hid (∀ l r w, l.size ≤ 32 → r.size ≤ 32 → Calls Tryd.prog 92 #[.string l, .string r] w fun e w' => e = .returned (.string (nodeB l r)) ∧ Below w.heap.size w w') := fun l r w hl hr => node_any l r w (by omega) (by omega)
  have EP : Hid (∀ w, Calls Tryd.prog 97 #[.int .i64 m] w fun e w' => e = .returned (.bool false) ∧ w' = w) := fun w => by
    have e := power_any m w h5 (by omega)
    rw [hpw] at e
    exact e
  have hal : Below w.heap.size w (w.alloc (.cells #[] 9)) := (Below.refl _ _).alloc (Nat.le_refl _) _
  have hown0 := OwnT.made w w.heap.size (Nat.le_refl _)
  have hT0 : Texts (w.alloc (.cells #[] 9)) (w.alloc (.cells #[] 9)).heap.size v proof := (h.below hal).up hal.size
  have HAL : Hid (Below w.heap.size w (w.alloc (.cells #[] 9))) := hal
  have hs0 : w.heap.size ≤ (w.alloc (.cells #[] 9)).heap.size := hal.size
  obtain ⟨row, hrow⟩ : ∃ row, row = proof := ⟨_, rfl⟩
  rw [← hrow]
  have HWI : Hid (∀ j (h : j < row.length), row[j].size = 32) := by
    intro j hj
    subst hrow
    exact wideB_at h2 hj
  have hrl : row.length ≤ 65 := by
    subst hrow
    omega
  obtain ⟨L, hL⟩ : ∃ L, L = row.length := ⟨_, rfl⟩
  have HLEN : Hid ((proof).length = L) := by
    show _ = _
    rw [hL, hrow]
  have HL0 : Hid (L = row.length) := hL
  have hL65 : L ≤ 65 := by omega
  have HRW : Hid (row = proof) := hrow
  obtain ⟨V, hV⟩ : ∃ V, V = consEnd was root (consAll nodeB (odds (m - 1) (n - 1)) row) := ⟨_, rfl⟩
  rw [← hV]
  have HV : Hid (consEnd was root (consAll nodeB (odds (m - 1) (n - 1)) row) = V) := hV.symm
  have HP : Hid (proof.length ≤ 64) := h1
  obtain ⟨ad, cap, rfl, hx, hy⟩ := id h
  have h1' : (proof.length : Int) ≤ 64 := by omega
  have hml : proof.length ≤ 1048577 := by omega
  have h3' : (was.size : Int) = 32 := by omega
  have h4' : (root.size : Int) = 32 := by omega
  have hmnI : ¬ (m : Int) = (n : Int) := by omega
  have hmnB : ((m : Int) == (n : Int)) = false := beq_eq_false_iff_ne.2 hmnI
  clear hV h2 hx hy h h3 h4 hrow hpw hal hL hrl
  go_enter Tryd.func47, Tryd.ntmps47
  go_wp2_with fail
  refine HWD.out.mono ?_
  rintro e w0 ⟨rfl, rfl⟩
  clear HWD
  go_wp2_with (at_builtin; go_must (refine wp_app_texts rfl (.tmp 55) (.tmp 56) rfl w0.heap.size _ _ [] proof rfl hown0 rfl hT0 (by simp) hml hs0 ?_); intro v1 w1 hown1 hb1)
  refine (EP.out _).mono ?_
  rintro e w5 ⟨rfl, rfl⟩
  clear EP hown0 hT0 hs0
  rw [List.nil_append] at hown1
  obtain ⟨ar, cr, hvr⟩ := OwnT.len hown1
  rw [HLEN.out] at hvr
  subst hvr
  have H5 : Hid (Below w0.heap.size w0 w5) := HAL.out.trans hb1
  have hown5 := hown1
  clear hb1 hown1 HAL
  by_cases hL0 : L = 0
  · have HF : Hid (V = false) := by
      show _ = _
      rw [← HV.out]
      exact consEnd_all _ _ _ _ (by rw [← HL0.out]; exact hL0)
    subst hL0
    clear hown5
    go_wp2
    go_ret
    exact ⟨ret_bool HF.out.symm, H5.out⟩
  have hL1 : 1 ≤ L := by omega
  have hLI : ¬ (L : Int) = 0 := by omega
  have hLB : ((L : Int) == 0) = false := beq_eq_false_iff_ne.2 hLI
  have hownR : OwnT w5 w0.heap.size (.slice ar L cr) row := by
    rw [HRW.out]
    exact hown5
  obtain ⟨a', c', hv', hcap', hcR⟩ := hownR.texts.at
  obtain ⟨rfl, hLr, rfl⟩ : ar = a' ∧ L = row.length ∧ cr = c' := by simpa using hv'
  have HL : Hid (L = row.length) := hLr
  have hr0l : 0 < row.length := by omega
  obtain ⟨bb, off, rfl, hB, hc00⟩ := hcR 0 hr0l
  rw [Nat.add_zero] at hc00
  have HC : Hid (∀ j (hj : j < row.length), ∃ b o, (some ⟨bb, off, none⟩ : Option Addr) = some ⟨b, o, none⟩ ∧ b < w5.heap.size ∧ w5.cell? ⟨b, o + j, none⟩ = some (.string row[j])) := hcR
  have HR0' := HWI.out 0 hr0l
  obtain ⟨r0, hr0⟩ : ∃ r0, r0 = row[0] := ⟨_, rfl⟩
  have HROW : Hid (row = r0 :: row.drop 1) := by
    show _ = _
    rw [hr0]
    exact (List.drop_eq_getElem_cons hr0l).symm.trans (by rfl) |>.symm
  rw [← hr0] at hc00 HR0'
  have HR0 : Hid (r0.size ≤ 32) := Nat.le_of_eq HR0'
  clear hr0 HR0' hownR hown5 hcap' hcR hv' hLr hr0l HLEN HRW HL0
  go_wp2
  go_loop [12, 13] (fun x y => ∃ a b : Nat, x = .int .i64 a ∧ y = .int .i64 b ∧ a ≤ 9223372036854775807 ∧ b ≤ 9223372036854775807 ∧ odds a b = odds (m - 1) (n - 1)) (fun x _ => (RowKit.intOf x).toNat)
  case atStart => exact ⟨m - 1, n - 1, by go_num, by go_num, by omega, by omega, rfl⟩
  case round =>
    obtain ⟨a0, b0, rfl, rfl, ha0, hb0', ho0⟩ := hrel
    by_cases hod : a0 % 2 = 1
    · have HO : Hid (odds (a0 / 2) (b0 / 2) = odds (m - 1) (n - 1)) := by
        show _ = _
        rw [← ho0, odds_odd hod]
      have hodI : (a0 : Int) % 2 = 1 := by omega
      clear ho0
      go_wp2
      go_round
      case rel => exact ⟨a0 / 2, b0 / 2, by go_num, by go_num, by omega, by omega, HO.out⟩
      case measure => simp [RowKit.intOf]; omega
    · have HO : Hid (odds (m - 1) (n - 1) = (a0, b0)) := by
        show _ = _
        rw [← ho0, odds_even (by omega)]
      have hodI : ¬ (a0 : Int) % 2 = 1 := by omega
      have HV0 : Hid (consEnd was root (consRun nodeB (some (a0, b0, r0, r0)) (row.drop 1)) = V) := by
        show _ = _
        rw [← HV.out, HO.out]
        exact congrArg (consEnd was root) (consAll_first (a0, b0) HROW.out).symm
      clear ho0 HO HV
      go_wp2
      go_loopw [12, 13, 14, 15, 16] (fun x y s t i wr => ∃ (k a b : Nat) (d f : ByteArray), k ≤ L ∧ i = .int .i64 k ∧ x = .int .i64 a ∧ y = .int .i64 b ∧ a ≤ 9223372036854775807 ∧ b ≤ 9223372036854775807 ∧ s = .string d ∧ t = .string f ∧ d.size ≤ 32 ∧ f.size ≤ 32 ∧ consEnd was root (consRun nodeB (some (a, b, d, f)) (row.drop k)) = V ∧ Below w5.heap.size w5 wr) (fun _ _ _ _ i _ => L - (RowKit.intOf i).toNat)
      case atStart => exact ⟨1, a0, b0, r0, r0, by omega, rfl, rfl, rfl, ha0, hb0', rfl, rfl, HR0.out, HR0.out, HV0.out, Below.refl _ _⟩
      case round =>
        obtain ⟨k, a, b, d, f, hk, rfl, rfl, rfl, ha, hbb, rfl, rfl, hd, hf, hr, hb⟩ := hrel
        have H2 : Hid (Below w5.heap.size w5 wr) := hb
        clear hc00 HV0
        by_cases hkm : k < L
        · have hkl : k < row.length := by rw [← HL.out]; exact hkm
          obtain ⟨bb', off', hbo, _, hcell⟩ := HC.out k hkl
          obtain ⟨rfl, rfl⟩ : bb = bb' ∧ off = off' := by simp at hbo; exact hbo
          have hc : wr.cell? ⟨bb, off + k, none⟩ = some (.string row[k]) := (hb.cell (p := ⟨bb, off + k, none⟩) hB).trans hcell
          have hps := HWI.out k hkl
          rw [List.drop_eq_getElem_cons hkl, consRun_cons] at hr
          have hkmI : (k : Int) < (L : Int) := by omega
          obtain ⟨p, hp⟩ : ∃ p, p = row[k] := ⟨_, rfl⟩
          rw [← hp] at hc hps hr hcell
          have HC0 : Hid (w5.cell? ⟨bb, off + k, none⟩ = some (.string p)) := hcell
          clear hp hb hcell HC hbo
          have HSZ : Hid ((nodeB p d).size ≤ 32 ∧ (nodeB p f).size ≤ 32 ∧ (nodeB f p).size ≤ 32) := ⟨by rw [nodeB_size]; omega, by rw [nodeB_size]; omega, by rw [nodeB_size]; omega⟩
          by_cases hb0 : b = 0
          · subst hb0
            have HF : Hid (V = false) := by
              show _ = _
              rw [← hr]
              simp only [consStep, if_true]
              rw [cons_none]
              rfl
            clear hr
            go_wp2
            go_ret
            exact ⟨ret_bool HF.out.symm, H5.out.trans (H2.out.mono H5.out.size)⟩
          · have hb0I : ¬ (b : Int) = 0 := by omega
            by_cases hodd : a % 2 = 1 ∨ a = b
            · have HR : Hid (consEnd was root (consRun nodeB (some ((evens a b).1 / 2, (evens a b).2 / 2, nodeB p d, nodeB p f)) (row.drop (k + 1))) = V) := by
                have h := hr
                simp only [consStep, if_neg hb0, if_pos hodd] at h
                exact h
              clear hr
              by_cases ho1 : (a : Int) % 2 = 1
              · go_wp2_with fail
                refine (E.out p d _ (by omega) (by omega)).mono ?_
                rintro e w1 ⟨rfl, hb1⟩
                have H3 : Hid (Below w5.heap.size w5 w1) := H2.out.trans (hb1.mono H2.out.size)
                have hc1 : w1.cell? ⟨bb, off + k, none⟩ = some (.string p) := (H3.out.cell (p := ⟨bb, off + k, none⟩) hB).trans HC0.out
                clear hb1
                go_wp2_with fail
                refine (E.out p f _ (by omega) (by omega)).mono ?_
                rintro e w2 ⟨rfl, hb2⟩
                have H3 : Hid (Below w5.heap.size w5 w2) := H3.out.trans (hb2.mono H3.out.size)
                clear hb2 hc1
                go_wp2
                go_loop [12, 13] (fun x y => ∃ a' b' : Nat, x = .int .i64 a' ∧ y = .int .i64 b' ∧ a' ≤ 9223372036854775807 ∧ b' ≤ 9223372036854775807 ∧ evens a' b' = evens a b) (fun x _ => (RowKit.intOf x).toNat)
                case atStart => exact ⟨a, b, rfl, rfl, ha, hbb, rfl⟩
                case round =>
                  obtain ⟨a', b', rfl, rfl, ha', hb', hev⟩ := hrel
                  have HEV : Hid (evens a' b' = evens a b) := hev
                  clear hev
                  by_cases hz : a' % 2 = 0 ∧ 0 < a'
                  · obtain ⟨hz1, hz2⟩ := hz
                    have hz1I : (a' : Int) % 2 = 0 := by omega
                    have hz2I : 0 < (a' : Int) := by omega
                    have HE2 : Hid (evens (a' / 2) (b' / 2) = evens a b) := by
                      show _ = _
                      rw [← HEV.out, evens_eq a' b', dif_pos ⟨hz1, hz2⟩]
                    go_wp2
                    go_round
                    case rel => exact ⟨a' / 2, b' / 2, by go_num, by go_num, by omega, by omega, HE2.out⟩
                    case measure => simp [RowKit.intOf]; omega
                  · have HE3 : Hid ((evens a b).1 = a' ∧ (evens a b).2 = b') := by
                      have h := HEV.out
                      rw [evens_eq a' b', dif_neg hz] at h
                      exact ⟨by rw [← h], by rw [← h]⟩
                    have HR2 : Hid (consEnd was root (consRun nodeB (some (a' / 2, b' / 2, nodeB p d, nodeB p f)) (row.drop (k + 1))) = V) := by
                      have h := HR.out
                      rw [HE3.out.1, HE3.out.2] at h
                      exact h
                    clear HR HE3 HEV
                    by_cases hz1 : (a' : Int) % 2 = 0
                    · have hz2 : ¬ 0 < (a' : Int) := by omega
                      go_wp2
                      go_roundw
                      case rel => exact ⟨k + 1, a' / 2, b' / 2, nodeB p d, nodeB p f, by omega, by go_num, by go_num, by go_num, by omega, by omega, rfl, rfl, HSZ.out.1, HSZ.out.2.1, HR2.out, H3.out⟩
                      case measure => simp [RowKit.intOf]; omega
                    · go_wp2
                      go_roundw
                      case rel => exact ⟨k + 1, a' / 2, b' / 2, nodeB p d, nodeB p f, by omega, by go_num, by go_num, by go_num, by omega, by omega, rfl, rfl, HSZ.out.1, HSZ.out.2.1, HR2.out, H3.out⟩
                      case measure => simp [RowKit.intOf]; omega
              · have hab : a = b := by omega
                subst hab
                go_wp2_with fail
                refine (E.out p d _ (by omega) (by omega)).mono ?_
                rintro e w1 ⟨rfl, hb1⟩
                have H3 : Hid (Below w5.heap.size w5 w1) := H2.out.trans (hb1.mono H2.out.size)
                have hc1 : w1.cell? ⟨bb, off + k, none⟩ = some (.string p) := (H3.out.cell (p := ⟨bb, off + k, none⟩) hB).trans HC0.out
                clear hb1
                go_wp2_with fail
                refine (E.out p f _ (by omega) (by omega)).mono ?_
                rintro e w2 ⟨rfl, hb2⟩
                have H3 : Hid (Below w5.heap.size w5 w2) := H3.out.trans (hb2.mono H3.out.size)
                clear hb2 hc1
                go_wp2
                go_loop [12, 13] (fun x y => ∃ a' b' : Nat, x = .int .i64 a' ∧ y = .int .i64 b' ∧ a' ≤ 9223372036854775807 ∧ b' ≤ 9223372036854775807 ∧ evens a' b' = evens a a) (fun x _ => (RowKit.intOf x).toNat)
                case atStart => exact ⟨a, a, rfl, rfl, ha, ha, rfl⟩
                case round =>
                  obtain ⟨a', b', rfl, rfl, ha', hb', hev⟩ := hrel
                  have HEV : Hid (evens a' b' = evens a a) := hev
                  clear hev
                  by_cases hz : a' % 2 = 0 ∧ 0 < a'
                  · obtain ⟨hz1, hz2⟩ := hz
                    have hz1I : (a' : Int) % 2 = 0 := by omega
                    have hz2I : 0 < (a' : Int) := by omega
                    have HE2 : Hid (evens (a' / 2) (b' / 2) = evens a a) := by
                      show _ = _
                      rw [← HEV.out, evens_eq a' b', dif_pos ⟨hz1, hz2⟩]
                    go_wp2
                    go_round
                    case rel => exact ⟨a' / 2, b' / 2, by go_num, by go_num, by omega, by omega, HE2.out⟩
                    case measure => simp [RowKit.intOf]; omega
                  · have HE3 : Hid ((evens a a).1 = a' ∧ (evens a a).2 = b') := by
                      have h := HEV.out
                      rw [evens_eq a' b', dif_neg hz] at h
                      exact ⟨by rw [← h], by rw [← h]⟩
                    have HR2 : Hid (consEnd was root (consRun nodeB (some (a' / 2, b' / 2, nodeB p d, nodeB p f)) (row.drop (k + 1))) = V) := by
                      have h := HR.out
                      rw [HE3.out.1, HE3.out.2] at h
                      exact h
                    clear HR HE3 HEV
                    by_cases hz1 : (a' : Int) % 2 = 0
                    · have hz2 : ¬ 0 < (a' : Int) := by omega
                      go_wp2
                      go_roundw
                      case rel => exact ⟨k + 1, a' / 2, b' / 2, nodeB p d, nodeB p f, by omega, by go_num, by go_num, by go_num, by omega, by omega, rfl, rfl, HSZ.out.1, HSZ.out.2.1, HR2.out, H3.out⟩
                      case measure => simp [RowKit.intOf]; omega
                    · go_wp2
                      go_roundw
                      case rel => exact ⟨k + 1, a' / 2, b' / 2, nodeB p d, nodeB p f, by omega, by go_num, by go_num, by go_num, by omega, by omega, rfl, rfl, HSZ.out.1, HSZ.out.2.1, HR2.out, H3.out⟩
                      case measure => simp [RowKit.intOf]; omega
            · have HR : Hid (consEnd was root (consRun nodeB (some (a / 2, b / 2, d, nodeB f p)) (row.drop (k + 1))) = V) := by
                have h := hr
                simp only [consStep, if_neg hb0, if_neg hodd] at h
                exact h
              have ho1 : (a : Int) % 2 = 0 := by omega
              have ho2 : ¬ (a : Int) = (b : Int) := by omega
              have ho3 : ¬ a = b := by omega
              have ho4 : ((a : Int) == (b : Int)) = false := by simpa using ho2
              clear hr
              go_wp2_with fail
              refine (E.out f p _ (by omega) (by omega)).mono ?_
              rintro e w1 ⟨rfl, hb1⟩
              have H3 : Hid (Below w5.heap.size w5 w1) := H2.out.trans (hb1.mono H2.out.size)
              clear hb1
              go_wp2
              go_roundw
              case rel => exact ⟨k + 1, a / 2, b / 2, d, nodeB f p, by omega, by go_num, by go_num, by go_num, by omega, by omega, rfl, rfl, hd, HSZ.out.2.2, HR.out, H3.out⟩
              case measure => simp [RowKit.intOf]; omega
        · have hdr : row.drop k = [] := List.drop_eq_nil_of_le (by rw [← HL.out]; omega)
          rw [hdr] at hr
          have HR : Hid ((decide (b = 0) && (d.toList == was.toList) && (f.toList == root.toList)) = V) := hr
          have hkmI : ¬ (k : Int) < (L : Int) := by omega
          clear hr hdr hb HC
          by_cases hb0 : (b : Int) = 0
          · by_cases q1 : d.toList = was.toList
            · have HR2 : Hid ((f.toList == root.toList) = V) := by
                have h := HR.out
                rw [decide_eq_true (show b = 0 by omega), Bool.true_and, q1] at h
                have h2 : (f.toList == root.toList) = V := by simpa using h
                exact h2
              go_wp2
              go_ret
              exact ⟨ret_bool HR2.out, H5.out.trans (H2.out.mono H5.out.size)⟩
            · have HF : Hid (V = false) := by
                have h := HR.out
                rw [beq_eq_false_iff_ne.2 q1, Bool.and_false, Bool.false_and] at h
                exact h.symm
              go_wp2
              go_ret
              exact ⟨ret_bool HF.out.symm, H5.out.trans (H2.out.mono H5.out.size)⟩
          · have HF : Hid (V = false) := by
              have h := HR.out
              rw [decide_eq_false (show ¬ b = 0 by omega), Bool.false_and, Bool.false_and] at h
              exact h.symm
            go_wp2
            go_ret
            exact ⟨ret_bool HF.out.symm, H5.out.trans (H2.out.mono H5.out.size)⟩
end Go.Proofs.YtchlopmmhcobdaaDoor

/-
  The document's Consistent, whatever it is given.
-/
namespace Go.Proofs.YtchlopmmhcobdaaDoor
open Go.RowKit Go.Lib
set_option linter.unusedVariables false

set_option maxHeartbeats 1000000 in
theorem specCons_any (was root : ByteArray) (i n : Int) (v : Value) (path : List ByteArray) (w : World) (h : Texts w w.heap.size v path) (hl : path.length ≤ 1048576) (hi0 : -9223372036854775808 ≤ i) (hi1 : i ≤ 9223372036854775807) (hn0 : -9223372036854775808 ≤ n) (hn1 : n ≤ 9223372036854775807) (hz1 : was.size ≤ 1048576) (hz2 : root.size ≤ 1048576) :
    Calls Tryd.prog 47 #[.int .i64 i, .int .i64 n, v, .string was, .string root] w fun e w' => e = .returned (.bool (consB i n path was root)) ∧ Below w.heap.size w w' := by
  have E : Hid (Calls Tryd.prog 93 #[v] w fun e w' => e = .returned (.bool (wideB path)) ∧ w' = w) := wide_any v path w w.heap.size h hl
  by_cases c1 : (64 : Int) < (path.length : Int)
  · rw [consB_no (.inl c1)]
    obtain ⟨a, cap, rfl, hx, hy⟩ := h
    clear hx hy E
    generalize path.length = m at *
    go_enter Tryd.func47, Tryd.ntmps47
    go_wp2_with fail
    go_ret
    exact ⟨rfl, Below.refl _ _⟩
  by_cases c2 : wideB path = true
  · by_cases c3 : (was.size : Int) = 32
    · by_cases c4 : (root.size : Int) = 32
      · by_cases c5 : i < 1
        · rw [consB_no (.inr (.inr (.inr (.inr (.inl c5)))))]
          rw [c2] at E
          obtain ⟨a, cap, rfl, hx, hy⟩ := h
          clear hx hy c2
          generalize path.length = m at *
          go_enter Tryd.func47, Tryd.ntmps47
          go_wp2_with fail
          refine E.out.mono ?_
          rintro e w1 ⟨rfl, rfl⟩
          clear E
          go_wp2
          go_ret
          exact ⟨rfl, Below.refl _ _⟩
        · by_cases c6 : n < i
          · rw [consB_no (.inr (.inr (.inr (.inr (.inr c6)))))]
            rw [c2] at E
            obtain ⟨a, cap, rfl, hx, hy⟩ := h
            clear hx hy c2
            generalize path.length = m at *
            go_enter Tryd.func47, Tryd.ntmps47
            go_wp2_with fail
            refine E.out.mono ?_
            rintro e w1 ⟨rfl, rfl⟩
            clear E
            go_wp2
            go_ret
            exact ⟨rfl, Below.refl _ _⟩
          · rw [consB_yes (by omega) c2 c3 c4 (by omega) (by omega)]
            obtain ⟨m, rfl⟩ := Int.eq_ofNat_of_zero_le (show 0 ≤ i by omega)
            obtain ⟨k, rfl⟩ := Int.eq_ofNat_of_zero_le (show 0 ≤ n by omega)
            rw [Int.toNat_natCast, Int.toNat_natCast]
            by_cases hmk : m = k
            · subst hmk
              rw [c2] at E
              unfold consY
              rw [if_pos rfl]
              obtain ⟨a, cap, rfl, hx, hy⟩ := h
              clear hx hy c2
              generalize path.length = L at *
              by_cases hL0 : L = 0
              · subst hL0
                go_enter Tryd.func47, Tryd.ntmps47
                go_wp2_with fail
                refine E.out.mono ?_
                rintro e w1 ⟨rfl, rfl⟩
                clear E
                go_wp2
                go_ret
                exact ⟨ret_bool (by simp), Below.refl _ _⟩
              · have hLB : ((L : Int) == 0) = false := beq_eq_false_iff_ne.2 (by omega)
                have hLI : ¬ (L : Int) = 0 := by omega
                have HF : Hid ((decide (L = 0) && (was.toList == root.toList)) = false) := by
                  show _ = _
                  rw [decide_eq_false hL0, Bool.false_and]
                go_enter Tryd.func47, Tryd.ntmps47
                go_wp2_with fail
                refine E.out.mono ?_
                rintro e w1 ⟨rfl, rfl⟩
                clear E
                go_wp2
                go_ret
                exact ⟨ret_bool HF.out.symm, Below.refl _ _⟩
            · unfold consY
              rw [if_neg hmk]
              unfold rowB
              by_cases hp : powB m = true
              · rw [if_pos hp]
                exact specCons_pow was root m k v path w h (by omega) c2 (by omega) (by omega) (by omega) (by omega) (by omega) hp
              · rw [if_neg hp]
                exact specCons_not was root m k v path w h (by omega) c2 (by omega) (by omega) (by omega) (by omega) (by omega) (by simpa using hp)
      · rw [consB_no (.inr (.inr (.inr (.inl c4))))]
        rw [c2] at E
        obtain ⟨a, cap, rfl, hx, hy⟩ := h
        clear hx hy c2
        generalize path.length = m at *
        go_enter Tryd.func47, Tryd.ntmps47
        go_wp2_with fail
        refine E.out.mono ?_
        rintro e w1 ⟨rfl, rfl⟩
        clear E
        go_wp2
        go_ret
        exact ⟨rfl, Below.refl _ _⟩
    · rw [consB_no (.inr (.inr (.inl c3)))]
      rw [c2] at E
      obtain ⟨a, cap, rfl, hx, hy⟩ := h
      clear hx hy c2
      generalize path.length = m at *
      go_enter Tryd.func47, Tryd.ntmps47
      go_wp2_with fail
      refine E.out.mono ?_
      rintro e w1 ⟨rfl, rfl⟩
      clear E
      go_wp2
      go_ret
      exact ⟨rfl, Below.refl _ _⟩
  · have c2' : wideB path = false := by simpa using c2
    rw [consB_no (.inr (.inl c2'))]
    rw [c2'] at E
    obtain ⟨a, cap, rfl, hx, hy⟩ := h
    clear hx hy c2 c2'
    generalize path.length = m at *
    go_enter Tryd.func47, Tryd.ntmps47
    go_wp2_with fail
    refine E.out.mono ?_
    rintro e w1 ⟨rfl, rfl⟩
    clear E
    go_wp2
    go_ret
    exact ⟨rfl, Below.refl _ _⟩
end Go.Proofs.YtchlopmmhcobdaaDoor
