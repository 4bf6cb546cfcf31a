/-
  The document's tree of right entries; whether entries are right.
-/
import Derived.Test.YtpglcbidfghfkabGreatDoorPkSpecMac
import Derived.Test.YtpglcbidfghfkabGreatDoorPkSpecHalf
import Derived.Test.YtpglcbidfghfkabGreatDoorPkStepLaws
import Derived.Test.YtpglcbidfghfkabGreatDoorPkCells
import Derived.Deep.RegionWith
namespace Go.Proofs.YtpglcbidfghfkabGreatDoor
open Go.RowKit Go.Lib
set_option linter.unusedVariables false

set_option maxHeartbeats 4000000 in
set_option maxRecDepth 10000 in
theorem specTree_any (n : Nat) : ∀ (l : List ByteArray), l.length = n → n ≤ 1048576 → (∀ j (hj : j < l.length), l[j].size ≤ 100) → ∀ (v : Value) (w : World), Texts w w.heap.size v l →
    Calls Tryz.prog 55 #[v] w fun e w' => e = .returned (.string (treeB l)) ∧ Below w.heap.size w w' := by
  induction n using Nat.strongRecOn with
  | ind n ih =>
    intro l hn hl hz v w h
    by_cases h0 : n = 0
    · subst h0
      have E : Hid (Calls Tryz.prog 83 #[.string ByteArray.empty] w fun e w' => e = .returned (.string noneB) ∧ Below w.heap.size w w') := all_any ByteArray.empty w (by show 0 ≤ 50000; omega)
      rw [treeB_none hn]
      obtain ⟨a, cap, rfl, _, _⟩ := h
      rw [hn]
      generalize noneB = D at *
      unfold ByteArray.empty ByteArray.emptyWithCapacity at E
      clear ih hn hl hz
      go_enter Tryz.func55, Tryz.ntmps55
      go_wp2_with fail
      refine E.out.mono ?_
      rintro e w1 ⟨rfl, hb⟩
      have HB : Hid (Below w.heap.size w w1) := hb
      clear hb
      go_wp2
      go_ret
      exact ⟨rfl, HB.out⟩
    by_cases h1 : n = 1
    · subst h1
      obtain ⟨a, cap, rfl, hcap, hc⟩ := h.at
      obtain ⟨b, off, rfl, hB, hc0⟩ := hc 0 (by omega)
      rw [Nat.add_zero] at hc0
      have E : Hid (Calls Tryz.prog 84 #[.string l[0]] w fun e w' => e = .returned (.string (leafB l[0])) ∧ Below w.heap.size w w') := leaf_any l[0] w (by have := hz 0 (by omega); omega)
      rw [treeB_one hn (by omega)]
      clear ih hl hz hc h hcap
      generalize leafB l[0] = D at *
      generalize l[0] = t at *
      rw [hn]
      go_enter Tryz.func55, Tryz.ntmps55
      go_wp2_with fail
      refine E.out.mono ?_
      rintro e w1 ⟨rfl, hb⟩
      have HB : Hid (Below w.heap.size w w1) := hb
      clear hb
      go_wp2
      go_ret
      exact ⟨rfl, HB.out⟩
    have hl2 : 2 ≤ l.length := by omega
    obtain ⟨e, he, hk1, hk2⟩ := half_spec hl2
    have hp := Nat.two_pow_pos e
    rw [treeB_more hl2, hn]
    rw [hn] at hk1 hk2 he
    have EH : Hid (Calls Tryz.prog 85 #[.int .i64 n] w fun e w' => e = .returned (.int .i64 (half n)) ∧ w' = w) := half_any n w (by omega)
    obtain ⟨k, hk⟩ : ∃ k, k = half n := ⟨_, rfl⟩
    rw [← hk] at hk1 hk2 he EH ⊢
    obtain ⟨v1, hs1, ht1⟩ := slice_h h k (by omega) (k : Int) rfl
    obtain ⟨v2, hs2, ht2⟩ := slice_l h k (by omega) (k : Int) rfl
    have E1 : Hid (∀ w', Below w.heap.size w w' → Calls Tryz.prog 55 #[v1] w' fun e w'' => e = .returned (.string (treeB (l.take k))) ∧ Below w.heap.size w w'') := by
      intro w' hb
      have hlen : (l.take k).length = k := by rw [List.length_take]; omega
      refine (ih k (by omega) (l.take k) hlen (by omega) (fun j hj => ?_) v1 w' ((ht1.below hb).up hb.size)).mono ?_
      · rw [List.getElem_take]; exact hz _ _
      · rintro e w'' ⟨rfl, hb2⟩
        exact ⟨rfl, hb.trans (hb2.mono hb.size)⟩
    have E2 : Hid (∀ w', Below w.heap.size w w' → Calls Tryz.prog 55 #[v2] w' fun e w'' => e = .returned (.string (treeB (l.drop k))) ∧ Below w.heap.size w w'') := by
      intro w' hb
      have hlen : (l.drop k).length = n - k := by rw [List.length_drop]; omega
      refine (ih (n - k) (by omega) (l.drop k) hlen (by omega) (fun j hj => ?_) v2 w' ((ht2.below hb).up hb.size)).mono ?_
      · rw [List.getElem_drop]; exact hz _ _
      · rintro e w'' ⟨rfl, hb2⟩
        exact ⟨rfl, hb.trans (hb2.mono hb.size)⟩
    have E3 : Hid (∀ w', Below w.heap.size w w' → Calls Tryz.prog 86 #[.string (treeB (l.take k)), .string (treeB (l.drop k))] w' fun e w'' => e = .returned (.string (nodeB (treeB (l.take k)) (treeB (l.drop k)))) ∧ Below w.heap.size w w'') := by
      intro w' hb
      refine (node_any _ _ w' (by rw [treeB_size]; omega) (by rw [treeB_size]; omega)).mono ?_
      rintro e w'' ⟨rfl, hb2⟩
      exact ⟨rfl, hb.trans (hb2.mono hb.size)⟩
    generalize nodeB (treeB (l.take k)) (treeB (l.drop k)) = T at *
    generalize treeB (l.take k) = t1 at *
    generalize treeB (l.drop k) = t2 at *
    obtain ⟨a, cap, rfl, hcap, hc⟩ := h.at
    have hn0 : ((n : Int) == 0) = false := beq_eq_false_iff_ne.2 (by omega)
    have hn1 : ((n : Int) == 1) = false := beq_eq_false_iff_ne.2 (by omega)
    have hn0' : ¬ (n : Int) = 0 := by omega
    have hn1' : ¬ (n : Int) = 1 := by omega
    rw [hn] at hs1 hs2 ⊢
    clear ih hz hc h ht1 ht2 hk he hp h0 h1 hl2 hcap
    go_enter Tryz.func55, Tryz.ntmps55
    go_wp2_with fail
    refine EH.out.mono ?_
    rintro e w1 ⟨rfl, rfl⟩
    clear EH
    have HA : Hid (Below w1.heap.size w1 w1) := Below.refl _ _
    go_wp2_with fail
    go_region_with (first
      | (go_at_call 55; ((with_reducible refine (E1.out _ ?_).mono ?_); (first | exact HA.out | exact below_drew' HA.out | exact below_drew' (below_drew' HA.out)); rintro e wa ⟨rfl, hba⟩; have HA : Hid (Below w1.heap.size w1 wa) := hba; clear hba))
      | (go_at_call 55; (with_reducible refine (E2.out _ ?_).mono ?_); (first | exact HA.out | exact below_drew' HA.out | exact below_drew' (below_drew' HA.out)); rintro e wa ⟨rfl, hba⟩; have HA : Hid (Below w1.heap.size w1 wa) := hba; clear hba)
      | (go_at_call 86; (with_reducible refine (E3.out _ ?_).mono ?_); (first | exact HA.out | exact below_drew' HA.out | exact below_drew' (below_drew' HA.out)); rintro e wa ⟨rfl, hba⟩; have HA : Hid (Below w1.heap.size w1 wa) := hba; clear hba))
    all_goals
      go_wp2
      go_ret
      exact ⟨rfl, HA.out⟩
theorem part_small {l : List ByteArray} {n : Nat} (hz : ∀ j (hj : j < l.length), l[j].size ≤ n) (k : Nat) : (∀ j (hj : j < (l.take k).length), (l.take k)[j].size ≤ n) ∧ (∀ j (hj : j < (l.drop k).length), (l.drop k)[j].size ≤ n) :=
  ⟨fun j hj => by rw [List.getElem_take]; exact hz _ _, fun j hj => by rw [List.getElem_drop]; exact hz _ _⟩
end Go.Proofs.YtpglcbidfghfkabGreatDoor
