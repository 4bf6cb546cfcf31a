/-
  The document's steps, the beginning of a chain, the public texts of a seed's keys.
-/
import Derived.Test.YtbngflmebdchlaaGreatDoorPkCells
import Derived.Test.YtbngflmebdchlaaGreatDoorPkSpecMac
import Derived.Test.YtbngflmebdchlaaGreatDoorPkTextRows
import Derived.Test.YtbngflmebdchlaaGreatDoorPkSpecHalf
import Derived.Test.YtbngflmebdchlaaGreatDoorPkStepLaws
import Derived.Laws.Concat
import Derived.Deep.RegionWith
namespace Go.Proofs.YtbngflmebdchlaaGreatDoor
open Go.RowKit Go.Lib
set_option linter.unusedVariables false
set_option linter.unusedSimpArgs false

set_option maxHeartbeats 1000000 in
set_option maxRecDepth 10000 in
theorem specSteps_any (t : ByteArray) (n : Nat) (w : World) (ht : t.size = 32) (hn : n ≤ 15) :
    Calls Tryz.prog 113 #[.string t, .int .i64 n] w fun e w' => e = .returned (.string (stepsB n t)) ∧ Below w.heap.size w w' := by
  have EA : Hid (∀ s w, s.size = 32 → Calls Tryz.prog 107 #[.string s] w fun e w' => e = .returned (.string (shaB s)) ∧ Below w.heap.size w w') := fun s w hs => all_any s w (by omega)
  obtain ⟨V, hV⟩ : ∃ V, V = stepsB n t := ⟨_, rfl⟩
  rw [← hV]
  have HV : Hid (stepsB n t = V) := hV.symm
  clear hV
  go_enter Tryz.func113, Tryz.ntmps113
  go_wp2
  go_loopw [0, 1] (fun a x wr => ∃ (k : Nat) (s : ByteArray), x = .int .i64 k ∧ k ≤ 15 ∧ a = .string s ∧ s.size = 32 ∧ stepsB k s = V ∧ Below w.heap.size w wr) (fun _ x _ => (intOf x).toNat)
  case atStart => exact ⟨n, t, rfl, hn, rfl, ht, HV.out, Below.refl _ _⟩
  case round =>
    obtain ⟨k, s, rfl, hk, rfl, hs, hst, hb⟩ := hrel
    have HB : Hid (Below w.heap.size w wr) := hb
    by_cases h0 : 0 < k
    · have E := fun w => EA.out s w hs
      have HE : Hid (∀ w, Calls Tryz.prog 107 #[.string s] w fun e w' => e = .returned (.string (shaB s)) ∧ Below w.heap.size w w') := E
      have HS : Hid (stepsB (k - 1) (shaB s) = V) := by
        show _ = _
        rw [stepsB_sha, show k - 1 + 1 = k by omega]
        exact hst
      have hsz : Hid ((shaB s).size = 32) := shaB_size s
      generalize shaB s = s1 at *
      have hkI : (0 : Int) < (k : Int) := by omega
      have hc1 : Hid ((k : Int) - 1 = ((k - 1 : Nat) : Int)) := by show _ = _; omega
      clear hb hst E EA HV ht hn
      go_wp2_with fail
      refine (HE.out _).mono ?_
      rintro e w1 ⟨rfl, hb1⟩
      have HB1 : Hid (Below w.heap.size w w1) := HB.out.trans (hb1.mono HB.out.size)
      clear hb1 HE
      go_wp2
      go_roundw
      case rel => exact ⟨k - 1, s1, by rw [← hc1.out], by omega, rfl, hsz.out, HS.out, HB1.out⟩
      case measure => simp [intOf]; omega
    · have e0 : k = 0 := by omega
      have HS : Hid (s = V) := by
        rw [e0] at hst
        exact hst
      have hkI : ¬ (0 : Int) < (k : Int) := by omega
      clear hb hst EA HV ht hn e0
      go_wp2
      go_ret
      exact ⟨ret_str HS.out, HB.out⟩

set_option maxHeartbeats 1000000 in
set_option maxRecDepth 10000 in
theorem specBegin_any (s : ByteArray) (i j : Int) (w : World) (hs : s.size ≤ 64) (hi0 : 0 ≤ i) (hi1 : i ≤ 10) (hj0 : 0 ≤ j) (hj1 : j ≤ 10) :
    Calls Tryz.prog 114 #[.string s, .int .i64 i, .int .i64 j] w fun e w' => e = .returned (.string (beginB s i j)) ∧ Below w.heap.size w w' := by
  have E1 : Hid (∀ w, Calls Tryz.prog 76 #[.int .i64 i] w fun e w' => e = .returned (.string (numB i)) ∧ Below w.heap.size w w') := fun w => specPutNum_any i w (by omega) (by omega)
  have E2 : Hid (∀ w, Calls Tryz.prog 76 #[.int .i64 j] w fun e w' => e = .returned (.string (numB j)) ∧ Below w.heap.size w w') := fun w => specPutNum_any j w (by omega) (by omega)
  have z1 := numB_size i
  have z2 := numB_size j
  have E3 : Hid (∀ w, Calls Tryz.prog 149 #[.string s, .string (numB i ++ numB j)] w fun e w' => e = .returned (.string (beginB s i j)) ∧ Below w.heap.size w w') := fun w => specMacB s _ w (by omega) (by rw [ByteArray.size_append]; omega)
  generalize beginB s i j = V at *
  generalize numB i = A at *
  generalize numB j = B at *
  clear hi0 hi1 hj0 hj1 hs
  go_enter Tryz.func114, Tryz.ntmps114
  go_wp2_with fail
  refine (E1.out _).mono ?_
  rintro e w1 ⟨rfl, hb1⟩
  have H1 : Hid (Below w.heap.size w w1) := hb1
  clear hb1
  go_wp2_with fail
  refine (E2.out _).mono ?_
  rintro e w2 ⟨rfl, hb2⟩
  have H2 : Hid (Below w.heap.size w w2) := H1.out.trans (hb2.mono H1.out.size)
  clear hb2 H1
  go_wp2_with fail
  refine (E3.out _).mono ?_
  rintro e w3 ⟨rfl, hb3⟩
  have H3 : Hid (Below w.heap.size w w3) := H2.out.trans (hb3.mono H2.out.size)
  clear hb3 H2
  go_wp2
  go_ret
  exact ⟨rfl, H3.out⟩
end Go.Proofs.YtbngflmebdchlaaGreatDoor

/-
  The document's tree of right entries; whether entries are right.
-/
namespace Go.Proofs.YtbngflmebdchlaaGreatDoor
open Go.RowKit Go.Lib
set_option linter.unusedVariables false

set_option maxHeartbeats 4000000 in
set_option maxRecDepth 10000 in
theorem specTree_any (n : Nat) : ∀ (l : List ByteArray), l.length = n → n ≤ 1048576 → (∀ j (hj : j < l.length), l[j].size ≤ 100) → ∀ (v : Value) (w : World), Texts w w.heap.size v l →
    Calls Tryz.prog 56 #[v] w fun e w' => e = .returned (.string (treeB l)) ∧ Below w.heap.size w w' := by
  induction n using Nat.strongRecOn with
  | ind n ih =>
    intro l hn hl hz v w h
    by_cases h0 : n = 0
    · subst h0
      have E : Hid (Calls Tryz.prog 107 #[.string ByteArray.empty] w fun e w' => e = .returned (.string noneB) ∧ Below w.heap.size w w') := all_any ByteArray.empty w (by show 0 ≤ 50000; omega)
      rw [treeB_none hn]
      obtain ⟨a, cap, rfl, _, _⟩ := h
      rw [hn]
      generalize noneB = D at *
      unfold ByteArray.empty ByteArray.emptyWithCapacity at E
      clear ih hn hl hz
      go_enter Tryz.func56, Tryz.ntmps56
      go_wp2_with fail
      refine E.out.mono ?_
      rintro e w1 ⟨rfl, hb⟩
      have HB : Hid (Below w.heap.size w w1) := hb
      clear hb
      go_wp2
      go_ret
      exact ⟨rfl, HB.out⟩
    by_cases h1 : n = 1
    · subst h1
      obtain ⟨a, cap, rfl, hcap, hc⟩ := h.at
      obtain ⟨b, off, rfl, hB, hc0⟩ := hc 0 (by omega)
      rw [Nat.add_zero] at hc0
      have E : Hid (Calls Tryz.prog 108 #[.string l[0]] w fun e w' => e = .returned (.string (leafB l[0])) ∧ Below w.heap.size w w') := leaf_any l[0] w (by have := hz 0 (by omega); omega)
      rw [treeB_one hn (by omega)]
      clear ih hl hz hc h hcap
      generalize leafB l[0] = D at *
      generalize l[0] = t at *
      rw [hn]
      go_enter Tryz.func56, Tryz.ntmps56
      go_wp2_with fail
      refine E.out.mono ?_
      rintro e w1 ⟨rfl, hb⟩
      have HB : Hid (Below w.heap.size w w1) := hb
      clear hb
      go_wp2
      go_ret
      exact ⟨rfl, HB.out⟩
    have hl2 : 2 ≤ l.length := by omega
    obtain ⟨e, he, hk1, hk2⟩ := half_spec hl2
    have hp := Nat.two_pow_pos e
    rw [treeB_more hl2, hn]
    rw [hn] at hk1 hk2 he
    have EH : Hid (Calls Tryz.prog 109 #[.int .i64 n] w fun e w' => e = .returned (.int .i64 (half n)) ∧ w' = w) := half_any n w (by omega)
    obtain ⟨k, hk⟩ : ∃ k, k = half n := ⟨_, rfl⟩
    rw [← hk] at hk1 hk2 he EH ⊢
    obtain ⟨v1, hs1, ht1⟩ := slice_h h k (by omega) (k : Int) rfl
    obtain ⟨v2, hs2, ht2⟩ := slice_l h k (by omega) (k : Int) rfl
    have E1 : Hid (∀ w', Below w.heap.size w w' → Calls Tryz.prog 56 #[v1] w' fun e w'' => e = .returned (.string (treeB (l.take k))) ∧ Below w.heap.size w w'') := by
      intro w' hb
      have hlen : (l.take k).length = k := by rw [List.length_take]; omega
      refine (ih k (by omega) (l.take k) hlen (by omega) (fun j hj => ?_) v1 w' ((ht1.below hb).up hb.size)).mono ?_
      · rw [List.getElem_take]; exact hz _ _
      · rintro e w'' ⟨rfl, hb2⟩
        exact ⟨rfl, hb.trans (hb2.mono hb.size)⟩
    have E2 : Hid (∀ w', Below w.heap.size w w' → Calls Tryz.prog 56 #[v2] w' fun e w'' => e = .returned (.string (treeB (l.drop k))) ∧ Below w.heap.size w w'') := by
      intro w' hb
      have hlen : (l.drop k).length = n - k := by rw [List.length_drop]; omega
      refine (ih (n - k) (by omega) (l.drop k) hlen (by omega) (fun j hj => ?_) v2 w' ((ht2.below hb).up hb.size)).mono ?_
      · rw [List.getElem_drop]; exact hz _ _
      · rintro e w'' ⟨rfl, hb2⟩
        exact ⟨rfl, hb.trans (hb2.mono hb.size)⟩
    have E3 : Hid (∀ w', Below w.heap.size w w' → Calls Tryz.prog 110 #[.string (treeB (l.take k)), .string (treeB (l.drop k))] w' fun e w'' => e = .returned (.string (nodeB (treeB (l.take k)) (treeB (l.drop k)))) ∧ Below w.heap.size w w'') := by
      intro w' hb
      refine (node_any _ _ w' (by rw [treeB_size]; omega) (by rw [treeB_size]; omega)).mono ?_
      rintro e w'' ⟨rfl, hb2⟩
      exact ⟨rfl, hb.trans (hb2.mono hb.size)⟩
    generalize nodeB (treeB (l.take k)) (treeB (l.drop k)) = T at *
    generalize treeB (l.take k) = t1 at *
    generalize treeB (l.drop k) = t2 at *
    obtain ⟨a, cap, rfl, hcap, hc⟩ := h.at
    have hn0 : ((n : Int) == 0) = false := beq_eq_false_iff_ne.2 (by omega)
    have hn1 : ((n : Int) == 1) = false := beq_eq_false_iff_ne.2 (by omega)
    have hn0' : ¬ (n : Int) = 0 := by omega
    have hn1' : ¬ (n : Int) = 1 := by omega
    rw [hn] at hs1 hs2 ⊢
    clear ih hz hc h ht1 ht2 hk he hp h0 h1 hl2 hcap
    go_enter Tryz.func56, Tryz.ntmps56
    go_wp2_with fail
    refine EH.out.mono ?_
    rintro e w1 ⟨rfl, rfl⟩
    clear EH
    have HA : Hid (Below w1.heap.size w1 w1) := Below.refl _ _
    go_wp2_with fail
    go_region_with (first
      | (go_at_call 56; ((with_reducible refine (E1.out _ ?_).mono ?_); (first | exact HA.out | exact below_drew' HA.out | exact below_drew' (below_drew' HA.out)); rintro e wa ⟨rfl, hba⟩; have HA : Hid (Below w1.heap.size w1 wa) := hba; clear hba))
      | (go_at_call 56; (with_reducible refine (E2.out _ ?_).mono ?_); (first | exact HA.out | exact below_drew' HA.out | exact below_drew' (below_drew' HA.out)); rintro e wa ⟨rfl, hba⟩; have HA : Hid (Below w1.heap.size w1 wa) := hba; clear hba)
      | (go_at_call 110; (with_reducible refine (E3.out _ ?_).mono ?_); (first | exact HA.out | exact below_drew' HA.out | exact below_drew' (below_drew' HA.out)); rintro e wa ⟨rfl, hba⟩; have HA : Hid (Below w1.heap.size w1 wa) := hba; clear hba))
    all_goals
      go_wp2
      go_ret
      exact ⟨rfl, HA.out⟩
theorem part_small {l : List ByteArray} {n : Nat} (hz : ∀ j (hj : j < l.length), l[j].size ≤ n) (k : Nat) : (∀ j (hj : j < (l.take k).length), (l.take k)[j].size ≤ n) ∧ (∀ j (hj : j < (l.drop k).length), (l.drop k)[j].size ≤ n) :=
  ⟨fun j hj => by rw [List.getElem_take]; exact hz _ _, fun j hj => by rw [List.getElem_drop]; exact hz _ _⟩
end Go.Proofs.YtbngflmebdchlaaGreatDoor
