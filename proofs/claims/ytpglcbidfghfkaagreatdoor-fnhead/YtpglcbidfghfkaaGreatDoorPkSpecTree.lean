/-
  The document's tree of right entries; whether entries are right.
-/
import Derived.Test.YtpglcbidfghfkaaGreatDoorPkSpecNode
import Derived.Test.YtpglcbidfghfkaaGreatDoorPkSpecHalf
import Derived.Test.YtpglcbidfghfkaaGreatDoorPkStepLaws
import Derived.Test.YtpglcbidfghfkaaGreatDoorPkCells
import Derived.Test.YtpglcbidfghfkaaGreatDoorPkTextRows
import Derived.Test.YtpglcbidfghfkaaGreatDoorPkRight
import Derived.Deep.RegionWith
import Derived.Laws.Concat
namespace Go.Proofs.YtpglcbidfghfkaaGreatDoor
open Go.RowKit Go.Lib
set_option linter.unusedVariables false

set_option maxHeartbeats 4000000 in
set_option maxRecDepth 10000 in
theorem specTree_any (n : Nat) : ∀ (l : List ByteArray), l.length = n → n ≤ 1048576 → (∀ j (hj : j < l.length), l[j].size ≤ 100) → ∀ (v : Value) (w : World), Texts w w.heap.size v l →
    Calls Tryz.prog 74 #[v] w fun e w' => e = .returned (.string (treeB l)) ∧ Below w.heap.size w w' := by
  induction n using Nat.strongRecOn with
  | ind n ih =>
    intro l hn hl hz v w h
    by_cases h0 : n = 0
    · subst h0
      have E : Hid (Calls Tryz.prog 153 #[.string ByteArray.empty] w fun e w' => e = .returned (.string noneB) ∧ Below w.heap.size w w') := all_any ByteArray.empty w (by show 0 ≤ 50000; omega)
      rw [treeB_none hn]
      obtain ⟨a, cap, rfl, _, _⟩ := h
      rw [hn]
      generalize noneB = D at *
      unfold ByteArray.empty ByteArray.emptyWithCapacity at E
      clear ih hn hl hz
      go_enter Tryz.func74, Tryz.ntmps74
      go_wp2_with fail
      refine E.out.mono ?_
      rintro e w1 ⟨rfl, hb⟩
      have HB : Hid (Below w.heap.size w w1) := hb
      clear hb
      go_wp2
      go_ret
      exact ⟨rfl, HB.out⟩
    by_cases h1 : n = 1
    · subst h1
      obtain ⟨a, cap, rfl, hcap, hc⟩ := h.at
      obtain ⟨b, off, rfl, hB, hc0⟩ := hc 0 (by omega)
      rw [Nat.add_zero] at hc0
      have E : Hid (Calls Tryz.prog 154 #[.string l[0]] w fun e w' => e = .returned (.string (leafB l[0])) ∧ Below w.heap.size w w') := leaf_any l[0] w (by have := hz 0 (by omega); omega)
      rw [treeB_one hn (by omega)]
      clear ih hl hz hc h hcap
      generalize leafB l[0] = D at *
      generalize l[0] = t at *
      rw [hn]
      go_enter Tryz.func74, Tryz.ntmps74
      go_wp2_with fail
      refine E.out.mono ?_
      rintro e w1 ⟨rfl, hb⟩
      have HB : Hid (Below w.heap.size w w1) := hb
      clear hb
      go_wp2
      go_ret
      exact ⟨rfl, HB.out⟩
    have hl2 : 2 ≤ l.length := by omega
    obtain ⟨e, he, hk1, hk2⟩ := half_spec hl2
    have hp := Nat.two_pow_pos e
    rw [treeB_more hl2, hn]
    rw [hn] at hk1 hk2 he
    have EH : Hid (Calls Tryz.prog 155 #[.int .i64 n] w fun e w' => e = .returned (.int .i64 (half n)) ∧ w' = w) := half_any n w (by omega)
    obtain ⟨k, hk⟩ : ∃ k, k = half n := ⟨_, rfl⟩
    rw [← hk] at hk1 hk2 he EH ⊢
    obtain ⟨v1, hs1, ht1⟩ := slice_h h k (by omega) (k : Int) rfl
    obtain ⟨v2, hs2, ht2⟩ := slice_l h k (by omega) (k : Int) rfl
    have E1 : Hid (∀ w', Below w.heap.size w w' → Calls Tryz.prog 74 #[v1] w' fun e w'' => e = .returned (.string (treeB (l.take k))) ∧ Below w.heap.size w w'') := by
      intro w' hb
      have hlen : (l.take k).length = k := by rw [List.length_take]; omega
      refine (ih k (by omega) (l.take k) hlen (by omega) (fun j hj => ?_) v1 w' ((ht1.below hb).up hb.size)).mono ?_
      · rw [List.getElem_take]; exact hz _ _
      · rintro e w'' ⟨rfl, hb2⟩
        exact ⟨rfl, hb.trans (hb2.mono hb.size)⟩
    have E2 : Hid (∀ w', Below w.heap.size w w' → Calls Tryz.prog 74 #[v2] w' fun e w'' => e = .returned (.string (treeB (l.drop k))) ∧ Below w.heap.size w w'') := by
      intro w' hb
      have hlen : (l.drop k).length = n - k := by rw [List.length_drop]; omega
      refine (ih (n - k) (by omega) (l.drop k) hlen (by omega) (fun j hj => ?_) v2 w' ((ht2.below hb).up hb.size)).mono ?_
      · rw [List.getElem_drop]; exact hz _ _
      · rintro e w'' ⟨rfl, hb2⟩
        exact ⟨rfl, hb.trans (hb2.mono hb.size)⟩
    have E3 : Hid (∀ w', Below w.heap.size w w' → Calls Tryz.prog 156 #[.string (treeB (l.take k)), .string (treeB (l.drop k))] w' fun e w'' => e = .returned (.string (nodeB (treeB (l.take k)) (treeB (l.drop k)))) ∧ Below w.heap.size w w'') := by
      intro w' hb
      refine (node_any _ _ w' (by rw [treeB_size]; omega) (by rw [treeB_size]; omega)).mono ?_
      rintro e w'' ⟨rfl, hb2⟩
      exact ⟨rfl, hb.trans (hb2.mono hb.size)⟩
    generalize nodeB (treeB (l.take k)) (treeB (l.drop k)) = T at *
    generalize treeB (l.take k) = t1 at *
    generalize treeB (l.drop k) = t2 at *
    obtain ⟨a, cap, rfl, hcap, hc⟩ := h.at
    have hn0 : ((n : Int) == 0) = false := beq_eq_false_iff_ne.2 (by omega)
    have hn1 : ((n : Int) == 1) = false := beq_eq_false_iff_ne.2 (by omega)
    have hn0' : ¬ (n : Int) = 0 := by omega
    have hn1' : ¬ (n : Int) = 1 := by omega
    rw [hn] at hs1 hs2 ⊢
    clear ih hz hc h ht1 ht2 hk he hp h0 h1 hl2 hcap
    go_enter Tryz.func74, Tryz.ntmps74
    go_wp2_with fail
    refine EH.out.mono ?_
    rintro e w1 ⟨rfl, rfl⟩
    clear EH
    have HA : Hid (Below w1.heap.size w1 w1) := Below.refl _ _
    go_wp2_with fail
    go_region_with (first
      | (go_at_call 74; ((with_reducible refine (E1.out _ ?_).mono ?_); (first | exact HA.out | exact below_drew' HA.out | exact below_drew' (below_drew' HA.out)); rintro e wa ⟨rfl, hba⟩; have HA : Hid (Below w1.heap.size w1 wa) := hba; clear hba))
      | (go_at_call 74; (with_reducible refine (E2.out _ ?_).mono ?_); (first | exact HA.out | exact below_drew' HA.out | exact below_drew' (below_drew' HA.out)); rintro e wa ⟨rfl, hba⟩; have HA : Hid (Below w1.heap.size w1 wa) := hba; clear hba)
      | (go_at_call 156; (with_reducible refine (E3.out _ ?_).mono ?_); (first | exact HA.out | exact below_drew' HA.out | exact below_drew' (below_drew' HA.out)); rintro e wa ⟨rfl, hba⟩; have HA : Hid (Below w1.heap.size w1 wa) := hba; clear hba))
    all_goals
      go_wp2
      go_ret
      exact ⟨rfl, HA.out⟩
theorem part_small {l : List ByteArray} {n : Nat} (hz : ∀ j (hj : j < l.length), l[j].size ≤ n) (k : Nat) : (∀ j (hj : j < (l.take k).length), (l.take k)[j].size ≤ n) ∧ (∀ j (hj : j < (l.drop k).length), (l.drop k)[j].size ≤ n) :=
  ⟨fun j hj => by rw [List.getElem_take]; exact hz _ _, fun j hj => by rw [List.getElem_drop]; exact hz _ _⟩
end Go.Proofs.YtpglcbidfghfkaaGreatDoor

/-
  The document's steps, the beginning of a chain, the public texts of a seed's keys.
-/
namespace Go.Proofs.YtpglcbidfghfkaaGreatDoor
open Go.RowKit Go.Lib
set_option linter.unusedVariables false
set_option linter.unusedSimpArgs false

set_option maxHeartbeats 1000000 in
set_option maxRecDepth 10000 in
theorem specSteps_any (t : ByteArray) (n : Nat) (w : World) (ht : t.size = 32) (hn : n ≤ 15) :
    Calls Tryz.prog 159 #[.string t, .int .i64 n] w fun e w' => e = .returned (.string (stepsB n t)) ∧ Below w.heap.size w w' := by
  have EA : Hid (∀ s w, s.size = 32 → Calls Tryz.prog 153 #[.string s] w fun e w' => e = .returned (.string (shaB s)) ∧ Below w.heap.size w w') := fun s w hs => all_any s w (by omega)
  obtain ⟨V, hV⟩ : ∃ V, V = stepsB n t := ⟨_, rfl⟩
  rw [← hV]
  have HV : Hid (stepsB n t = V) := hV.symm
  clear hV
  go_enter Tryz.func159, Tryz.ntmps159
  go_wp2
  go_loopw [0, 1] (fun a x wr => ∃ (k : Nat) (s : ByteArray), x = .int .i64 k ∧ k ≤ 15 ∧ a = .string s ∧ s.size = 32 ∧ stepsB k s = V ∧ Below w.heap.size w wr) (fun _ x _ => (intOf x).toNat)
  case atStart => exact ⟨n, t, rfl, hn, rfl, ht, HV.out, Below.refl _ _⟩
  case round =>
    obtain ⟨k, s, rfl, hk, rfl, hs, hst, hb⟩ := hrel
    have HB : Hid (Below w.heap.size w wr) := hb
    by_cases h0 : 0 < k
    · have E := fun w => EA.out s w hs
      have HE : Hid (∀ w, Calls Tryz.prog 153 #[.string s] w fun e w' => e = .returned (.string (shaB s)) ∧ Below w.heap.size w w') := E
      have HS : Hid (stepsB (k - 1) (shaB s) = V) := by
        show _ = _
        rw [stepsB_sha, show k - 1 + 1 = k by omega]
        exact hst
      have hsz : Hid ((shaB s).size = 32) := shaB_size s
      generalize shaB s = s1 at *
      have hkI : (0 : Int) < (k : Int) := by omega
      have hc1 : Hid ((k : Int) - 1 = ((k - 1 : Nat) : Int)) := by show _ = _; omega
      clear hb hst E EA HV ht hn
      go_wp2_with fail
      refine (HE.out _).mono ?_
      rintro e w1 ⟨rfl, hb1⟩
      have HB1 : Hid (Below w.heap.size w w1) := HB.out.trans (hb1.mono HB.out.size)
      clear hb1 HE
      go_wp2
      go_roundw
      case rel => exact ⟨k - 1, s1, by rw [← hc1.out], by omega, rfl, hsz.out, HS.out, HB1.out⟩
      case measure => simp [intOf]; omega
    · have e0 : k = 0 := by omega
      have HS : Hid (s = V) := by
        rw [e0] at hst
        exact hst
      have hkI : ¬ (0 : Int) < (k : Int) := by omega
      clear hb hst EA HV ht hn e0
      go_wp2
      go_ret
      exact ⟨ret_str HS.out, HB.out⟩

set_option maxHeartbeats 1000000 in
set_option maxRecDepth 10000 in
theorem specBegin_any (s : ByteArray) (i j : Int) (w : World) (hs : s.size ≤ 64) (hi0 : 0 ≤ i) (hi1 : i ≤ 10) (hj0 : 0 ≤ j) (hj1 : j ≤ 10) :
    Calls Tryz.prog 160 #[.string s, .int .i64 i, .int .i64 j] w fun e w' => e = .returned (.string (beginB s i j)) ∧ Below w.heap.size w w' := by
  have E1 : Hid (∀ w, Calls Tryz.prog 94 #[.int .i64 i] w fun e w' => e = .returned (.string (numB i)) ∧ Below w.heap.size w w') := fun w => specPutNum_any i w (by omega) (by omega)
  have E2 : Hid (∀ w, Calls Tryz.prog 94 #[.int .i64 j] w fun e w' => e = .returned (.string (numB j)) ∧ Below w.heap.size w w') := fun w => specPutNum_any j w (by omega) (by omega)
  have z1 := numB_size i
  have z2 := numB_size j
  have E3 : Hid (∀ w, Calls Tryz.prog 207 #[.string s, .string (numB i ++ numB j)] w fun e w' => e = .returned (.string (beginB s i j)) ∧ Below w.heap.size w w') := fun w => specMacB s _ w (by omega) (by rw [ByteArray.size_append]; omega)
  generalize beginB s i j = V at *
  generalize numB i = A at *
  generalize numB j = B at *
  clear hi0 hi1 hj0 hj1 hs
  go_enter Tryz.func160, Tryz.ntmps160
  go_wp2_with fail
  refine (E1.out _).mono ?_
  rintro e w1 ⟨rfl, hb1⟩
  have H1 : Hid (Below w.heap.size w w1) := hb1
  clear hb1
  go_wp2_with fail
  refine (E2.out _).mono ?_
  rintro e w2 ⟨rfl, hb2⟩
  have H2 : Hid (Below w.heap.size w w2) := H1.out.trans (hb2.mono H1.out.size)
  clear hb2 H1
  go_wp2_with fail
  refine (E3.out _).mono ?_
  rintro e w3 ⟨rfl, hb3⟩
  have H3 : Hid (Below w.heap.size w w3) := H2.out.trans (hb3.mono H2.out.size)
  clear hb3 H2
  go_wp2
  go_ret
  exact ⟨rfl, H3.out⟩
end Go.Proofs.YtpglcbidfghfkaaGreatDoor

/-
  The document's public texts of a seed's keys.
-/
namespace Go.Proofs.YtpglcbidfghfkaaGreatDoor
open Go.RowKit Go.Lib
set_option linter.unusedVariables false
set_option linter.unusedSimpArgs false

set_option maxHeartbeats 2000000 in
set_option maxRecDepth 10000 in
theorem specPubs_any (s : ByteArray) (w : World) (hs : s.size ≤ 64) :
    Calls Tryz.prog 78 #[.string s] w fun e w' => ∃ v, e = .returned v ∧ OwnT w' w.heap.size v (pubsB s) ∧ Below w.heap.size w w' := by
  have E1 : Hid (∀ (k j : Nat) (w : World), k ≤ 3 → j ≤ 5 → Calls Tryz.prog 160 #[.string s, .int .i64 k, .int .i64 j] w fun e w' => e = .returned (.string (beginB s k j)) ∧ Below w.heap.size w w') := fun k j w hk hj => specBegin_any s k j w hs (by omega) (by omega) (by omega) (by omega)
  have E2 : Hid (∀ t w, t.size = 32 → Calls Tryz.prog 159 #[.string t, .int .i64 15] w fun e w' => e = .returned (.string (stepsB 15 t)) ∧ Below w.heap.size w w') := fun t w ht => specSteps_any t 15 w ht (by omega)
  have E3 : Hid (∀ t w, t.size ≤ 192 → Calls Tryz.prog 153 #[.string t] w fun e w' => e = .returned (.string (shaB t)) ∧ Below w.heap.size w w') := fun t w ht => all_any t w (by omega)
  clear hs
  unfold pubsB
  go_enter Tryz.func78, Tryz.ntmps78
  go_wp2
  go_loopw [3, 4] (fun a x wr => ∃ k : Nat, k ≤ 4 ∧ x = .int .i64 k ∧ OwnT wr w.heap.size a ((List.range k).map (publicB s)) ∧ Below w.heap.size w wr) (fun _ x _ => 4 - (intOf x).toNat)
  case atStart => exact ⟨0, by omega, rfl, OwnT.made _ _ (Nat.le_refl _), (Below.refl _ _).alloc (Nat.le_refl _) _⟩
  case round =>
    obtain ⟨k, hk, rfl, hown, hb⟩ := hrel
    by_cases hlt : k < 4
    · have HS : Hid ((List.range k).map (publicB s) ++ [publicB s k] = (List.range (k + 1)).map (publicB s)) := by
        show _ = _
        simp [List.range_succ]
      have HL : Hid (((List.range k).map (publicB s)).length ≤ 1048576) := by show _ ≤ _; simp; omega
      obtain ⟨l, hl⟩ : ∃ l, l = (List.range k).map (publicB s) := ⟨_, rfl⟩
      rw [← hl] at HS HL hown
      have HO : Hid (OwnT wr w.heap.size u3 l ∧ Below w.heap.size w wr) := ⟨hown, hb⟩
      obtain ⟨f, hf⟩ : ∃ f : Nat → ByteArray, f = fun j : Nat => stepsB 15 (beginB s k j) := ⟨_, rfl⟩
      have HP : Hid (shaB (catB f 6) = publicB s k) := by
        show _ = _
        rw [hf]
        rfl
      have HF : Hid (∀ j : Nat, stepsB 15 (beginB s k j) = f j ∧ (f j).size = 32) := fun j => ⟨by rw [hf], by rw [hf]; exact stepsB_size _ (beginB_size _ _ _)⟩
      have hkI : (k : Int) < 4 := by omega
      clear hown hb hl hf
      go_wp2
      go_loopw [5, 6] (fun a x wr => ∃ j : Nat, j ≤ 6 ∧ x = .int .i64 j ∧ a = .string (catB f j) ∧ OwnT wr w.heap.size u3 l ∧ Below w.heap.size w wr) (fun _ x _ => 6 - (intOf x).toNat)
      case atStart => exact ⟨0, by omega, rfl, rfl, HO.out.1, HO.out.2⟩
      case round =>
        clear HO
        obtain ⟨j, hj, rfl, rfl, hown, hb⟩ := hrel
        have HO : Hid (OwnT wr w.heap.size u3 l ∧ Below w.heap.size w wr) := ⟨hown, hb⟩
        have hcs := catB_size f j (fun i _ => (HF.out i).2)
        clear hown hb
        by_cases hjl : j < 6
        · have G1 := fun w => E1.out k j w (by omega) (by omega)
          have G2 := fun w => E2.out (beginB s k j) w (beginB_size _ _ _)
          rw [(HF.out j).1] at G2
          have F1 : Hid (∀ w, Calls Tryz.prog 160 #[.string s, .int .i64 k, .int .i64 j] w fun e w' => e = .returned (.string (beginB s k j)) ∧ Below w.heap.size w w') := G1
          have F2 : Hid (∀ w, Calls Tryz.prog 159 #[.string (beginB s k j), .int .i64 15] w fun e w' => e = .returned (.string (f j)) ∧ Below w.heap.size w w') := G2
          have HC : Hid (catB f j ++ f j = catB f (j + 1)) := rfl
          have z1 := (HF.out j).2
          have zc : (catB f j).size ≤ 192 := by omega
          have zf : (f j).size ≤ 32 := by omega
          generalize beginB s k j = B at *
          generalize hcj : catB f j = cj at *
          generalize hfj : f j = fj at *
          have HCJ : Hid (cj ++ fj = catB f (j + 1)) := HC.out
          clear G1 G2 hcs z1 HC hcj hfj
          have hjI : (j : Int) < 6 := by omega
          go_wp2_with fail
          refine (F1.out _).mono ?_
          rintro e w1 ⟨rfl, hb1⟩
          have HO1 : Hid (OwnT w1 w.heap.size u3 l ∧ Below w.heap.size w w1) := ⟨HO.out.1.below hb1 (Nat.le_refl _), HO.out.2.trans (hb1.mono HO.out.2.size)⟩
          clear hb1 HO F1
          go_wp2_with fail
          refine (F2.out _).mono ?_
          rintro e w2 ⟨rfl, hb2⟩
          have HO2 : Hid (OwnT w2 w.heap.size u3 l ∧ Below w.heap.size w w2) := ⟨HO1.out.1.below hb2 (Nat.le_refl _), HO1.out.2.trans (hb2.mono HO1.out.2.size)⟩
          clear hb2 HO1 F2
          go_wp2
          go_roundw
          case rel => exact ⟨j + 1, by omega, by go_num, congrArg Value.string HCJ.out, HO2.out.1, HO2.out.2⟩
          case measure => simp [intOf]; omega
        · have e6 : j = 6 := by omega
          have G3 := fun w => E3.out (catB f j) w (by omega)
          have F3 : Hid (∀ w, Calls Tryz.prog 153 #[.string (catB f j)] w fun e w' => e = .returned (.string (publicB s k)) ∧ Below w.heap.size w w') := by
            rw [e6] at G3 ⊢
            rw [HP.out] at G3
            exact G3
          generalize catB f j = cj at *
          generalize publicB s k = t at *
          have hjI : ¬ (j : Int) < 6 := by omega
          clear G3 hcs e6 HF HP
          go_wp2_with fail
          refine (F3.out _).mono ?_
          rintro e w1 ⟨rfl, hb1⟩
          have HO1 : Hid (OwnT w1 w.heap.size u3 l ∧ Below w.heap.size w w1) := ⟨HO.out.1.below hb1 (Nat.le_refl _), HO.out.2.trans (hb1.mono HO.out.2.size)⟩
          clear hb1 HO F3
          have hown1 := HO1.out.1
          have hszw := HO1.out.2.size
          have hll := HL.out
          go_wp2_with (at_builtin; go_must (refine wp_app_text rfl (.tmp 23) (.tmp 26) rfl w.heap.size _ _ rfl hown1 t rfl hll hszw ?_); intro v2 w2 hown2 hb2)
          have HO2 : Hid (OwnT w2 w.heap.size v2 ((List.range (k + 1)).map (publicB s)) ∧ Below w.heap.size w w2) := ⟨by rw [← HS.out]; exact hown2, HO1.out.2.trans hb2⟩
          clear hown2 hb2
          go_roundw
          case rel => exact ⟨k + 1, by omega, by go_num, HO2.out.1, HO2.out.2⟩
          case measure => simp [intOf]; omega
    · have e4 : k = 4 := by omega
      rw [e4] at hown
      have HO : Hid (OwnT wr w.heap.size u3 ((List.range 4).map (publicB s)) ∧ Below w.heap.size w wr) := ⟨hown, hb⟩
      have hkI : ¬ (k : Int) < 4 := by omega
      clear e4 hown hb E1 E2 E3
      go_wp2
      go_ret
      exact ⟨_, rfl, HO.out.1, HO.out.2⟩
end Go.Proofs.YtpglcbidfghfkaaGreatDoor

/-
  The document's path of an entry.
-/
namespace Go.Proofs.YtpglcbidfghfkaaGreatDoor
open Go.RowKit Go.Lib
set_option linter.unusedVariables false

set_option maxHeartbeats 4000000 in
set_option maxRecDepth 10000 in
theorem specPath_any (n : Nat) : ∀ (l : List ByteArray), l.length = n → 1 ≤ n → n ≤ 1000 → (∀ j (hj : j < l.length), l[j].size ≤ 100) → ∀ (i : Nat) (x : Int) (v : Value) (w : World), x = (i : Int) → i < n → Texts w w.heap.size v l →
    Calls Tryz.prog 157 #[v, .int .i64 x] w fun e w' => ∃ v', e = .returned v' ∧ OwnT w' w.heap.size v' (pathB l i) ∧ Below w.heap.size w w' := by
  induction n using Nat.strongRecOn with
  | ind n ih =>
    intro l hn h1 hl hz i x v w hx hi h
    subst hx
    by_cases hn1 : n = 1
    · subst hn1
      rw [pathB_one i hn]
      obtain ⟨a, cap, rfl, hx, hy⟩ := h
      clear hx hy ih hz
      rw [hn]
      go_enter Tryz.func157, Tryz.ntmps157
      go_wp2
      go_ret
      exact ⟨_, rfl, OwnT.made _ _ (Nat.le_refl _), (Below.refl _ _).alloc (Nat.le_refl _) _⟩
    have hl2 : 2 ≤ l.length := by omega
    obtain ⟨ex, he, hk1, hk2⟩ := half_spec hl2
    have hp := Nat.two_pow_pos ex
    have hpl := pathB_left (l := l) (i := i) hl2
    have hpr := pathB_right (l := l) (i := i) hl2
    rw [hn] at hk1 hk2 he hpl hpr
    have EH : Hid (Calls Tryz.prog 155 #[.int .i64 n] w fun e w' => e = .returned (.int .i64 (half n)) ∧ w' = w) := half_any n w (by omega)
    obtain ⟨k, hk⟩ : ∃ k, k = half n := ⟨_, rfl⟩
    rw [← hk] at hk1 hk2 he EH hpl hpr
    have hn1I : ¬ (n : Int) = 1 := by omega
    have hn1B : ((n : Int) == 1) = false := beq_eq_false_iff_ne.2 hn1I
    have l1 : (l.take k).length = k := by rw [List.length_take]; omega
    have l2 : (l.drop k).length = n - k := by rw [List.length_drop]; omega
    obtain ⟨v1, hs1, ht1⟩ := slice_h h k (by omega) (k : Int) rfl
    obtain ⟨v2, hs2, ht2⟩ := slice_l h k (by omega) (k : Int) rfl
    have EP1 : Hid (i < k → ∀ w', Below w.heap.size w w' → Calls Tryz.prog 157 #[v1, .int .i64 i] w' fun e w'' => ∃ v', e = .returned v' ∧ OwnT w'' w.heap.size v' (pathB (l.take k) i) ∧ Below w.heap.size w w'') := by
      intro hik w' hb
      refine (ih k (by omega) (l.take k) l1 (by omega) (by omega) (part_small hz k).1 i i v1 w' rfl hik ((ht1.below hb).up hb.size)).mono ?_
      rintro e w'' ⟨v', rfl, ho, hb2⟩
      exact ⟨v', rfl, ho.lower hb.size, hb.trans (hb2.mono hb.size)⟩
    have EP2 : Hid (¬ i < k → ∀ w', Below w.heap.size w w' → Calls Tryz.prog 157 #[v2, .int .i64 ((i : Int) - (k : Int))] w' fun e w'' => ∃ v', e = .returned v' ∧ OwnT w'' w.heap.size v' (pathB (l.drop k) (i - k)) ∧ Below w.heap.size w w'') := by
      intro hik w' hb
      refine (ih (n - k) (by omega) (l.drop k) l2 (by omega) (by omega) (part_small hz k).2 (i - k) _ v2 w' (by omega) (by omega) ((ht2.below hb).up hb.size)).mono ?_
      rintro e w'' ⟨v', rfl, ho, hb2⟩
      exact ⟨v', rfl, ho.lower hb.size, hb.trans (hb2.mono hb.size)⟩
    have ET1 : Hid (∀ w', Below w.heap.size w w' → Calls Tryz.prog 74 #[v1] w' fun e w'' => e = .returned (.string (treeB (l.take k))) ∧ Below w'.heap.size w' w'') := fun w' hb => specTree_any k (l.take k) l1 (by omega) (part_small hz k).1 v1 w' ((ht1.below hb).up hb.size)
    have ET2 : Hid (∀ w', Below w.heap.size w w' → Calls Tryz.prog 74 #[v2] w' fun e w'' => e = .returned (.string (treeB (l.drop k))) ∧ Below w'.heap.size w' w'') := fun w' hb => specTree_any (n - k) (l.drop k) l2 (by omega) (part_small hz k).2 v2 w' ((ht2.below hb).up hb.size)
    have HP1 : Hid ((pathB (l.take k) i).length ≤ 1048576 ∧ (pathB (l.drop k) (i - k)).length ≤ 1048576) := ⟨by have := pathB_len k (l.take k) i l1; omega, by have := pathB_len (n - k) (l.drop k) (i - k) l2; omega⟩
    obtain ⟨a, cap, rfl, hx, hy⟩ := h
    clear hx hy ih hz hk he hp l1 l2 ht1 ht2
    have HA : Hid (Below w.heap.size w w) := Below.refl _ _
    by_cases hik : i < k
    · have HP : Hid (pathB l i = pathB (l.take k) i ++ [treeB (l.drop k)]) := hpl hik
      have E1 : Hid _ := EP1.out hik
      have hikI : (i : Int) < (k : Int) := by omega
      have hll := HP1.out.1
      clear hpl hpr EP1 EP2 ET1 HP1
      generalize hpb : pathB (l.take k) i = P at *
      generalize treeB (l.drop k) = T at *
      clear hpb
      rw [hn] at hs1 hs2 ⊢
      go_enter Tryz.func157, Tryz.ntmps157
      go_wp2_with fail
      refine EH.out.mono ?_
      rintro e w1 ⟨rfl, rfl⟩
      clear EH
      go_wp2_with fail
      go_region_law (first
        | (refine step_enter rfl 157 #[v1, .int .i64 i] (E1.out _ ?_) ?_ ?_; (first | exact HA.out | exact below_drew' HA.out); go_simp; rintro e wa ⟨va, rfl, hoa, hba⟩; refine ⟨va, rfl, ?_⟩; have HA : Hid (Below w1.heap.size w1 wa) := hba; have HO : Hid (OwnT wa w1.heap.size va P) := hoa; clear hba hoa)
        | (refine step_enter rfl 74 #[v2] (ET2.out _ HA.out) ?_ ?_; go_simp; rintro e wb ⟨rfl, hbb⟩; refine ⟨_, rfl, ?_⟩; have HO : Hid (OwnT wb w1.heap.size va P) := HO.out.below hbb (Nat.le_refl _); have HA : Hid (Below w1.heap.size w1 wb) := HA.out.trans (hbb.mono HA.out.size); clear hbb)
        | (refine step_app_text (w := wb) rfl (.tmp 20) (.tmp 25) rfl w1.heap.size va P T (by simp [Act.eval]) HO.out (by simp [Act.eval]) hll HA.out.size ?_; intro v4 w4 hown4 hb4))
      all_goals
        have H4 : Hid (OwnT w4 w1.heap.size v4 (P ++ [T]) ∧ Below w1.heap.size w1 w4) := ⟨hown4, HA.out.trans hb4⟩
        clear hown4 hb4
        go_wp2
        go_ret
        exact ⟨_, rfl, by rw [HP.out]; exact H4.out.1, H4.out.2⟩
    · have HP : Hid (pathB l i = pathB (l.drop k) (i - k) ++ [treeB (l.take k)]) := hpr hik
      have E1 : Hid _ := EP2.out hik
      have hikI : ¬ (i : Int) < (k : Int) := by omega
      have hwr : IntKind.i64.wrap ((i : Int) - (k : Int)) = (i : Int) - (k : Int) := by rw [IntKind.wrap_i64]; omega
      have hll := HP1.out.2
      clear hpl hpr EP1 EP2 ET2 HP1
      generalize hpb : pathB (l.drop k) (i - k) = P at *
      generalize treeB (l.take k) = T at *
      clear hpb
      rw [hn] at hs1 hs2 ⊢
      go_enter Tryz.func157, Tryz.ntmps157
      go_wp2_with fail
      refine EH.out.mono ?_
      rintro e w1 ⟨rfl, rfl⟩
      clear EH
      go_wp2_with fail
      go_region_law (first
        | (refine step_enter rfl 157 #[v2, .int .i64 ((i : Int) - (k : Int))] (E1.out _ ?_) ?_ ?_; (first | exact HA.out | exact below_drew' HA.out); go_simp; rintro e wa ⟨va, rfl, hoa, hba⟩; refine ⟨va, rfl, ?_⟩; have HA : Hid (Below w1.heap.size w1 wa) := hba; have HO : Hid (OwnT wa w1.heap.size va P) := hoa; clear hba hoa)
        | (refine step_enter rfl 74 #[v1] (ET1.out _ HA.out) ?_ ?_; go_simp; rintro e wb ⟨rfl, hbb⟩; refine ⟨_, rfl, ?_⟩; have HO : Hid (OwnT wb w1.heap.size va P) := HO.out.below hbb (Nat.le_refl _); have HA : Hid (Below w1.heap.size w1 wb) := HA.out.trans (hbb.mono HA.out.size); clear hbb)
        | (refine step_app_text (w := wb) rfl (.tmp 33) (.tmp 38) rfl w1.heap.size va P T (by simp [Act.eval]) HO.out (by simp [Act.eval]) hll HA.out.size ?_; intro v4 w4 hown4 hb4))
      all_goals
        have H4 : Hid (OwnT w4 w1.heap.size v4 (P ++ [T]) ∧ Below w1.heap.size w1 w4) := ⟨hown4, HA.out.trans hb4⟩
        clear hown4 hb4
        go_wp2
        go_ret
        exact ⟨_, rfl, by rw [HP.out]; exact H4.out.1, H4.out.2⟩
end Go.Proofs.YtpglcbidfghfkaaGreatDoor

/-
  The document's KeyRoot.
-/
namespace Go.Proofs.YtpglcbidfghfkaaGreatDoor
open Go.RowKit Go.Lib
set_option linter.unusedVariables false
set_option linter.unusedSimpArgs false

set_option maxHeartbeats 1000000 in
set_option maxRecDepth 10000 in
theorem specKeyRoot_any (s : ByteArray) (w : World) (hz : s.size ≤ 1048576) :
    Calls Tryz.prog 12 #[.string s] w fun e w' => e = .returned (.string (keyV s)) ∧ Below w.heap.size w w' := by
  have E0 : Hid (∀ w, Calls Tryz.prog 70 #[.string s] w fun e w' => e = .returned (.bool (seedB s)) ∧ w' = w) := fun w => specSeed_any s w hz
  unfold keyV
  by_cases h : seedB s = true
  · rw [if_pos h]
    have hs := seedB_yes h
    rw [h] at E0
    have E1 : Hid (Calls Tryz.prog 78 #[.string s] w fun e w' => ∃ v, e = .returned v ∧ OwnT w' w.heap.size v (pubsB s) ∧ Below w.heap.size w w') := specPubs_any s w (by omega)
    have E2 : Hid (∀ v w, Texts w w.heap.size v (pubsB s) → Calls Tryz.prog 74 #[v] w fun e w' => e = .returned (.string (treeB (pubsB s))) ∧ Below w.heap.size w w') := fun v w ht =>
      specTree_any 4 (pubsB s) (pubsB_len s) (by omega) (pubsB_size s) v w ht
    generalize pubsB s = l at *
    generalize treeB l = V at *
    clear hs h
    go_enter Tryz.func12, Tryz.ntmps12
    go_wp2_with fail
    refine (E0.out _).mono ?_
    rintro e w0 ⟨rfl, rfl⟩
    go_wp2_with fail
    refine E1.out.mono ?_
    rintro e w1 ⟨v, rfl, hown, hb1⟩
    have H1 : Hid (Below w0.heap.size w0 w1 ∧ Texts w1 w1.heap.size v l) := ⟨hb1, hown.texts⟩
    clear hown hb1 E1
    go_wp2_with fail
    refine (E2.out _ _ H1.out.2).mono ?_
    rintro e w2 ⟨rfl, hb2⟩
    have H2 : Hid (Below w0.heap.size w0 w2) := H1.out.1.trans (hb2.mono H1.out.1.size)
    clear hb2 H1
    go_wp2
    go_ret
    exact ⟨rfl, H2.out⟩
  · rw [if_neg h]
    have hf : seedB s = false := by simpa using h
    rw [hf] at E0
    clear h hf
    go_enter Tryz.func12, Tryz.ntmps12
    go_wp2_with fail
    refine (E0.out _).mono ?_
    rintro e w0 ⟨rfl, rfl⟩
    go_wp2
    go_ret
    exact ⟨rfl, Below.refl _ _⟩
end Go.Proofs.YtpglcbidfghfkaaGreatDoor

/-
  The document's TreeHash.
-/
namespace Go.Proofs.YtpglcbidfghfkaaGreatDoor
open Go.RowKit Go.Lib
set_option linter.unusedVariables false

set_option maxHeartbeats 400000 in
theorem specTreeHash_any (v : Value) (l : List ByteArray) (w : World) (h : Texts w w.heap.size v l) (hl : l.length ≤ 1048576) :
    Calls Tryz.prog 13 #[v] w fun e w' => e = .returned (.string (treeV l)) ∧ Below w.heap.size w w' := by
  have E : Hid (Calls Tryz.prog 73 #[v] w fun e w' => e = .returned (.bool (rightB l)) ∧ w' = w) := specEntries_any v l w _ h hl
  by_cases h400 : 400 < l.length
  · have ht : treeV l = ByteArray.empty := by unfold treeV; rw [rightB_long (by omega)]; rfl
    rw [ht]
    obtain ⟨a, cap, rfl, hx, hy⟩ := h
    clear hx hy
    have hI : ¬ (l.length : Int) ≤ 400 := by omega
    have hI2 : (400 : Int) < (l.length : Int) := by omega
    clear E ht
    generalize l.length = n at *
    go_enter Tryz.func13, Tryz.ntmps13
    go_wp2_with fail
    go_ret
    exact ⟨rfl, Below.refl _ _⟩
  · have hI : ¬ (400 : Int) < (l.length : Int) := by omega
    by_cases hr : rightB l = true
    · have ET : Hid (Calls Tryz.prog 74 #[v] w fun e w' => e = .returned (.string (treeB l)) ∧ Below w.heap.size w w') := specTree_any l.length l rfl hl (fun j hj => rightB_at hr hj) v w h
      have ht : treeV l = treeB l := by unfold treeV; rw [if_pos hr]
      rw [ht]
      rw [hr] at E
      generalize treeB l = T at *
      obtain ⟨a, cap, rfl, hx, hy⟩ := h
      clear hx hy
      clear hr ht
      generalize l.length = n at *
      go_enter Tryz.func13, Tryz.ntmps13
      go_wp2_with fail
      refine E.out.mono ?_
      rintro e w1 ⟨rfl, rfl⟩
      clear E
      go_wp2_with fail
      refine ET.out.mono ?_
      rintro e w2 ⟨rfl, hb⟩
      have HB : Hid (Below w1.heap.size w1 w2) := hb
      clear hb
      go_wp2
      go_ret
      exact ⟨rfl, HB.out⟩
    · have hr' : rightB l = false := by simpa using hr
      have ht : treeV l = ByteArray.empty := by unfold treeV; rw [hr']; rfl
      rw [ht]
      rw [hr'] at E
      obtain ⟨a, cap, rfl, hx, hy⟩ := h
      clear hx hy
      clear hr hr' ht
      generalize l.length = n at *
      go_enter Tryz.func13, Tryz.ntmps13
      go_wp2_with fail
      refine E.out.mono ?_
      rintro e w1 ⟨rfl, rfl⟩
      clear E
      go_wp2
      go_ret
      exact ⟨rfl, Below.refl _ _⟩
end Go.Proofs.YtpglcbidfghfkaaGreatDoor
