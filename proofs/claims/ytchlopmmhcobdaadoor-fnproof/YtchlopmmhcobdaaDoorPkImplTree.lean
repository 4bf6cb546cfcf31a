/-
  The program's tree of entries: level by level.
-/
import Derived.Test.YtchlopmmhcobdaaDoorPkImplNode
import Derived.Test.YtchlopmmhcobdaaDoorPkSplit
namespace Go.Proofs.YtchlopmmhcobdaaDoor
open Go.RowKit Go.Lib
set_option linter.unusedVariables false

/-- What the first two of a row of texts, or its only one, come to. -/
theorem level_step (l : List ByteArray) (k : Nat) (h : 2 * k < l.length) :
    levelD nodeB (l.take (2 * (k + 1))) = levelD nodeB (l.take (2 * k)) ++ [rootD nodeB noneB ((l.take (min (2 * k + 2) l.length)).drop (2 * k))] := by
  have e1 : l.take (2 * (k + 1)) = l.take (2 * k) ++ (l.take (min (2 * k + 2) l.length)).drop (2 * k) := by
    rw [show 2 * (k + 1) = 2 * k + 2 by omega]
    have : l.take (min (2 * k + 2) l.length) = l.take (2 * k + 2) := by
      rcases Nat.lt_or_ge (2 * k + 2) l.length with h | h
      · rw [Nat.min_eq_left (by omega)]
      · rw [Nat.min_eq_right h, List.take_of_length_le (Nat.le_refl _), List.take_of_length_le h]
    rw [this]
    have e2 : l.take (2 * k) = (l.take (2 * k + 2)).take (2 * k) := by rw [List.take_take, Nat.min_eq_left (by omega)]
    rw [e2, List.take_append_drop]
  rw [e1, levelD_append nodeB _ _ (by rw [List.length_take]; omega)]
  congr 1
  have hlen : ((l.take (min (2 * k + 2) l.length)).drop (2 * k)).length = min (2 * k + 2) l.length - 2 * k := by rw [List.length_drop, List.length_take]; omega
  match hr : (l.take (min (2 * k + 2) l.length)).drop (2 * k), hlen with
  | [], hl => simp at hl; omega
  | [x], _ => rfl
  | [x, y], _ => rfl
  | x :: y :: z :: r, hl => simp at hl; omega

set_option maxHeartbeats 1000000 in
theorem nextLevel_any (v : Value) (l : List ByteArray) (w : World) (h : Texts w w.heap.size v l) (hl : l.length ≤ 1048576) (hz : ∀ j (hj : j < l.length), l[j].size ≤ 1000) (hK : Keys w) :
    Calls Tryd.prog 127 #[v] w fun e w' => ∃ v', e = .returned v' ∧ OwnT w' w.heap.size v' (levelD nodeB l) ∧ Below w.heap.size w w' := by
  have HS : Hid (∀ i j : Nat, i ≤ j → j ≤ l.length → ∀ x : Int, x = (i : Int) → ∃ v1, (∀ w1, (Instr.slice 41 v (some (.int .i64 x)) (some (.int .i64 j)) none).run Tryd.prog w1 = .ok v1 w1) ∧ Texts w w.heap.size v1 ((l.take j).drop i)) := fun i j hij hj x hx => slice_lh h i j hij hj x j hx rfl
  have HZ : Hid (∀ j (hj : j < l.length), l[j].size ≤ 1000) := hz
  have HK : Hid (Keys w) := hK
  obtain ⟨a, cap, rfl, hcap, hc⟩ := h.at
  clear hc h hcap hz hK
  obtain ⟨n, hn⟩ : ∃ n, n = l.length := ⟨_, rfl⟩
  have HN : Hid (n = l.length) := hn
  rw [← hn] at hl HS ⊢
  clear hn
  go_enter Tryd.func127, Tryd.ntmps127
  go_wp2
  go_loopw [3, 4] (fun x i wr => ∃ k : Nat, k ≤ n ∧ i = .int .i64 (2 * k : Nat) ∧ OwnT wr w.heap.size x (levelD nodeB (l.take (2 * k))) ∧ Below w.heap.size w wr) (fun _ i _ => (n + 2) - (RowKit.intOf i).toNat)
  case atStart => exact ⟨0, Nat.zero_le _, rfl, OwnT.nil w w.heap.size, Below.refl _ _⟩
  case round =>
    obtain ⟨k, hk, rfl, hown, hb⟩ := hrel
    have hkI : ((2 * k : Nat) : Int) = 2 * (k : Int) := by omega
    by_cases hkn : 2 * k < n
    · obtain ⟨j, hj⟩ : ∃ j, j = min (2 * k + 2) n := ⟨_, rfl⟩
      obtain ⟨v1, hs1, ht1⟩ := HS.out (2 * k) j (by omega) (by omega) (2 * (k : Int)) (by omega)
      have hjI : min (2 * (k : Int) + 2) (n : Int) = (j : Int) := by omega
      have hll : (levelD nodeB (l.take (2 * k))).length ≤ 1048576 := by rw [levelD_len, List.length_take]; omega
      have HST := level_step l k (by rw [← HN.out]; exact hkn)
      rw [← HN.out, ← hj] at HST
      have HT : Hid (levelD nodeB (l.take (2 * (k + 1))) = levelD nodeB (l.take (2 * k)) ++ [rootD nodeB noneB ((l.take j).drop (2 * k))] ∧ Texts wr wr.heap.size v1 ((l.take j).drop (2 * k)) ∧ (∀ i (hi : i < ((l.take j).drop (2 * k)).length), ((l.take j).drop (2 * k))[i].size ≤ 1000) ∧ ((l.take j).drop (2 * k)).length ≤ 1048576 ∧ Keys wr ∧ Below w.heap.size w wr ∧ OwnT wr w.heap.size u3 (levelD nodeB (l.take (2 * k)))) := by
        refine ⟨HST, (ht1.below hb).up hb.size, fun i hi => ?_, by rw [List.length_drop, List.length_take]; omega, HK.out.below hb HK.out.lt, hb, hown⟩
        rw [List.getElem_drop, List.getElem_take]
        exact HZ.out _ _
      have hsz := hb.size
      clear HST hown hb ht1 HZ HS HK hj
      have E : Hid (Calls Tryd.prog 84 #[v1] wr fun e w' => e = .returned (.string (rootD nodeB noneB ((l.take j).drop (2 * k)))) ∧ Below wr.heap.size wr w') := together_any v1 _ wr HT.out.2.1 HT.out.2.2.2.1 HT.out.2.2.1 HT.out.2.2.2.2.1
      generalize rootD nodeB noneB ((l.take j).drop (2 * k)) = t at *
      go_wp2_with fail
      refine E.out.mono ?_
      rintro e w1 ⟨rfl, hb1⟩
      have hown1 := HT.out.2.2.2.2.2.2.below hb1 (Nat.le_refl _)
      have H1 : Hid (Below w.heap.size w w1) := HT.out.2.2.2.2.2.1.trans (hb1.mono hsz)
      have hsz1 := H1.out.size
      clear hb1 E
      go_wp2_with (at_builtin; go_must (refine wp_app_text rfl (.tmp 17) (.tmp 23) rfl w.heap.size _ _ rfl hown1 t rfl hll hsz1 ?_); intro v2 w2 hown2 hb2)
      go_roundw
      case rel => exact ⟨k + 1, by omega, by go_num, by rw [HT.out.1]; exact hown2, H1.out.trans hb2⟩
      case measure => simp [RowKit.intOf]; omega
    · have HF : Hid (levelD nodeB (l.take (2 * k)) = levelD nodeB l) := by
        show _ = _
        rw [List.take_of_length_le (by rw [← HN.out]; omega)]
      have H1 : Hid (OwnT wr w.heap.size u3 (levelD nodeB l) ∧ Below w.heap.size w wr) := ⟨by rw [← HF.out]; exact hown, hb⟩
      clear hown hb HF HS HZ HK HN
      go_wp2
      go_ret
      exact ⟨_, rfl, H1.out.1, H1.out.2⟩
end Go.Proofs.YtchlopmmhcobdaaDoor

/-
  The program's tree of right entries is the tree.
-/
namespace Go.Proofs.YtchlopmmhcobdaaDoor
open Go.RowKit Go.Lib
set_option linter.unusedVariables false

theorem level_small : ∀ l : List ByteArray, (∀ t ∈ l, t.size ≤ 1000) → ∀ t ∈ levelD nodeB l, t.size ≤ 1000
  | [], _, t, h => by simp [levelD] at h
  | [x], h, t, ht => h t ht
  | x :: y :: r, h, t, ht => by
    have ht' : t ∈ nodeB x y :: levelD nodeB r := ht
    rcases List.mem_cons.1 ht' with rfl | h2
    · rw [nodeB_size]; omega
    · exact level_small r (fun u hu => h u (by simp [hu])) t h2
theorem levels_small (c : Nat) : ∀ l : List ByteArray, (∀ t ∈ l, t.size ≤ 1000) → ∀ t ∈ levelsD nodeB c l, t.size ≤ 1000 := by
  induction c with
  | zero => intro l h; exact h
  | succ c ih => intro l h; exact ih _ (level_small l h)
theorem levels_len (c : Nat) : ∀ l : List ByteArray, (levelsD nodeB c l).length ≤ l.length := by
  induction c with
  | zero => intro l; exact Nat.le_refl _
  | succ c ih =>
    intro l
    have h1 := ih (levelD nodeB l)
    rw [levelD_len] at h1
    show (levelsD nodeB c (levelD nodeB l)).length ≤ l.length
    by_cases h : l.length = 0
    · obtain rfl := List.eq_nil_of_length_eq_zero h
      simpa using h1
    · omega
theorem leaves_small (l : List ByteArray) : ∀ t ∈ l.map leafB, t.size ≤ 1000 := by
  intro t ht
  obtain ⟨x, _, rfl⟩ := List.mem_map.1 ht
  rw [leafB_size]; omega
theorem small_at {l : List ByteArray} {n : Nat} (h : ∀ t ∈ l, t.size ≤ n) : ∀ j (hj : j < l.length), l[j].size ≤ n := fun j hj => h _ (List.getElem_mem hj)
theorem tree_levels (l : List ByteArray) (c : Nat) (h0 : l.length = 0 → c = 0) (h1 : l.length ≤ 2 ^ c) : rootD nodeB noneB (levelsD nodeB c (l.map leafB)) = treeB l := by
  by_cases h : l.length = 0
  · obtain rfl := List.eq_nil_of_length_eq_zero h
    rw [h0 h]
    simp [levelsD, treeB, rootD, treeD_nil]
  · rw [levels_one nodeB noneB c (l.map leafB) (by simp; omega) (by simpa using h1)]
    rfl

set_option maxHeartbeats 1000000 in
theorem treeOf_any (v : Value) (l : List ByteArray) (w : World) (h : Texts w w.heap.size v l) (hl : l.length ≤ 1048576) (hz : ∀ j (hj : j < l.length), l[j].size ≤ 100) (hK : Keys w) :
    Calls Tryd.prog 76 #[v] w fun e w' => e = .returned (.string (treeB l)) ∧ Below w.heap.size w w' := by
  obtain ⟨a, cap, rfl, hcap, hc⟩ := h.at
  have HC : Hid (∀ j (hj : j < l.length), ∃ b off, a = some ⟨b, off, none⟩ ∧ b < w.heap.size ∧ w.cell? ⟨b, off + j, none⟩ = some (.string l[j])) := hc
  have HZ : Hid (∀ j (hj : j < l.length), l[j].size ≤ 100) := hz
  have HK : Hid (Keys w) := hK
  clear hc h hcap hz hK
  obtain ⟨n, hn⟩ : ∃ n, n = l.length := ⟨_, rfl⟩
  have HN : Hid (n = l.length) := hn
  rw [← hn] at hl ⊢
  clear hn
  obtain ⟨V, hV⟩ : ∃ V, V = treeB l := ⟨_, rfl⟩
  rw [← hV]
  have HV : Hid (V = treeB l) := hV
  clear hV
  go_enter Tryd.func76, Tryd.ntmps76
  go_wp2
  go_loopw [3, 8] (fun x i wr => ∃ k : Nat, k ≤ n ∧ i = .int .i64 k ∧ OwnT wr w.heap.size x ((l.take k).map leafB) ∧ Below w.heap.size w wr) (fun _ i _ => n - (RowKit.intOf i).toNat)
  case atStart => exact ⟨0, Nat.zero_le _, rfl, OwnT.nil w w.heap.size, Below.refl _ _⟩
  case round =>
    obtain ⟨k, hk, rfl, hown, hb⟩ := hrel
    by_cases hkn : k < n
    · have hkl : k < l.length := by rw [← HN.out]; exact hkn
      obtain ⟨b, off, rfl, hB, hc0⟩ := HC.out k hkl
      have hc : wr.cell? ⟨b, off + k, none⟩ = some (.string l[k]) := (hb.cell (p := ⟨b, off + k, none⟩) hB).trans hc0
      have HS : Hid ((l.take (k + 1)).map leafB = (l.take k).map leafB ++ [leafB l[k]]) := by
        show _ = _
        rw [List.take_succ_eq_append_getElem hkl, List.map_append]
        rfl
      have E : Hid (Calls Tryd.prog 33 #[.string l[k]] wr fun e w' => e = .returned (.string (leafB l[k])) ∧ Below wr.heap.size wr w') := by
        have hs := HZ.out k hkl
        rw [← leafV_right hs]
        exact implLeaf_any l[k] wr (by omega) (HK.out.below hb HK.out.lt)
      have hll : ((l.take k).map leafB).length ≤ 1048576 := by rw [List.length_map, List.length_take]; omega
      have H1 : Hid (OwnT wr w.heap.size u3 ((l.take k).map leafB) ∧ Below w.heap.size w wr) := ⟨hown, hb⟩
      have hknI : (k : Int) < (n : Int) := by omega
      generalize leafB l[k] = d at *
      generalize l[k] = t at *
      clear hown hb hc0 HC HZ HV
      go_wp2_with fail
      refine E.out.mono ?_
      rintro e w1 ⟨rfl, hb1⟩
      have hown1 := H1.out.1.below hb1 (Nat.le_refl _)
      have H2 : Hid (Below w.heap.size w w1) := H1.out.2.trans (hb1.mono H1.out.2.size)
      have hsz1 := H2.out.size
      clear hb1 E
      go_wp2_with (at_builtin; go_must (refine wp_app_text rfl (.tmp 12) (.tmp 15) rfl w.heap.size _ _ rfl hown1 d rfl hll hsz1 ?_); intro v2 w2 hown2 hb2)
      go_roundw
      case rel => exact ⟨k + 1, by omega, by go_num, by rw [HS.out]; exact hown2, H2.out.trans hb2⟩
      case measure => simp [RowKit.intOf]; omega
    · have ek : k = n := by omega
      have hown' : OwnT wr w.heap.size u3 (l.map leafB) := by
        rw [List.take_of_length_le (by rw [← HN.out]; omega)] at hown
        exact hown
      obtain ⟨a3, cap3, rfl⟩ := hown'.len
      have hlm : (l.map leafB).length = n := by rw [List.length_map, HN.out]
      rw [hlm] at hown' hown ⊢
      have H1 : Hid (OwnT wr w.heap.size (.slice a3 n cap3) (l.map leafB) ∧ Below w.heap.size w wr) := ⟨hown', hb⟩
      have E : Hid (Calls Tryd.prog 126 #[.int .i64 n] wr fun e w' => LevAns n e ∧ w' = wr) := levelsAbove_any n wr hl
      have hkI : (k : Int) = (n : Int) := by omega
      have hkI2 : ¬ (k : Int) < (n : Int) := by omega
      clear hown hown' hb HC HZ hlm
      go_wp2_with fail
      refine E.out.mono ?_
      rintro e w1 ⟨⟨c, rfl, hc64, hc0, hcn⟩, rfl⟩
      have HL : Hid (rootD nodeB noneB (levelsD nodeB c (l.map leafB)) = V) := by
        show _ = _
        rw [HV.out]
        exact tree_levels l c (fun h => hc0 (by rw [HN.out]; exact h)) (by rw [← HN.out]; exact hcn)
      clear hc0 hcn E HV
      go_wp2
      go_loopw [3, 21] (fun x i w1 => ∃ j : Nat, j ≤ c ∧ i = .int .i64 j ∧ OwnT w1 w.heap.size x (levelsD nodeB j (l.map leafB)) ∧ Below w.heap.size w w1) (fun _ i _ => c - (RowKit.intOf i).toNat)
      case atStart => exact ⟨0, Nat.zero_le _, rfl, H1.out.1, H1.out.2⟩
      case round =>
        obtain ⟨j, hj, rfl, hown, hb⟩ := hrel
        have hlen : (levelsD nodeB j (l.map leafB)).length ≤ 1048576 := by
          have := levels_len j (l.map leafB)
          rw [List.length_map, ← HN.out] at this
          omega
        have hsm := small_at (levels_small j _ (leaves_small l))
        by_cases hjc : j < c
        · have E : Hid (Calls Tryd.prog 127 #[u3] wr fun e w' => ∃ v', e = .returned v' ∧ OwnT w' wr.heap.size v' (levelsD nodeB (j + 1) (l.map leafB)) ∧ Below wr.heap.size wr w') := by
            rw [levels_snoc]
            exact nextLevel_any u3 _ wr hown.texts hlen hsm (HK.out.below hb HK.out.lt)
          have H2 : Hid (Below w.heap.size w wr) := hb
          have hjcI : (j : Int) < (c : Int) := by omega
          clear hb hown hlen hsm HL
          go_wp2_with fail
          refine E.out.mono ?_
          rintro e w1 ⟨v1, rfl, hown1, hb1⟩
          have H3 : Hid (OwnT w1 w.heap.size v1 (levelsD nodeB (j + 1) (l.map leafB)) ∧ Below w.heap.size w w1) := ⟨hown1.lower H2.out.size, H2.out.trans (hb1.mono H2.out.size)⟩
          clear hown1 hb1 E
          go_wp2
          go_roundw
          case rel => exact ⟨j + 1, by omega, by go_num, H3.out.1, H3.out.2⟩
          case measure => simp [RowKit.intOf]; omega
        · have E : Hid (Calls Tryd.prog 84 #[u3] wr fun e w' => e = .returned (.string V) ∧ Below wr.heap.size wr w') := by
            have ej : j = c := by omega
            subst ej
            rw [← HL.out]
            exact together_any u3 _ wr hown.texts hlen hsm (HK.out.below hb HK.out.lt)
          have H2 : Hid (Below w.heap.size w wr) := hb
          have hjcI : ¬ (j : Int) < (c : Int) := by omega
          clear hb hown hlen hsm HL
          go_wp2_with fail
          refine E.out.mono ?_
          rintro e w1 ⟨rfl, hb1⟩
          have H3 : Hid (Below w.heap.size w w1) := H2.out.trans (hb1.mono H2.out.size)
          clear hb1 E
          go_wp2
          go_ret
          exact ⟨rfl, H3.out⟩
end Go.Proofs.YtchlopmmhcobdaaDoor
