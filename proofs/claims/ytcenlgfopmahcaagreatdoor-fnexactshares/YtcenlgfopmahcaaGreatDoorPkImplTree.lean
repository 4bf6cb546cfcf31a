/-
  The program's tree of entries: level by level.
-/
import Derived.Test.YtcenlgfopmahcaaGreatDoorPkImplNode
import Derived.Test.YtcenlgfopmahcaaGreatDoorPkSplit
import Derived.Test.YtcenlgfopmahcaaGreatDoorPkTextRows
import Derived.Test.YtcenlgfopmahcaaGreatDoorPkCells
namespace Go.Proofs.YtcenlgfopmahcaaGreatDoor
open Go.RowKit Go.Lib
set_option linter.unusedVariables false

/-- What the first two of a row of texts, or its only one, come to. -/
theorem level_step (l : List ByteArray) (k : Nat) (h : 2 * k < l.length) :
    levelD nodeB (l.take (2 * (k + 1))) = levelD nodeB (l.take (2 * k)) ++ [rootD nodeB noneB ((l.take (min (2 * k + 2) l.length)).drop (2 * k))] := by
  have e1 : l.take (2 * (k + 1)) = l.take (2 * k) ++ (l.take (min (2 * k + 2) l.length)).drop (2 * k) := by
    rw [show 2 * (k + 1) = 2 * k + 2 by omega]
    have : l.take (min (2 * k + 2) l.length) = l.take (2 * k + 2) := by
      rcases Nat.lt_or_ge (2 * k + 2) l.length with h | h
      · rw [Nat.min_eq_left (by omega)]
      · rw [Nat.min_eq_right h, List.take_of_length_le (Nat.le_refl _), List.take_of_length_le h]
    rw [this]
    have e2 : l.take (2 * k) = (l.take (2 * k + 2)).take (2 * k) := by rw [List.take_take, Nat.min_eq_left (by omega)]
    rw [e2, List.take_append_drop]
  rw [e1, levelD_append nodeB _ _ (by rw [List.length_take]; omega)]
  congr 1
  have hlen : ((l.take (min (2 * k + 2) l.length)).drop (2 * k)).length = min (2 * k + 2) l.length - 2 * k := by rw [List.length_drop, List.length_take]; omega
  match hr : (l.take (min (2 * k + 2) l.length)).drop (2 * k), hlen with
  | [], hl => simp at hl; omega
  | [x], _ => rfl
  | [x, y], _ => rfl
  | x :: y :: z :: r, hl => simp at hl; omega

set_option maxHeartbeats 1000000 in
theorem nextLevel_any (v : Value) (l : List ByteArray) (w : World) (h : Texts w w.heap.size v l) (hl : l.length ≤ 1048576) (hz : ∀ j (hj : j < l.length), l[j].size ≤ 1000) (hK : Keys w) :
    Calls Tryz.prog 110 #[v] w fun e w' => ∃ v', e = .returned v' ∧ OwnT w' w.heap.size v' (levelD nodeB l) ∧ Below w.heap.size w w' := by
  have HS : Hid (∀ i j : Nat, i ≤ j → j ≤ l.length → ∀ x : Int, x = (i : Int) → ∃ v1, (∀ w1, (Instr.slice 22 v (some (.int .i64 x)) (some (.int .i64 j)) none).run Tryz.prog w1 = .ok v1 w1) ∧ Texts w w.heap.size v1 ((l.take j).drop i)) := fun i j hij hj x hx => slice_lh h i j hij hj x j hx rfl
  have HZ : Hid (∀ j (hj : j < l.length), l[j].size ≤ 1000) := hz
  have HK : Hid (Keys w) := hK
  obtain ⟨a, cap, rfl, hcap, hc⟩ := h.at
  clear hc h hcap hz hK
  obtain ⟨n, hn⟩ : ∃ n, n = l.length := ⟨_, rfl⟩
  have HN : Hid (n = l.length) := hn
  rw [← hn] at hl HS ⊢
  clear hn
  go_enter Tryz.func110, Tryz.ntmps110
  go_wp2
  go_loopw [3, 4] (fun x i wr => ∃ k : Nat, k ≤ n ∧ i = .int .i64 (2 * k : Nat) ∧ OwnT wr w.heap.size x (levelD nodeB (l.take (2 * k))) ∧ Below w.heap.size w wr) (fun _ i _ => (n + 2) - (RowKit.intOf i).toNat)
  case atStart => exact ⟨0, Nat.zero_le _, rfl, OwnT.nil w w.heap.size, Below.refl _ _⟩
  case round =>
    obtain ⟨k, hk, rfl, hown, hb⟩ := hrel
    have hkI : ((2 * k : Nat) : Int) = 2 * (k : Int) := by omega
    by_cases hkn : 2 * k < n
    · obtain ⟨j, hj⟩ : ∃ j, j = min (2 * k + 2) n := ⟨_, rfl⟩
      obtain ⟨v1, hs1, ht1⟩ := HS.out (2 * k) j (by omega) (by omega) (2 * (k : Int)) (by omega)
      have hjI : min (2 * (k : Int) + 2) (n : Int) = (j : Int) := by omega
      have hll : (levelD nodeB (l.take (2 * k))).length ≤ 1048576 := by rw [levelD_len, List.length_take]; omega
      have HST := level_step l k (by rw [← HN.out]; exact hkn)
      rw [← HN.out, ← hj] at HST
      have HT : Hid (levelD nodeB (l.take (2 * (k + 1))) = levelD nodeB (l.take (2 * k)) ++ [rootD nodeB noneB ((l.take j).drop (2 * k))] ∧ Texts wr wr.heap.size v1 ((l.take j).drop (2 * k)) ∧ (∀ i (hi : i < ((l.take j).drop (2 * k)).length), ((l.take j).drop (2 * k))[i].size ≤ 1000) ∧ ((l.take j).drop (2 * k)).length ≤ 1048576 ∧ Keys wr ∧ Below w.heap.size w wr ∧ OwnT wr w.heap.size u3 (levelD nodeB (l.take (2 * k)))) := by
        refine ⟨HST, (ht1.below hb).up hb.size, fun i hi => ?_, by rw [List.length_drop, List.length_take]; omega, HK.out.below hb HK.out.lt, hb, hown⟩
        rw [List.getElem_drop, List.getElem_take]
        exact HZ.out _ _
      have hsz := hb.size
      clear HST hown hb ht1 HZ HS HK hj
      have E : Hid (Calls Tryz.prog 111 #[v1] wr fun e w' => e = .returned (.string (rootD nodeB noneB ((l.take j).drop (2 * k)))) ∧ Below wr.heap.size wr w') := together_any v1 _ wr HT.out.2.1 HT.out.2.2.2.1 HT.out.2.2.1 HT.out.2.2.2.2.1
      generalize rootD nodeB noneB ((l.take j).drop (2 * k)) = t at *
      go_wp2_with fail
      refine E.out.mono ?_
      rintro e w1 ⟨rfl, hb1⟩
      have hown1 := HT.out.2.2.2.2.2.2.below hb1 (Nat.le_refl _)
      have H1 : Hid (Below w.heap.size w w1) := HT.out.2.2.2.2.2.1.trans (hb1.mono hsz)
      have hsz1 := H1.out.size
      clear hb1 E
      go_wp2_with (at_builtin; go_must (refine wp_app_text rfl (.tmp 17) (.tmp 23) rfl w.heap.size _ _ rfl hown1 t rfl hll hsz1 ?_); intro v2 w2 hown2 hb2)
      go_roundw
      case rel => exact ⟨k + 1, by omega, by go_num, by rw [HT.out.1]; exact hown2, H1.out.trans hb2⟩
      case measure => simp [RowKit.intOf]; omega
    · have HF : Hid (levelD nodeB (l.take (2 * k)) = levelD nodeB l) := by
        show _ = _
        rw [List.take_of_length_le (by rw [← HN.out]; omega)]
      have H1 : Hid (OwnT wr w.heap.size u3 (levelD nodeB l) ∧ Below w.heap.size w wr) := ⟨by rw [← HF.out]; exact hown, hb⟩
      clear hown hb HF HS HZ HK HN
      go_wp2
      go_ret
      exact ⟨_, rfl, H1.out.1, H1.out.2⟩
end Go.Proofs.YtcenlgfopmahcaaGreatDoor

/-
  The program's tree of right entries is the tree.
-/
namespace Go.Proofs.YtcenlgfopmahcaaGreatDoor
open Go.RowKit Go.Lib
set_option linter.unusedVariables false

theorem level_small : ∀ l : List ByteArray, (∀ t ∈ l, t.size ≤ 1000) → ∀ t ∈ levelD nodeB l, t.size ≤ 1000
  | [], _, t, h => by simp [levelD] at h
  | [x], h, t, ht => h t ht
  | x :: y :: r, h, t, ht => by
    have ht' : t ∈ nodeB x y :: levelD nodeB r := ht
    rcases List.mem_cons.1 ht' with rfl | h2
    · rw [nodeB_size]; omega
    · exact level_small r (fun u hu => h u (by simp [hu])) t h2
theorem levels_small (c : Nat) : ∀ l : List ByteArray, (∀ t ∈ l, t.size ≤ 1000) → ∀ t ∈ levelsD nodeB c l, t.size ≤ 1000 := by
  induction c with
  | zero => intro l h; exact h
  | succ c ih => intro l h; exact ih _ (level_small l h)
theorem levels_len (c : Nat) : ∀ l : List ByteArray, (levelsD nodeB c l).length ≤ l.length := by
  induction c with
  | zero => intro l; exact Nat.le_refl _
  | succ c ih =>
    intro l
    have h1 := ih (levelD nodeB l)
    rw [levelD_len] at h1
    show (levelsD nodeB c (levelD nodeB l)).length ≤ l.length
    by_cases h : l.length = 0
    · obtain rfl := List.eq_nil_of_length_eq_zero h
      simpa using h1
    · omega
theorem leaves_small (l : List ByteArray) : ∀ t ∈ l.map leafB, t.size ≤ 1000 := by
  intro t ht
  obtain ⟨x, _, rfl⟩ := List.mem_map.1 ht
  rw [leafB_size]; omega
theorem small_at {l : List ByteArray} {n : Nat} (h : ∀ t ∈ l, t.size ≤ n) : ∀ j (hj : j < l.length), l[j].size ≤ n := fun j hj => h _ (List.getElem_mem hj)
theorem tree_levels (l : List ByteArray) (c : Nat) (h0 : l.length = 0 → c = 0) (h1 : l.length ≤ 2 ^ c) : rootD nodeB noneB (levelsD nodeB c (l.map leafB)) = treeB l := by
  by_cases h : l.length = 0
  · obtain rfl := List.eq_nil_of_length_eq_zero h
    rw [h0 h]
    simp [levelsD, treeB, rootD, treeD_nil]
  · rw [levels_one nodeB noneB c (l.map leafB) (by simp; omega) (by simpa using h1)]
    rfl

set_option maxHeartbeats 1000000 in
theorem treeOf_any (v : Value) (l : List ByteArray) (w : World) (h : Texts w w.heap.size v l) (hl : l.length ≤ 1048576) (hz : ∀ j (hj : j < l.length), l[j].size ≤ 100) (hK : Keys w) :
    Calls Tryz.prog 95 #[v] w fun e w' => e = .returned (.string (treeB l)) ∧ Below w.heap.size w w' := by
  obtain ⟨a, cap, rfl, hcap, hc⟩ := h.at
  have HC : Hid (∀ j (hj : j < l.length), ∃ b off, a = some ⟨b, off, none⟩ ∧ b < w.heap.size ∧ w.cell? ⟨b, off + j, none⟩ = some (.string l[j])) := hc
  have HZ : Hid (∀ j (hj : j < l.length), l[j].size ≤ 100) := hz
  have HK : Hid (Keys w) := hK
  clear hc h hcap hz hK
  obtain ⟨n, hn⟩ : ∃ n, n = l.length := ⟨_, rfl⟩
  have HN : Hid (n = l.length) := hn
  rw [← hn] at hl ⊢
  clear hn
  obtain ⟨V, hV⟩ : ∃ V, V = treeB l := ⟨_, rfl⟩
  rw [← hV]
  have HV : Hid (V = treeB l) := hV
  clear hV
  go_enter Tryz.func95, Tryz.ntmps95
  go_wp2
  go_loopw [3, 8] (fun x i wr => ∃ k : Nat, k ≤ n ∧ i = .int .i64 k ∧ OwnT wr w.heap.size x ((l.take k).map leafB) ∧ Below w.heap.size w wr) (fun _ i _ => n - (RowKit.intOf i).toNat)
  case atStart => exact ⟨0, Nat.zero_le _, rfl, OwnT.nil w w.heap.size, Below.refl _ _⟩
  case round =>
    obtain ⟨k, hk, rfl, hown, hb⟩ := hrel
    by_cases hkn : k < n
    · have hkl : k < l.length := by rw [← HN.out]; exact hkn
      obtain ⟨b, off, rfl, hB, hc0⟩ := HC.out k hkl
      have hc : wr.cell? ⟨b, off + k, none⟩ = some (.string l[k]) := (hb.cell (p := ⟨b, off + k, none⟩) hB).trans hc0
      have HS : Hid ((l.take (k + 1)).map leafB = (l.take k).map leafB ++ [leafB l[k]]) := by
        show _ = _
        rw [List.take_succ_eq_append_getElem hkl, List.map_append]
        rfl
      have E : Hid (Calls Tryz.prog 108 #[.string l[k]] wr fun e w' => e = .returned (.string (leafB l[k])) ∧ Below wr.heap.size wr w') := by
        have hs := HZ.out k hkl
        rw [← leafV_right hs]
        exact implLeaf_any l[k] wr (by omega) (HK.out.below hb HK.out.lt)
      have hll : ((l.take k).map leafB).length ≤ 1048576 := by rw [List.length_map, List.length_take]; omega
      have H1 : Hid (OwnT wr w.heap.size u3 ((l.take k).map leafB) ∧ Below w.heap.size w wr) := ⟨hown, hb⟩
      have hknI : (k : Int) < (n : Int) := by omega
      generalize leafB l[k] = d at *
      generalize l[k] = t at *
      clear hown hb hc0 HC HZ HV
      go_wp2_with fail
      refine E.out.mono ?_
      rintro e w1 ⟨rfl, hb1⟩
      have hown1 := H1.out.1.below hb1 (Nat.le_refl _)
      have H2 : Hid (Below w.heap.size w w1) := H1.out.2.trans (hb1.mono H1.out.2.size)
      have hsz1 := H2.out.size
      clear hb1 E
      go_wp2_with (at_builtin; go_must (refine wp_app_text rfl (.tmp 12) (.tmp 15) rfl w.heap.size _ _ rfl hown1 d rfl hll hsz1 ?_); intro v2 w2 hown2 hb2)
      go_roundw
      case rel => exact ⟨k + 1, by omega, by go_num, by rw [HS.out]; exact hown2, H2.out.trans hb2⟩
      case measure => simp [RowKit.intOf]; omega
    · have ek : k = n := by omega
      have hown' : OwnT wr w.heap.size u3 (l.map leafB) := by
        rw [List.take_of_length_le (by rw [← HN.out]; omega)] at hown
        exact hown
      obtain ⟨a3, cap3, rfl⟩ := hown'.len
      have hlm : (l.map leafB).length = n := by rw [List.length_map, HN.out]
      rw [hlm] at hown' hown ⊢
      have H1 : Hid (OwnT wr w.heap.size (.slice a3 n cap3) (l.map leafB) ∧ Below w.heap.size w wr) := ⟨hown', hb⟩
      have E : Hid (Calls Tryz.prog 109 #[.int .i64 n] wr fun e w' => LevAns n e ∧ w' = wr) := levelsAbove_any n wr hl
      have hkI : (k : Int) = (n : Int) := by omega
      have hkI2 : ¬ (k : Int) < (n : Int) := by omega
      clear hown hown' hb HC HZ hlm
      go_wp2_with fail
      refine E.out.mono ?_
      rintro e w1 ⟨⟨c, rfl, hc64, hc0, hcn⟩, rfl⟩
      have HL : Hid (rootD nodeB noneB (levelsD nodeB c (l.map leafB)) = V) := by
        show _ = _
        rw [HV.out]
        exact tree_levels l c (fun h => hc0 (by rw [HN.out]; exact h)) (by rw [← HN.out]; exact hcn)
      clear hc0 hcn E HV
      go_wp2
      go_loopw [3, 21] (fun x i w1 => ∃ j : Nat, j ≤ c ∧ i = .int .i64 j ∧ OwnT w1 w.heap.size x (levelsD nodeB j (l.map leafB)) ∧ Below w.heap.size w w1) (fun _ i _ => c - (RowKit.intOf i).toNat)
      case atStart => exact ⟨0, Nat.zero_le _, rfl, H1.out.1, H1.out.2⟩
      case round =>
        obtain ⟨j, hj, rfl, hown, hb⟩ := hrel
        have hlen : (levelsD nodeB j (l.map leafB)).length ≤ 1048576 := by
          have := levels_len j (l.map leafB)
          rw [List.length_map, ← HN.out] at this
          omega
        have hsm := small_at (levels_small j _ (leaves_small l))
        by_cases hjc : j < c
        · have E : Hid (Calls Tryz.prog 110 #[u3] wr fun e w' => ∃ v', e = .returned v' ∧ OwnT w' wr.heap.size v' (levelsD nodeB (j + 1) (l.map leafB)) ∧ Below wr.heap.size wr w') := by
            rw [levels_snoc]
            exact nextLevel_any u3 _ wr hown.texts hlen hsm (HK.out.below hb HK.out.lt)
          have H2 : Hid (Below w.heap.size w wr) := hb
          have hjcI : (j : Int) < (c : Int) := by omega
          clear hb hown hlen hsm HL
          go_wp2_with fail
          refine E.out.mono ?_
          rintro e w1 ⟨v1, rfl, hown1, hb1⟩
          have H3 : Hid (OwnT w1 w.heap.size v1 (levelsD nodeB (j + 1) (l.map leafB)) ∧ Below w.heap.size w w1) := ⟨hown1.lower H2.out.size, H2.out.trans (hb1.mono H2.out.size)⟩
          clear hown1 hb1 E
          go_wp2
          go_roundw
          case rel => exact ⟨j + 1, by omega, by go_num, H3.out.1, H3.out.2⟩
          case measure => simp [RowKit.intOf]; omega
        · have E : Hid (Calls Tryz.prog 111 #[u3] wr fun e w' => e = .returned (.string V) ∧ Below wr.heap.size wr w') := by
            have ej : j = c := by omega
            subst ej
            rw [← HL.out]
            exact together_any u3 _ wr hown.texts hlen hsm (HK.out.below hb HK.out.lt)
          have H2 : Hid (Below w.heap.size w wr) := hb
          have hjcI : ¬ (j : Int) < (c : Int) := by omega
          clear hb hown hlen hsm HL
          go_wp2_with fail
          refine E.out.mono ?_
          rintro e w1 ⟨rfl, hb1⟩
          have H3 : Hid (Below w.heap.size w w1) := H2.out.trans (hb1.mono H2.out.size)
          clear hb1 E
          go_wp2
          go_ret
          exact ⟨rfl, H3.out⟩
end Go.Proofs.YtcenlgfopmahcaaGreatDoor

/-
  Right entries: at most 64, of at most 100 bytes each. What is told of a tree.
-/
namespace Go.Proofs.YtcenlgfopmahcaaGreatDoor
open Go.RowKit Go.Lib
set_option linter.unusedVariables false

def smallB (l : List ByteArray) : Bool := l.all fun t => decide ((t.size : Int) ≤ 100)
theorem smallB_no {l : List ByteArray} {k : Nat} (hk : k < l.length) (h : ¬ (l[k].size : Int) ≤ 100) : smallB l = false := by
  unfold smallB
  rw [List.all_eq_false]
  exact ⟨l[k], List.getElem_mem hk, by simpa using h⟩
theorem smallB_yes {l : List ByteArray} (h : ∀ j (hj : j < l.length), (l[j].size : Int) ≤ 100) : smallB l = true := by
  unfold smallB
  rw [List.all_eq_true]
  intro t ht
  obtain ⟨j, hj, rfl⟩ := List.getElem_of_mem ht
  simpa using h j hj
theorem smallB_at {l : List ByteArray} (h : smallB l = true) {j : Nat} (hj : j < l.length) : l[j].size ≤ 100 := by
  unfold smallB at h
  have := List.all_eq_true.1 h l[j] (List.getElem_mem hj)
  have h2 : (l[j].size : Int) ≤ 100 := by simpa using this
  omega
def rightB (l : List ByteArray) : Bool := decide ((l.length : Int) ≤ 64) && smallB l
theorem rightB_len {l : List ByteArray} (h : rightB l = true) : l.length ≤ 64 := by
  unfold rightB at h
  have := (Bool.and_eq_true _ _).mp h
  have h2 : (l.length : Int) ≤ 64 := by simpa using this.1
  omega
theorem rightB_at {l : List ByteArray} (h : rightB l = true) {j : Nat} (hj : j < l.length) : l[j].size ≤ 100 := by
  unfold rightB at h
  exact smallB_at ((Bool.and_eq_true _ _).mp h).2 hj
theorem rightB_long {l : List ByteArray} (h : 64 < l.length) : rightB l = false := by
  unfold rightB
  rw [decide_eq_false (by omega), Bool.false_and]
theorem rightB_short {l : List ByteArray} (h : l.length ≤ 64) : rightB l = smallB l := by
  unfold rightB
  rw [decide_eq_true (by omega), Bool.true_and]
/-- What is told of the tree of entries. -/
def treeV (l : List ByteArray) : ByteArray := if rightB l then treeB l else ByteArray.empty
end Go.Proofs.YtcenlgfopmahcaaGreatDoor

/-
  The program's word on right entries.
-/
namespace Go.Proofs.YtcenlgfopmahcaaGreatDoor
open Go.RowKit Go.Lib
set_option linter.unusedVariables false

set_option maxHeartbeats 400000 in
theorem entriesRight_any (v : Value) (l : List ByteArray) (w : World) (B : Nat) (h : Texts w B v l) (hl : l.length ≤ 1048576) :
    Calls Tryz.prog 76 #[v] w fun e w' => e = .returned (.bool (rightB l)) ∧ w' = w := by
  obtain ⟨a, cap, rfl, hcap, hc⟩ := h.at
  have HC : Hid (∀ j (hj : j < l.length), ∃ b off, a = some ⟨b, off, none⟩ ∧ b < B ∧ w.cell? ⟨b, off + j, none⟩ = some (.string l[j])) := hc
  clear hc h hcap
  by_cases h64 : 64 < l.length
  · rw [rightB_long h64]
    have hI : (64 : Int) < (l.length : Int) := by omega
    clear HC
    generalize l.length = n at *
    go_enter Tryz.func76, Tryz.ntmps76
    go_wp2
    go_ret
    exact ⟨rfl, rfl⟩
  rw [rightB_short (by omega)]
  obtain ⟨n, hn⟩ : ∃ n, n = l.length := ⟨_, rfl⟩
  have HN : Hid (n = l.length) := hn
  have hnI : ¬ (64 : Int) < (n : Int) := by omega
  rw [← hn] at hl ⊢
  clear hn h64
  obtain ⟨W, hW⟩ : ∃ W, W = smallB l := ⟨_, rfl⟩
  rw [← hW]
  have HW : Hid (W = smallB l) := hW
  clear hW
  go_enter Tryz.func76, Tryz.ntmps76
  go_wp2
  go_loop [10] (fun i => ∃ k : Nat, k ≤ n ∧ i = .int .i64 k ∧ ∀ j (h : j < l.length), j < k → (l[j].size : Int) ≤ 100) (fun i => n - (RowKit.intOf i).toNat)
  case atStart => exact ⟨0, Nat.zero_le _, rfl, fun j _ h => by omega⟩
  case round =>
    obtain ⟨k, hk, rfl, hall⟩ := hrel
    have HA : Hid (∀ j (h : j < l.length), j < k → (l[j].size : Int) ≤ 100) := hall
    clear hall
    by_cases hkn : k < n
    · have hkl : k < l.length := by rw [← HN.out]; exact hkn
      obtain ⟨b, off, rfl, hB, hc⟩ := HC.out k hkl
      have HA2 : Hid ((l[k].size : Int) ≤ 100 → ∀ j (h : j < l.length), j < k + 1 → (l[j].size : Int) ≤ 100) := fun hr j h hj => by
        by_cases e : j = k
        · subst e; exact hr
        · exact HA.out j h (by omega)
      have HB : Hid (¬ (l[k].size : Int) ≤ 100 → W = false) := fun h => by
        rw [HW.out]
        exact smallB_no hkl h
      have hknI : (k : Int) < (n : Int) := by omega
      clear HC HA HN HW
      generalize l[k] = t at *
      by_cases h32 : (t.size : Int) ≤ 100
      · go_wp2
        go_round
        case rel => exact ⟨k + 1, by omega, by go_num, HA2.out h32⟩
        case measure => simp [RowKit.intOf]; omega
      · have HF : Hid (W = false) := HB.out h32
        clear HA2 HB
        go_wp2
        go_ret
        exact ⟨ret_bool HF.out.symm, rfl⟩
    · have HF : Hid (W = true) := by
        show _ = _
        rw [HW.out]
        exact smallB_yes fun j hj => HA.out j hj (by have := HN.out; omega)
      clear HC HA HN HW
      go_wp2
      go_ret
      exact ⟨ret_bool HF.out.symm, rfl⟩
end Go.Proofs.YtcenlgfopmahcaaGreatDoor

/-
  The program climbs a path from above.
-/
namespace Go.Proofs.YtcenlgfopmahcaaGreatDoor
open Go.RowKit Go.Lib
set_option linter.unusedVariables false

abbrev climbB (leaf : ByteArray) (r : List ByteArray) (i n : Nat) : ByteArray × Bool := climbR nodeB ByteArray.empty leaf r i n
theorem climbB_size (leaf : ByteArray) (h : leaf.size ≤ 1000) (r : List ByteArray) (i n : Nat) : (climbB leaf r i n).1.size ≤ 1000 := by
  unfold climbB
  cases r with
  | nil =>
    rw [climbR]
    split
    · exact h
    · show 0 ≤ 1000; omega
  | cons p r =>
    rw [climbR]
    split
    · exact h
    · split
      · show (nodeB _ _).size ≤ 1000; rw [nodeB_size]; omega
      · show (nodeB _ _).size ≤ 1000; rw [nodeB_size]; omega
theorem climbB_one (leaf : ByteArray) (r : List ByteArray) (i : Nat) : climbB leaf r i 1 = (leaf, decide (r.length = 0)) := by
  unfold climbB
  cases r with
  | nil => rw [climbR, if_pos rfl]; rfl
  | cons p r => rw [climbR, if_pos rfl]; rfl
theorem climbB_nil (leaf : ByteArray) {i n : Nat} (h : n ≠ 1) : climbB leaf [] i n = (ByteArray.empty, false) := by
  unfold climbB
  rw [climbR, if_neg h]
def ClimbAns (t : ByteArray × Bool) (e : Ending) : Prop := e = .returned (.tuple #[.string t.1, .bool t.2])
theorem climb_ret {a : ByteArray} {b : Bool} {t : ByteArray × Bool} (h : t = (a, b)) : ClimbAns t (.returned (.tuple #[.string a, .bool b])) := by subst h; rfl

set_option maxHeartbeats 4000000 in
theorem climb_any (m : Nat) : ∀ (path : List ByteArray), path.length = m → m ≤ 1000 → (∀ j (hj : j < path.length), path[j].size ≤ 1000) → ∀ (leaf : ByteArray) (i n : Nat) (x y : Int) (v : Value) (w : World), leaf.size ≤ 1000 → x = (i : Int) → y = (n : Int) → 1 ≤ n → n ≤ 9223372036854775807 → i < n → Texts w w.heap.size v path → Keys w →
    Calls Tryz.prog 130 #[.string leaf, .int .i64 x, .int .i64 y, v] w fun e w' => ClimbAns (climbB leaf path.reverse i n) e ∧ Below w.heap.size w w' := by
  induction m with
  | zero =>
    intro path hm hm1 hz leaf i n x y v w hleaf hx hy h1 hn hi h hK
    subst hx hy
    obtain rfl := List.eq_nil_of_length_eq_zero hm
    rw [List.reverse_nil]
    obtain ⟨a, cap, rfl, hx, hy⟩ := h
    clear hx hy hK hz
    rw [List.length_nil]
    by_cases hn1 : n = 1
    · subst hn1
      go_enter Tryz.func130, Tryz.ntmps130
      go_wp2
      go_ret2
      exact ⟨climb_ret (climbB_one leaf [] i), Below.refl _ _⟩
    · have hnB : ((n : Int) == 1) = false := beq_eq_false_iff_ne.2 (by omega)
      have hnI : ¬ (n : Int) = 1 := by omega
      go_enter Tryz.func130, Tryz.ntmps130
      go_wp2
      go_ret2
      exact ⟨climb_ret (climbB_nil leaf hn1), Below.refl _ _⟩
  | succ m ih =>
    intro path hm hm1 hz leaf i n x y v w hleaf hx hy h1 hn hi h hK
    subst hx hy
    by_cases hn1 : n = 1
    · subst hn1
      obtain ⟨a, cap, rfl, hx, hy⟩ := h
      clear hx hy hK hz ih
      rw [hm]
      have hm0 : ((m : Int) + 1 == 0) = false := beq_eq_false_iff_ne.2 (by omega)
      have hmI : ((m + 1 : Nat) : Int) = (m : Int) + 1 := by omega
      go_enter Tryz.func130, Tryz.ntmps130
      go_wp2
      go_ret2
      exact ⟨climb_ret (by rw [climbB_one, List.length_reverse, hm]; simp), Below.refl _ _⟩
    have hne : path ≠ [] := by rintro rfl; simp at hm
    obtain ⟨r, p, rfl⟩ : ∃ r p, path = r ++ [p] := ⟨path.dropLast, path.getLast hne, (List.dropLast_concat_getLast hne).symm⟩
    have hr : r.length = m := by simpa using hm
    rw [List.reverse_append, List.reverse_singleton, List.singleton_append]
    obtain ⟨ex, he, hk1, hk2⟩ := half_spec (show 2 ≤ n by omega)
    have hp := Nat.two_pow_pos ex
    have EH : Hid (Calls Tryz.prog 149 #[.int .i64 n] w fun e w' => e = .returned (.int .i64 (half n)) ∧ w' = w) := splitOf_any n w (by omega) hn
    have hcl := climbR_left nodeB ByteArray.empty leaf p r.reverse (i := i) (show 2 ≤ n by omega)
    have hcr := climbR_right nodeB ByteArray.empty leaf p r.reverse (i := i) (show 2 ≤ n by omega)
    obtain ⟨k, hk⟩ : ∃ k, k = half n := ⟨_, rfl⟩
    rw [← hk] at hk1 hk2 he EH hcl hcr
    obtain ⟨v1, hs1, ht1⟩ := slice_h h m (by rw [hm]; omega) (m : Int) rfl
    rw [List.take_left' hr] at ht1
    have hzr : ∀ j (hj : j < r.length), r[j].size ≤ 1000 := fun j hj => by
      have := hz j (by simp; omega)
      rwa [List.getElem_append_left hj] at this
    have hzp : p.size ≤ 1000 := by
      have := hz r.length (by simp)
      rwa [List.getElem_append_right (Nat.le_refl _), List.getElem_singleton] at this
    have hclast : ∃ b off, (∃ cap, v = .slice (some ⟨b, off, none⟩) (m + 1) cap) ∧ b < w.heap.size ∧ w.cell? ⟨b, off + m, none⟩ = some (.string p) := by
      obtain ⟨a, cap, hv, hcap, hc⟩ := h.at
      obtain ⟨b, off, rfl, hB, hcell⟩ := hc m (by rw [hm]; omega)
      rw [hm] at hv
      refine ⟨b, off, ⟨cap, hv⟩, hB, ?_⟩
      rw [hcell]
      congr 2
      subst hr
      simp
    obtain ⟨b, off, ⟨cap, rfl⟩, hB, hcp⟩ := hclast
    have HK : Hid (Keys w) := hK
    have HZ : Hid (p.size ≤ 1000) := hzp
    have E2 : Hid (∀ l r w', l.size ≤ 1000 → r.size ≤ 1000 → Keys w' → Calls Tryz.prog 111 #[.slice (some ⟨w'.heap.size, 0, none⟩) 2 2] (w'.alloc (.cells #[.string l, .string r] 9)) fun e w'' => e = .returned (.string (nodeB l r)) ∧ Below w'.heap.size w' w'') := fun l r w' hl hr hK' => together_two l r w' hl hr hK'
    have hnB : ((n : Int) == 1) = false := beq_eq_false_iff_ne.2 (by omega)
    have hnI : ¬ (n : Int) = 1 := by omega
    have hm0 : ((m : Int) + 1 == 0) = false := beq_eq_false_iff_ne.2 (by omega)
    have hmI : ((m + 1 : Nat) : Int) = (m : Int) + 1 := by omega
    by_cases hik : i < k
    · have EC : Hid (Calls Tryz.prog 130 #[.string leaf, .int .i64 i, .int .i64 k, v1] w fun e w' => ClimbAns (climbB leaf r.reverse i k) e ∧ Below w.heap.size w w') := ih r hr (by omega) hzr leaf i k i k v1 w hleaf rfl rfl (by omega) (by omega) hik ht1 hK
      have HR : Hid (climbB leaf (p :: r.reverse) i n = (nodeB (climbB leaf r.reverse i k).1 p, (climbB leaf r.reverse i k).2)) := hcl hik
      have HS : Hid ((climbB leaf r.reverse i k).1.size ≤ 1000) := climbB_size leaf hleaf _ _ _
      have hikI : (i : Int) < (k : Int) := by omega
      generalize climbB leaf (p :: r.reverse) i n = R at *
      generalize climbB leaf r.reverse i k = C at *
      clear hcl hcr ih hz hzr hzp hK h ht1 hm hr hne hk he hp
      go_enter Tryz.func130, Tryz.ntmps130
      go_wp2_with fail
      refine EH.out.mono ?_
      rintro e w1 ⟨rfl, rfl⟩
      clear EH
      go_wp2_with fail
      refine EC.out.mono ?_
      rintro e w2 ⟨hc2, hb2⟩
      unfold ClimbAns at hc2
      subst hc2
      have hcp2 : w2.cell? ⟨b, off + m, none⟩ = some (.string p) := (hb2.cell (p := ⟨b, off + m, none⟩) hB).trans hcp
      have H2 : Hid (Below w1.heap.size w1 w2) := hb2
      clear hb2 EC
      go_wp2_with fail
      refine (E2.out _ _ _ HS.out HZ.out (HK.out.below H2.out HK.out.lt)).mono ?_
      rintro e w3 ⟨rfl, hb3⟩
      have H3 : Hid (Below w1.heap.size w1 w3) := H2.out.trans (hb3.mono H2.out.size)
      clear hb3
      go_wp2
      go_ret2
      exact ⟨climb_ret HR.out, H3.out⟩
    · have EC : Hid (Calls Tryz.prog 130 #[.string leaf, .int .i64 ((i : Int) - (k : Int)), .int .i64 ((n : Int) - (k : Int)), v1] w fun e w' => ClimbAns (climbB leaf r.reverse (i - k) (n - k)) e ∧ Below w.heap.size w w') := ih r hr (by omega) hzr leaf (i - k) (n - k) _ _ v1 w hleaf (by omega) (by omega) (by omega) (by omega) (by omega) ht1 hK
      have HR : Hid (climbB leaf (p :: r.reverse) i n = (nodeB p (climbB leaf r.reverse (i - k) (n - k)).1, (climbB leaf r.reverse (i - k) (n - k)).2)) := hcr hik
      have HS : Hid ((climbB leaf r.reverse (i - k) (n - k)).1.size ≤ 1000) := climbB_size leaf hleaf _ _ _
      have hikI : ¬ (i : Int) < (k : Int) := by omega
      generalize climbB leaf (p :: r.reverse) i n = R at *
      generalize climbB leaf r.reverse (i - k) (n - k) = C at *
      clear hcl hcr ih hz hzr hzp hK h ht1 hm hr hne hk he hp
      go_enter Tryz.func130, Tryz.ntmps130
      go_wp2_with fail
      refine EH.out.mono ?_
      rintro e w1 ⟨rfl, rfl⟩
      clear EH
      go_wp2_with fail
      refine EC.out.mono ?_
      rintro e w2 ⟨hc2, hb2⟩
      unfold ClimbAns at hc2
      subst hc2
      have hcp2 : w2.cell? ⟨b, off + m, none⟩ = some (.string p) := (hb2.cell (p := ⟨b, off + m, none⟩) hB).trans hcp
      have H2 : Hid (Below w1.heap.size w1 w2) := hb2
      clear hb2 EC
      go_wp2_with fail
      refine (E2.out _ _ _ HZ.out HS.out (HK.out.below H2.out HK.out.lt)).mono ?_
      rintro e w3 ⟨rfl, hb3⟩
      have H3 : Hid (Below w1.heap.size w1 w3) := H2.out.trans (hb3.mono H2.out.size)
      clear hb3
      go_wp2
      go_ret2
      exact ⟨climb_ret HR.out, H3.out⟩
end Go.Proofs.YtcenlgfopmahcaaGreatDoor

/-
  The program's Included: it answers as a run from below.
-/
namespace Go.Proofs.YtcenlgfopmahcaaGreatDoor
open Go.RowKit Go.Lib
set_option linter.unusedVariables false

/-- Climbed from above, and held against the root. -/
theorem incl_climb {leaf root : ByteArray} {i n : Int} {path : List ByteArray} (h1 : path.length ≤ 63) (h2 : wideB path = true) (h3 : (leaf.size : Int) = 32) (h4 : (root.size : Int) = 32) (h5 : 0 ≤ i) (h6 : i < n) :
    inclB leaf i n path root = ((climbB leaf path.reverse i.toNat n.toNat).2 && ((climbB leaf path.reverse i.toNat n.toNat).1.toList == root.toList)) := by
  have e : inclB leaf i n path root = inclEnd root (inclRun nodeB (some (i.toNat, (n - 1).toNat, leaf)) path) := by
    unfold inclB
    rw [if_neg]
    rintro (h | h | h | h | h | h)
    · omega
    · rw [h2] at h; cases h
    · exact h h3
    · exact h h4
    · omega
    · omega
  have hc := climb_run nodeB ByteArray.empty leaf i.toNat n.toNat path (by omega) (by omega)
  rw [e, show (n - 1).toNat = n.toNat - 1 by omega]
  show inclEnd root _ = ((climbR nodeB ByteArray.empty leaf path.reverse i.toNat n.toNat).2 && _)
  cases hs : inclRun nodeB (some (i.toNat, n.toNat - 1, leaf)) path with
  | none =>
    rw [hs] at hc
    by_cases hf : (climbR nodeB ByteArray.empty leaf path.reverse i.toNat n.toNat).2 = true
    · rw [if_pos hf] at hc; cases hc
    · have hf' : (climbR nodeB ByteArray.empty leaf path.reverse i.toNat n.toNat).2 = false := by simpa using hf
      rw [hf']
      rfl
  | some s =>
    obtain ⟨a, b, d⟩ := s
    rw [hs] at hc
    simp only [inclOut] at hc
    by_cases hb : b = 0
    · rw [if_pos hb] at hc
      by_cases hf : (climbR nodeB ByteArray.empty leaf path.reverse i.toNat n.toNat).2 = true
      · rw [if_pos hf] at hc
        have hd := Option.some.inj hc
        rw [hf, ← hd]
        simp [inclEnd, hb]
      · rw [if_neg hf] at hc; cases hc
    · rw [if_neg hb] at hc
      by_cases hf : (climbR nodeB ByteArray.empty leaf path.reverse i.toNat n.toNat).2 = true
      · rw [if_pos hf] at hc; cases hc
      · have hf' : (climbR nodeB ByteArray.empty leaf path.reverse i.toNat n.toNat).2 = false := by simpa using hf
        rw [hf']
        simp [inclEnd, hb]
theorem inclB_not {leaf root : ByteArray} {i n : Int} {path : List ByteArray} (h : 63 < (path.length : Int) ∨ wideB path = false ∨ ¬ (leaf.size : Int) = 32 ∨ ¬ (root.size : Int) = 32 ∨ i < 0 ∨ n ≤ i) : inclB leaf i n path root = false := by
  unfold inclB
  rw [if_pos h]

set_option maxHeartbeats 4000000 in
theorem implIncl_any (leaf root : ByteArray) (i n : Int) (v : Value) (path : List ByteArray) (w : World) (h : Texts w w.heap.size v path) (hl : path.length ≤ 1048576) (hi0 : -9223372036854775808 ≤ i) (hi1 : i ≤ 9223372036854775807) (hn0 : -9223372036854775808 ≤ n) (hn1 : n ≤ 9223372036854775807) (hz1 : leaf.size ≤ 1048576) (hz2 : root.size ≤ 1048576) (hK : Keys w) :
    Calls Tryz.prog 119 #[.string leaf, .int .i64 i, .int .i64 n, v, .string root] w fun e w' => e = .returned (.bool (inclB leaf i n path root)) ∧ Below w.heap.size w w' := by
  by_cases c5 : i < 0
  · rw [inclB_not (.inr (.inr (.inr (.inr (.inl c5)))))]
    clear h hK
    go_enter Tryz.func119, Tryz.ntmps119
    go_wp2_with fail
    go_ret
    exact ⟨rfl, Below.refl _ _⟩
  by_cases c6 : n ≤ i
  · rw [inclB_not (.inr (.inr (.inr (.inr (.inr c6)))))]
    clear h hK
    go_enter Tryz.func119, Tryz.ntmps119
    go_wp2_with fail
    go_ret
    exact ⟨rfl, Below.refl _ _⟩
  by_cases c1 : (63 : Int) < (path.length : Int)
  · rw [inclB_not (.inl c1)]
    obtain ⟨a, cap, rfl, hx, hy⟩ := h
    clear hx hy hK
    generalize path.length = m at *
    go_enter Tryz.func119, Tryz.ntmps119
    go_wp2_with fail
    go_ret
    exact ⟨rfl, Below.refl _ _⟩
  have E1 : Hid (Calls Tryz.prog 60 #[.slice (some ⟨w.heap.size, 0, none⟩) 2 2] (w.alloc (.cells #[.string leaf, .string root] 9)) fun e w' => e = .returned (.bool (wideB [leaf, root])) ∧ w' = w.alloc (.cells #[.string leaf, .string root] 9)) := areDigests_any _ [leaf, root] _ _ (two_texts w leaf root) (by simp)
  rw [wide_two] at E1
  have hal : Below w.heap.size w (w.alloc (.cells #[.string leaf, .string root] 9)) := (Below.refl _ _).alloc (Nat.le_refl _) _
  by_cases c34 : (leaf.size : Int) = 32 ∧ (root.size : Int) = 32
  · obtain ⟨c3, c4⟩ := c34
    rw [decide_eq_true c3, decide_eq_true c4, Bool.true_and] at E1
    have E2 : Hid (Calls Tryz.prog 60 #[v] (w.alloc (.cells #[.string leaf, .string root] 9)) fun e w' => e = .returned (.bool (wideB path)) ∧ w' = w.alloc (.cells #[.string leaf, .string root] 9)) := areDigests_any v path _ w.heap.size (h.below hal) hl
    by_cases c2 : wideB path = true
    · rw [c2] at E2
      rw [incl_climb (by omega) c2 c3 c4 (by omega) (by omega)]
      have E3 : Hid (Calls Tryz.prog 130 #[.string leaf, .int .i64 i, .int .i64 n, v] (w.alloc (.cells #[.string leaf, .string root] 9)) fun e w' => ClimbAns (climbB leaf path.reverse i.toNat n.toNat) e ∧ Below w.heap.size w w') := by
        refine (climb_any path.length path rfl (by omega) (fun j hj => by have := wideB_at c2 hj; omega) leaf i.toNat n.toNat i n v _ (by omega) (by omega) (by omega) (by omega) (by omega) (by omega) ((h.below hal).up (by simp)) (hK.below hal hK.lt)).mono ?_
        rintro e w' ⟨h1, hb⟩
        exact ⟨h1, hal.trans (hb.mono (by simp))⟩
      generalize climbB leaf path.reverse i.toNat n.toNat = C at *
      obtain ⟨C1, C2⟩ := C
      obtain ⟨a, cap, rfl, hx, hy⟩ := h
      clear hx hy c2 hK
      generalize path.length = m at *
      go_enter Tryz.func119, Tryz.ntmps119
      go_wp2_with fail
      refine E1.out.mono ?_
      rintro e w1 ⟨rfl, hw1⟩
      rw [← hw1] at E2 E3
      clear E1 hw1 hal
      go_wp2_with fail
      refine E2.out.mono ?_
      rintro e w2 ⟨rfl, hw2⟩
      subst hw2
      clear E2
      go_wp2_with fail
      refine E3.out.mono ?_
      rintro e w3 ⟨hc3, hb3⟩
      unfold ClimbAns at hc3
      subst hc3
      have H3 : Hid (Below w.heap.size w w3) := hb3
      clear hb3 E3
      cases C2 with
      | true =>
        go_wp2
        go_ret
        exact ⟨rfl, H3.out⟩
      | false =>
        go_wp2
        go_ret
        exact ⟨rfl, H3.out⟩
    · have c2' : wideB path = false := by simpa using c2
      rw [c2'] at E2
      rw [inclB_not (.inr (.inl c2'))]
      obtain ⟨a, cap, rfl, hx, hy⟩ := h
      clear hx hy c2 hK c2'
      generalize path.length = m at *
      go_enter Tryz.func119, Tryz.ntmps119
      go_wp2_with fail
      refine E1.out.mono ?_
      rintro e w1 ⟨rfl, hw1⟩
      rw [← hw1] at E2 hal
      have HAL : Hid (Below w.heap.size w w1) := hal
      clear E1 hw1 hal
      go_wp2_with fail
      refine E2.out.mono ?_
      rintro e w2 ⟨rfl, hw2⟩
      subst hw2
      have H3 : Hid (Below w.heap.size w w2) := HAL.out
      clear E2 HAL
      go_wp2
      go_ret
      exact ⟨rfl, H3.out⟩
  · have hno : (decide ((leaf.size : Int) = 32) && decide ((root.size : Int) = 32)) = false := by
      rw [Bool.and_eq_false_iff]
      by_cases h1 : (leaf.size : Int) = 32
      · exact .inr (decide_eq_false fun h2 => c34 ⟨h1, h2⟩)
      · exact .inl (decide_eq_false h1)
    rw [inclB_not (by by_cases h1 : (leaf.size : Int) = 32; exact .inr (.inr (.inr (.inl fun h2 => c34 ⟨h1, h2⟩))); exact .inr (.inr (.inl h1)))]
    rw [hno] at E1
    obtain ⟨a, cap, rfl, hx, hy⟩ := h
    clear hx hy hK hno c34
    generalize path.length = m at *
    go_enter Tryz.func119, Tryz.ntmps119
    go_wp2_with fail
    refine E1.out.mono ?_
    rintro e w1 ⟨rfl, hw1⟩
    have H1 : Hid (Below w.heap.size w w1) := by rw [hw1]; exact hal
    clear hw1 E1 hal
    go_wp2
    go_ret
    exact ⟨rfl, H1.out⟩
end Go.Proofs.YtcenlgfopmahcaaGreatDoor
