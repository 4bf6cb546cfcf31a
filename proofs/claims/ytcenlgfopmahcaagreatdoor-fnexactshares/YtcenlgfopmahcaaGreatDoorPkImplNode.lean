/-
  The program's leaf; whether texts are digests; texts put together from the right.
-/
import Derived.Test.YtcenlgfopmahcaaGreatDoorPkMix
import Derived.Test.YtcenlgfopmahcaaGreatDoorPkCells
import Derived.Test.YtcenlgfopmahcaaGreatDoorPkShaPure
import Derived.Test.YtcenlgfopmahcaaGreatDoorPkTextRows
namespace Go.Proofs.YtcenlgfopmahcaaGreatDoor
open Go.RowKit Go.Lib
set_option linter.unusedVariables false

/-- The leaf that is told of a text. -/
def leafV (t : ByteArray) : ByteArray := if 100 < (t.size : Int) then ByteArray.empty else leafB t
theorem leafV_right {t : ByteArray} (h : t.size ≤ 100) : leafV t = leafB t := by unfold leafV; rw [if_neg (by omega)]
set_option maxHeartbeats 400000 in
theorem implLeaf_any (t : ByteArray) (w : World) (ht : t.size ≤ 1048576) (hK : Keys w) :
    Calls Tryz.prog 108 #[.string t] w fun e w' => e = .returned (.string (leafV t)) ∧ Below w.heap.size w w' := by
  unfold leafV
  by_cases h : 100 < (t.size : Int)
  · rw [if_pos h]
    clear hK
    go_enter Tryz.func108, Tryz.ntmps108
    go_wp2
    go_ret
    exact ⟨rfl, Below.refl _ _⟩
  · rw [if_neg h]
    have E : Hid (Calls Tryz.prog 125 #[.string zeroB, .string t] w fun e w' => e = .returned (.string (leafB t)) ∧ Below w.heap.size w w') := digestOf_any zeroB t w (by show 1 ≤ 50000; omega) (by omega) hK
    generalize leafB t = v at *
    unfold zeroB at E
    clear hK
    go_enter Tryz.func108, Tryz.ntmps108
    go_wp2_with fail
    refine E.out.mono ?_
    rintro e w1 ⟨rfl, hb⟩
    have HB : Hid (Below w.heap.size w w1) := hb
    clear hb
    go_wp2
    go_ret
    exact ⟨rfl, HB.out⟩

set_option maxHeartbeats 400000 in
theorem areDigests_any (v : Value) (l : List ByteArray) (w : World) (B : Nat) (h : Texts w B v l) (hl : l.length ≤ 1048576) :
    Calls Tryz.prog 60 #[v] w fun e w' => e = .returned (.bool (wideB l)) ∧ w' = w := by
  obtain ⟨a, cap, rfl, hcap, hc⟩ := h.at
  have HC : Hid (∀ j (hj : j < l.length), ∃ b off, a = some ⟨b, off, none⟩ ∧ b < B ∧ w.cell? ⟨b, off + j, none⟩ = some (.string l[j])) := hc
  clear hc h hcap
  obtain ⟨n, hn⟩ : ∃ n, n = l.length := ⟨_, rfl⟩
  have HN : Hid (n = l.length) := hn
  rw [← hn] at hl ⊢
  clear hn
  obtain ⟨W, hW⟩ : ∃ W, W = wideB l := ⟨_, rfl⟩
  rw [← hW]
  have HW : Hid (W = wideB l) := hW
  clear hW
  go_enter Tryz.func60, Tryz.ntmps60
  go_wp2
  go_loop [7] (fun i => ∃ k : Nat, k ≤ n ∧ i = .int .i64 k ∧ ∀ j (h : j < l.length), j < k → (l[j].size : Int) = 32) (fun i => n - (RowKit.intOf i).toNat)
  case atStart => exact ⟨0, Nat.zero_le _, rfl, fun j _ h => by omega⟩
  case round =>
    obtain ⟨k, hk, rfl, hall⟩ := hrel
    have HA : Hid (∀ j (h : j < l.length), j < k → (l[j].size : Int) = 32) := hall
    clear hall
    by_cases hkn : k < n
    · have hkl : k < l.length := by rw [← HN.out]; exact hkn
      obtain ⟨b, off, rfl, hB, hc⟩ := HC.out k hkl
      have HA2 : Hid ((l[k].size : Int) = 32 → ∀ j (h : j < l.length), j < k + 1 → (l[j].size : Int) = 32) := fun hr j h hj => by
        by_cases e : j = k
        · subst e; exact hr
        · exact HA.out j h (by omega)
      have HB : Hid (¬ (l[k].size : Int) = 32 → W = false) := fun h => by rw [HW.out]; exact wideB_no hkl h
      have hknI : (k : Int) < (n : Int) := by omega
      clear HC HA HN HW
      generalize l[k] = t at *
      by_cases h32 : (t.size : Int) = 32
      · go_wp2
        go_round
        case rel => exact ⟨k + 1, by omega, by go_num, HA2.out h32⟩
        case measure => simp [RowKit.intOf]; omega
      · have HF : Hid (W = false) := HB.out h32
        clear HA2 HB
        go_wp2
        go_ret
        exact ⟨ret_bool HF.out.symm, rfl⟩
    · have HF : Hid (W = true) := by
        show _ = _
        rw [HW.out]
        exact wideB_yes fun j hj => HA.out j hj (by have := HN.out; omega)
      clear HC HA HN HW
      go_wp2
      go_ret
      exact ⟨ret_bool HF.out.symm, rfl⟩
end Go.Proofs.YtcenlgfopmahcaaGreatDoor

/-
  Texts put together from the right: the tree of a range.
-/
namespace Go.Proofs.YtcenlgfopmahcaaGreatDoor
open Go.RowKit Go.Lib
set_option linter.unusedVariables false

theorem digV_empty : digV ByteArray.empty = noneB := rfl
/-- The tree of texts from k on. -/
theorem root_drop (l : List ByteArray) {k : Nat} (h : k + 1 < l.length) : rootD nodeB noneB (l.drop k) = nodeB l[k] (rootD nodeB noneB (l.drop (k + 1))) := by
  rw [List.drop_eq_getElem_cons (show k < l.length by omega)]
  exact rootD_cons nodeB noneB _ (by
    intro h0
    have := congrArg List.length h0
    simp at this
    omega)
theorem root_last (l : List ByteArray) {k : Nat} (h : k + 1 = l.length) : rootD nodeB noneB (l.drop k) = l[k] := by
  rw [List.drop_eq_getElem_cons (show k < l.length by omega), List.drop_eq_nil_of_le (by omega)]
  rfl
theorem root_size (l : List ByteArray) (n : Nat) (hn : 32 ≤ n) (h : ∀ j (hj : j < l.length), l[j].size ≤ n) : (rootD nodeB noneB l).size ≤ n := by
  match l, h with
  | [], _ => show noneB.size ≤ n; rw [show noneB.size = 32 from shaB_size _]; exact hn
  | [x], h => exact h 0 (by simp)
  | x :: y :: r, _ => show (nodeB x _).size ≤ n; rw [nodeB_size]; exact hn

set_option maxHeartbeats 1000000 in
theorem together_any (v : Value) (l : List ByteArray) (w : World) (h : Texts w w.heap.size v l) (hl : l.length ≤ 1048576) (hz : ∀ j (hj : j < l.length), l[j].size ≤ 1000) (hK : Keys w) :
    Calls Tryz.prog 111 #[v] w fun e w' => e = .returned (.string (rootD nodeB noneB l)) ∧ Below w.heap.size w w' := by
  obtain ⟨a, cap, rfl, hcap, hc⟩ := h.at
  have HC : Hid (∀ j (hj : j < l.length), ∃ b off, a = some ⟨b, off, none⟩ ∧ b < w.heap.size ∧ w.cell? ⟨b, off + j, none⟩ = some (.string l[j])) := hc
  clear hc h hcap
  by_cases h0 : l.length = 0
  · obtain rfl := List.eq_nil_of_length_eq_zero h0
    have E : Hid (Calls Tryz.prog 126 #[.string ByteArray.empty] w fun e w' => e = .returned (.string (digV ByteArray.empty)) ∧ Below w.heap.size w w') := implDigest_any ByteArray.empty w (by show 0 ≤ 1048576; omega) hK
    rw [digV_empty] at E
    show Calls _ _ _ _ fun e w' => e = .returned (.string noneB) ∧ _
    generalize noneB = D at *
    clear HC hz hK hl h0
    rw [List.length_nil]
    unfold ByteArray.empty ByteArray.emptyWithCapacity at E
    go_enter Tryz.func111, Tryz.ntmps111
    go_wp2_with fail
    refine E.out.mono ?_
    rintro e w1 ⟨rfl, hb⟩
    have HB : Hid (Below w.heap.size w w1) := hb
    clear hb
    go_wp2
    go_ret
    exact ⟨rfl, HB.out⟩
  · obtain ⟨m, hm⟩ : ∃ m, l.length = m + 1 := ⟨l.length - 1, by omega⟩
    have HN : Hid (l.length = m + 1) := hm
    have HZ : Hid (∀ j (hj : j < l.length), l[j].size ≤ 1000) := hz
    have HK : Hid (Keys w) := hK
    obtain ⟨V, hV⟩ : ∃ V, V = rootD nodeB noneB l := ⟨_, rfl⟩
    rw [← hV]
    have HV : Hid (V = rootD nodeB noneB l) := hV
    obtain ⟨b, off, rfl, hB, hcm⟩ := HC.out m (by omega)
    have HL : Hid (rootD nodeB noneB (l.drop m) = l[m] ∧ l[m].size ≤ 1000) := ⟨root_last l (by omega), hz m (by omega)⟩
    generalize l[m] = tm at *
    rw [hm] at hl ⊢
    clear hV hz hK h0 hm
    have hmI : ((m + 1 : Nat) : Int) = (m : Int) + 1 := by omega
    have hm0 : ((m : Int) + 1 == 0) = false := beq_eq_false_iff_ne.2 (by omega)
    go_enter Tryz.func111, Tryz.ntmps111
    go_wp2
    clear hcm
    go_loopw [4, 18] (fun x i wr => ∃ (k : Nat) (t : ByteArray), k ≤ m ∧ i = .int .i64 k ∧ x = .string t ∧ t.size ≤ 1000 ∧ rootD nodeB noneB (l.drop (m - k)) = t ∧ Below w.heap.size w wr) (fun _ i _ => m - (RowKit.intOf i).toNat)
    case atStart => exact ⟨0, tm, Nat.zero_le _, rfl, rfl, HL.out.2, HL.out.1, Below.refl _ _⟩
    case round =>
      obtain ⟨k, t, hk, rfl, rfl, ht, hr, hb⟩ := hrel
      have HR : Hid (rootD nodeB noneB (l.drop (m - k)) = t ∧ t.size ≤ 1000) := ⟨hr, ht⟩
      clear hr ht HL
      by_cases hkm : k < m
      · have hjl : m - 1 - k < l.length := by have := HN.out; omega
        obtain ⟨b', off', e', _, hc0⟩ := HC.out (m - 1 - k) hjl
        obtain ⟨rfl, rfl⟩ : b = b' ∧ off = off' := by simp at e'; exact e'
        clear e'
        have hc : wr.cell? ⟨b, off + (m - 1 - k), none⟩ = some (.string l[m - 1 - k]) := (hb.cell (p := ⟨b, off + (m - 1 - k), none⟩) hB).trans hc0
        have HS : Hid (l[m - 1 - k].size ≤ 1000 ∧ rootD nodeB noneB (l.drop (m - (k + 1))) = nodeB l[m - 1 - k] t) := by
          refine ⟨HZ.out _ hjl, ?_⟩
          have := root_drop l (k := m - 1 - k) (by have := HN.out; omega)
          have e3 : l.drop (m - 1 - k + 1) = l.drop (m - k) := congrArg (fun z => l.drop z) (by omega)
          rw [show m - (k + 1) = m - 1 - k by omega, this, e3, HR.out.1]
        have hix : ((m : Int) - 1 - (k : Int)).toNat = m - 1 - k := by omega
        have hix0 : (0 : Int) ≤ (m : Int) - 1 - (k : Int) := by omega
        have hix1 : (m : Int) - 1 - (k : Int) < (m : Int) + 1 := by omega
        generalize l[m - 1 - k] = p at *
        have E1 : Hid (∀ w, Calls Tryz.prog 67 #[.string oneB, .string p] w fun e w' => e = .returned (.string (oneB ++ p)) ∧ Below w.heap.size w w') := fun w => joined_any oneB p w (by show 1 ≤ 1048576; omega) (by have := HS.out.1; omega)
        have E2 : Hid (∀ w1, Keys w1 → Calls Tryz.prog 125 #[.string (oneB ++ p), .string t] w1 fun e w' => e = .returned (.string (nodeB p t)) ∧ Below w1.heap.size w1 w') := fun w1 hK => digestOf_any (oneB ++ p) t w1 (by rw [ByteArray.size_append]; have := HS.out.1; show 1 + p.size ≤ 50000; omega) (by have := HR.out.2; omega) hK
        have H2 : Hid (Below w.heap.size w wr ∧ Keys w) := ⟨hb, HK.out⟩
        have hkmI : (k : Int) < (m : Int) := by omega
        clear hb HC HZ HK HN HV hc0 hjl
        obtain ⟨q, hq⟩ : ∃ q, q = oneB ++ p := ⟨_, rfl⟩
        rw [← hq] at E1 E2
        clear hq
        unfold oneB at E1
        go_wp2_with fail
        refine (E1.out _).mono ?_
        rintro e w1 ⟨rfl, hb1⟩
        have H3 : Hid (Below w.heap.size w w1) := H2.out.1.trans (hb1.mono H2.out.1.size)
        clear hb1
        go_wp2_with fail
        refine (E2.out _ (H2.out.2.below H3.out H2.out.2.lt)).mono ?_
        rintro e w2 ⟨rfl, hb2⟩
        have H4 : Hid (Below w.heap.size w w2) := H3.out.trans (hb2.mono H3.out.size)
        clear hb2
        go_wp2
        go_roundw
        case rel => exact ⟨k + 1, nodeB p t, by omega, by go_num, rfl, by rw [nodeB_size]; omega, HS.out.2, H4.out⟩
        case measure => simp [RowKit.intOf]; omega
      · have HF : Hid (t = V) := by
          have h := HR.out.1
          rw [show m - k = 0 by omega, List.drop_zero, ← HV.out] at h
          exact h.symm
        have H2 : Hid (Below w.heap.size w wr) := hb
        have hkmI : ¬ (k : Int) < (m : Int) := by omega
        clear hb HC HZ HK HN HV HR
        go_wp2
        go_ret
        exact ⟨ret_str HF.out, H2.out⟩

theorem two_texts (w : World) (l r : ByteArray) : Texts (w.alloc (.cells #[.string l, .string r] 9)) (w.heap.size + 1) (.slice (some ⟨w.heap.size, 0, none⟩) 2 2) [l, r] := by
  refine ⟨_, 2, rfl, .inr ⟨w.heap.size, 0, rfl, by omega, fun j hj => ?_⟩, Nat.le_refl _⟩
  rw [Nat.zero_add, cell_of_row _ _ j _ _ _ (heap_alloc_new w _)]
  have : j = 0 ∨ j = 1 := by simp at hj; omega
  rcases this with rfl | rfl <;> rfl
theorem wide_two (l r : ByteArray) : wideB [l, r] = (decide ((l.size : Int) = 32) && decide ((r.size : Int) = 32)) := by simp [wideB]
theorem together_two (l r : ByteArray) (w : World) (hl : l.size ≤ 1000) (hr : r.size ≤ 1000) (hK : Keys w) :
    Calls Tryz.prog 111 #[.slice (some ⟨w.heap.size, 0, none⟩) 2 2] (w.alloc (.cells #[.string l, .string r] 9)) fun e w' => e = .returned (.string (nodeB l r)) ∧ Below w.heap.size w w' := by
  have hb : Below w.heap.size w (w.alloc (.cells #[.string l, .string r] 9)) := (Below.refl _ _).alloc (Nat.le_refl _) _
  refine (together_any (.slice (some ⟨w.heap.size, 0, none⟩) 2 2) [l, r] (w.alloc (.cells #[.string l, .string r] 9)) ((two_texts w l r).up (by simp)) (by simp) (fun j hj => ?_) (hK.below hb hK.lt)).mono ?_
  · have : j = 0 ∨ j = 1 := by simp at hj; omega
    rcases this with rfl | rfl
    · exact hl
    · exact hr
  · rintro e w' ⟨rfl, hb2⟩
    exact ⟨rfl, hb.trans (hb2.mono hb.size)⟩
end Go.Proofs.YtcenlgfopmahcaaGreatDoor
