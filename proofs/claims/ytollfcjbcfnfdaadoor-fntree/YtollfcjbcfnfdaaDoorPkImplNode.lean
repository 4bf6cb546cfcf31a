/-
  The program's leaf; whether texts are digests; texts put together from the right.
-/
import Derived.Test.YtollfcjbcfnfdaaDoorPkMix
import Derived.Test.YtollfcjbcfnfdaaDoorPkCells
import Derived.Test.YtollfcjbcfnfdaaDoorPkShaPure
import Derived.Test.YtollfcjbcfnfdaaDoorPkTextRows
import Derived.Test.YtollfcjbcfnfdaaDoorPkRight
namespace Go.Proofs.YtollfcjbcfnfdaaDoor
open Go.RowKit Go.Lib
set_option linter.unusedVariables false

/-- The leaf that is told of a text. -/
def leafV (t : ByteArray) : ByteArray := if 100 < (t.size : Int) then ByteArray.empty else leafB t
theorem leafV_right {t : ByteArray} (h : t.size ≤ 100) : leafV t = leafB t := by unfold leafV; rw [if_neg (by omega)]
set_option maxHeartbeats 400000 in
theorem implLeaf_any (t : ByteArray) (w : World) (ht : t.size ≤ 1048576) (hK : Keys w) :
    Calls Tryd.prog 13 #[.string t] w fun e w' => e = .returned (.string (leafV t)) ∧ Below w.heap.size w w' := by
  unfold leafV
  by_cases h : 100 < (t.size : Int)
  · rw [if_pos h]
    clear hK
    go_enter Tryd.func13, Tryd.ntmps13
    go_wp2
    go_ret
    exact ⟨rfl, Below.refl _ _⟩
  · rw [if_neg h]
    have E : Hid (Calls Tryd.prog 48 #[.string zeroB, .string t] w fun e w' => e = .returned (.string (leafB t)) ∧ Below w.heap.size w w') := digestOf_any zeroB t w (by show 1 ≤ 50000; omega) (by omega) hK
    generalize leafB t = v at *
    unfold zeroB at E
    clear hK
    go_enter Tryd.func13, Tryd.ntmps13
    go_wp2_with fail
    refine E.out.mono ?_
    rintro e w1 ⟨rfl, hb⟩
    have HB : Hid (Below w.heap.size w w1) := hb
    clear hb
    go_wp2
    go_ret
    exact ⟨rfl, HB.out⟩

set_option maxHeartbeats 400000 in
theorem areDigests_any (v : Value) (l : List ByteArray) (w : World) (B : Nat) (h : Texts w B v l) (hl : l.length ≤ 1048576) :
    Calls Tryd.prog 46 #[v] w fun e w' => e = .returned (.bool (wideB l)) ∧ w' = w := by
  obtain ⟨a, cap, rfl, hcap, hc⟩ := h.at
  have HC : Hid (∀ j (hj : j < l.length), ∃ b off, a = some ⟨b, off, none⟩ ∧ b < B ∧ w.cell? ⟨b, off + j, none⟩ = some (.string l[j])) := hc
  clear hc h hcap
  obtain ⟨n, hn⟩ : ∃ n, n = l.length := ⟨_, rfl⟩
  have HN : Hid (n = l.length) := hn
  rw [← hn] at hl ⊢
  clear hn
  obtain ⟨W, hW⟩ : ∃ W, W = wideB l := ⟨_, rfl⟩
  rw [← hW]
  have HW : Hid (W = wideB l) := hW
  clear hW
  go_enter Tryd.func46, Tryd.ntmps46
  go_wp2
  go_loop [7] (fun i => ∃ k : Nat, k ≤ n ∧ i = .int .i64 k ∧ ∀ j (h : j < l.length), j < k → (l[j].size : Int) = 32) (fun i => n - (intOf i).toNat)
  case atStart => exact ⟨0, Nat.zero_le _, rfl, fun j _ h => by omega⟩
  case round =>
    obtain ⟨k, hk, rfl, hall⟩ := hrel
    have HA : Hid (∀ j (h : j < l.length), j < k → (l[j].size : Int) = 32) := hall
    clear hall
    by_cases hkn : k < n
    · have hkl : k < l.length := by rw [← HN.out]; exact hkn
      obtain ⟨b, off, rfl, hB, hc⟩ := HC.out k hkl
      have HA2 : Hid ((l[k].size : Int) = 32 → ∀ j (h : j < l.length), j < k + 1 → (l[j].size : Int) = 32) := fun hr j h hj => by
        by_cases e : j = k
        · subst e; exact hr
        · exact HA.out j h (by omega)
      have HB : Hid (¬ (l[k].size : Int) = 32 → W = false) := fun h => by rw [HW.out]; exact wideB_no hkl h
      have hknI : (k : Int) < (n : Int) := by omega
      clear HC HA HN HW
      generalize l[k] = t at *
      by_cases h32 : (t.size : Int) = 32
      · go_wp2
        go_round
        case rel => exact ⟨k + 1, by omega, by go_num, HA2.out h32⟩
        case measure => simp [intOf]; omega
      · have HF : Hid (W = false) := HB.out h32
        clear HA2 HB
        go_wp2
        go_ret
        exact ⟨ret_bool HF.out.symm, rfl⟩
    · have HF : Hid (W = true) := by
        show _ = _
        rw [HW.out]
        exact wideB_yes fun j hj => HA.out j hj (by have := HN.out; omega)
      clear HC HA HN HW
      go_wp2
      go_ret
      exact ⟨ret_bool HF.out.symm, rfl⟩
end Go.Proofs.YtollfcjbcfnfdaaDoor

/-
  Texts put together from the right: the tree of a range.
-/
namespace Go.Proofs.YtollfcjbcfnfdaaDoor
open Go.RowKit Go.Lib
set_option linter.unusedVariables false

theorem digV_empty : digV ByteArray.empty = noneB := rfl
/-- The tree of texts from k on. -/
theorem root_drop (l : List ByteArray) {k : Nat} (h : k + 1 < l.length) : rootD nodeB noneB (l.drop k) = nodeB l[k] (rootD nodeB noneB (l.drop (k + 1))) := by
  rw [List.drop_eq_getElem_cons (show k < l.length by omega)]
  exact rootD_cons nodeB noneB _ (by
    intro h0
    have := congrArg List.length h0
    simp at this
    omega)
theorem root_last (l : List ByteArray) {k : Nat} (h : k + 1 = l.length) : rootD nodeB noneB (l.drop k) = l[k] := by
  rw [List.drop_eq_getElem_cons (show k < l.length by omega), List.drop_eq_nil_of_le (by omega)]
  rfl
theorem root_size (l : List ByteArray) (n : Nat) (hn : 32 ≤ n) (h : ∀ j (hj : j < l.length), l[j].size ≤ n) : (rootD nodeB noneB l).size ≤ n := by
  match l, h with
  | [], _ => show noneB.size ≤ n; rw [show noneB.size = 32 from shaB_size _]; exact hn
  | [x], h => exact h 0 (by simp)
  | x :: y :: r, _ => show (nodeB x _).size ≤ n; rw [nodeB_size]; exact hn

set_option maxHeartbeats 1000000 in
theorem together_any (v : Value) (l : List ByteArray) (w : World) (h : Texts w w.heap.size v l) (hl : l.length ≤ 1048576) (hz : ∀ j (hj : j < l.length), l[j].size ≤ 1000) (hK : Keys w) :
    Calls Tryd.prog 45 #[v] w fun e w' => e = .returned (.string (rootD nodeB noneB l)) ∧ Below w.heap.size w w' := by
  obtain ⟨a, cap, rfl, hcap, hc⟩ := h.at
  have HC : Hid (∀ j (hj : j < l.length), ∃ b off, a = some ⟨b, off, none⟩ ∧ b < w.heap.size ∧ w.cell? ⟨b, off + j, none⟩ = some (.string l[j])) := hc
  clear hc h hcap
  by_cases h0 : l.length = 0
  · obtain rfl := List.eq_nil_of_length_eq_zero h0
    have E : Hid (Calls Tryd.prog 87 #[.string ByteArray.empty] w fun e w' => e = .returned (.string (digV ByteArray.empty)) ∧ Below w.heap.size w w') := implDigest_any ByteArray.empty w (by show 0 ≤ 1048576; omega) hK
    rw [digV_empty] at E
    show Calls _ _ _ _ fun e w' => e = .returned (.string noneB) ∧ _
    generalize noneB = D at *
    clear HC hz hK hl h0
    rw [List.length_nil]
    unfold ByteArray.empty ByteArray.emptyWithCapacity at E
    go_enter Tryd.func45, Tryd.ntmps45
    go_wp2_with fail
    refine E.out.mono ?_
    rintro e w1 ⟨rfl, hb⟩
    have HB : Hid (Below w.heap.size w w1) := hb
    clear hb
    go_wp2
    go_ret
    exact ⟨rfl, HB.out⟩
  · obtain ⟨m, hm⟩ : ∃ m, l.length = m + 1 := ⟨l.length - 1, by omega⟩
    have HN : Hid (l.length = m + 1) := hm
    have HZ : Hid (∀ j (hj : j < l.length), l[j].size ≤ 1000) := hz
    have HK : Hid (Keys w) := hK
    obtain ⟨V, hV⟩ : ∃ V, V = rootD nodeB noneB l := ⟨_, rfl⟩
    rw [← hV]
    have HV : Hid (V = rootD nodeB noneB l) := hV
    obtain ⟨b, off, rfl, hB, hcm⟩ := HC.out m (by omega)
    have HL : Hid (rootD nodeB noneB (l.drop m) = l[m] ∧ l[m].size ≤ 1000) := ⟨root_last l (by omega), hz m (by omega)⟩
    generalize l[m] = tm at *
    rw [hm] at hl ⊢
    clear hV hz hK h0 hm
    have hmI : ((m + 1 : Nat) : Int) = (m : Int) + 1 := by omega
    have hm0 : ((m : Int) + 1 == 0) = false := beq_eq_false_iff_ne.2 (by omega)
    go_enter Tryd.func45, Tryd.ntmps45
    go_wp2
    clear hcm
    go_loopw [4, 18] (fun x i wr => ∃ (k : Nat) (t : ByteArray), k ≤ m ∧ i = .int .i64 k ∧ x = .string t ∧ t.size ≤ 1000 ∧ rootD nodeB noneB (l.drop (m - k)) = t ∧ Below w.heap.size w wr) (fun _ i _ => m - (intOf i).toNat)
    case atStart => exact ⟨0, tm, Nat.zero_le _, rfl, rfl, HL.out.2, HL.out.1, Below.refl _ _⟩
    case round =>
      obtain ⟨k, t, hk, rfl, rfl, ht, hr, hb⟩ := hrel
      have HR : Hid (rootD nodeB noneB (l.drop (m - k)) = t ∧ t.size ≤ 1000) := ⟨hr, ht⟩
      clear hr ht HL
      by_cases hkm : k < m
      · have hjl : m - 1 - k < l.length := by have := HN.out; omega
        obtain ⟨b', off', e', _, hc0⟩ := HC.out (m - 1 - k) hjl
        obtain ⟨rfl, rfl⟩ : b = b' ∧ off = off' := by simp at e'; exact e'
        clear e'
        have hc : wr.cell? ⟨b, off + (m - 1 - k), none⟩ = some (.string l[m - 1 - k]) := (hb.cell (p := ⟨b, off + (m - 1 - k), none⟩) hB).trans hc0
        have HS : Hid (l[m - 1 - k].size ≤ 1000 ∧ rootD nodeB noneB (l.drop (m - (k + 1))) = nodeB l[m - 1 - k] t) := by
          refine ⟨HZ.out _ hjl, ?_⟩
          have := root_drop l (k := m - 1 - k) (by have := HN.out; omega)
          have e3 : l.drop (m - 1 - k + 1) = l.drop (m - k) := congrArg (fun z => l.drop z) (by omega)
          rw [show m - (k + 1) = m - 1 - k by omega, this, e3, HR.out.1]
        have hix : ((m : Int) - 1 - (k : Int)).toNat = m - 1 - k := by omega
        have hix0 : (0 : Int) ≤ (m : Int) - 1 - (k : Int) := by omega
        have hix1 : (m : Int) - 1 - (k : Int) < (m : Int) + 1 := by omega
        generalize l[m - 1 - k] = p at *
        have E1 : Hid (∀ w, Calls Tryd.prog 49 #[.string oneB, .string p] w fun e w' => e = .returned (.string (oneB ++ p)) ∧ Below w.heap.size w w') := fun w => joined_any oneB p w (by show 1 ≤ 1048576; omega) (by have := HS.out.1; omega)
        have E2 : Hid (∀ w1, Keys w1 → Calls Tryd.prog 48 #[.string (oneB ++ p), .string t] w1 fun e w' => e = .returned (.string (nodeB p t)) ∧ Below w1.heap.size w1 w') := fun w1 hK => digestOf_any (oneB ++ p) t w1 (by rw [ByteArray.size_append]; have := HS.out.1; show 1 + p.size ≤ 50000; omega) (by have := HR.out.2; omega) hK
        have H2 : Hid (Below w.heap.size w wr ∧ Keys w) := ⟨hb, HK.out⟩
        have hkmI : (k : Int) < (m : Int) := by omega
        clear hb HC HZ HK HN HV hc0 hjl
        obtain ⟨q, hq⟩ : ∃ q, q = oneB ++ p := ⟨_, rfl⟩
        rw [← hq] at E1 E2
        clear hq
        unfold oneB at E1
        go_wp2_with fail
        refine (E1.out _).mono ?_
        rintro e w1 ⟨rfl, hb1⟩
        have H3 : Hid (Below w.heap.size w w1) := H2.out.1.trans (hb1.mono H2.out.1.size)
        clear hb1
        go_wp2_with fail
        refine (E2.out _ (H2.out.2.below H3.out H2.out.2.lt)).mono ?_
        rintro e w2 ⟨rfl, hb2⟩
        have H4 : Hid (Below w.heap.size w w2) := H3.out.trans (hb2.mono H3.out.size)
        clear hb2
        go_wp2
        go_roundw
        case rel => exact ⟨k + 1, nodeB p t, by omega, by go_num, rfl, by rw [nodeB_size]; omega, HS.out.2, H4.out⟩
        case measure => simp [intOf]; omega
      · have HF : Hid (t = V) := by
          have h := HR.out.1
          rw [show m - k = 0 by omega, List.drop_zero, ← HV.out] at h
          exact h.symm
        have H2 : Hid (Below w.heap.size w wr) := hb
        have hkmI : ¬ (k : Int) < (m : Int) := by omega
        clear hb HC HZ HK HN HV HR
        go_wp2
        go_ret
        exact ⟨ret_str HF.out, H2.out⟩

theorem two_texts (w : World) (l r : ByteArray) : Texts (w.alloc (.cells #[.string l, .string r] 9)) (w.heap.size + 1) (.slice (some ⟨w.heap.size, 0, none⟩) 2 2) [l, r] := by
  refine ⟨_, 2, rfl, .inr ⟨w.heap.size, 0, rfl, by omega, fun j hj => ?_⟩, Nat.le_refl _⟩
  rw [Nat.zero_add, cell_of_row _ _ j _ _ _ (heap_alloc_new w _)]
  have : j = 0 ∨ j = 1 := by simp at hj; omega
  rcases this with rfl | rfl <;> rfl
theorem wide_two (l r : ByteArray) : wideB [l, r] = (decide ((l.size : Int) = 32) && decide ((r.size : Int) = 32)) := by simp [wideB]
theorem together_two (l r : ByteArray) (w : World) (hl : l.size ≤ 1000) (hr : r.size ≤ 1000) (hK : Keys w) :
    Calls Tryd.prog 45 #[.slice (some ⟨w.heap.size, 0, none⟩) 2 2] (w.alloc (.cells #[.string l, .string r] 9)) fun e w' => e = .returned (.string (nodeB l r)) ∧ Below w.heap.size w w' := by
  have hb : Below w.heap.size w (w.alloc (.cells #[.string l, .string r] 9)) := (Below.refl _ _).alloc (Nat.le_refl _) _
  refine (together_any (.slice (some ⟨w.heap.size, 0, none⟩) 2 2) [l, r] (w.alloc (.cells #[.string l, .string r] 9)) ((two_texts w l r).up (by simp)) (by simp) (fun j hj => ?_) (hK.below hb hK.lt)).mono ?_
  · have : j = 0 ∨ j = 1 := by simp at hj; omega
    rcases this with rfl | rfl
    · exact hl
    · exact hr
  · rintro e w' ⟨rfl, hb2⟩
    exact ⟨rfl, hb.trans (hb2.mono hb.size)⟩
end Go.Proofs.YtollfcjbcfnfdaaDoor

/-
  A range that is added to: its last two put together, as often as ones stand at the size's end; a part of a row of the call's own.
-/
namespace Go.Proofs.YtollfcjbcfnfdaaDoor
open Go.RowKit Go.Lib
set_option linter.unusedVariables false

/-- The last two put together. -/
def lastTwo (l : List ByteArray) : List ByteArray := l.take (l.length - 2) ++ [rootD nodeB noneB (l.drop (l.length - 2))]
def joinK : Nat → List ByteArray → List ByteArray
  | 0, l => l
  | k + 1, l => lastTwo (joinK k l)
theorem joinK_first (k : Nat) (l : List ByteArray) : joinK (k + 1) l = joinK k (lastTwo l) := by
  induction k with
  | zero => rfl
  | succ k ih => show lastTwo (joinK (k + 1) l) = lastTwo (joinK k (lastTwo l)); rw [ih]
theorem lastTwo_end (r : List ByteArray) (x h : ByteArray) : lastTwo (r ++ [x] ++ [h]) = r ++ [nodeB x h] := by
  unfold lastTwo
  have hl : (r ++ [x] ++ [h]).length - 2 = r.length := by simp
  rw [hl, List.append_assoc, List.take_left, List.drop_left]
  rfl
theorem lastTwo_len {l : List ByteArray} (h : 2 ≤ l.length) : (lastTwo l).length = l.length - 1 := by
  unfold lastTwo
  rw [List.length_append, List.length_take]
  simp
  omega
theorem joinK_len (k : Nat) : ∀ l : List ByteArray, k + 1 ≤ l.length → (joinK k l).length = l.length - k := by
  induction k with
  | zero => intro l h; rfl
  | succ k ih =>
    intro l h
    show (lastTwo (joinK k l)).length = _
    have := ih l (by omega)
    rw [lastTwo_len (by omega), this]
    omega
theorem lastTwo_small {l : List ByteArray} (hz : ∀ t ∈ l, t.size ≤ 1000) : ∀ t ∈ lastTwo l, t.size ≤ 1000 := by
  intro t ht
  unfold lastTwo at ht
  rcases List.mem_append.1 ht with h | h
  · exact hz t (List.mem_of_mem_take h)
  · have e : t = rootD nodeB noneB (l.drop (l.length - 2)) := by simpa using h
    rw [e]
    exact root_size _ 1000 (by omega) (fun i hi => hz _ (List.mem_of_mem_drop (List.getElem_mem hi)))
theorem joinK_small (k : Nat) (l : List ByteArray) (hz : ∀ t ∈ l, t.size ≤ 1000) : ∀ t ∈ joinK k l, t.size ≤ 1000 := by
  induction k with
  | zero => exact hz
  | succ k ih => exact lastTwo_small ih
theorem join_add (rs : List ByteArray) : ∀ (n : Nat) (h : ByteArray), trail n ≤ rs.length → joinK (trail n) (rs.reverse ++ [h]) = (addR nodeB n rs h).reverse := by
  induction rs with
  | nil =>
    intro n h ht
    have e : trail n = 0 := by simpa using ht
    rw [e]
    cases r0 : addR nodeB n [] h <;> simp_all [addR, joinK]
  | cons x r ih =>
    intro n h ht
    by_cases c : n % 2 = 1
    · rw [trail_odd c] at ht ⊢
      rw [joinK_first, List.reverse_cons, lastTwo_end, addR_odd nodeB x r h c]
      exact ih (n / 2) (nodeB x h) (by simpa using ht)
    · rw [trail_even c, addR_even nodeB _ h c]
      simp [joinK]
theorem trail_ones (n : Nat) : trail n ≤ onesN n := by
  induction n using Nat.strongRecOn with
  | ind n ih =>
    by_cases c : n % 2 = 1
    · rw [trail_odd c, onesN_step]
      have := ih (n / 2) (by omega)
      omega
    · rw [trail_even c]
      omega
theorem ones_le (k : Nat) : ∀ n, n < 2 ^ k → onesN n ≤ k := by
  induction k with
  | zero =>
    intro n h
    have h0 : n = 0 := by simpa using h
    rw [h0, onesN_zero]
    exact Nat.le_refl _
  | succ k ih =>
    intro n h
    rw [onesN_step]
    have := ih (n / 2) (by rw [Nat.pow_succ] at h; omega)
    omega
/-- The nodes of a right range with one leaf more. -/
def addB (n : Nat) (l : List ByteArray) (h : ByteArray) : List ByteArray := (addR nodeB n l.reverse h).reverse
theorem addB_join {n : Nat} {l : List ByteArray} (h : ByteArray) (hl : l.length = onesN n) : joinK (trail n) (l ++ [h]) = addB n l h := by
  have := join_add l.reverse n h (by rw [List.length_reverse, hl]; exact trail_ones n)
  rw [List.reverse_reverse] at this
  exact this

/-- The beginning of a row of the call's own, as a slice of it. -/
theorem own_h {w : World} {B : Nat} {v : Value} {l : List ByteArray} (h : OwnT w B v l) (j : Nat) (hj : j ≤ l.length) (y : Int) (hy : y = (j : Int)) :
    ∃ v1, (∀ w1, (Instr.slice 23 v none (some (.int .i64 y)) none).run Tryd.prog w1 = .ok v1 w1) ∧ OwnT w B v1 (l.take j) := by
  subst hy
  have hlen : (l.take j).length = j := by rw [List.length_take]; omega
  rcases h with ⟨h1, ⟨rfl, h2⟩ | ⟨g, cap, cur, rfl, hB, hg, hnc, hcc, hcs, ht⟩⟩
  · have h0 : j = 0 := by omega
    subst h0
    refine ⟨.slice none 0 0, fun w1 => ?_, OwnT.nil _ _⟩
    have hsl := run_slice_h (P := Tryd.prog) w1 23 none 0 0 underText .i64 ((0 : Nat) : Int) (by omega) (by omega)
    rw [sizeText w1] at hsl
    simpa [Result.andThen, sliced] using hsl
  · refine ⟨.slice (some ⟨g, 0, none⟩) j cap, fun w1 => ?_, ?_⟩
    · have hsl := run_slice_h (P := Tryd.prog) w1 23 (some ⟨g, 0, none⟩) l.length cap underText .i64 (j : Int) (by omega) (by omega)
      rw [sizeText w1] at hsl
      simpa [Result.andThen, sliced, Addr.add] using hsl
    · refine ⟨by rw [List.length_map, Nat.mul_one], .inr ⟨g, cap, cur, by rw [hlen], hB, hg, by omega, hcc, hcs, ?_⟩⟩
      rw [hlen, Nat.mul_one, List.map_take, ← ht, List.take_take, Nat.mul_one, Nat.min_eq_left hj]
end Go.Proofs.YtollfcjbcfnfdaaDoor

/-
  What RangeAdd tells.
-/
namespace Go.Proofs.YtollfcjbcfnfdaaDoor
open Go.RowKit Go.Lib
set_option linter.unusedVariables false

/-- May the entry be added? -/
def addOK (size : Int) (l : List ByteArray) (t : ByteArray) : Prop := rangeB size l = true ∧ size < 1000000 ∧ t.size ≤ 100
instance (size : Int) (l : List ByteArray) (t : ByteArray) : Decidable (addOK size l t) := inferInstanceAs (Decidable (_ ∧ _ ∧ _))
def addSize (size : Int) (l : List ByteArray) (t : ByteArray) : Int := if 20000 < t.size then 0 else if addOK size l t then size + 1 else size
def addNodes (size : Int) (l : List ByteArray) (t : ByteArray) : List ByteArray := if 20000 < t.size then [] else if addOK size l t then addB size.toNat l (leafB t) else l
/-- A range answered: its nodes in a row of the call's own. -/
def RangeAns (w : World) (size : Int) (l : List ByteArray) (e : Ending) (w' : World) : Prop :=
  ∃ v, e = .returned (.agg #[.int .i64 size, v]) ∧ OwnT w' w.heap.size v l ∧ Below w.heap.size w w'
end Go.Proofs.YtollfcjbcfnfdaaDoor

/-
  Right entries that are added one by one to a range come to their tree. Plain mathematics on texts.
-/
namespace Go.Proofs.YtollfcjbcfnfdaaDoor
open Go.RowKit Go.Lib
set_option linter.unusedVariables false

/-- The nodes of the range of some entries. -/
def rgN (l : List ByteArray) : List ByteArray := rangeD nodeB noneB (l.map leafB)
theorem rgN_eq (l : List ByteArray) : rgN l = if l.length = 0 then [] else treeB (l.take (half (l.length + 1))) :: rgN (l.drop (half (l.length + 1))) := by
  unfold rgN
  rw [rangeD_eq, List.length_map]
  by_cases h : l.length = 0
  · rw [dif_pos h, if_pos h]
  · rw [dif_neg h, if_neg h, ← List.map_take, ← List.map_drop]
    rfl
theorem rgN_wide (n : Nat) : ∀ l : List ByteArray, l.length = n → wideB (rgN l) = true := by
  induction n using Nat.strongRecOn with
  | ind n ih =>
    intro l hn
    rw [rgN_eq]
    by_cases h : l.length = 0
    · rw [if_pos h]; rfl
    · rw [if_neg h]
      obtain ⟨e, he, h3, h4⟩ := half_spec (show 2 ≤ l.length + 1 by omega)
      have hp := Nat.two_pow_pos e
      have := ih (l.drop (half (l.length + 1))).length (by rw [List.length_drop]; omega) _ rfl
      unfold wideB at this ⊢
      rw [List.all_cons, this]
      simp [treeB_size]
theorem rgN_nil : rgN [] = [] := by rw [rgN_eq]; rfl
theorem rgN_len (l : List ByteArray) : (rgN l).length = onesN l.length := by
  unfold rgN
  rw [rangeD_len, List.length_map]
theorem rg_right {l : List ByteArray} (h : l.length ≤ 64) : rangeB (l.length : Int) (rgN l) = true := by
  rw [rangeB_in ⟨by omega, by omega⟩ (by rw [rgN_len, Int.toNat_natCast])]
  exact rgN_wide _ l rfl
/-- ONE MORE ENTRY. -/
theorem rg_more {l : List ByteArray} (hl : rightB l = true) (j : Nat) (hj : j < l.length) : addSize (j : Int) (rgN (l.take j)) l[j] = ((j + 1 : Nat) : Int) ∧ addNodes (j : Int) (rgN (l.take j)) l[j] = rgN (l.take (j + 1)) := by
  have hn := rightB_len hl
  have ht := rightB_at hl hj
  have hlen : (l.take j).length = j := by rw [List.length_take]; omega
  have hok : addOK (j : Int) (rgN (l.take j)) l[j] := by
    refine ⟨?_, by omega, ht⟩
    have := rg_right (l := l.take j) (by omega)
    rw [hlen] at this
    exact this
  unfold addSize addNodes
  have h20 : ¬ 20000 < l[j].size := by omega
  simp only [if_neg h20, if_pos hok]
  refine ⟨by omega, ?_⟩
  unfold addB rgN
  have h := range_add nodeB noneB ((l.take j).map leafB) (leafB l[j])
  rw [List.length_map, hlen] at h
  rw [Int.toNat_natCast, h, List.reverse_reverse]
  congr 1
  rw [List.take_succ_eq_append_getElem hj, List.map_append]
  rfl
/-- THE RANGE OF ALL COMES TO THEIR TREE. -/
theorem rg_root {l : List ByteArray} (hl : rightB l = true) : rootV (l.length : Int) (rgN l) = treeV l := by
  have hn := rightB_len hl
  rw [rootV_yes (rg_right (by omega)), treeV_right hl]
  by_cases h : l.length = 0
  · obtain rfl := List.eq_nil_of_length_eq_zero h
    rw [rgN_nil]
    rfl
  · exact root_range nodeB noneB (l.map leafB) (by rw [List.length_map]; omega)
end Go.Proofs.YtollfcjbcfnfdaaDoor
