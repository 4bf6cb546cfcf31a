/-
  The program's leaf; whether texts are digests; texts put together from the right.
-/
import Derived.Test.YtpglcbidfghfkaaGreatDoorPkMix
import Derived.Test.YtpglcbidfghfkaaGreatDoorPkCells
import Derived.Test.YtpglcbidfghfkaaGreatDoorPkShaPure
import Derived.Test.YtpglcbidfghfkaaGreatDoorPkTextRows
import Derived.Test.YtpglcbidfghfkaaGreatDoorPkTexts
import Derived.Test.YtpglcbidfghfkaaGreatDoorPkMem
namespace Go.Proofs.YtpglcbidfghfkaaGreatDoor
open Go.RowKit Go.Lib
set_option linter.unusedVariables false

/-- The leaf that is told of a text. -/
def leafV (t : ByteArray) : ByteArray := if 100 < (t.size : Int) then ByteArray.empty else leafB t
theorem leafV_right {t : ByteArray} (h : t.size ≤ 100) : leafV t = leafB t := by unfold leafV; rw [if_neg (by omega)]
set_option maxHeartbeats 400000 in
theorem implLeaf_any (t : ByteArray) (w : World) (ht : t.size ≤ 1048576) (hK : Keys w) :
    Calls Tryz.prog 137 #[.string t] w fun e w' => e = .returned (.string (leafV t)) ∧ Below w.heap.size w w' := by
  unfold leafV
  by_cases h : 100 < (t.size : Int)
  · rw [if_pos h]
    clear hK
    go_enter Tryz.func137, Tryz.ntmps137
    go_wp2
    go_ret
    exact ⟨rfl, Below.refl _ _⟩
  · rw [if_neg h]
    have E : Hid (Calls Tryz.prog 196 #[.string zeroB, .string t] w fun e w' => e = .returned (.string (leafB t)) ∧ Below w.heap.size w w') := digestOf_any zeroB t w (by show 1 ≤ 50000; omega) (by omega) hK
    generalize leafB t = v at *
    unfold zeroB at E
    clear hK
    go_enter Tryz.func137, Tryz.ntmps137
    go_wp2_with fail
    refine E.out.mono ?_
    rintro e w1 ⟨rfl, hb⟩
    have HB : Hid (Below w.heap.size w w1) := hb
    clear hb
    go_wp2
    go_ret
    exact ⟨rfl, HB.out⟩

set_option maxHeartbeats 400000 in
theorem areDigests_any (v : Value) (l : List ByteArray) (w : World) (B : Nat) (h : Texts w B v l) (hl : l.length ≤ 1048576) :
    Calls Tryz.prog 142 #[v] w fun e w' => e = .returned (.bool (wideB l)) ∧ w' = w := by
  obtain ⟨a, cap, rfl, hcap, hc⟩ := h.at
  have HC : Hid (∀ j (hj : j < l.length), ∃ b off, a = some ⟨b, off, none⟩ ∧ b < B ∧ w.cell? ⟨b, off + j, none⟩ = some (.string l[j])) := hc
  clear hc h hcap
  obtain ⟨n, hn⟩ : ∃ n, n = l.length := ⟨_, rfl⟩
  have HN : Hid (n = l.length) := hn
  rw [← hn] at hl ⊢
  clear hn
  obtain ⟨W, hW⟩ : ∃ W, W = wideB l := ⟨_, rfl⟩
  rw [← hW]
  have HW : Hid (W = wideB l) := hW
  clear hW
  go_enter Tryz.func142, Tryz.ntmps142
  go_wp2
  go_loop [7] (fun i => ∃ k : Nat, k ≤ n ∧ i = .int .i64 k ∧ ∀ j (h : j < l.length), j < k → (l[j].size : Int) = 32) (fun i => n - (intOf i).toNat)
  case atStart => exact ⟨0, Nat.zero_le _, rfl, fun j _ h => by omega⟩
  case round =>
    obtain ⟨k, hk, rfl, hall⟩ := hrel
    have HA : Hid (∀ j (h : j < l.length), j < k → (l[j].size : Int) = 32) := hall
    clear hall
    by_cases hkn : k < n
    · have hkl : k < l.length := by rw [← HN.out]; exact hkn
      obtain ⟨b, off, rfl, hB, hc⟩ := HC.out k hkl
      have HA2 : Hid ((l[k].size : Int) = 32 → ∀ j (h : j < l.length), j < k + 1 → (l[j].size : Int) = 32) := fun hr j h hj => by
        by_cases e : j = k
        · subst e; exact hr
        · exact HA.out j h (by omega)
      have HB : Hid (¬ (l[k].size : Int) = 32 → W = false) := fun h => by rw [HW.out]; exact wideB_no hkl h
      have hknI : (k : Int) < (n : Int) := by omega
      clear HC HA HN HW
      generalize l[k] = t at *
      by_cases h32 : (t.size : Int) = 32
      · go_wp2
        go_round
        case rel => exact ⟨k + 1, by omega, by go_num, HA2.out h32⟩
        case measure => simp [intOf]; omega
      · have HF : Hid (W = false) := HB.out h32
        clear HA2 HB
        go_wp2
        go_ret
        exact ⟨ret_bool HF.out.symm, rfl⟩
    · have HF : Hid (W = true) := by
        show _ = _
        rw [HW.out]
        exact wideB_yes fun j hj => HA.out j hj (by have := HN.out; omega)
      clear HC HA HN HW
      go_wp2
      go_ret
      exact ⟨ret_bool HF.out.symm, rfl⟩
end Go.Proofs.YtpglcbidfghfkaaGreatDoor

/-
  Texts put together from the right: the tree of a range.
-/
namespace Go.Proofs.YtpglcbidfghfkaaGreatDoor
open Go.RowKit Go.Lib
set_option linter.unusedVariables false

theorem digV_empty : digV ByteArray.empty = noneB := rfl
/-- The tree of texts from k on. -/
theorem root_drop (l : List ByteArray) {k : Nat} (h : k + 1 < l.length) : rootD nodeB noneB (l.drop k) = nodeB l[k] (rootD nodeB noneB (l.drop (k + 1))) := by
  rw [List.drop_eq_getElem_cons (show k < l.length by omega)]
  exact rootD_cons nodeB noneB _ (by
    intro h0
    have := congrArg List.length h0
    simp at this
    omega)
theorem root_last (l : List ByteArray) {k : Nat} (h : k + 1 = l.length) : rootD nodeB noneB (l.drop k) = l[k] := by
  rw [List.drop_eq_getElem_cons (show k < l.length by omega), List.drop_eq_nil_of_le (by omega)]
  rfl
theorem root_size (l : List ByteArray) (n : Nat) (hn : 32 ≤ n) (h : ∀ j (hj : j < l.length), l[j].size ≤ n) : (rootD nodeB noneB l).size ≤ n := by
  match l, h with
  | [], _ => show noneB.size ≤ n; rw [show noneB.size = 32 from shaB_size _]; exact hn
  | [x], h => exact h 0 (by simp)
  | x :: y :: r, _ => show (nodeB x _).size ≤ n; rw [nodeB_size]; exact hn

set_option maxHeartbeats 1000000 in
theorem together_any (v : Value) (l : List ByteArray) (w : World) (h : Texts w w.heap.size v l) (hl : l.length ≤ 1048576) (hz : ∀ j (hj : j < l.length), l[j].size ≤ 1000) (hK : Keys w) :
    Calls Tryz.prog 140 #[v] w fun e w' => e = .returned (.string (rootD nodeB noneB l)) ∧ Below w.heap.size w w' := by
  obtain ⟨a, cap, rfl, hcap, hc⟩ := h.at
  have HC : Hid (∀ j (hj : j < l.length), ∃ b off, a = some ⟨b, off, none⟩ ∧ b < w.heap.size ∧ w.cell? ⟨b, off + j, none⟩ = some (.string l[j])) := hc
  clear hc h hcap
  by_cases h0 : l.length = 0
  · obtain rfl := List.eq_nil_of_length_eq_zero h0
    have E : Hid (Calls Tryz.prog 198 #[.string ByteArray.empty] w fun e w' => e = .returned (.string (digV ByteArray.empty)) ∧ Below w.heap.size w w') := implDigest_any ByteArray.empty w (by show 0 ≤ 1048576; omega) hK
    rw [digV_empty] at E
    show Calls _ _ _ _ fun e w' => e = .returned (.string noneB) ∧ _
    generalize noneB = D at *
    clear HC hz hK hl h0
    rw [List.length_nil]
    unfold ByteArray.empty ByteArray.emptyWithCapacity at E
    go_enter Tryz.func140, Tryz.ntmps140
    go_wp2_with fail
    refine E.out.mono ?_
    rintro e w1 ⟨rfl, hb⟩
    have HB : Hid (Below w.heap.size w w1) := hb
    clear hb
    go_wp2
    go_ret
    exact ⟨rfl, HB.out⟩
  · obtain ⟨m, hm⟩ : ∃ m, l.length = m + 1 := ⟨l.length - 1, by omega⟩
    have HN : Hid (l.length = m + 1) := hm
    have HZ : Hid (∀ j (hj : j < l.length), l[j].size ≤ 1000) := hz
    have HK : Hid (Keys w) := hK
    obtain ⟨V, hV⟩ : ∃ V, V = rootD nodeB noneB l := ⟨_, rfl⟩
    rw [← hV]
    have HV : Hid (V = rootD nodeB noneB l) := hV
    obtain ⟨b, off, rfl, hB, hcm⟩ := HC.out m (by omega)
    have HL : Hid (rootD nodeB noneB (l.drop m) = l[m] ∧ l[m].size ≤ 1000) := ⟨root_last l (by omega), hz m (by omega)⟩
    generalize l[m] = tm at *
    rw [hm] at hl ⊢
    clear hV hz hK h0 hm
    have hmI : ((m + 1 : Nat) : Int) = (m : Int) + 1 := by omega
    have hm0 : ((m : Int) + 1 == 0) = false := beq_eq_false_iff_ne.2 (by omega)
    go_enter Tryz.func140, Tryz.ntmps140
    go_wp2
    clear hcm
    go_loopw [4, 18] (fun x i wr => ∃ (k : Nat) (t : ByteArray), k ≤ m ∧ i = .int .i64 k ∧ x = .string t ∧ t.size ≤ 1000 ∧ rootD nodeB noneB (l.drop (m - k)) = t ∧ Below w.heap.size w wr) (fun _ i _ => m - (intOf i).toNat)
    case atStart => exact ⟨0, tm, Nat.zero_le _, rfl, rfl, HL.out.2, HL.out.1, Below.refl _ _⟩
    case round =>
      obtain ⟨k, t, hk, rfl, rfl, ht, hr, hb⟩ := hrel
      have HR : Hid (rootD nodeB noneB (l.drop (m - k)) = t ∧ t.size ≤ 1000) := ⟨hr, ht⟩
      clear hr ht HL
      by_cases hkm : k < m
      · have hjl : m - 1 - k < l.length := by have := HN.out; omega
        obtain ⟨b', off', e', _, hc0⟩ := HC.out (m - 1 - k) hjl
        obtain ⟨rfl, rfl⟩ : b = b' ∧ off = off' := by simp at e'; exact e'
        clear e'
        have hc : wr.cell? ⟨b, off + (m - 1 - k), none⟩ = some (.string l[m - 1 - k]) := (hb.cell (p := ⟨b, off + (m - 1 - k), none⟩) hB).trans hc0
        have HS : Hid (l[m - 1 - k].size ≤ 1000 ∧ rootD nodeB noneB (l.drop (m - (k + 1))) = nodeB l[m - 1 - k] t) := by
          refine ⟨HZ.out _ hjl, ?_⟩
          have := root_drop l (k := m - 1 - k) (by have := HN.out; omega)
          have e3 : l.drop (m - 1 - k + 1) = l.drop (m - k) := congrArg (fun z => l.drop z) (by omega)
          rw [show m - (k + 1) = m - 1 - k by omega, this, e3, HR.out.1]
        have hix : ((m : Int) - 1 - (k : Int)).toNat = m - 1 - k := by omega
        have hix0 : (0 : Int) ≤ (m : Int) - 1 - (k : Int) := by omega
        have hix1 : (m : Int) - 1 - (k : Int) < (m : Int) + 1 := by omega
        generalize l[m - 1 - k] = p at *
        have E1 : Hid (∀ w, Calls Tryz.prog 66 #[.string oneB, .string p] w fun e w' => e = .returned (.string (oneB ++ p)) ∧ Below w.heap.size w w') := fun w => joined_any oneB p w (by show 1 ≤ 1048576; omega) (by have := HS.out.1; omega)
        have E2 : Hid (∀ w1, Keys w1 → Calls Tryz.prog 196 #[.string (oneB ++ p), .string t] w1 fun e w' => e = .returned (.string (nodeB p t)) ∧ Below w1.heap.size w1 w') := fun w1 hK => digestOf_any (oneB ++ p) t w1 (by rw [ByteArray.size_append]; have := HS.out.1; show 1 + p.size ≤ 50000; omega) (by have := HR.out.2; omega) hK
        have H2 : Hid (Below w.heap.size w wr ∧ Keys w) := ⟨hb, HK.out⟩
        have hkmI : (k : Int) < (m : Int) := by omega
        clear hb HC HZ HK HN HV hc0 hjl
        obtain ⟨q, hq⟩ : ∃ q, q = oneB ++ p := ⟨_, rfl⟩
        rw [← hq] at E1 E2
        clear hq
        unfold oneB at E1
        go_wp2_with fail
        refine (E1.out _).mono ?_
        rintro e w1 ⟨rfl, hb1⟩
        have H3 : Hid (Below w.heap.size w w1) := H2.out.1.trans (hb1.mono H2.out.1.size)
        clear hb1
        go_wp2_with fail
        refine (E2.out _ (H2.out.2.below H3.out H2.out.2.lt)).mono ?_
        rintro e w2 ⟨rfl, hb2⟩
        have H4 : Hid (Below w.heap.size w w2) := H3.out.trans (hb2.mono H3.out.size)
        clear hb2
        go_wp2
        go_roundw
        case rel => exact ⟨k + 1, nodeB p t, by omega, by go_num, rfl, by rw [nodeB_size]; omega, HS.out.2, H4.out⟩
        case measure => simp [intOf]; omega
      · have HF : Hid (t = V) := by
          have h := HR.out.1
          rw [show m - k = 0 by omega, List.drop_zero, ← HV.out] at h
          exact h.symm
        have H2 : Hid (Below w.heap.size w wr) := hb
        have hkmI : ¬ (k : Int) < (m : Int) := by omega
        clear hb HC HZ HK HN HV HR
        go_wp2
        go_ret
        exact ⟨ret_str HF.out, H2.out⟩

theorem two_texts (w : World) (l r : ByteArray) : Texts (w.alloc (.cells #[.string l, .string r] 9)) (w.heap.size + 1) (.slice (some ⟨w.heap.size, 0, none⟩) 2 2) [l, r] := by
  refine ⟨_, 2, rfl, .inr ⟨w.heap.size, 0, rfl, by omega, fun j hj => ?_⟩, Nat.le_refl _⟩
  rw [Nat.zero_add, cell_of_row _ _ j _ _ _ (heap_alloc_new w _)]
  have : j = 0 ∨ j = 1 := by simp at hj; omega
  rcases this with rfl | rfl <;> rfl
theorem wide_two (l r : ByteArray) : wideB [l, r] = (decide ((l.size : Int) = 32) && decide ((r.size : Int) = 32)) := by simp [wideB]
theorem together_two (l r : ByteArray) (w : World) (hl : l.size ≤ 1000) (hr : r.size ≤ 1000) (hK : Keys w) :
    Calls Tryz.prog 140 #[.slice (some ⟨w.heap.size, 0, none⟩) 2 2] (w.alloc (.cells #[.string l, .string r] 9)) fun e w' => e = .returned (.string (nodeB l r)) ∧ Below w.heap.size w w' := by
  have hb : Below w.heap.size w (w.alloc (.cells #[.string l, .string r] 9)) := (Below.refl _ _).alloc (Nat.le_refl _) _
  refine (together_any (.slice (some ⟨w.heap.size, 0, none⟩) 2 2) [l, r] (w.alloc (.cells #[.string l, .string r] 9)) ((two_texts w l r).up (by simp)) (by simp) (fun j hj => ?_) (hK.below hb hK.lt)).mono ?_
  · have : j = 0 ∨ j = 1 := by simp at hj; omega
    rcases this with rfl | rfl
    · exact hl
    · exact hr
  · rintro e w' ⟨rfl, hb2⟩
    exact ⟨rfl, hb.trans (hb2.mono hb.size)⟩
end Go.Proofs.YtpglcbidfghfkaaGreatDoor

/-
  The program's chains: a step, all of them taken further, their texts, their public text.
-/
namespace Go.Proofs.YtpglcbidfghfkaaGreatDoor
open Go.RowKit Go.Lib
set_option linter.unusedVariables false
set_option linter.unusedSimpArgs false

theorem digV_lo {s : ByteArray} (h : s.size ≤ 20000) : digV s = shaB s := by unfold digV; rw [if_neg (by omega)]
theorem cellsT_one (n : Nat) (f : Nat → ByteArray) : (cellsT n f).all (·.oneCell') = true := by simp [cellsT, Value.oneCell']
theorem info6 : (Tryz.prog.info? 164).map (·.size) = some 6 := by kernel_rfl
theorem rowT_cell {w : World} {g n : Nat} {f : Nat → ByteArray} {t : TypeId} (hg : w.heap[g]? = some (.cells (cellsT n f) t (0, 0))) {j : Nat} (hj : j < n) :
    w.cell? ⟨g, j, none⟩ = some (.string (f j)) ∧ w.frozen? ⟨g, j, none⟩ = false :=
  ⟨by rw [cell_of_row w g j _ _ _ hg, cellsT_get _ hj], frozen_of_row w g j _ _ hg⟩
theorem rowT_set {w : World} {g n : Nat} {f : Nat → ByteArray} {t : TypeId} (hg : w.heap[g]? = some (.cells (cellsT n f) t (0, 0))) (j : Nat) (v : ByteArray) (f' : Nat → ByteArray) (h : ∀ i, i < n → f' i = if i = j then v else f i) :
    (w.setCell ⟨g, j, none⟩ (.string v)).heap[g]? = some (.cells (cellsT n f') t (0, 0)) := by
  rw [heap_setCell_same w g j _ _ _ hg, cellsT_set, cellsT_congr h]

set_option maxHeartbeats 400000 in
theorem step_any (g k : Nat) (t : ByteArray) (w : World) (hc : w.cell? ⟨g, k, none⟩ = some (.string t)) (hf : w.frozen? ⟨g, k, none⟩ = false) (hg : g < w.heap.size) (ht : t.size = 32) (hK : Keys w) :
    Calls Tryz.prog 202 #[.pointer (some ⟨g, k, none⟩)] w fun e w' => e = .returned (.tuple #[]) ∧ ∃ w1, Below w.heap.size w w1 ∧ w' = w1.setCell ⟨g, k, none⟩ (.string (shaB t)) := by
  have E := implDigest_any t w (by omega) hK
  rw [digV_lo (by omega)] at E
  generalize shaB t = V at *
  have HE : Hid (Calls Tryz.prog 198 #[.string t] w fun e w' => e = .returned (.string V) ∧ Below w.heap.size w w') := E
  clear E hK
  go_enter Tryz.func202, Tryz.ntmps202
  go_wp2_with fail
  refine HE.out.mono ?_
  rintro e w1 ⟨rfl, hb⟩
  have hc1 : w1.cell? ⟨g, k, none⟩ = some (.string t) := (hb.cell (p := ⟨g, k, none⟩) hg).trans hc
  have hf1 : w1.frozen? ⟨g, k, none⟩ = false := (hb.frozen (p := ⟨g, k, none⟩) hg).trans hf
  have HB : Hid (Below w.heap.size w w1) := hb
  clear hb
  go_wp2
  go_end0
  exact ⟨rfl, w1, HB.out, rfl⟩

/-- Chains behind: the first k at their ends, the next one behind i steps. -/
def tk (f : Nat → ByteArray) (m : Nat → Nat) (k i : Nat) : Nat → ByteArray := fun j => if j < k then stepsB (m j) (f j) else if j = k then stepsB i (f j) else f j
theorem tk_start (f : Nat → ByteArray) (m : Nat → Nat) : ∀ j, j < 6 → tk f m 0 0 j = f j := fun j _ => by
  unfold tk
  rw [if_neg (by omega)]
  split <;> rfl
theorem tk_next (f : Nat → ByteArray) (m : Nat → Nat) (k : Nat) : ∀ j, j < 6 → tk f m (k + 1) 0 j = tk f m k (m k) j := fun j _ => by
  unfold tk
  by_cases h : j < k
  · rw [if_pos h, if_pos (by omega)]
  · rw [if_neg h]
    by_cases h2 : j = k
    · subst h2; rw [if_pos (by omega), if_pos rfl]
    · rw [if_neg (by omega), if_neg h2]
      split <;> rfl
theorem tk_step (f : Nat → ByteArray) (m : Nat → Nat) (k i : Nat) : ∀ j, j < 6 → tk f m k (i + 1) j = if j = k then shaB (tk f m k i k) else tk f m k i j := fun j _ => by
  unfold tk
  by_cases h2 : j = k
  · subst h2; simp [stepsB]
  · rw [if_neg h2, if_neg h2, if_neg h2]
theorem tk_end (f : Nat → ByteArray) (m : Nat → Nat) : ∀ j, j < 6 → tk f m 6 0 j = stepsB (m j) (f j) := fun j hj => by
  unfold tk
  rw [if_pos hj]
theorem tk_size {f : Nat → ByteArray} (m : Nat → Nat) (k i : Nat) (hf : ∀ j, j < 6 → (f j).size = 32) (j : Nat) (hj : j < 6) : (tk f m k i j).size = 32 := by
  unfold tk
  split
  · exact stepsB_size _ (hf j hj)
  · split
    · exact stepsB_size _ (hf j hj)
    · exact hf j hj

/-- In between: the chains in block H, the answer's block behind it. -/
def TakenAt (w wr : World) (f : Nat → ByteArray) : Prop :=
  wr.heap[w.heap.size]? = some (.cells (cellsT 6 f) 164 (0, 0)) ∧ wr.heap[w.heap.size + 1]? = some (.cells (cellsT 6 fun _ => ByteArray.empty) 164 (0, 0)) ∧ Below w.heap.size w wr ∧ Keys wr
theorem TakenAt.congr {w wr : World} {f g : Nat → ByteArray} (h : TakenAt w wr f) (e : ∀ j, j < 6 → g j = f j) : TakenAt w wr g := by
  obtain ⟨h1, h2, h3, h4⟩ := h
  exact ⟨by rw [cellsT_congr e]; exact h1, h2, h3, h4⟩
theorem TakenAt.lt {w wr : World} {f : Nat → ByteArray} (h : TakenAt w wr f) : w.heap.size + 1 < wr.heap.size := (Array.getElem?_eq_some_iff.1 h.2.1).1
theorem TakenAt.put {w wr w1 : World} {f f' : Nat → ByteArray} (h : TakenAt w wr f) (hb : Below wr.heap.size wr w1) (k : Nat) (v : ByteArray) (hK : 1 < w.heap.size) (e : ∀ i, i < 6 → f' i = if i = k then v else f i) : TakenAt w (w1.setCell ⟨w.heap.size, k, none⟩ (.string v)) f' := by
  have hl := h.lt
  obtain ⟨h1, h2, h3, h4⟩ := h
  have g1 := (hb.block _ (by omega)).trans h1
  have g2 := (hb.block _ hl).trans h2
  have hb1 : Below w.heap.size w w1 := h3.trans (hb.mono (by omega))
  refine ⟨rowT_set g1 k v f' e, ?_, hb1.setCell (Nat.le_refl _) _, ?_⟩
  · rw [heap_setCell_other _ _ _ _ (by simp)]
    exact g2
  · exact (h4.below hb (by omega)).below ((Below.refl w.heap.size w1).setCell (p := ⟨w.heap.size, k, none⟩) (Nat.le_refl _) _) hK
end Go.Proofs.YtpglcbidfghfkaaGreatDoor

/-
  The program's chains taken further, each as far as a closure tells.
-/
namespace Go.Proofs.YtpglcbidfghfkaaGreatDoor
open Go.RowKit Go.Lib
set_option linter.unusedVariables false
set_option linter.unusedSimpArgs false

set_option maxHeartbeats 1000000 in
set_option maxRecDepth 10000 in
theorem takenEnd_any (f : Nat → ByteArray) (m : Nat → Nat) (w : World) (hf : ∀ j, j < 6 → (f j).size = 32) (hm : ∀ j, j < 6 → m j ≤ 15) (hK : Keys w)
    (EF : ∀ (k : Nat) (W : World), k < 6 → Below w.heap.size w W → Calls Tryz.prog 204 #[.int .i64 k] W fun e W' => e = .returned (.int .i64 (m k : Nat)) ∧ W' = W) :
    Calls Tryz.prog 147 #[.agg (cellsT 6 f), .func (.func 204) #[] #[]] w fun e w' => e = .returned (.agg (cellsT 6 fun j => stepsB (m j) (f j))) ∧ Below w.heap.size w w' := by
  have HEF : Hid (∀ (k : Nat) (W : World), k < 6 → Below w.heap.size w W → Calls Tryz.prog 204 #[.int .i64 k] W fun e W' => e = .returned (.int .i64 (m k : Nat)) ∧ W' = W) := EF
  have HF : Hid (∀ j, j < 6 → (f j).size = 32) := hf
  have HM : Hid (∀ j, j < 6 → m j ≤ 15) := hm
  have HK : Hid (Keys w ∧ 1 < w.heap.size) := ⟨hK, hK.lt⟩
  have hmf : ∀ (fn : Fn) (first cap : Array Value) (w : World), (Instr.makeFunc fn first cap).run Tryz.prog w = .ok (.func fn first cap) w := fun _ _ _ _ => rfl
  clear EF hf hm hK
  go_enter Tryz.func147, Tryz.ntmps147
  go_wp2
  go_loopw [7] (fun x wr => ∃ k : Nat, k ≤ 6 ∧ x = .int .i64 k ∧ TakenAt w wr (tk f m k 0)) (fun x _ => 6 - (intOf x).toNat)
  case atStart =>
    refine ⟨0, by omega, rfl, ?_⟩
    refine TakenAt.congr ⟨heap_alloc2_old w _ _, heap_alloc2_new w _ _, ((Below.refl _ _).alloc (Nat.le_refl _) _).alloc (by simp) _, ?_⟩ (tk_start f m)
    exact HK.out.1.below (((Below.refl w.heap.size w).alloc (Nat.le_refl _) _).alloc (by simp) _) HK.out.2
  case round =>
    obtain ⟨k, hk, rfl, hT⟩ := hrel
    by_cases hlt : k < 6
    · have HT : Hid (TakenAt w wr (tk f m k 0)) := hT
      have EK := HEF.out k wr hlt hT.2.2.1
      have hmk := HM.out k hlt
      have HN : Hid (∀ j, j < 6 → tk f m (k + 1) 0 j = tk f m k (m k) j) := tk_next f m k
      obtain ⟨mk, hM⟩ : ∃ mk, mk = m k := ⟨_, rfl⟩
      rw [← hM] at EK hmk HN
      have HE : Hid (Calls Tryz.prog 204 #[.int .i64 k] wr fun e W' => e = .returned (.int .i64 (mk : Nat)) ∧ W' = wr) := EK
      clear EK hM hT
      have hkI : (k : Int) < 6 := by omega
      have hk0 : (0 : Int) ≤ (k : Int) := by omega
      go_wp2_with fail
      refine HE.out.mono ?_
      rintro e w0 ⟨rfl, rfl⟩
      go_wp2
      go_loopw [16] (fun x wr => ∃ i : Nat, i ≤ mk ∧ x = .int .i64 i ∧ TakenAt w wr (tk f m k i)) (fun x _ => mk - (intOf x).toNat)
      case atStart => exact ⟨0, by omega, rfl, HT.out⟩
      case round =>
        clear HT HE
        obtain ⟨i, hi, rfl, hT⟩ := hrel
        have HT : Hid (TakenAt w wr (tk f m k i)) := hT
        by_cases hil : i < mk
        · have hl := hT.lt
          obtain ⟨hc, hfz⟩ := rowT_cell hT.1 (j := k) hlt
          have E := step_any w.heap.size k (tk f m k i k) wr hc hfz (by omega) (tk_size m k i HF.out k hlt) hT.2.2.2
          have HE : Hid (Calls Tryz.prog 202 #[.pointer (some ⟨w.heap.size, k, none⟩)] wr fun e w' => e = .returned (.tuple #[]) ∧ ∃ w1, Below wr.heap.size wr w1 ∧ w' = w1.setCell ⟨w.heap.size, k, none⟩ (.string (shaB (tk f m k i k)))) := E
          have HP : Hid (∀ w1, Below wr.heap.size wr w1 → TakenAt w (w1.setCell ⟨w.heap.size, k, none⟩ (.string (shaB (tk f m k i k)))) (tk f m k (i + 1))) := fun w1 hb => hT.put hb k _ HK.out.2 (tk_step f m k i)
          have hiI : (i : Int) < (mk : Int) := by omega
          clear E hc hfz hT hl HT
          go_wp2_with fail
          refine HE.out.mono ?_
          rintro e w2 ⟨rfl, w1, hb, rfl⟩
          have HT2 := HP.out w1 hb
          have HT3 : Hid (TakenAt w (w1.setCell ⟨w.heap.size, k, none⟩ (.string (shaB (tk f m k i k)))) (tk f m k (i + 1))) := HT2
          generalize w1.setCell ⟨w.heap.size, k, none⟩ (.string (shaB (tk f m k i k))) = w3 at *
          clear hb HT2 HP HE
          go_wp2
          go_roundw
          case rel => exact ⟨i + 1, by omega, by go_num, HT3.out⟩
          case measure => simp [intOf]; omega
        · have ei : i = mk := by omega
          have HT2 : Hid (TakenAt w wr (tk f m (k + 1) 0)) := hT.congr (by rw [ei]; exact HN.out)
          have hiI : ¬ (i : Int) < (mk : Int) := by omega
          clear hT HT ei
          go_wp2
          go_roundw
          case rel => exact ⟨k + 1, by omega, by go_num, HT2.out⟩
          case measure => simp [intOf]; omega
    · have e6 : k = 6 := by omega
      have hT6 := hT.congr (g := fun j => stepsB (m j) (f j)) (by rw [e6]; exact fun j hj => (tk_end f m j hj).symm)
      obtain ⟨h1, h2, h3, h4⟩ := hT6
      have hkI : ¬ (k : Int) < 6 := by omega
      clear hT e6 h4 HEF HF HM HK
      obtain ⟨g, hg⟩ : ∃ g, g = fun j => stepsB (m j) (f j) := ⟨_, rfl⟩
      rw [← hg] at h1
      have HG : Hid (g = fun j => stepsB (m j) (f j)) := hg
      clear hg
      go_wp2_with (first | (refine wpList_load_row rfl 164 (.tmp 2) rfl w.heap.size rfl _ _ _ _ h1 Tryz.underlying164 rfl (by rw [cellsT_size]; exact info6) ?_) | (refine wpList_store_row rfl 164 (.tmp 4) (.tmp 22) rfl (w.heap.size + 1) _ rfl rfl _ _ h2 (by rw [cellsT_size]; exact info6) (by rw [cellsT_size, cellsT_size]) (cellsT_one _ _) ?_))
      exact bodyPost_ret (results_cell_row Tryz.results147 _ _ (w.heap.size + 1) _ _ _ _ rfl (setRow_heap wr _ _ _ _ _ h2) Tryz.underlying164 rfl (by rw [cellsT_size]; exact info6)) rfl ⟨ret_agg (by rw [HG.out]), below_setRow h3 (by omega) _⟩
end Go.Proofs.YtpglcbidfghfkaaGreatDoor

/-
  The program's chains ahead of their first step, their texts, their public text.
-/
namespace Go.Proofs.YtpglcbidfghfkaaGreatDoor
open Go.RowKit Go.Lib
set_option linter.unusedVariables false
set_option linter.unusedSimpArgs false

theorem heap_alloc2_keys {w : World} (hK : Keys w) (a b : Obj) : Keys ((w.alloc a).alloc b) := hK.below (((Below.refl w.heap.size w).alloc (Nat.le_refl _) a).alloc (by simp) b) hK.lt
/-- The first k chains are laid. -/
def laidTo (f : Nat → ByteArray) (k : Nat) : Nat → ByteArray := fun j => if j < k then f j else ByteArray.empty
theorem laidTo_next (f : Nat → ByteArray) (k : Nat) : ∀ j, j < 6 → laidTo f (k + 1) j = if j = k then f k else laidTo f k j := fun j _ => by
  unfold laidTo
  by_cases h : j = k
  · subst h; simp
  · rw [if_neg h]
    by_cases h2 : j < k
    · rw [if_pos h2, if_pos (by omega)]
    · rw [if_neg h2, if_neg (by omega)]
/-- In between: the answer's block, the chains' block behind it. -/
def LaidAt (w wr : World) (f : Nat → ByteArray) : Prop :=
  wr.heap[w.heap.size]? = some (.cells (cellsT 6 fun _ => ByteArray.empty) 164 (0, 0)) ∧ wr.heap[w.heap.size + 1]? = some (.cells (cellsT 6 f) 164 (0, 0)) ∧ Below w.heap.size w wr ∧ Keys wr
theorem LaidAt.lt {w wr : World} {f : Nat → ByteArray} (h : LaidAt w wr f) : w.heap.size + 1 < wr.heap.size := (Array.getElem?_eq_some_iff.1 h.2.1).1
theorem LaidAt.below {w wr w1 : World} {f : Nat → ByteArray} (h : LaidAt w wr f) (hb : Below wr.heap.size wr w1) : LaidAt w w1 f := by
  have hl := h.lt
  obtain ⟨h1, h2, h3, h4⟩ := h
  exact ⟨(hb.block _ (by omega)).trans h1, (hb.block _ hl).trans h2, h3.trans (hb.mono (by omega)), h4.below hb h4.lt⟩
theorem LaidAt.put {w wr : World} {f f' : Nat → ByteArray} (h : LaidAt w wr f) (k : Nat) (v : ByteArray) (hK : 1 < w.heap.size) (e : ∀ i, i < 6 → f' i = if i = k then v else f i) : LaidAt w (wr.setCell ⟨w.heap.size + 1, k, none⟩ (.string v)) f' := by
  obtain ⟨h1, h2, h3, h4⟩ := h
  refine ⟨?_, rowT_set h2 k v f' e, h3.setCell (by simp) _, h4.below ((Below.refl w.heap.size wr).setCell (p := ⟨w.heap.size + 1, k, none⟩) (by simp) _) hK⟩
  rw [heap_setCell_other _ _ _ _ (by simp)]
  exact h1

set_option maxHeartbeats 1000000 in
set_option maxRecDepth 10000 in
theorem chainsOf_any (s : ByteArray) (i : Int) (w : World) (hs : s.size ≤ 64) (hi0 : 0 ≤ i) (hi1 : i ≤ 3) (hK : Keys w) :
    Calls Tryz.prog 146 #[.string s, .int .i64 i] w fun e w' => e = .returned (.agg (cellsT 6 fun j => beginB s i j)) ∧ Below w.heap.size w w' := by
  have EP : Hid (∀ n w, 0 ≤ n → n ≤ 10 → Calls Tryz.prog 91 #[.int .i64 n] w fun e w' => e = .returned (.string (numB n)) ∧ Below w.heap.size w w') := fun n w h0 h1 => implPutNum_any n w (by omega) (by omega)
  have EJ : Hid (∀ a b w, a.size ≤ 11 → b.size ≤ 11 → Calls Tryz.prog 66 #[.string a, .string b] w fun e w' => e = .returned (.string (a ++ b)) ∧ Below w.heap.size w w') := fun a b w ha hb => joined_any a b w (by omega) (by omega)
  have EM : Hid (∀ t w, t.size ≤ 22 → Keys w → Calls Tryz.prog 201 #[.string s, .string t] w fun e w' => e = .returned (.string (macB s t)) ∧ Below w.heap.size w w') := fun t w ht hK => implMacB s t w (by omega) (by omega) hK
  have HK : Hid (Keys w ∧ 1 < w.heap.size) := ⟨hK, hK.lt⟩
  clear hs hK
  obtain ⟨f, hf⟩ : ∃ f : Nat → ByteArray, f = fun j : Nat => beginB s i j := ⟨_, rfl⟩
  rw [← hf]
  have HFV : Hid (∀ j : Nat, macB s (numB i ++ numB j) = f j) := fun j => by rw [hf]; rfl
  clear hf
  go_enter Tryz.func146, Tryz.ntmps146
  go_wp2
  go_loopw [7] (fun x wr => ∃ k : Nat, k ≤ 6 ∧ x = .int .i64 k ∧ LaidAt w wr (laidTo f k)) (fun x _ => 6 - (intOf x).toNat)
  case atStart => exact ⟨0, by omega, rfl, heap_alloc2_old w _ _, heap_alloc2_new w _ _, ((Below.refl _ _).alloc (Nat.le_refl _) _).alloc (by simp) _, heap_alloc2_keys HK.out.1 _ _⟩
  case round =>
    obtain ⟨k, hk, rfl, hL⟩ := hrel
    have HL : Hid (LaidAt w wr (laidTo f k)) := hL
    by_cases hlt : k < 6
    · have hkI : (k : Int) < 6 := by omega
      have hk0 : (0 : Int) ≤ (k : Int) := by omega
      clear hL
      go_wp2_with fail
      refine (EP.out _ _ hi0 (by omega)).mono ?_
      rintro e w1 ⟨rfl, hb1⟩
      have HL1 : Hid (LaidAt w w1 (laidTo f k)) := HL.out.below hb1
      clear hb1 HL
      go_wp2_with fail
      refine (EP.out _ _ hk0 (by omega)).mono ?_
      rintro e w2 ⟨rfl, hb2⟩
      have HL2 : Hid (LaidAt w w2 (laidTo f k)) := HL1.out.below hb2
      clear hb2 HL1
      go_wp2_with fail
      refine (EJ.out _ _ _ (numB_size _) (numB_size _)).mono ?_
      rintro e w3 ⟨rfl, hb3⟩
      have HL3 : Hid (LaidAt w w3 (laidTo f k)) := HL2.out.below hb3
      clear hb3 HL2
      go_wp2_with fail
      refine (EM.out _ _ (by have := numB_size i; have := numB_size (k : Int); rw [ByteArray.size_append]; omega) HL3.out.2.2.2).mono ?_
      rintro e w4 ⟨rfl, hb4⟩
      rw [HFV.out k]
      have HL4 : Hid (LaidAt w w4 (laidTo f k)) := HL3.out.below hb4
      obtain ⟨hc, hfz⟩ := rowT_cell HL4.out.2.1 (j := k) hlt
      have HL5 : Hid (LaidAt w (w4.setCell ⟨w.heap.size + 1, k, none⟩ (.string (f k))) (laidTo f (k + 1))) := HL4.out.put k (f k) HK.out.2 (laidTo_next f k)
      generalize f k = V at *
      clear hb4 HL3
      go_wp2
      go_roundw
      case rel => exact ⟨k + 1, by omega, by go_num, HL5.out⟩
      case measure => simp [intOf]; omega
    · have e6 : k = 6 := by omega
      obtain ⟨h1, h2, h3, h4⟩ := hL
      have hg : cellsT 6 (laidTo f k) = cellsT 6 f := cellsT_congr fun j hj => by unfold laidTo; rw [if_pos (by omega)]
      rw [hg] at h2
      have hkI : ¬ (k : Int) < 6 := by omega
      clear e6 hg h4 EP EJ EM HL HFV HK
      go_wp2_with (first | (refine wpList_load_row rfl 164 (.tmp 5) rfl (w.heap.size + 1) rfl _ _ _ _ h2 Tryz.underlying164 rfl (by rw [cellsT_size]; exact info6) ?_) | (refine wpList_store_row rfl 164 (.tmp 4) (.tmp 21) rfl w.heap.size _ rfl rfl _ _ h1 (by rw [cellsT_size]; exact info6) (by rw [cellsT_size, cellsT_size]) (cellsT_one _ _) ?_))
      exact bodyPost_ret (results_cell_row Tryz.results146 _ _ w.heap.size _ _ _ _ rfl (setRow_heap wr _ _ _ _ _ h1) Tryz.underlying164 rfl (by rw [cellsT_size]; exact info6)) rfl ⟨rfl, below_setRow h3 (Nat.le_refl _) _⟩

theorem index6 (f : Nat → ByteArray) (k : Nat) (hk : k < 6) (w : World) : (Instr.index 164 (.agg (cellsT 6 f)) (.int .i64 k)).run Tryz.prog w = .ok (.agg #[.string (f k)]) w := by
  have h := cellsT_get f hk
  have hx : (cellsT 6 f).extract k (k + 1) = #[.string (f k)] := by
    apply Array.ext_getElem?
    intro j
    by_cases hj : j = 0
    · subst hj; simp [Array.getElem?_extract, cellsT_size, h]; omega
    · rw [Array.getElem?_eq_none (by simp [cellsT_size]; omega), Array.getElem?_eq_none (by simp; omega)]
  simp [Instr.index, asIntOf, run_underlying Tryz.underlying164, part, hk, h, hx, go_sem]

set_option maxHeartbeats 1000000 in
set_option maxRecDepth 10000 in
theorem public_any (f : Nat → ByteArray) (w : World) (hf : ∀ j, j < 6 → (f j).size = 32) (hK : Keys w) :
    Calls Tryz.prog 163 #[.agg (cellsT 6 f)] w fun e w' => e = .returned (.string (publicOf f)) ∧ Below w.heap.size w w' := by
  have EJ : Hid (∀ a b w, a.size ≤ 192 → b.size ≤ 32 → Calls Tryz.prog 66 #[.string a, .string b] w fun e w' => e = .returned (.string (a ++ b)) ∧ Below w.heap.size w w') := fun a b w ha hb => joined_any a b w (by omega) (by omega)
  have ED : Hid (∀ t w, t.size ≤ 192 → Keys w → Calls Tryz.prog 198 #[.string t] w fun e w' => e = .returned (.string (shaB t)) ∧ Below w.heap.size w w') := fun t w ht hK => by
    have := implDigest_any t w (by omega) hK
    rw [digV_lo (by omega)] at this
    exact this
  have HF : Hid (∀ j, j < 6 → (f j).size = 32) := hf
  have HK : Hid (Keys w ∧ 1 < w.heap.size) := ⟨hK, hK.lt⟩
  have hg0 : (w.alloc (.cells (cellsT 6 f) 164)).heap[w.heap.size]? = some (.cells (cellsT 6 f) 164 (0, 0)) := heap_alloc_new w _
  clear hf hK
  go_enter Tryz.func163, Tryz.ntmps163
  go_wp2_with (first | (refine wpList_load_row rfl 164 (.tmp 1) rfl w.heap.size rfl _ _ _ _ hg0 Tryz.underlying164 rfl (by rw [cellsT_size]; exact info6) ?_))
  go_loopw [3, 7] (fun a x wr => ∃ k : Nat, k ≤ 6 ∧ x = .int .i64 k ∧ a = .string (catB f k) ∧ Below w.heap.size w wr) (fun _ x _ => 6 - (intOf x).toNat)
  case atStart => exact ⟨0, by omega, rfl, rfl, (Below.refl _ _).alloc (Nat.le_refl _) _⟩
  case round =>
    obtain ⟨k, hk, rfl, rfl, hb⟩ := hrel
    have HB : Hid (Below w.heap.size w wr) := hb
    have hcs := catB_size f k (fun j hj => HF.out j (by omega))
    by_cases hlt : k < 6
    · have hi := index6 f k hlt
      have HS : Hid (catB f k ++ f k = catB f (k + 1)) := rfl
      have hfs := HF.out k hlt
      have E := fun w => EJ.out (catB f k) (f k) w (by omega) (by omega)
      rw [HS.out] at E
      have HE : Hid (∀ w, Calls Tryz.prog 66 #[.string (catB f k), .string (f k)] w fun e w' => e = .returned (.string (catB f (k + 1))) ∧ Below w.heap.size w w') := E
      obtain ⟨c1, hc1⟩ : ∃ c1, c1 = catB f (k + 1) := ⟨_, rfl⟩
      rw [← hc1] at HE
      have HC1 : Hid (c1 = catB f (k + 1)) := hc1
      clear hb hcs HS hfs E hc1
      have hkI : (k : Int) < 6 := by omega
      have hk0 : (0 : Int) ≤ (k : Int) := by omega
      go_wp2_with fail
      refine (HE.out _).mono ?_
      rintro e w1 ⟨rfl, hb1⟩
      have HB1 : Hid (Below w.heap.size w w1) := (HB.out.alloc HB.out.size _).trans (hb1.mono (by have := HB.out.size; simp; omega))
      clear hb1 HE
      go_wp2
      go_roundw
      case rel => exact ⟨k + 1, by omega, by go_num, by rw [HC1.out], HB1.out⟩
      case measure => simp [intOf]; omega
    · have e6 : k = 6 := by omega
      have E := fun w hK => ED.out (catB f k) w (by omega) hK
      have HE : Hid (∀ w, Keys w → Calls Tryz.prog 198 #[.string (catB f k)] w fun e w' => e = .returned (.string (publicOf f)) ∧ Below w.heap.size w w') := by
        rw [e6] at E ⊢
        exact E
      have HKr : Hid (Keys wr) := HK.out.1.below hb HK.out.2
      generalize catB f k = c at *
      have hkI : ¬ (k : Int) < 6 := by omega
      clear e6 E hb hcs
      go_wp2_with fail
      refine (HE.out _ HKr.out).mono ?_
      rintro e w1 ⟨rfl, hb1⟩
      have HB1 : Hid (Below w.heap.size w w1) := HB.out.trans (hb1.mono HB.out.size)
      clear hb1 HE
      go_wp2
      go_ret
      exact ⟨rfl, HB1.out⟩
end Go.Proofs.YtpglcbidfghfkaaGreatDoor

/-
  The program's public texts of a seed's keys.
-/
namespace Go.Proofs.YtpglcbidfghfkaaGreatDoor
open Go.RowKit Go.Lib
set_option linter.unusedVariables false
set_option linter.unusedSimpArgs false

theorem toEnd_any (k : Nat) (w : World) : Calls Tryz.prog 204 #[.int .i64 k] w fun e w' => e = .returned (.int .i64 ((15 : Nat) : Int)) ∧ w' = w := by
  go_enter Tryz.func204, Tryz.ntmps204
  go_wp2
  go_ret
  exact ⟨rfl, rfl⟩
theorem pubs_snoc (s : ByteArray) (k : Nat) : (List.range k).map (publicB s) ++ [publicB s k] = (List.range (k + 1)).map (publicB s) := by simp [List.range_succ]

set_option maxHeartbeats 1000000 in
set_option maxRecDepth 10000 in
theorem implPubs_any (s : ByteArray) (w : World) (hs : s.size ≤ 64) (hK : Keys w) :
    Calls Tryz.prog 150 #[.string s] w fun e w' => ∃ v, e = .returned v ∧ OwnT w' w.heap.size v (pubsB s) ∧ Below w.heap.size w w' := by
  have E1 : Hid (∀ (k : Nat) (w : World), k ≤ 3 → Keys w → Calls Tryz.prog 146 #[.string s, .int .i64 k] w fun e w' => e = .returned (.agg (cellsT 6 fun j => beginB s k j)) ∧ Below w.heap.size w w') := fun k w hk hK => chainsOf_any s k w hs (by omega) (by omega) hK
  have E2 : Hid (∀ (f : Nat → ByteArray) (w : World), (∀ j, j < 6 → (f j).size = 32) → Keys w → Calls Tryz.prog 147 #[.agg (cellsT 6 f), .func (.func 204) #[] #[]] w fun e w' => e = .returned (.agg (cellsT 6 fun j => stepsB 15 (f j))) ∧ Below w.heap.size w w') :=
    fun f w hf hK => takenEnd_any f (fun _ => 15) w hf (fun _ _ => Nat.le_refl _) hK fun k W _ _ => toEnd_any k W
  have E3 : Hid (∀ (f : Nat → ByteArray) (w : World), (∀ j, j < 6 → (f j).size = 32) → Keys w → Calls Tryz.prog 163 #[.agg (cellsT 6 f)] w fun e w' => e = .returned (.string (publicOf f)) ∧ Below w.heap.size w w') := public_any
  have HK : Hid (Keys w ∧ 1 < w.heap.size) := ⟨hK, hK.lt⟩
  clear hs hK
  unfold pubsB
  go_enter Tryz.func150, Tryz.ntmps150
  go_wp2
  go_loopw [4, 6] (fun a x wr => ∃ k : Nat, k ≤ 4 ∧ x = .int .i64 k ∧ OwnT wr w.heap.size a ((List.range k).map (publicB s)) ∧ Below w.heap.size w wr ∧ Keys wr) (fun _ x _ => 4 - (intOf x).toNat)
  case atStart => exact ⟨0, by omega, rfl, OwnT.nil _ _, Below.refl _ _, HK.out.1⟩
  case round =>
    obtain ⟨k, hk, rfl, hown, hb, hKr⟩ := hrel
    by_cases hlt : k < 4
    · have HS : Hid ((List.range k).map (publicB s) ++ [publicB s k] = (List.range (k + 1)).map (publicB s)) := pubs_snoc s k
      have hll : ((List.range k).map (publicB s)).length ≤ 1048576 := by simp; omega
      have HO : Hid (OwnT wr w.heap.size u4 ((List.range k).map (publicB s)) ∧ Below w.heap.size w wr ∧ Keys wr) := ⟨hown, hb, hKr⟩
      have HP : Hid (publicOf (fun j => stepsB 15 (beginB s k j)) = publicB s k) := rfl
      have F1 := fun w hK => E1.out k w (by omega) hK
      have hz0 : ∀ j : Nat, j < 6 → (beginB s k j).size = 32 := fun j _ => beginB_size _ _ _
      have F2 := fun w hK => E2.out (fun j => beginB s k j) w hz0 hK
      have F3 := fun w hK => E3.out (fun j => stepsB 15 (beginB s k j)) w (fun j hj => stepsB_size _ (hz0 j hj)) hK
      rw [HP.out] at F3
      have G1 : Hid (∀ w, Keys w → Calls Tryz.prog 146 #[.string s, .int .i64 k] w fun e w' => e = .returned (.agg (cellsT 6 fun j => beginB s k j)) ∧ Below w.heap.size w w') := F1
      have G2 : Hid (∀ w, Keys w → Calls Tryz.prog 147 #[.agg (cellsT 6 fun j => beginB s k j), .func (.func 204) #[] #[]] w fun e w' => e = .returned (.agg (cellsT 6 fun j => stepsB 15 (beginB s k j))) ∧ Below w.heap.size w w') := F2
      have G3 : Hid (∀ w, Keys w → Calls Tryz.prog 163 #[.agg (cellsT 6 fun j => stepsB 15 (beginB s k j))] w fun e w' => e = .returned (.string (publicB s k)) ∧ Below w.heap.size w w') := F3
      generalize (List.range k).map (publicB s) = l at *
      generalize publicB s k = t at *
      generalize (cellsT 6 fun j => stepsB 15 (beginB s k j)) = A2 at *
      generalize (cellsT 6 fun j => beginB s k j) = A1 at *
      have hkI : (k : Int) < 4 := by omega
      have hk0 : (0 : Int) ≤ (k : Int) := by omega
      clear hown hb hKr F1 F2 F3 hz0 HP
      go_wp2_with fail
      refine (G1.out _ HO.out.2.2).mono ?_
      rintro e w1 ⟨rfl, hb1⟩
      have HO1 : Hid (OwnT w1 w.heap.size u4 l ∧ Below w.heap.size w w1 ∧ Keys w1) := ⟨HO.out.1.below hb1 (Nat.le_refl _), HO.out.2.1.trans (hb1.mono HO.out.2.1.size), HO.out.2.2.below hb1 HO.out.2.2.lt⟩
      clear hb1 HO G1
      go_wp2_with fail
      refine (G2.out _ HO1.out.2.2).mono ?_
      rintro e w2 ⟨rfl, hb2⟩
      have HO2 : Hid (OwnT w2 w.heap.size u4 l ∧ Below w.heap.size w w2 ∧ Keys w2) := ⟨HO1.out.1.below hb2 (Nat.le_refl _), HO1.out.2.1.trans (hb2.mono HO1.out.2.1.size), HO1.out.2.2.below hb2 HO1.out.2.2.lt⟩
      clear hb2 HO1 G2
      go_wp2_with fail
      refine (G3.out _ HO2.out.2.2).mono ?_
      rintro e w3 ⟨rfl, hb3⟩
      have HO3 : Hid (OwnT w3 w.heap.size u4 l ∧ Below w.heap.size w w3 ∧ Keys w3) := ⟨HO2.out.1.below hb3 (Nat.le_refl _), HO2.out.2.1.trans (hb3.mono HO2.out.2.1.size), HO2.out.2.2.below hb3 HO2.out.2.2.lt⟩
      have hown3 := HO3.out.1
      have hszw := HO3.out.2.1.size
      clear hb3 HO2 G3
      go_wp2_with (at_builtin; go_must (refine wp_app_text rfl (.tmp 9) (.tmp 16) rfl w.heap.size _ _ rfl hown3 t rfl hll hszw ?_); intro v4 w4 hown4 hb4)
      have HO4 : Hid (OwnT w4 w.heap.size v4 ((List.range (k + 1)).map (publicB s)) ∧ Below w.heap.size w w4 ∧ Keys w4) := ⟨by rw [← HS.out]; exact hown4, HO3.out.2.1.trans hb4, HO3.out.2.2.below hb4 HK.out.2⟩
      clear hown4 hb4
      go_roundw
      case rel => exact ⟨k + 1, by omega, by go_num, HO4.out.1, HO4.out.2.1, HO4.out.2.2⟩
      case measure => simp [intOf]; omega
    · have e4 : k = 4 := by omega
      rw [e4] at hown
      have HO : Hid (OwnT wr w.heap.size u4 ((List.range 4).map (publicB s)) ∧ Below w.heap.size w wr) := ⟨hown, hb⟩
      have hkI : ¬ (k : Int) < 4 := by omega
      clear e4 hown hb hKr E1 E2 E3
      go_wp2
      go_ret
      exact ⟨_, rfl, HO.out.1, HO.out.2⟩
end Go.Proofs.YtpglcbidfghfkaaGreatDoor

/-
  The program's chains taken further, each as far as a closure tells.
-/
namespace Go.Proofs.YtpglcbidfghfkaaGreatDoor
open Go.RowKit Go.Lib
set_option linter.unusedVariables false
set_option linter.unusedSimpArgs false

set_option maxHeartbeats 1000000 in
set_option maxRecDepth 10000 in
theorem takenSign_any (f : Nat → ByteArray) (m : Nat → Nat) (d : Nat) (w : World) (hf : ∀ j, j < 6 → (f j).size = 32) (hm : ∀ j, j < 6 → m j ≤ 15) (hK : Keys w)
    (EF : ∀ (k : Nat) (W : World), k < 6 → Below w.heap.size w W → Calls Tryz.prog 145 #[.int .i64 k, .pointer (some ⟨d, 0, none⟩)] W fun e W' => e = .returned (.int .i64 (m k : Nat)) ∧ W' = W) :
    Calls Tryz.prog 147 #[.agg (cellsT 6 f), .func (.func 145) #[] #[.pointer (some ⟨d, 0, none⟩)]] w fun e w' => e = .returned (.agg (cellsT 6 fun j => stepsB (m j) (f j))) ∧ Below w.heap.size w w' := by
  have HEF : Hid (∀ (k : Nat) (W : World), k < 6 → Below w.heap.size w W → Calls Tryz.prog 145 #[.int .i64 k, .pointer (some ⟨d, 0, none⟩)] W fun e W' => e = .returned (.int .i64 (m k : Nat)) ∧ W' = W) := EF
  have HF : Hid (∀ j, j < 6 → (f j).size = 32) := hf
  have HM : Hid (∀ j, j < 6 → m j ≤ 15) := hm
  have HK : Hid (Keys w ∧ 1 < w.heap.size) := ⟨hK, hK.lt⟩
  have hmf : ∀ (fn : Fn) (first cap : Array Value) (w : World), (Instr.makeFunc fn first cap).run Tryz.prog w = .ok (.func fn first cap) w := fun _ _ _ _ => rfl
  clear EF hf hm hK
  go_enter Tryz.func147, Tryz.ntmps147
  go_wp2
  go_loopw [7] (fun x wr => ∃ k : Nat, k ≤ 6 ∧ x = .int .i64 k ∧ TakenAt w wr (tk f m k 0)) (fun x _ => 6 - (intOf x).toNat)
  case atStart =>
    refine ⟨0, by omega, rfl, ?_⟩
    refine TakenAt.congr ⟨heap_alloc2_old w _ _, heap_alloc2_new w _ _, ((Below.refl _ _).alloc (Nat.le_refl _) _).alloc (by simp) _, ?_⟩ (tk_start f m)
    exact HK.out.1.below (((Below.refl w.heap.size w).alloc (Nat.le_refl _) _).alloc (by simp) _) HK.out.2
  case round =>
    obtain ⟨k, hk, rfl, hT⟩ := hrel
    by_cases hlt : k < 6
    · have HT : Hid (TakenAt w wr (tk f m k 0)) := hT
      have EK := HEF.out k wr hlt hT.2.2.1
      have hmk := HM.out k hlt
      have HN : Hid (∀ j, j < 6 → tk f m (k + 1) 0 j = tk f m k (m k) j) := tk_next f m k
      obtain ⟨mk, hM⟩ : ∃ mk, mk = m k := ⟨_, rfl⟩
      rw [← hM] at EK hmk HN
      have HE : Hid (Calls Tryz.prog 145 #[.int .i64 k, .pointer (some ⟨d, 0, none⟩)] wr fun e W' => e = .returned (.int .i64 (mk : Nat)) ∧ W' = wr) := EK
      clear EK hM hT
      have hkI : (k : Int) < 6 := by omega
      have hk0 : (0 : Int) ≤ (k : Int) := by omega
      go_wp2_with fail
      refine HE.out.mono ?_
      rintro e w0 ⟨rfl, rfl⟩
      go_wp2
      go_loopw [16] (fun x wr => ∃ i : Nat, i ≤ mk ∧ x = .int .i64 i ∧ TakenAt w wr (tk f m k i)) (fun x _ => mk - (intOf x).toNat)
      case atStart => exact ⟨0, by omega, rfl, HT.out⟩
      case round =>
        clear HT HE
        obtain ⟨i, hi, rfl, hT⟩ := hrel
        have HT : Hid (TakenAt w wr (tk f m k i)) := hT
        by_cases hil : i < mk
        · have hl := hT.lt
          obtain ⟨hc, hfz⟩ := rowT_cell hT.1 (j := k) hlt
          have E := step_any w.heap.size k (tk f m k i k) wr hc hfz (by omega) (tk_size m k i HF.out k hlt) hT.2.2.2
          have HE : Hid (Calls Tryz.prog 202 #[.pointer (some ⟨w.heap.size, k, none⟩)] wr fun e w' => e = .returned (.tuple #[]) ∧ ∃ w1, Below wr.heap.size wr w1 ∧ w' = w1.setCell ⟨w.heap.size, k, none⟩ (.string (shaB (tk f m k i k)))) := E
          have HP : Hid (∀ w1, Below wr.heap.size wr w1 → TakenAt w (w1.setCell ⟨w.heap.size, k, none⟩ (.string (shaB (tk f m k i k)))) (tk f m k (i + 1))) := fun w1 hb => hT.put hb k _ HK.out.2 (tk_step f m k i)
          have hiI : (i : Int) < (mk : Int) := by omega
          clear E hc hfz hT hl HT
          go_wp2_with fail
          refine HE.out.mono ?_
          rintro e w2 ⟨rfl, w1, hb, rfl⟩
          have HT2 := HP.out w1 hb
          have HT3 : Hid (TakenAt w (w1.setCell ⟨w.heap.size, k, none⟩ (.string (shaB (tk f m k i k)))) (tk f m k (i + 1))) := HT2
          generalize w1.setCell ⟨w.heap.size, k, none⟩ (.string (shaB (tk f m k i k))) = w3 at *
          clear hb HT2 HP HE
          go_wp2
          go_roundw
          case rel => exact ⟨i + 1, by omega, by go_num, HT3.out⟩
          case measure => simp [intOf]; omega
        · have ei : i = mk := by omega
          have HT2 : Hid (TakenAt w wr (tk f m (k + 1) 0)) := hT.congr (by rw [ei]; exact HN.out)
          have hiI : ¬ (i : Int) < (mk : Int) := by omega
          clear hT HT ei
          go_wp2
          go_roundw
          case rel => exact ⟨k + 1, by omega, by go_num, HT2.out⟩
          case measure => simp [intOf]; omega
    · have e6 : k = 6 := by omega
      have hT6 := hT.congr (g := fun j => stepsB (m j) (f j)) (by rw [e6]; exact fun j hj => (tk_end f m j hj).symm)
      obtain ⟨h1, h2, h3, h4⟩ := hT6
      have hkI : ¬ (k : Int) < 6 := by omega
      clear hT e6 h4 HEF HF HM HK
      obtain ⟨g, hg⟩ : ∃ g, g = fun j => stepsB (m j) (f j) := ⟨_, rfl⟩
      rw [← hg] at h1
      have HG : Hid (g = fun j => stepsB (m j) (f j)) := hg
      clear hg
      go_wp2_with (first | (refine wpList_load_row rfl 164 (.tmp 2) rfl w.heap.size rfl _ _ _ _ h1 Tryz.underlying164 rfl (by rw [cellsT_size]; exact info6) ?_) | (refine wpList_store_row rfl 164 (.tmp 4) (.tmp 22) rfl (w.heap.size + 1) _ rfl rfl _ _ h2 (by rw [cellsT_size]; exact info6) (by rw [cellsT_size, cellsT_size]) (cellsT_one _ _) ?_))
      exact bodyPost_ret (results_cell_row Tryz.results147 _ _ (w.heap.size + 1) _ _ _ _ rfl (setRow_heap wr _ _ _ _ _ h2) Tryz.underlying164 rfl (by rw [cellsT_size]; exact info6)) rfl ⟨ret_agg (by rw [HG.out]), below_setRow h3 (by omega) _⟩
end Go.Proofs.YtpglcbidfghfkaaGreatDoor

/-
  The texts of the program's chains.
-/
namespace Go.Proofs.YtpglcbidfghfkaaGreatDoor
open Go.RowKit Go.Lib
set_option linter.unusedVariables false
set_option linter.unusedSimpArgs false

theorem range_snoc (f : Nat → ByteArray) (k : Nat) : (List.range k).map f ++ [f k] = (List.range (k + 1)).map f := by simp [List.range_succ]
set_option maxHeartbeats 1000000 in
set_option maxRecDepth 10000 in
theorem texts_any (f : Nat → ByteArray) (w : World) :
    Calls Tryz.prog 148 #[.agg (cellsT 6 f)] w fun e w' => ∃ v, e = .returned v ∧ OwnT w' w.heap.size v ((List.range 6).map f) ∧ Below w.heap.size w w' := by
  have hg0 : (w.alloc (.cells (cellsT 6 f) 164)).heap[w.heap.size]? = some (.cells (cellsT 6 f) 164 (0, 0)) := heap_alloc_new w _
  go_enter Tryz.func148, Tryz.ntmps148
  go_wp2_with (first | (refine wpList_load_row rfl 164 (.tmp 1) rfl w.heap.size rfl _ _ _ _ hg0 Tryz.underlying164 rfl (by rw [cellsT_size]; exact info6) ?_))
  go_loopw [3, 7] (fun a x wr => ∃ k : Nat, k ≤ 6 ∧ x = .int .i64 k ∧ OwnT wr w.heap.size a ((List.range k).map f) ∧ Below w.heap.size w wr) (fun _ x _ => 6 - (intOf x).toNat)
  case atStart => exact ⟨0, by omega, rfl, OwnT.nil _ _, (Below.refl _ _).alloc (Nat.le_refl _) _⟩
  case round =>
    obtain ⟨k, hk, rfl, hown, hb⟩ := hrel
    by_cases hlt : k < 6
    · have hi := index6 f k hlt
      have HS : Hid ((List.range k).map f ++ [f k] = (List.range (k + 1)).map f) := range_snoc f k
      have hll : ((List.range k).map f).length ≤ 1048576 := by simp; omega
      have HO : Hid (OwnT (wr.alloc (.cells #[.string (f k)] 162)) w.heap.size u3 ((List.range k).map f) ∧ Below w.heap.size w (wr.alloc (.cells #[.string (f k)] 162))) :=
        ⟨hown.below ((Below.refl wr.heap.size wr).alloc (Nat.le_refl _) _) (Nat.le_refl _), hb.alloc hb.size _⟩
      generalize (List.range k).map f = l at *
      generalize f k = t at *
      have hown1 := HO.out.1
      have hszw : w.heap.size ≤ (wr.alloc (.cells #[.string t] 162)).heap.size := HO.out.2.size
      have hkI : (k : Int) < 6 := by omega
      have hk0 : (0 : Int) ≤ (k : Int) := by omega
      clear hown hb
      go_wp2_with (at_builtin; go_must (refine wp_app_text rfl (.tmp 10) (.tmp 13) rfl w.heap.size _ _ rfl hown1 t (by simp [Act.eval]) hll hszw ?_); intro v2 w2 hown2 hb2)
      have HO2 : Hid (OwnT w2 w.heap.size v2 ((List.range (k + 1)).map f) ∧ Below w.heap.size w w2) := ⟨by rw [← HS.out]; exact hown2, HO.out.2.trans hb2⟩
      clear hown2 hb2
      go_roundw
      case rel => exact ⟨k + 1, by omega, by go_num, HO2.out.1, HO2.out.2⟩
      case measure => simp [intOf]; omega
    · have e6 : k = 6 := by omega
      rw [e6] at hown
      have HO : Hid (OwnT wr w.heap.size u3 ((List.range 6).map f) ∧ Below w.heap.size w wr) := ⟨hown, hb⟩
      have hkI : ¬ (k : Int) < 6 := by omega
      clear e6 hown hb
      go_wp2
      go_ret
      exact ⟨_, rfl, HO.out.1, HO.out.2⟩
end Go.Proofs.YtpglcbidfghfkaaGreatDoor

/-
  The program's chains that begin with the Ends of a signature.
-/
namespace Go.Proofs.YtpglcbidfghfkaaGreatDoor
open Go.RowKit Go.Lib
set_option linter.unusedVariables false
set_option linter.unusedSimpArgs false

set_option maxHeartbeats 1000000 in
set_option maxRecDepth 10000 in
theorem chainsAt_any (v : Value) (l : List ByteArray) (w : World) (h : Texts w w.heap.size v l) (h6 : l.length = 6) (hK : Keys w) :
    Calls Tryz.prog 162 #[v] w fun e w' => e = .returned (.agg (cellsT 6 fun j => l.getD j ByteArray.empty)) ∧ Below w.heap.size w w' := by
  have HT : Hid (∀ W, Below w.heap.size w W → Texts W w.heap.size v l) := fun W hb => h.below hb
  obtain ⟨a, cap, rfl, hcap, hc⟩ := h.at
  rw [h6] at HT ⊢
  have HG : Hid (∀ (W : World), Below w.heap.size w W → ∀ j, j < 6 → ∃ b off, a = some ⟨b, off, none⟩ ∧ W.cell? ⟨b, off + j, none⟩ = some (.string (l.getD j ByteArray.empty))) := fun W hb j hj => by
    have hjl : j < l.length := by omega
    obtain ⟨b, off, ha, hB, hcell⟩ := hc j hjl
    refine ⟨b, off, ha, (hb.cell (p := ⟨b, off + j, none⟩) hB).trans ?_⟩
    rw [hcell]
    simp [List.getD, hjl]
  have HK : Hid (Keys w ∧ 1 < w.heap.size) := ⟨hK, hK.lt⟩
  clear hc hcap h HT hK h6
  obtain ⟨f, hf⟩ : ∃ f : Nat → ByteArray, f = fun j : Nat => l.getD j ByteArray.empty := ⟨_, rfl⟩
  have HF : Hid (∀ j : Nat, l.getD j ByteArray.empty = f j) := fun j => by rw [hf]
  rw [← hf]
  clear hf
  go_enter Tryz.func162, Tryz.ntmps162
  go_wp2
  go_loopw [5] (fun x wr => ∃ k : Nat, k ≤ 6 ∧ x = .int .i64 k ∧ LaidAt w wr (laidTo f k)) (fun x _ => 6 - (intOf x).toNat)
  case atStart => exact ⟨0, by omega, rfl, heap_alloc2_old w _ _, heap_alloc2_new w _ _, ((Below.refl _ _).alloc (Nat.le_refl _) _).alloc (by simp) _, heap_alloc2_keys HK.out.1 _ _⟩
  case round =>
    obtain ⟨k, hk, rfl, hL⟩ := hrel
    by_cases hlt : k < 6
    · obtain ⟨b, off, rfl, hcell⟩ := HG.out wr hL.2.2.1 k hlt
      rw [HF.out k] at hcell
      obtain ⟨hc, hfz⟩ := rowT_cell hL.2.1 (j := k) hlt
      have HL5 : Hid (LaidAt w (wr.setCell ⟨w.heap.size + 1, k, none⟩ (.string (f k))) (laidTo f (k + 1))) := hL.put k (f k) HK.out.2 (laidTo_next f k)
      generalize f k = V at *
      have hkI : (k : Int) < 6 := by omega
      have hk0 : (0 : Int) ≤ (k : Int) := by omega
      clear hL
      go_wp2
      go_roundw
      case rel => exact ⟨k + 1, by omega, by go_num, HL5.out⟩
      case measure => simp [intOf]; omega
    · have e6 : k = 6 := by omega
      obtain ⟨h1, h2, h3, h4⟩ := hL
      have hg : cellsT 6 (laidTo f k) = cellsT 6 f := cellsT_congr fun j hj => by unfold laidTo; rw [if_pos (by omega)]
      rw [hg] at h2
      have hkI : ¬ (k : Int) < 6 := by omega
      clear e6 hg h4 HG HK HF
      go_wp2_with (first | (refine wpList_load_row rfl 164 (.tmp 3) rfl (w.heap.size + 1) rfl _ _ _ _ h2 Tryz.underlying164 rfl (by rw [cellsT_size]; exact info6) ?_) | (refine wpList_store_row rfl 164 (.tmp 2) (.tmp 16) rfl w.heap.size _ rfl rfl _ _ h1 (by rw [cellsT_size]; exact info6) (by rw [cellsT_size, cellsT_size]) (cellsT_one _ _) ?_))
      exact bodyPost_ret (results_cell_row Tryz.results162 _ _ w.heap.size _ _ _ _ rfl (setRow_heap wr _ _ _ _ _ h1) Tryz.underlying164 rfl (by rw [cellsT_size]; exact info6)) rfl ⟨rfl, below_setRow h3 (Nat.le_refl _) _⟩
end Go.Proofs.YtpglcbidfghfkaaGreatDoor

/-
  The program's chains taken further, each as far as a closure tells.
-/
namespace Go.Proofs.YtpglcbidfghfkaaGreatDoor
open Go.RowKit Go.Lib
set_option linter.unusedVariables false
set_option linter.unusedSimpArgs false

set_option maxHeartbeats 1000000 in
set_option maxRecDepth 10000 in
theorem takenLeft_any (f : Nat → ByteArray) (m : Nat → Nat) (d : Nat) (w : World) (hf : ∀ j, j < 6 → (f j).size = 32) (hm : ∀ j, j < 6 → m j ≤ 15) (hK : Keys w)
    (EF : ∀ (k : Nat) (W : World), k < 6 → Below w.heap.size w W → Calls Tryz.prog 161 #[.int .i64 k, .pointer (some ⟨d, 0, none⟩)] W fun e W' => e = .returned (.int .i64 (m k : Nat)) ∧ W' = W) :
    Calls Tryz.prog 147 #[.agg (cellsT 6 f), .func (.func 161) #[] #[.pointer (some ⟨d, 0, none⟩)]] w fun e w' => e = .returned (.agg (cellsT 6 fun j => stepsB (m j) (f j))) ∧ Below w.heap.size w w' := by
  have HEF : Hid (∀ (k : Nat) (W : World), k < 6 → Below w.heap.size w W → Calls Tryz.prog 161 #[.int .i64 k, .pointer (some ⟨d, 0, none⟩)] W fun e W' => e = .returned (.int .i64 (m k : Nat)) ∧ W' = W) := EF
  have HF : Hid (∀ j, j < 6 → (f j).size = 32) := hf
  have HM : Hid (∀ j, j < 6 → m j ≤ 15) := hm
  have HK : Hid (Keys w ∧ 1 < w.heap.size) := ⟨hK, hK.lt⟩
  have hmf : ∀ (fn : Fn) (first cap : Array Value) (w : World), (Instr.makeFunc fn first cap).run Tryz.prog w = .ok (.func fn first cap) w := fun _ _ _ _ => rfl
  clear EF hf hm hK
  go_enter Tryz.func147, Tryz.ntmps147
  go_wp2
  go_loopw [7] (fun x wr => ∃ k : Nat, k ≤ 6 ∧ x = .int .i64 k ∧ TakenAt w wr (tk f m k 0)) (fun x _ => 6 - (intOf x).toNat)
  case atStart =>
    refine ⟨0, by omega, rfl, ?_⟩
    refine TakenAt.congr ⟨heap_alloc2_old w _ _, heap_alloc2_new w _ _, ((Below.refl _ _).alloc (Nat.le_refl _) _).alloc (by simp) _, ?_⟩ (tk_start f m)
    exact HK.out.1.below (((Below.refl w.heap.size w).alloc (Nat.le_refl _) _).alloc (by simp) _) HK.out.2
  case round =>
    obtain ⟨k, hk, rfl, hT⟩ := hrel
    by_cases hlt : k < 6
    · have HT : Hid (TakenAt w wr (tk f m k 0)) := hT
      have EK := HEF.out k wr hlt hT.2.2.1
      have hmk := HM.out k hlt
      have HN : Hid (∀ j, j < 6 → tk f m (k + 1) 0 j = tk f m k (m k) j) := tk_next f m k
      obtain ⟨mk, hM⟩ : ∃ mk, mk = m k := ⟨_, rfl⟩
      rw [← hM] at EK hmk HN
      have HE : Hid (Calls Tryz.prog 161 #[.int .i64 k, .pointer (some ⟨d, 0, none⟩)] wr fun e W' => e = .returned (.int .i64 (mk : Nat)) ∧ W' = wr) := EK
      clear EK hM hT
      have hkI : (k : Int) < 6 := by omega
      have hk0 : (0 : Int) ≤ (k : Int) := by omega
      go_wp2_with fail
      refine HE.out.mono ?_
      rintro e w0 ⟨rfl, rfl⟩
      go_wp2
      go_loopw [16] (fun x wr => ∃ i : Nat, i ≤ mk ∧ x = .int .i64 i ∧ TakenAt w wr (tk f m k i)) (fun x _ => mk - (intOf x).toNat)
      case atStart => exact ⟨0, by omega, rfl, HT.out⟩
      case round =>
        clear HT HE
        obtain ⟨i, hi, rfl, hT⟩ := hrel
        have HT : Hid (TakenAt w wr (tk f m k i)) := hT
        by_cases hil : i < mk
        · have hl := hT.lt
          obtain ⟨hc, hfz⟩ := rowT_cell hT.1 (j := k) hlt
          have E := step_any w.heap.size k (tk f m k i k) wr hc hfz (by omega) (tk_size m k i HF.out k hlt) hT.2.2.2
          have HE : Hid (Calls Tryz.prog 202 #[.pointer (some ⟨w.heap.size, k, none⟩)] wr fun e w' => e = .returned (.tuple #[]) ∧ ∃ w1, Below wr.heap.size wr w1 ∧ w' = w1.setCell ⟨w.heap.size, k, none⟩ (.string (shaB (tk f m k i k)))) := E
          have HP : Hid (∀ w1, Below wr.heap.size wr w1 → TakenAt w (w1.setCell ⟨w.heap.size, k, none⟩ (.string (shaB (tk f m k i k)))) (tk f m k (i + 1))) := fun w1 hb => hT.put hb k _ HK.out.2 (tk_step f m k i)
          have hiI : (i : Int) < (mk : Int) := by omega
          clear E hc hfz hT hl HT
          go_wp2_with fail
          refine HE.out.mono ?_
          rintro e w2 ⟨rfl, w1, hb, rfl⟩
          have HT2 := HP.out w1 hb
          have HT3 : Hid (TakenAt w (w1.setCell ⟨w.heap.size, k, none⟩ (.string (shaB (tk f m k i k)))) (tk f m k (i + 1))) := HT2
          generalize w1.setCell ⟨w.heap.size, k, none⟩ (.string (shaB (tk f m k i k))) = w3 at *
          clear hb HT2 HP HE
          go_wp2
          go_roundw
          case rel => exact ⟨i + 1, by omega, by go_num, HT3.out⟩
          case measure => simp [intOf]; omega
        · have ei : i = mk := by omega
          have HT2 : Hid (TakenAt w wr (tk f m (k + 1) 0)) := hT.congr (by rw [ei]; exact HN.out)
          have hiI : ¬ (i : Int) < (mk : Int) := by omega
          clear hT HT ei
          go_wp2
          go_roundw
          case rel => exact ⟨k + 1, by omega, by go_num, HT2.out⟩
          case measure => simp [intOf]; omega
    · have e6 : k = 6 := by omega
      have hT6 := hT.congr (g := fun j => stepsB (m j) (f j)) (by rw [e6]; exact fun j hj => (tk_end f m j hj).symm)
      obtain ⟨h1, h2, h3, h4⟩ := hT6
      have hkI : ¬ (k : Int) < 6 := by omega
      clear hT e6 h4 HEF HF HM HK
      obtain ⟨g, hg⟩ : ∃ g, g = fun j => stepsB (m j) (f j) := ⟨_, rfl⟩
      rw [← hg] at h1
      have HG : Hid (g = fun j => stepsB (m j) (f j)) := hg
      clear hg
      go_wp2_with (first | (refine wpList_load_row rfl 164 (.tmp 2) rfl w.heap.size rfl _ _ _ _ h1 Tryz.underlying164 rfl (by rw [cellsT_size]; exact info6) ?_) | (refine wpList_store_row rfl 164 (.tmp 4) (.tmp 22) rfl (w.heap.size + 1) _ rfl rfl _ _ h2 (by rw [cellsT_size]; exact info6) (by rw [cellsT_size, cellsT_size]) (cellsT_one _ _) ?_))
      exact bodyPost_ret (results_cell_row Tryz.results147 _ _ (w.heap.size + 1) _ _ _ _ rfl (setRow_heap wr _ _ _ _ _ h2) Tryz.underlying164 rfl (by rw [cellsT_size]; exact info6)) rfl ⟨ret_agg (by rw [HG.out]), below_setRow h3 (by omega) _⟩
end Go.Proofs.YtpglcbidfghfkaaGreatDoor
