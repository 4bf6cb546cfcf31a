/-
  The document's RangeRoot.
-/
import Derived.Test.YtchlopmmhcobdafDoorSpecRangeR
import Derived.Test.YtchlopmmhcobdafDoorSpecNode
import Derived.Test.YtchlopmmhcobdafDoorTextRows
namespace Go.Proofs.YtchlopmmhcobdafDoor
open Go.RowKit Go.Lib
set_option linter.unusedVariables false

theorem rootD_drop (l : List ByteArray) {k : Nat} (h : k + 1 < l.length) : rootD nodeB noneB (l.drop k) = nodeB l[k] (rootD nodeB noneB (l.drop (k + 1))) := by
  rw [List.drop_eq_getElem_cons (show k < l.length by omega)]
  exact rootD_cons nodeB noneB _ (by
    intro h0
    have := congrArg List.length h0
    simp at this
    omega)
theorem rootD_last (l : List ByteArray) {k : Nat} (h : k + 1 = l.length) : rootD nodeB noneB (l.drop k) = l[k] := by
  rw [List.drop_eq_getElem_cons (show k < l.length by omega), List.drop_eq_nil_of_le (by omega)]
  rfl
set_option maxHeartbeats 2000000 in
theorem specRoot_any (size : Int) (v : Value) (l : List ByteArray) (w : World) (h : Texts w w.heap.size v l) (hl : l.length ≤ 1048576) :
    Calls Tryd.prog 26 #[.agg #[.int .i64 size, v]] w fun e w' => e = .returned (.string (rootV size l)) ∧ Below w.heap.size w w' := by
  obtain ⟨W, hW⟩ : ∃ W, W = w.alloc (.cells #[.int .i64 size, v] 33) := ⟨_, rfl⟩
  have HW : Hid (W.heap[w.heap.size]? = some (.cells #[.int .i64 size, v] 33 (0, 0)) ∧ Below w.heap.size w W ∧ w.heap.size < W.heap.size) := by
    subst hW
    exact ⟨heap_alloc_new w _, (Below.refl _ _).alloc (Nat.le_refl _) _, by simp⟩
  have E1 : Hid (Calls Tryd.prog 39 #[.agg #[.int .i64 size, v]] W fun e w' => e = .returned (.bool (rangeB size l)) ∧ Below W.heap.size W w') := specRange_any size v l W ((h.below HW.out.2.1).up HW.out.2.1.size) hl
  have HWE : Hid (W = w.alloc (.cells #[.int .i64 size, v] 33)) := hW
  obtain ⟨a, cap, hva, hcap, hc⟩ := h.at
  subst hva
  have HC : Hid (∀ j (hj : j < l.length), ∃ b off, a = some ⟨b, off, none⟩ ∧ b < w.heap.size ∧ w.cell? ⟨b, off + j, none⟩ = some (.string l[j])) := hc
  clear hW hc h hcap
  by_cases hr : rangeB size l = true
  · obtain ⟨hsz, hlen, hwide⟩ := rangeB_yes hr
    rw [rootV_yes hr]
    rw [hr] at E1
    by_cases h0 : size = 0
    · subst h0
      have hl0 : l = [] := List.eq_nil_of_length_eq_zero (by rw [hlen]; exact onesN_zero)
      subst hl0
      have EA : Hid (∀ w', Calls Tryd.prog 46 #[.string ⟨#[]⟩] w' fun e w'' => e = .returned (.string noneB) ∧ Below w'.heap.size w' w'') := fun w' => all_any ⟨#[]⟩ w' (by show 0 ≤ 50000; omega)
      show Calls _ _ _ _ fun e w' => e = .returned (.string noneB) ∧ _
      generalize noneB = D at *
      rw [List.length_nil] at *
      clear HC hr hsz hlen hwide
      go_enter Tryd.func26, Tryd.ntmps26
      go_wp2_with fail
      rw [← HWE.out]
      clear HWE
      refine E1.out.mono ?_
      rintro e w1 ⟨rfl, hb1⟩
      obtain ⟨⟨c0, c1⟩, _, _⟩ := two_cells' hb1 HW.out.2.2 HW.out.1
      have H1 : Hid (Below w.heap.size w w1) := HW.out.2.1.trans (hb1.mono HW.out.2.1.size)
      clear hb1 E1
      go_wp2_with fail
      refine (EA.out _).mono ?_
      rintro e w2 ⟨rfl, hb2⟩
      have H2 : Hid (Below w.heap.size w w2) := H1.out.trans (hb2.mono H1.out.size)
      clear hb2
      go_wp2
      go_ret
      exact ⟨rfl, H2.out⟩
    · obtain ⟨m, hm⟩ : ∃ m, l.length = m + 1 := ⟨l.length - 1, by have := onesN_pos size.toNat (by omega); omega⟩
      have E : Hid (∀ l r w, l.size ≤ 32 → r.size ≤ 32 → Calls Tryd.prog 29 #[.string l, .string r] w fun e w' => e = .returned (.string (nodeB l r)) ∧ Below w.heap.size w w') := fun l r w hl hr => node_any l r w (by omega) (by omega)
      have HN : Hid (l.length = m + 1) := hm
      have HZ : Hid (∀ j (hj : j < l.length), l[j].size = 32) := fun j hj => wideB_at hwide hj
      obtain ⟨V, hV⟩ : ∃ V, V = rootD nodeB noneB l := ⟨_, rfl⟩
      rw [← hV]
      have HV : Hid (V = rootD nodeB noneB l) := hV
      obtain ⟨b, off, rfl, hB, hcm⟩ := HC.out m (by omega)
      have HL : Hid (rootD nodeB noneB (l.drop m) = l[m] ∧ l[m].size ≤ 32) := ⟨rootD_last l (by omega), Nat.le_of_eq (wideB_at hwide (by omega))⟩
      generalize l[m] = tm at *
      rw [hm] at hl E1 HW HWE ⊢
      clear hV hr hm hwide hlen
      have hmI : ((m + 1 : Nat) : Int) = (m : Int) + 1 := by omega
      have h0B : (size == 0) = false := beq_eq_false_iff_ne.2 h0
      go_enter Tryd.func26, Tryd.ntmps26
      go_wp2_with fail
      rw [← HWE.out]
      clear HWE
      refine E1.out.mono ?_
      rintro e w1 ⟨rfl, hb1⟩
      obtain ⟨⟨c0, c1⟩, _, _⟩ := two_cells' hb1 HW.out.2.2 HW.out.1
      have H1 : Hid (Below w.heap.size w w1 ∧ w.heap.size < w1.heap.size) := ⟨HW.out.2.1.trans (hb1.mono HW.out.2.1.size), Nat.lt_of_lt_of_le HW.out.2.2 hb1.size⟩
      have hcm1 : w1.cell? ⟨b, off + m, none⟩ = some (.string tm) := (H1.out.1.cell (p := ⟨b, off + m, none⟩) hB).trans hcm
      have HC1 : Hid (w1.cell? ⟨w.heap.size, 1, none⟩ = some (.slice (some ⟨b, off, none⟩) (m + 1) cap)) := c1
      clear hb1 E1 HW hcm
      go_wp2
      clear hcm1 c0 c1
      go_loopw [4, 5] (fun x i wr => ∃ (k : Nat) (t : ByteArray), k ≤ m ∧ i = .int .i64 ((k : Int) - 1) ∧ x = .string t ∧ t.size ≤ 32 ∧ rootD nodeB noneB (l.drop k) = t ∧ Below w1.heap.size w1 wr) (fun _ i _ => (RowKit.intOf i + 1).toNat)
      case atStart => exact ⟨m, tm, Nat.le_refl _, rfl, rfl, HL.out.2, HL.out.1, Below.refl _ _⟩
      case round =>
        obtain ⟨k, t, hk, rfl, rfl, ht, hr, hb⟩ := hrel
        have HR : Hid (rootD nodeB noneB (l.drop k) = t) := hr
        have c1 : wr.cell? ⟨w.heap.size, 1, none⟩ = some (.slice (some ⟨b, off, none⟩) (m + 1) cap) := (hb.cell (p := ⟨w.heap.size, 1, none⟩) H1.out.2).trans HC1.out
        clear hr HL
        by_cases hk0 : 0 < k
        · obtain ⟨j, rfl⟩ : ∃ j, k = j + 1 := ⟨k - 1, by omega⟩
          have hjl : j < l.length := by have := HN.out; omega
          obtain ⟨b', off', e', _, hc0⟩ := HC.out j hjl
          obtain ⟨rfl, rfl⟩ : b = b' ∧ off = off' := by simp at e'; exact e'
          clear e'
          have hc : wr.cell? ⟨b, off + j, none⟩ = some (.string l[j]) := (hb.cell (p := ⟨b, off + j, none⟩) (Nat.lt_of_lt_of_le hB H1.out.1.size)).trans ((H1.out.1.cell (p := ⟨b, off + j, none⟩) hB).trans hc0)
          have HS : Hid (l[j].size = 32 ∧ rootD nodeB noneB (l.drop j) = nodeB l[j] t) := by
            refine ⟨HZ.out _ hjl, ?_⟩
            rw [rootD_drop l (k := j) (by have := HN.out; omega), HR.out]
          have hkI : ((j + 1 : Nat) : Int) - 1 = (j : Int) := by omega
          rw [hkI]
          have hj1 : (j : Int) < (m : Int) + 1 := by omega
          generalize l[j] = p at *
          have H2 : Hid (Below w1.heap.size w1 wr) := hb
          clear hb hc0 hkI HR HC HV
          go_wp2_with fail
          refine (E.out p t _ (Nat.le_of_eq HS.out.1) ht).mono ?_
          rintro e w2 ⟨rfl, hb2⟩
          have H3 : Hid (Below w1.heap.size w1 w2) := H2.out.trans (hb2.mono H2.out.size)
          clear hb2
          go_wp2
          go_roundw
          case rel => exact ⟨j, nodeB p t, by omega, by go_num, rfl, by rw [nodeB_size]; omega, HS.out.2, H3.out⟩
          case measure => simp [RowKit.intOf]
        · have ek : k = 0 := by omega
          subst ek
          have HF : Hid (t = V) := by
            show _ = _
            rw [HV.out, ← HR.out, List.drop_zero]
          have H2 : Hid (Below w.heap.size w wr) := H1.out.1.trans (hb.mono H1.out.1.size)
          clear hb HC HV HR
          go_wp2
          go_ret
          exact ⟨ret_str HF.out, H2.out⟩
  · have hr' : rangeB size l = false := by simpa using hr
    rw [rootV_no hr']
    rw [hr'] at E1
    clear hr hr' HC
    generalize l.length = L at *
    go_enter Tryd.func26, Tryd.ntmps26
    go_wp2_with fail
    rw [← HWE.out]
    clear HWE
    refine E1.out.mono ?_
    rintro e w1 ⟨rfl, hb1⟩
    have H1 : Hid (Below w.heap.size w w1) := HW.out.2.1.trans (hb1.mono HW.out.2.1.size)
    clear hb1 E1
    go_wp2
    go_ret
    exact ⟨rfl, H1.out⟩
end Go.Proofs.YtchlopmmhcobdafDoor
