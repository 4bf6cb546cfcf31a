/-
  The document's Mac and Stretch.
-/
import Derived.Test.YtcenlgfopmahcaaGreatDoorPkCells
import Derived.Test.YtcenlgfopmahcaaGreatDoorPkSpecAll
import Derived.Test.YtcenlgfopmahcaaGreatDoorPkTexts
import Derived.Laws.Concat
namespace Go.Proofs.YtcenlgfopmahcaaGreatDoor
open Go.RowKit Go.Lib
set_option linter.unusedVariables false

end Go.Proofs.YtcenlgfopmahcaaGreatDoor

/-
  The document's leaf.
-/
namespace Go.Proofs.YtcenlgfopmahcaaGreatDoor
open Go.RowKit Go.Lib
set_option linter.unusedVariables false

set_option maxHeartbeats 400000 in
set_option maxRecDepth 10000 in
theorem leaf_any (t : ByteArray) (w : World) (ht : t.size ≤ 30000) :
    Calls Tryz.prog 54 #[.string t] w fun e w' => e = .returned (.string (leafB t)) ∧ Below w.heap.size w w' := by
  have E : Hid (∀ w, Calls Tryz.prog 53 #[.string (zeroB ++ t)] w fun e w' => e = .returned (.string (leafB t)) ∧ Below w.heap.size w w') := fun w => all_any (zeroB ++ t) w (by rw [ByteArray.size_append]; show 1 + t.size ≤ 50000; omega)
  generalize leafB t = v at *
  unfold zeroB at E
  go_enter Tryz.func54, Tryz.ntmps54
  go_wp2_with fail
  refine (E.out _).mono ?_
  rintro e w1 ⟨rfl, hb⟩
  have HB : Hid (Below w.heap.size w w1) := hb
  clear hb
  go_wp2
  go_ret
  exact ⟨rfl, HB.out⟩
end Go.Proofs.YtcenlgfopmahcaaGreatDoor

/-
  The document's node.
-/
namespace Go.Proofs.YtcenlgfopmahcaaGreatDoor
open Go.RowKit Go.Lib
set_option linter.unusedVariables false

set_option maxHeartbeats 400000 in
set_option maxRecDepth 10000 in
theorem node_any (l r : ByteArray) (w : World) (hl : l.size ≤ 10000) (hr : r.size ≤ 10000) :
    Calls Tryz.prog 56 #[.string l, .string r] w fun e w' => e = .returned (.string (nodeB l r)) ∧ Below w.heap.size w w' := by
  have E : Hid (∀ w, Calls Tryz.prog 53 #[.string ((oneB ++ l) ++ r)] w fun e w' => e = .returned (.string (nodeB l r)) ∧ Below w.heap.size w w') := fun w => all_any ((oneB ++ l) ++ r) w (by rw [ByteArray.size_append, ByteArray.size_append]; show 1 + l.size + r.size ≤ 50000; omega)
  generalize nodeB l r = v at *
  unfold oneB at E
  go_enter Tryz.func56, Tryz.ntmps56
  go_wp2_with fail
  refine (E.out _).mono ?_
  rintro e w1 ⟨rfl, hb⟩
  have HB : Hid (Below w.heap.size w w1) := hb
  clear hb
  go_wp2
  go_ret
  exact ⟨rfl, HB.out⟩
end Go.Proofs.YtcenlgfopmahcaaGreatDoor

/-
  The document's Included: it answers whether the path leads from the leaf to the root.
-/
namespace Go.Proofs.YtcenlgfopmahcaaGreatDoor
open Go.RowKit Go.Lib
set_option linter.unusedVariables false

theorem inclRun_cons (s : Option (Nat × Nat × ByteArray)) (p : ByteArray) (r : List ByteArray) : inclRun nodeB s (p :: r) = inclRun nodeB (inclStep nodeB s p) r := rfl
theorem inclRun_none (r : List ByteArray) : inclRun nodeB none r = none := by
  induction r with
  | nil => rfl
  | cons p r ih => rw [inclRun_cons]; exact ih
set_option maxHeartbeats 4000000 in
set_option maxRecDepth 10000 in
theorem specIncl_yes (leaf root : ByteArray) (i n : Int) (v : Value) (path : List ByteArray) (w : World) (h : Texts w w.heap.size v path) (h1 : path.length ≤ 63) (h2 : wideB path = true) (h3 : leaf.size = 32) (h4 : root.size = 32) (h5 : 0 ≤ i) (h6 : i < n) (h7 : n ≤ 9223372036854775807) :
    Calls Tryz.prog 90 #[.string leaf, .int .i64 i, .int .i64 n, v, .string root] w fun e w' => e = .returned (.bool (inclEnd root (inclRun nodeB (some (i.toNat, (n - 1).toNat, leaf)) path))) ∧ Below w.heap.size w w' := by
  have HWD : Hid (Calls Tryz.prog 106 #[v] w fun e w' => e = .returned (.bool true) ∧ w' = w) := by
    have e := wide_any v path w w.heap.size h (by omega)
    rw [h2] at e
    exact e
  have E : Hid (∀ l r w, l.size ≤ 32 → r.size ≤ 32 → Calls Tryz.prog 56 #[.string l, .string r] w fun e w' => e = .returned (.string (nodeB l r)) ∧ Below w.heap.size w w') := fun l r w hl hr => node_any l r w (by omega) (by omega)
  obtain ⟨V, hV⟩ : ∃ V, V = inclEnd root (inclRun nodeB (some (i.toNat, (n - 1).toNat, leaf)) path) := ⟨_, rfl⟩
  rw [← hV]
  have HV : Hid (inclEnd root (inclRun nodeB (some (i.toNat, (n - 1).toNat, leaf)) path) = V) := hV.symm
  have HWI : Hid (∀ j (h : j < path.length), path[j].size = 32) := fun j hj => wideB_at h2 hj
  clear hV h2
  obtain ⟨ad, cap, rfl, hc, _⟩ := h
  have HC : Hid (path.length = 0 ∨ ∃ b off, ad = some ⟨b, off, none⟩ ∧ b < w.heap.size ∧ ∀ j (h : j < path.length), w.cell? ⟨b, off + j, none⟩ = some (.string path[j])) := hc
  clear hc
  obtain ⟨m, hm⟩ : ∃ m, m = path.length := ⟨_, rfl⟩
  have HM : Hid (m = path.length) := hm
  rw [← hm] at h1 HWD ⊢
  clear hm
  obtain ⟨i0, rfl⟩ := Int.eq_ofNat_of_zero_le h5
  have h3' : (leaf.size : Int) = 32 := by omega
  have h4' : (root.size : Int) = 32 := by omega
  clear h3 h4
  go_enter Tryz.func90, Tryz.ntmps90
  go_wp2_with fail
  refine HWD.out.mono ?_
  rintro e w0 ⟨rfl, rfl⟩
  go_wp2
  go_loopw [11, 12, 13, 14] (fun x y h i wr => ∃ (k a b : Nat) (d : ByteArray), k ≤ m ∧ i = .int .i64 k ∧ x = .int .i64 a ∧ y = .int .i64 b ∧ a ≤ 9223372036854775807 ∧ b ≤ 9223372036854775807 ∧ h = .string d ∧ d.size ≤ 32 ∧ inclEnd root (inclRun nodeB (some (a, b, d)) (path.drop k)) = V ∧ Below w0.heap.size w0 wr) (fun _ _ _ i _ => m - (RowKit.intOf i).toNat)
  case atStart => exact ⟨0, i0, (n - 1).toNat, leaf, Nat.zero_le _, rfl, rfl, by go_num, by omega, by omega, rfl, by omega, HV.out, Below.refl _ _⟩
  case round =>
    obtain ⟨k, a, b, d, hk, rfl, rfl, rfl, ha, hbb, rfl, hd, hr, hb⟩ := hrel
    have H2 : Hid (Below w0.heap.size w0 wr) := hb
    by_cases hkm : k < m
    · have hkl : k < path.length := by rw [← HM.out]; exact hkm
      rcases HC.out with h0 | ⟨bb, off, rfl, hB, hcell⟩
      · omega
      have hc : wr.cell? ⟨bb, off + k, none⟩ = some (.string path[k]) := (hb.cell (p := ⟨bb, off + k, none⟩) hB).trans (hcell k hkl)
      have hps := HWI.out k hkl
      rw [List.drop_eq_getElem_cons hkl, inclRun_cons] at hr
      have hkmI : (k : Int) < (m : Int) := by omega
      clear hb hcell HC
      obtain ⟨p, hp⟩ : ∃ p, p = path[k] := ⟨_, rfl⟩
      rw [← hp] at hc hps hr
      clear hp
      have HSZ : Hid ((nodeB p d).size ≤ 32 ∧ (nodeB d p).size ≤ 32) := ⟨by rw [nodeB_size]; omega, by rw [nodeB_size]; omega⟩
      by_cases hb0 : b = 0
      · subst hb0
        have HF : Hid (V = false) := by
          show _ = _
          rw [← hr]
          simp only [inclStep, if_true]
          rw [inclRun_none]
          rfl
        clear hr
        go_wp2
        go_ret
        exact ⟨ret_bool HF.out.symm, H2.out⟩
      · have hb0I : ¬ (b : Int) = 0 := by omega
        by_cases hodd : a % 2 = 1 ∨ a = b
        · have HR : Hid (inclEnd root (inclRun nodeB (some ((evens a b).1 / 2, (evens a b).2 / 2, nodeB p d)) (path.drop (k + 1))) = V) := by
            have h := hr
            simp only [inclStep, if_neg hb0, if_pos hodd] at h
            exact h
          clear hr
          by_cases ho1 : (a : Int) % 2 = 1
          · go_wp2_with fail
            refine (E.out p d _ (by omega) (by omega)).mono ?_
            rintro e w1 ⟨rfl, hb1⟩
            have H3 : Hid (Below w0.heap.size w0 w1) := H2.out.trans (hb1.mono H2.out.size)
            clear hb1
            go_wp2
            go_loop [11, 12] (fun x y => ∃ a' b' : Nat, x = .int .i64 a' ∧ y = .int .i64 b' ∧ a' ≤ 9223372036854775807 ∧ b' ≤ 9223372036854775807 ∧ evens a' b' = evens a b) (fun x _ => (RowKit.intOf x).toNat)
            case atStart => exact ⟨a, b, rfl, rfl, ha, hbb, rfl⟩
            case round =>
              obtain ⟨a', b', rfl, rfl, ha', hb', hev⟩ := hrel
              have HEV : Hid (evens a' b' = evens a b) := hev
              clear hev
              by_cases hz : a' % 2 = 0 ∧ 0 < a'
              · obtain ⟨hz1, hz2⟩ := hz
                have hz1I : (a' : Int) % 2 = 0 := by omega
                have hz2I : 0 < (a' : Int) := by omega
                have HE2 : Hid (evens (a' / 2) (b' / 2) = evens a b) := by
                  show _ = _
                  rw [← HEV.out, evens_eq a' b', dif_pos ⟨hz1, hz2⟩]
                go_wp2
                go_round
                case rel => exact ⟨a' / 2, b' / 2, by go_num, by go_num, by omega, by omega, HE2.out⟩
                case measure => simp [RowKit.intOf]; omega
              · have HE3 : Hid ((evens a b).1 = a' ∧ (evens a b).2 = b') := by
                  have h := HEV.out
                  rw [evens_eq a' b', dif_neg hz] at h
                  exact ⟨by rw [← h], by rw [← h]⟩
                have HR2 : Hid (inclEnd root (inclRun nodeB (some (a' / 2, b' / 2, nodeB p d)) (path.drop (k + 1))) = V) := by
                  have h := HR.out
                  rw [HE3.out.1, HE3.out.2] at h
                  exact h
                clear HR HE3 HEV
                by_cases hz1 : (a' : Int) % 2 = 0
                · have hz2 : ¬ 0 < (a' : Int) := by omega
                  go_wp2
                  go_roundw
                  case rel => exact ⟨k + 1, a' / 2, b' / 2, nodeB p d, by omega, by go_num, by go_num, by go_num, by omega, by omega, rfl, HSZ.out.1, HR2.out, H3.out⟩
                  case measure => simp [RowKit.intOf]; omega
                · go_wp2
                  go_roundw
                  case rel => exact ⟨k + 1, a' / 2, b' / 2, nodeB p d, by omega, by go_num, by go_num, by go_num, by omega, by omega, rfl, HSZ.out.1, HR2.out, H3.out⟩
                  case measure => simp [RowKit.intOf]; omega
          · have hab : a = b := by omega
            subst hab
            go_wp2_with fail
            refine (E.out p d _ (by omega) (by omega)).mono ?_
            rintro e w1 ⟨rfl, hb1⟩
            have H3 : Hid (Below w0.heap.size w0 w1) := H2.out.trans (hb1.mono H2.out.size)
            clear hb1
            go_wp2
            go_loop [11, 12] (fun x y => ∃ a' b' : Nat, x = .int .i64 a' ∧ y = .int .i64 b' ∧ a' ≤ 9223372036854775807 ∧ b' ≤ 9223372036854775807 ∧ evens a' b' = evens a a) (fun x _ => (RowKit.intOf x).toNat)
            case atStart => exact ⟨a, a, rfl, rfl, ha, ha, rfl⟩
            case round =>
              obtain ⟨a', b', rfl, rfl, ha', hb', hev⟩ := hrel
              have HEV : Hid (evens a' b' = evens a a) := hev
              clear hev
              by_cases hz : a' % 2 = 0 ∧ 0 < a'
              · obtain ⟨hz1, hz2⟩ := hz
                have hz1I : (a' : Int) % 2 = 0 := by omega
                have hz2I : 0 < (a' : Int) := by omega
                have HE2 : Hid (evens (a' / 2) (b' / 2) = evens a a) := by
                  show _ = _
                  rw [← HEV.out, evens_eq a' b', dif_pos ⟨hz1, hz2⟩]
                go_wp2
                go_round
                case rel => exact ⟨a' / 2, b' / 2, by go_num, by go_num, by omega, by omega, HE2.out⟩
                case measure => simp [RowKit.intOf]; omega
              · have HE3 : Hid ((evens a a).1 = a' ∧ (evens a a).2 = b') := by
                  have h := HEV.out
                  rw [evens_eq a' b', dif_neg hz] at h
                  exact ⟨by rw [← h], by rw [← h]⟩
                have HR2 : Hid (inclEnd root (inclRun nodeB (some (a' / 2, b' / 2, nodeB p d)) (path.drop (k + 1))) = V) := by
                  have h := HR.out
                  rw [HE3.out.1, HE3.out.2] at h
                  exact h
                clear HR HE3 HEV
                by_cases hz1 : (a' : Int) % 2 = 0
                · have hz2 : ¬ 0 < (a' : Int) := by omega
                  go_wp2
                  go_roundw
                  case rel => exact ⟨k + 1, a' / 2, b' / 2, nodeB p d, by omega, by go_num, by go_num, by go_num, by omega, by omega, rfl, HSZ.out.1, HR2.out, H3.out⟩
                  case measure => simp [RowKit.intOf]; omega
                · go_wp2
                  go_roundw
                  case rel => exact ⟨k + 1, a' / 2, b' / 2, nodeB p d, by omega, by go_num, by go_num, by go_num, by omega, by omega, rfl, HSZ.out.1, HR2.out, H3.out⟩
                  case measure => simp [RowKit.intOf]; omega
        · have HR : Hid (inclEnd root (inclRun nodeB (some (a / 2, b / 2, nodeB d p)) (path.drop (k + 1))) = V) := by
            have h := hr
            simp only [inclStep, if_neg hb0, if_neg hodd] at h
            exact h
          have ho1 : (a : Int) % 2 = 0 := by omega
          have ho2 : ¬ (a : Int) = (b : Int) := by omega
          have ho3 : ¬ a = b := by omega
          have ho4 : ((a : Int) == (b : Int)) = false := by simpa using ho2
          clear hr
          go_wp2_with fail
          refine (E.out d p _ (by omega) (by omega)).mono ?_
          rintro e w1 ⟨rfl, hb1⟩
          have H3 : Hid (Below w0.heap.size w0 w1) := H2.out.trans (hb1.mono H2.out.size)
          clear hb1
          go_wp2
          go_roundw
          case rel => exact ⟨k + 1, a / 2, b / 2, nodeB d p, by omega, by go_num, by go_num, by go_num, by omega, by omega, rfl, HSZ.out.2, HR.out, H3.out⟩
          case measure => simp [RowKit.intOf]; omega
    · have hdr : path.drop k = [] := List.drop_eq_nil_of_le (by rw [← HM.out]; omega)
      rw [hdr] at hr
      have HR : Hid ((decide (b = 0) && (d.toList == root.toList)) = V) := hr
      clear hr hdr hb
      by_cases hb0 : (b : Int) = 0
      · have HR2 : Hid ((d.toList == root.toList) = V) := by
          have h := HR.out
          rw [decide_eq_true (show b = 0 by omega), Bool.true_and] at h
          exact h
        go_wp2
        go_ret
        exact ⟨ret_bool HR2.out, H2.out⟩
      · have HF : Hid (V = false) := by
          have h := HR.out
          rw [decide_eq_false (show ¬ b = 0 by omega), Bool.false_and] at h
          exact h.symm
        go_wp2
        go_ret
        exact ⟨ret_bool HF.out.symm, H2.out⟩
end Go.Proofs.YtcenlgfopmahcaaGreatDoor

/-
  The document's Included, whatever it is given.
-/
namespace Go.Proofs.YtcenlgfopmahcaaGreatDoor
open Go.RowKit Go.Lib
set_option linter.unusedVariables false

theorem inclB_no {leaf root : ByteArray} {i n : Int} {path : List ByteArray} (h : 63 < (path.length : Int) ∨ wideB path = false ∨ ¬ (leaf.size : Int) = 32 ∨ ¬ (root.size : Int) = 32 ∨ i < 0 ∨ n ≤ i) : inclB leaf i n path root = false := by
  unfold inclB
  rw [if_pos h]
theorem inclB_yes {leaf root : ByteArray} {i n : Int} {path : List ByteArray} (h1 : path.length ≤ 63) (h2 : wideB path = true) (h3 : (leaf.size : Int) = 32) (h4 : (root.size : Int) = 32) (h5 : 0 ≤ i) (h6 : i < n) : inclB leaf i n path root = inclEnd root (inclRun nodeB (some (i.toNat, (n - 1).toNat, leaf)) path) := by
  unfold inclB
  rw [if_neg]
  rintro (h | h | h | h | h | h)
  · omega
  · rw [h2] at h; cases h
  · exact h h3
  · exact h h4
  · omega
  · omega

set_option maxHeartbeats 1000000 in
theorem specIncl_any (leaf root : ByteArray) (i n : Int) (v : Value) (path : List ByteArray) (w : World) (h : Texts w w.heap.size v path) (hl : path.length ≤ 1048576) (hi0 : -9223372036854775808 ≤ i) (hi1 : i ≤ 9223372036854775807) (hn0 : -9223372036854775808 ≤ n) (hn1 : n ≤ 9223372036854775807) (hz1 : leaf.size ≤ 1048576) (hz2 : root.size ≤ 1048576) :
    Calls Tryz.prog 90 #[.string leaf, .int .i64 i, .int .i64 n, v, .string root] w fun e w' => e = .returned (.bool (inclB leaf i n path root)) ∧ Below w.heap.size w w' := by
  have E : Hid (Calls Tryz.prog 106 #[v] w fun e w' => e = .returned (.bool (wideB path)) ∧ w' = w) := wide_any v path w w.heap.size h hl
  by_cases c1 : (63 : Int) < (path.length : Int)
  · rw [inclB_no (.inl c1)]
    obtain ⟨a, cap, rfl, hx, hy⟩ := h
    clear hx hy E
    generalize path.length = m at *
    go_enter Tryz.func90, Tryz.ntmps90
    go_wp2_with fail
    go_ret
    exact ⟨rfl, Below.refl _ _⟩
  by_cases c2 : wideB path = true
  · by_cases c3 : (leaf.size : Int) = 32
    · by_cases c4 : (root.size : Int) = 32
      · by_cases c5 : i < 0
        · rw [inclB_no (.inr (.inr (.inr (.inr (.inl c5)))))]
          rw [c2] at E
          obtain ⟨a, cap, rfl, hx, hy⟩ := h
          clear hx hy c2
          generalize path.length = m at *
          go_enter Tryz.func90, Tryz.ntmps90
          go_wp2_with fail
          refine E.out.mono ?_
          rintro e w1 ⟨rfl, rfl⟩
          clear E
          go_wp2
          go_ret
          exact ⟨rfl, Below.refl _ _⟩
        · by_cases c6 : n ≤ i
          · rw [inclB_no (.inr (.inr (.inr (.inr (.inr c6)))))]
            rw [c2] at E
            obtain ⟨a, cap, rfl, hx, hy⟩ := h
            clear hx hy c2
            generalize path.length = m at *
            go_enter Tryz.func90, Tryz.ntmps90
            go_wp2_with fail
            refine E.out.mono ?_
            rintro e w1 ⟨rfl, rfl⟩
            clear E
            go_wp2
            go_ret
            exact ⟨rfl, Below.refl _ _⟩
          · rw [inclB_yes (by omega) c2 c3 c4 (by omega) (by omega)]
            exact specIncl_yes leaf root i n v path w h (by omega) c2 (by omega) (by omega) (by omega) (by omega) hn1
      · rw [inclB_no (.inr (.inr (.inr (.inl c4))))]
        rw [c2] at E
        obtain ⟨a, cap, rfl, hx, hy⟩ := h
        clear hx hy c2
        generalize path.length = m at *
        go_enter Tryz.func90, Tryz.ntmps90
        go_wp2_with fail
        refine E.out.mono ?_
        rintro e w1 ⟨rfl, rfl⟩
        clear E
        go_wp2
        go_ret
        exact ⟨rfl, Below.refl _ _⟩
    · rw [inclB_no (.inr (.inr (.inl c3)))]
      rw [c2] at E
      obtain ⟨a, cap, rfl, hx, hy⟩ := h
      clear hx hy c2
      generalize path.length = m at *
      go_enter Tryz.func90, Tryz.ntmps90
      go_wp2_with fail
      refine E.out.mono ?_
      rintro e w1 ⟨rfl, rfl⟩
      clear E
      go_wp2
      go_ret
      exact ⟨rfl, Below.refl _ _⟩
  · have c2' : wideB path = false := by simpa using c2
    rw [inclB_no (.inr (.inl c2'))]
    rw [c2'] at E
    obtain ⟨a, cap, rfl, hx, hy⟩ := h
    clear hx hy c2 c2'
    generalize path.length = m at *
    go_enter Tryz.func90, Tryz.ntmps90
    go_wp2_with fail
    refine E.out.mono ?_
    rintro e w1 ⟨rfl, rfl⟩
    clear E
    go_wp2
    go_ret
    exact ⟨rfl, Below.refl _ _⟩
end Go.Proofs.YtcenlgfopmahcaaGreatDoor
