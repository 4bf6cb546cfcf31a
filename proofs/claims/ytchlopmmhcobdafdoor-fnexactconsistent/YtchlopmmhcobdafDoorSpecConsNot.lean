/-
  The document's Consistent, of a number of first ones that is no power of two.
-/
import Derived.Test.YtchlopmmhcobdafDoorSpecConsPow
namespace Go.Proofs.YtchlopmmhcobdafDoor
open Go.RowKit Go.Lib
set_option linter.unusedVariables false

set_option maxHeartbeats 8000000 in
set_option maxRecDepth 10000 in
theorem specCons_not (was root : ByteArray) (m n : Nat) (v : Value) (proof : List ByteArray) (w : World) (h : Texts w w.heap.size v proof) (h1 : proof.length ≤ 64) (h2 : wideB proof = true) (h3 : was.size = 32) (h4 : root.size = 32) (h5 : 1 ≤ m) (h6 : m < n) (h7 : n ≤ 9223372036854775807) (hpw : powB m = false) :
    Calls Tryd.prog 17 #[.int .i64 m, .int .i64 n, v, .string was, .string root] w fun e w' => e = .returned (.bool (consEnd was root (consAll nodeB (odds (m - 1) (n - 1)) (proof)))) ∧ Below w.heap.size w w' := by
  have HWD : Hid (Calls Tryd.prog 28 #[v] w fun e w' => e = .returned (.bool true) ∧ w' = w) := by
    have e := wide_any v proof w w.heap.size h (by omega)
    rw [h2] at e
    exact e
  have E : Hid (∀ l r w, l.size ≤ 32 → r.size ≤ 32 → Calls Tryd.prog 29 #[.string l, .string r] w fun e w' => e = .returned (.string (nodeB l r)) ∧ Below w.heap.size w w') := fun l r w hl hr => node_any l r w (by omega) (by omega)
  have EP : Hid (∀ w, Calls Tryd.prog 37 #[.int .i64 m] w fun e w' => e = .returned (.bool false) ∧ w' = w) := fun w => by
    have e := power_any m w h5 (by omega)
    rw [hpw] at e
    exact e
  have hal : Below w.heap.size w (w.alloc (.cells #[] 9)) := (Below.refl _ _).alloc (Nat.le_refl _) _
  have hown0 := OwnT.made w w.heap.size (Nat.le_refl _)
  have hT0 : Texts (w.alloc (.cells #[] 9)) (w.alloc (.cells #[] 9)).heap.size v proof := (h.below hal).up hal.size
  have HAL : Hid (Below w.heap.size w (w.alloc (.cells #[] 9))) := hal
  have hs0 : w.heap.size ≤ (w.alloc (.cells #[] 9)).heap.size := hal.size
  obtain ⟨row, hrow⟩ : ∃ row, row = proof := ⟨_, rfl⟩
  rw [← hrow]
  have HWI : Hid (∀ j (h : j < row.length), row[j].size = 32) := by
    intro j hj
    subst hrow
    exact wideB_at h2 hj
  have hrl : row.length ≤ 65 := by
    subst hrow
    omega
  obtain ⟨L, hL⟩ : ∃ L, L = row.length := ⟨_, rfl⟩
  have HLEN : Hid ((proof).length = L) := by
    show _ = _
    rw [hL, hrow]
  have HL0 : Hid (L = row.length) := hL
  have hL65 : L ≤ 65 := by omega
  have HRW : Hid (row = proof) := hrow
  obtain ⟨V, hV⟩ : ∃ V, V = consEnd was root (consAll nodeB (odds (m - 1) (n - 1)) row) := ⟨_, rfl⟩
  rw [← hV]
  have HV : Hid (consEnd was root (consAll nodeB (odds (m - 1) (n - 1)) row) = V) := hV.symm
  have HP : Hid (proof.length ≤ 64) := h1
  obtain ⟨ad, cap, rfl, hx, hy⟩ := id h
  have h1' : (proof.length : Int) ≤ 64 := by omega
  have hml : proof.length ≤ 1048577 := by omega
  have h3' : (was.size : Int) = 32 := by omega
  have h4' : (root.size : Int) = 32 := by omega
  have hmnI : ¬ (m : Int) = (n : Int) := by omega
  have hmnB : ((m : Int) == (n : Int)) = false := beq_eq_false_iff_ne.2 hmnI
  clear hV h2 hx hy h h3 h4 hrow hpw hal hL hrl
  go_enter Tryd.func17, Tryd.ntmps17
  go_wp2_with fail
  refine HWD.out.mono ?_
  rintro e w0 ⟨rfl, rfl⟩
  clear HWD
  go_wp2_with (at_builtin; go_must (refine wp_app_texts rfl (.tmp 55) (.tmp 56) rfl w0.heap.size _ _ [] proof rfl hown0 rfl hT0 (by simp) hml hs0 ?_); intro v1 w1 hown1 hb1)
  refine (EP.out _).mono ?_
  rintro e w5 ⟨rfl, rfl⟩
  clear EP hown0 hT0 hs0
  rw [List.nil_append] at hown1
  obtain ⟨ar, cr, hvr⟩ := OwnT.len hown1
  rw [HLEN.out] at hvr
  subst hvr
  have H5 : Hid (Below w0.heap.size w0 w5) := HAL.out.trans hb1
  have hown5 := hown1
  clear hb1 hown1 HAL
  by_cases hL0 : L = 0
  · have HF : Hid (V = false) := by
      show _ = _
      rw [← HV.out]
      exact consEnd_all _ _ _ _ (by rw [← HL0.out]; exact hL0)
    subst hL0
    clear hown5
    go_wp2
    go_ret
    exact ⟨ret_bool HF.out.symm, H5.out⟩
  have hL1 : 1 ≤ L := by omega
  have hLI : ¬ (L : Int) = 0 := by omega
  have hLB : ((L : Int) == 0) = false := beq_eq_false_iff_ne.2 hLI
  have hownR : OwnT w5 w0.heap.size (.slice ar L cr) row := by
    rw [HRW.out]
    exact hown5
  obtain ⟨a', c', hv', hcap', hcR⟩ := hownR.texts.at
  obtain ⟨rfl, hLr, rfl⟩ : ar = a' ∧ L = row.length ∧ cr = c' := by simpa using hv'
  have HL : Hid (L = row.length) := hLr
  have hr0l : 0 < row.length := by omega
  obtain ⟨bb, off, rfl, hB, hc00⟩ := hcR 0 hr0l
  rw [Nat.add_zero] at hc00
  have HC : Hid (∀ j (hj : j < row.length), ∃ b o, (some ⟨bb, off, none⟩ : Option Addr) = some ⟨b, o, none⟩ ∧ b < w5.heap.size ∧ w5.cell? ⟨b, o + j, none⟩ = some (.string row[j])) := hcR
  have HR0' := HWI.out 0 hr0l
  obtain ⟨r0, hr0⟩ : ∃ r0, r0 = row[0] := ⟨_, rfl⟩
  have HROW : Hid (row = r0 :: row.drop 1) := by
    show _ = _
    rw [hr0]
    exact (List.drop_eq_getElem_cons hr0l).symm.trans (by rfl) |>.symm
  rw [← hr0] at hc00 HR0'
  have HR0 : Hid (r0.size ≤ 32) := Nat.le_of_eq HR0'
  clear hr0 HR0' hownR hown5 hcap' hcR hv' hLr hr0l HLEN HRW HL0
  go_wp2
  go_loop [12, 13] (fun x y => ∃ a b : Nat, x = .int .i64 a ∧ y = .int .i64 b ∧ a ≤ 9223372036854775807 ∧ b ≤ 9223372036854775807 ∧ odds a b = odds (m - 1) (n - 1)) (fun x _ => (RowKit.intOf x).toNat)
  case atStart => exact ⟨m - 1, n - 1, by go_num, by go_num, by omega, by omega, rfl⟩
  case round =>
    obtain ⟨a0, b0, rfl, rfl, ha0, hb0', ho0⟩ := hrel
    by_cases hod : a0 % 2 = 1
    · have HO : Hid (odds (a0 / 2) (b0 / 2) = odds (m - 1) (n - 1)) := by
        show _ = _
        rw [← ho0, odds_odd hod]
      have hodI : (a0 : Int) % 2 = 1 := by omega
      clear ho0
      go_wp2
      go_round
      case rel => exact ⟨a0 / 2, b0 / 2, by go_num, by go_num, by omega, by omega, HO.out⟩
      case measure => simp [RowKit.intOf]; omega
    · have HO : Hid (odds (m - 1) (n - 1) = (a0, b0)) := by
        show _ = _
        rw [← ho0, odds_even (by omega)]
      have hodI : ¬ (a0 : Int) % 2 = 1 := by omega
      have HV0 : Hid (consEnd was root (consRun nodeB (some (a0, b0, r0, r0)) (row.drop 1)) = V) := by
        show _ = _
        rw [← HV.out, HO.out]
        exact congrArg (consEnd was root) (consAll_first (a0, b0) HROW.out).symm
      clear ho0 HO HV
      go_wp2
      go_loopw [12, 13, 14, 15, 16] (fun x y s t i wr => ∃ (k a b : Nat) (d f : ByteArray), k ≤ L ∧ i = .int .i64 k ∧ x = .int .i64 a ∧ y = .int .i64 b ∧ a ≤ 9223372036854775807 ∧ b ≤ 9223372036854775807 ∧ s = .string d ∧ t = .string f ∧ d.size ≤ 32 ∧ f.size ≤ 32 ∧ consEnd was root (consRun nodeB (some (a, b, d, f)) (row.drop k)) = V ∧ Below w5.heap.size w5 wr) (fun _ _ _ _ i _ => L - (RowKit.intOf i).toNat)
      case atStart => exact ⟨1, a0, b0, r0, r0, by omega, rfl, rfl, rfl, ha0, hb0', rfl, rfl, HR0.out, HR0.out, HV0.out, Below.refl _ _⟩
      case round =>
        obtain ⟨k, a, b, d, f, hk, rfl, rfl, rfl, ha, hbb, rfl, rfl, hd, hf, hr, hb⟩ := hrel
        have H2 : Hid (Below w5.heap.size w5 wr) := hb
        clear hc00 HV0
        by_cases hkm : k < L
        · have hkl : k < row.length := by rw [← HL.out]; exact hkm
          obtain ⟨bb', off', hbo, _, hcell⟩ := HC.out k hkl
          obtain ⟨rfl, rfl⟩ : bb = bb' ∧ off = off' := by simp at hbo; exact hbo
          have hc : wr.cell? ⟨bb, off + k, none⟩ = some (.string row[k]) := (hb.cell (p := ⟨bb, off + k, none⟩) hB).trans hcell
          have hps := HWI.out k hkl
          rw [List.drop_eq_getElem_cons hkl, consRun_cons] at hr
          have hkmI : (k : Int) < (L : Int) := by omega
          obtain ⟨p, hp⟩ : ∃ p, p = row[k] := ⟨_, rfl⟩
          rw [← hp] at hc hps hr hcell
          have HC0 : Hid (w5.cell? ⟨bb, off + k, none⟩ = some (.string p)) := hcell
          clear hp hb hcell HC hbo
          have HSZ : Hid ((nodeB p d).size ≤ 32 ∧ (nodeB p f).size ≤ 32 ∧ (nodeB f p).size ≤ 32) := ⟨by rw [nodeB_size]; omega, by rw [nodeB_size]; omega, by rw [nodeB_size]; omega⟩
          by_cases hb0 : b = 0
          · subst hb0
            have HF : Hid (V = false) := by
              show _ = _
              rw [← hr]
              simp only [consStep, if_true]
              rw [cons_none]
              rfl
            clear hr
            go_wp2
            go_ret
            exact ⟨ret_bool HF.out.symm, H5.out.trans (H2.out.mono H5.out.size)⟩
          · have hb0I : ¬ (b : Int) = 0 := by omega
            by_cases hodd : a % 2 = 1 ∨ a = b
            · have HR : Hid (consEnd was root (consRun nodeB (some ((evens a b).1 / 2, (evens a b).2 / 2, nodeB p d, nodeB p f)) (row.drop (k + 1))) = V) := by
                have h := hr
                simp only [consStep, if_neg hb0, if_pos hodd] at h
                exact h
              clear hr
              by_cases ho1 : (a : Int) % 2 = 1
              · go_wp2_with fail
                refine (E.out p d _ (by omega) (by omega)).mono ?_
                rintro e w1 ⟨rfl, hb1⟩
                have H3 : Hid (Below w5.heap.size w5 w1) := H2.out.trans (hb1.mono H2.out.size)
                have hc1 : w1.cell? ⟨bb, off + k, none⟩ = some (.string p) := (H3.out.cell (p := ⟨bb, off + k, none⟩) hB).trans HC0.out
                clear hb1
                go_wp2_with fail
                refine (E.out p f _ (by omega) (by omega)).mono ?_
                rintro e w2 ⟨rfl, hb2⟩
                have H3 : Hid (Below w5.heap.size w5 w2) := H3.out.trans (hb2.mono H3.out.size)
                clear hb2 hc1
                go_wp2
                go_loop [12, 13] (fun x y => ∃ a' b' : Nat, x = .int .i64 a' ∧ y = .int .i64 b' ∧ a' ≤ 9223372036854775807 ∧ b' ≤ 9223372036854775807 ∧ evens a' b' = evens a b) (fun x _ => (RowKit.intOf x).toNat)
                case atStart => exact ⟨a, b, rfl, rfl, ha, hbb, rfl⟩
                case round =>
                  obtain ⟨a', b', rfl, rfl, ha', hb', hev⟩ := hrel
                  have HEV : Hid (evens a' b' = evens a b) := hev
                  clear hev
                  by_cases hz : a' % 2 = 0 ∧ 0 < a'
                  · obtain ⟨hz1, hz2⟩ := hz
                    have hz1I : (a' : Int) % 2 = 0 := by omega
                    have hz2I : 0 < (a' : Int) := by omega
                    have HE2 : Hid (evens (a' / 2) (b' / 2) = evens a b) := by
                      show _ = _
                      rw [← HEV.out, evens_eq a' b', dif_pos ⟨hz1, hz2⟩]
                    go_wp2
                    go_round
                    case rel => exact ⟨a' / 2, b' / 2, by go_num, by go_num, by omega, by omega, HE2.out⟩
                    case measure => simp [RowKit.intOf]; omega
                  · have HE3 : Hid ((evens a b).1 = a' ∧ (evens a b).2 = b') := by
                      have h := HEV.out
                      rw [evens_eq a' b', dif_neg hz] at h
                      exact ⟨by rw [← h], by rw [← h]⟩
                    have HR2 : Hid (consEnd was root (consRun nodeB (some (a' / 2, b' / 2, nodeB p d, nodeB p f)) (row.drop (k + 1))) = V) := by
                      have h := HR.out
                      rw [HE3.out.1, HE3.out.2] at h
                      exact h
                    clear HR HE3 HEV
                    by_cases hz1 : (a' : Int) % 2 = 0
                    · have hz2 : ¬ 0 < (a' : Int) := by omega
                      go_wp2
                      go_roundw
                      case rel => exact ⟨k + 1, a' / 2, b' / 2, nodeB p d, nodeB p f, by omega, by go_num, by go_num, by go_num, by omega, by omega, rfl, rfl, HSZ.out.1, HSZ.out.2.1, HR2.out, H3.out⟩
                      case measure => simp [RowKit.intOf]; omega
                    · go_wp2
                      go_roundw
                      case rel => exact ⟨k + 1, a' / 2, b' / 2, nodeB p d, nodeB p f, by omega, by go_num, by go_num, by go_num, by omega, by omega, rfl, rfl, HSZ.out.1, HSZ.out.2.1, HR2.out, H3.out⟩
                      case measure => simp [RowKit.intOf]; omega
              · have hab : a = b := by omega
                subst hab
                go_wp2_with fail
                refine (E.out p d _ (by omega) (by omega)).mono ?_
                rintro e w1 ⟨rfl, hb1⟩
                have H3 : Hid (Below w5.heap.size w5 w1) := H2.out.trans (hb1.mono H2.out.size)
                have hc1 : w1.cell? ⟨bb, off + k, none⟩ = some (.string p) := (H3.out.cell (p := ⟨bb, off + k, none⟩) hB).trans HC0.out
                clear hb1
                go_wp2_with fail
                refine (E.out p f _ (by omega) (by omega)).mono ?_
                rintro e w2 ⟨rfl, hb2⟩
                have H3 : Hid (Below w5.heap.size w5 w2) := H3.out.trans (hb2.mono H3.out.size)
                clear hb2 hc1
                go_wp2
                go_loop [12, 13] (fun x y => ∃ a' b' : Nat, x = .int .i64 a' ∧ y = .int .i64 b' ∧ a' ≤ 9223372036854775807 ∧ b' ≤ 9223372036854775807 ∧ evens a' b' = evens a a) (fun x _ => (RowKit.intOf x).toNat)
                case atStart => exact ⟨a, a, rfl, rfl, ha, ha, rfl⟩
                case round =>
                  obtain ⟨a', b', rfl, rfl, ha', hb', hev⟩ := hrel
                  have HEV : Hid (evens a' b' = evens a a) := hev
                  clear hev
                  by_cases hz : a' % 2 = 0 ∧ 0 < a'
                  · obtain ⟨hz1, hz2⟩ := hz
                    have hz1I : (a' : Int) % 2 = 0 := by omega
                    have hz2I : 0 < (a' : Int) := by omega
                    have HE2 : Hid (evens (a' / 2) (b' / 2) = evens a a) := by
                      show _ = _
                      rw [← HEV.out, evens_eq a' b', dif_pos ⟨hz1, hz2⟩]
                    go_wp2
                    go_round
                    case rel => exact ⟨a' / 2, b' / 2, by go_num, by go_num, by omega, by omega, HE2.out⟩
                    case measure => simp [RowKit.intOf]; omega
                  · have HE3 : Hid ((evens a a).1 = a' ∧ (evens a a).2 = b') := by
                      have h := HEV.out
                      rw [evens_eq a' b', dif_neg hz] at h
                      exact ⟨by rw [← h], by rw [← h]⟩
                    have HR2 : Hid (consEnd was root (consRun nodeB (some (a' / 2, b' / 2, nodeB p d, nodeB p f)) (row.drop (k + 1))) = V) := by
                      have h := HR.out
                      rw [HE3.out.1, HE3.out.2] at h
                      exact h
                    clear HR HE3 HEV
                    by_cases hz1 : (a' : Int) % 2 = 0
                    · have hz2 : ¬ 0 < (a' : Int) := by omega
                      go_wp2
                      go_roundw
                      case rel => exact ⟨k + 1, a' / 2, b' / 2, nodeB p d, nodeB p f, by omega, by go_num, by go_num, by go_num, by omega, by omega, rfl, rfl, HSZ.out.1, HSZ.out.2.1, HR2.out, H3.out⟩
                      case measure => simp [RowKit.intOf]; omega
                    · go_wp2
                      go_roundw
                      case rel => exact ⟨k + 1, a' / 2, b' / 2, nodeB p d, nodeB p f, by omega, by go_num, by go_num, by go_num, by omega, by omega, rfl, rfl, HSZ.out.1, HSZ.out.2.1, HR2.out, H3.out⟩
                      case measure => simp [RowKit.intOf]; omega
            · have HR : Hid (consEnd was root (consRun nodeB (some (a / 2, b / 2, d, nodeB f p)) (row.drop (k + 1))) = V) := by
                have h := hr
                simp only [consStep, if_neg hb0, if_neg hodd] at h
                exact h
              have ho1 : (a : Int) % 2 = 0 := by omega
              have ho2 : ¬ (a : Int) = (b : Int) := by omega
              have ho3 : ¬ a = b := by omega
              have ho4 : ((a : Int) == (b : Int)) = false := by simpa using ho2
              clear hr
              go_wp2_with fail
              refine (E.out f p _ (by omega) (by omega)).mono ?_
              rintro e w1 ⟨rfl, hb1⟩
              have H3 : Hid (Below w5.heap.size w5 w1) := H2.out.trans (hb1.mono H2.out.size)
              clear hb1
              go_wp2
              go_roundw
              case rel => exact ⟨k + 1, a / 2, b / 2, d, nodeB f p, by omega, by go_num, by go_num, by go_num, by omega, by omega, rfl, rfl, hd, HSZ.out.2.2, HR.out, H3.out⟩
              case measure => simp [RowKit.intOf]; omega
        · have hdr : row.drop k = [] := List.drop_eq_nil_of_le (by rw [← HL.out]; omega)
          rw [hdr] at hr
          have HR : Hid ((decide (b = 0) && (d.toList == was.toList) && (f.toList == root.toList)) = V) := hr
          have hkmI : ¬ (k : Int) < (L : Int) := by omega
          clear hr hdr hb HC
          by_cases hb0 : (b : Int) = 0
          · by_cases q1 : d.toList = was.toList
            · have HR2 : Hid ((f.toList == root.toList) = V) := by
                have h := HR.out
                rw [decide_eq_true (show b = 0 by omega), Bool.true_and, q1] at h
                have h2 : (f.toList == root.toList) = V := by simpa using h
                exact h2
              go_wp2
              go_ret
              exact ⟨ret_bool HR2.out, H5.out.trans (H2.out.mono H5.out.size)⟩
            · have HF : Hid (V = false) := by
                have h := HR.out
                rw [beq_eq_false_iff_ne.2 q1, Bool.and_false, Bool.false_and] at h
                exact h.symm
              go_wp2
              go_ret
              exact ⟨ret_bool HF.out.symm, H5.out.trans (H2.out.mono H5.out.size)⟩
          · have HF : Hid (V = false) := by
              have h := HR.out
              rw [decide_eq_false (show ¬ b = 0 by omega), Bool.false_and, Bool.false_and] at h
              exact h.symm
            go_wp2
            go_ret
            exact ⟨ret_bool HF.out.symm, H5.out.trans (H2.out.mono H5.out.size)⟩
end Go.Proofs.YtchlopmmhcobdafDoor
