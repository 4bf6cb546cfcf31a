/-
  The program's RangeAdd: a right range, a right entry.
-/
import Derived.Test.YtollfcjbcfnfdaaDoorPkImplNode
import Derived.Test.YtollfcjbcfnfdaaDoorPkImplTrail
import Derived.Test.YtollfcjbcfnfdaaDoorPkTextRows
import Derived.Test.YtollfcjbcfnfdaaDoorPkImplRangeR
import Derived.Test.YtollfcjbcfnfdaaDoorPkStepLaws
namespace Go.Proofs.YtollfcjbcfnfdaaDoor
open Go.RowKit Go.Lib
set_option linter.unusedVariables false
set_option linter.unusedSimpArgs false

set_option maxHeartbeats 2000000 in
set_option maxRecDepth 10000 in
theorem implAddY_any (n : Nat) (v : Value) (l : List ByteArray) (t : ByteArray) (w : World) (h : Texts w w.heap.size v l) (hr : rangeB n l = true) (hn : n < 1000000) (ht : t.size ≤ 100) (hK : Keys w) (hT : TabAt w) :
    Calls Tryd.prog 11 #[.agg #[.int .i64 n, v], .string t] w fun e w' => RangeAns w ((n : Int) + 1) (addB n l (leafB t)) e w' := by
  obtain ⟨hr1, hr2, hwide⟩ := rangeB_yes hr
  rw [Int.toNat_natCast] at hr2
  have ho := trail_ones n
  have hol : onesN n ≤ 1000 := by
    have := ones_le 20 n (by show n < 1048576; omega)
    omega
  obtain ⟨W, hW⟩ : ∃ W, W = (w.alloc (.cells #[.int .i64 n, v] 30)).alloc (.cells #[.int .i64 0, .slice none 0 0] 30) := ⟨_, rfl⟩
  have HW : Hid (W.heap[w.heap.size]? = some (.cells #[.int .i64 n, v] 30 (0, 0)) ∧ W.heap[w.heap.size + 1]? = some (.cells #[.int .i64 0, .slice none 0 0] 30 (0, 0)) ∧ Below w.heap.size w W ∧ w.heap.size + 2 = W.heap.size) := by
    subst hW
    have s1 : (w.alloc (.cells #[.int .i64 n, v] 30)).heap.size = w.heap.size + 1 := by simp
    have h2 := heap_alloc_new (w.alloc (.cells #[.int .i64 n, v] 30)) (.cells #[.int .i64 0, .slice none 0 0] 30)
    rw [s1] at h2
    exact ⟨(heap_alloc_old _ _ (by rw [s1]; omega)).trans (heap_alloc_new w _), h2, ((Below.refl _ _).alloc (Nat.le_refl _) _).alloc (by rw [s1]; omega) _, by simp⟩
  have hsm : ∀ j (hj : j < l.length), l[j].size ≤ 1000 := fun j hj => by have := wideB_at hwide hj; omega
  have EC : Hid (Calls Tryd.prog 42 #[v] W fun e w' => ∃ v', e = .returned v' ∧ OwnT w' W.heap.size v' l ∧ Below W.heap.size W w') := copied_any v l W ((h.below HW.out.2.2.1).up HW.out.2.2.1.size) (by omega) (fun j hj => by have := hsm j hj; omega)
  have ER : Hid (∀ w', Below W.heap.size W w' → Calls Tryd.prog 43 #[.agg #[.int .i64 n, v]] w' fun e w'' => e = .returned (.bool true) ∧ Below w'.heap.size w' w'') := fun w' hb => by
    rw [← hr]
    exact rangeRight_any n v l w' (((h.below HW.out.2.2.1).below (hb.mono HW.out.2.2.1.size)).up (Nat.le_trans HW.out.2.2.1.size hb.size)) (by omega)
  have EL : Hid (∀ w', Keys w' → Calls Tryd.prog 13 #[.string t] w' fun e w'' => e = .returned (.string (leafB t)) ∧ Below w'.heap.size w' w'') := fun w' hK => by
    rw [← leafV_right ht]
    exact implLeaf_any t w' (by omega) hK
  have ET : Hid (∀ w', TabAt w' → Calls Tryd.prog 44 #[.int .u64 (bits .xor .u64 IntKind.u64.max (n : Int))] w' fun e w'' => e = .returned (.int .i64 (trail n : Nat)) ∧ w'' = w') := fun w' hT => by
    rw [bits_turned n (by omega)]
    exact trailing_any n w' (by omega) hT
  have HKT : Hid (∀ w', Below W.heap.size W w' → Keys w' ∧ TabAt w') := fun w' hb => by
    have hb' : Below w.heap.size w w' := HW.out.2.2.1.trans (hb.mono HW.out.2.2.1.size)
    exact ⟨hK.below hb' hK.lt, hT.below hb' hT.lt⟩
  have HWE : Hid (W = (w.alloc (.cells #[.int .i64 n, v] 30)).alloc (.cells #[.int .i64 0, .slice none 0 0] 30)) := hW
  have HJ : Hid (joinK (trail n) (l ++ [leafB t]) = addB n l (leafB t)) := addB_join _ hr2
  have HS : Hid (∀ t' ∈ l ++ [leafB t], t'.size ≤ 1000) := by
    intro t' h'
    rcases List.mem_append.1 h' with h1 | h1
    · obtain ⟨j, hj, rfl⟩ := List.mem_iff_getElem.1 h1
      exact hsm j hj
    · have e : t' = leafB t := by simpa using h1
      rw [e, leafB_size]
      omega
  have hll : l.length ≤ 1000 := by omega
  have htl : trail n ≤ l.length := by omega
  rw [← HJ.out]
  obtain ⟨a, cap, rfl, hx, hy⟩ := h
  have htz : ¬ 20000 < (t.size : Int) := by omega
  have htz2 : ¬ 100 < (t.size : Int) := by omega
  have hnI : ((n : Int) == 1000000) = false := beq_eq_false_iff_ne.2 (by omega)
  have hn1 : IntKind.u64.wrap (n : Int) = (n : Int) := by rw [IntKind.wrap_u64]; omega
  clear hx hy hW hK hT hr hr1 hr2 hwide hsm ho hol HJ ht
  generalize leafB t = H at *
  generalize trail n = T at *
  obtain ⟨L0, hL0⟩ : ∃ L0, L0 = l ++ [H] := ⟨_, rfl⟩
  have hLL : L0.length = l.length + 1 := by rw [hL0]; simp
  have hT1 : T + 1 ≤ L0.length := by omega
  have hT2 : L0.length ≤ 1001 := by omega
  have HS' : Hid (∀ t' ∈ L0, t'.size ≤ 1000) := by show ∀ t' ∈ L0, t'.size ≤ 1000; rw [hL0]; exact HS.out
  have HL0 : Hid (L0 = l ++ [H]) := hL0
  rw [← hL0]
  clear HS hL0
  go_enter Tryd.func11, Tryd.ntmps11
  go_wp2_with fail
  rw [← HWE.out]
  clear HWE
  refine EC.out.mono ?_
  rintro e w1 ⟨v1, rfl, hown1, hb1⟩
  obtain ⟨⟨c0, c1⟩, _, _⟩ := two_cells' hb1 (show w.heap.size < W.heap.size by rw [← HW.out.2.2.2]; omega) HW.out.1
  have H1 : Hid (OwnT w1 W.heap.size v1 l ∧ Below W.heap.size W w1) := ⟨hown1, hb1⟩
  clear hown1 hb1 EC
  go_wp2_with fail
  refine (ER.out _ H1.out.2).mono ?_
  rintro e w2 ⟨rfl, hb2⟩
  have H2 : Hid (OwnT w2 W.heap.size v1 l ∧ Below W.heap.size W w2) := ⟨H1.out.1.below hb2 (Nat.le_refl _), H1.out.2.trans (hb2.mono H1.out.2.size)⟩
  clear c0 c1
  obtain ⟨⟨c0, c1⟩, _, _⟩ := two_cells' H2.out.2 (show w.heap.size < W.heap.size by rw [← HW.out.2.2.2]; omega) HW.out.1
  clear hb2 H1 ER
  go_wp2_with fail
  refine (EL.out _ (HKT.out _ H2.out.2).1).mono ?_
  rintro e w3 ⟨rfl, hb3⟩
  have H3 : Hid (OwnT w3 W.heap.size v1 l ∧ Below W.heap.size W w3) := ⟨H2.out.1.below hb3 (Nat.le_refl _), H2.out.2.trans (hb3.mono H2.out.2.size)⟩
  clear hb3 H2 EL c0 c1
  have hown3 := H3.out.1
  have hsz3 := H3.out.2.size
  have hl20 : l.length ≤ 1048576 := by omega
  go_wp2_with (at_builtin; go_must (refine wp_app_text rfl (.tmp 31) (.tmp 34) rfl W.heap.size _ _ rfl hown3 H rfl hl20 hsz3 ?_); intro v4 w4 hown4 hb4; have H4 : Hid (OwnT w4 W.heap.size v4 (l ++ [H]) ∧ Below W.heap.size W w4) := ⟨hown4, H3.out.2.trans hb4⟩; obtain ⟨⟨c0, c1⟩, _, _⟩ := two_cells' H4.out.2 (show w.heap.size < W.heap.size by rw [← HW.out.2.2.2]; omega) HW.out.1; clear hown4 hb4 H3 hown3 hsz3)
  refine (ET.out _ (HKT.out _ H4.out.2).2).mono ?_
  rintro e w5 ⟨rfl, rfl⟩
  clear ET c0 c1
  have H5 : Hid (OwnT w5 W.heap.size v4 L0 ∧ Below W.heap.size W w5) := by show _ ∧ _; rw [HL0.out]; exact H4.out
  clear H4
  go_wp2
  go_loopw [5, 41] (fun o x wr => ∃ k : Nat, k ≤ T ∧ x = .int .i64 k ∧ OwnT wr W.heap.size o (joinK k L0) ∧ Below W.heap.size W wr) (fun _ x _ => T - (intOf x).toNat)
  case atStart => exact ⟨0, by omega, rfl, H5.out.1, H5.out.2⟩
  case round =>
    obtain ⟨k, hk, rfl, hown, hb⟩ := hrel
    have hlen := joinK_len k L0 (by omega)
    have hsm := joinK_small k L0 HS'.out
    by_cases hlt : k < T
    · have HN : Hid (joinK (k + 1) L0 = (joinK k L0).take ((joinK k L0).length - 2) ++ [rootD nodeB noneB ((joinK k L0).drop ((joinK k L0).length - 2))]) := rfl
      obtain ⟨LN, hLN⟩ : ∃ LN, LN = joinK (k + 1) L0 := ⟨_, rfl⟩
      rw [← hLN] at HN
      have HNN : Hid (LN = joinK (k + 1) L0) := hLN
      clear hLN
      generalize joinK k L0 = L1 at *
      have hc2 : 2 ≤ L1.length := by omega
      have hc3 : L1.length ≤ 1001 := by omega
      obtain ⟨v1', hs1, ho1⟩ := own_h hown (L1.length - 2) (by omega) ((L1.length : Int) - 2) (by omega)
      obtain ⟨v2', hs2, ht2⟩ := slice_l hown.texts (L1.length - 2) (by omega) ((L1.length : Int) - 2) (by omega)
      have EG : Hid (∀ w', Below wr.heap.size wr w' → Calls Tryd.prog 45 #[v2'] w' fun e w'' => e = .returned (.string (rootD nodeB noneB (L1.drop (L1.length - 2)))) ∧ Below wr.heap.size wr w'') := fun w' hb' => by
        refine (together_any v2' _ w' ((ht2.below hb').up hb'.size) (by rw [List.length_drop]; omega) (fun j hj => hsm _ (List.mem_of_mem_drop (List.getElem_mem hj))) (HKT.out _ (hb.trans (hb'.mono hb.size))).1).mono ?_
        rintro e w'' ⟨rfl, hb2⟩
        exact ⟨rfl, hb'.trans (hb2.mono hb'.size)⟩
      have HO : Hid (OwnT wr W.heap.size v1' (L1.take (L1.length - 2)) ∧ Below W.heap.size W wr) := ⟨ho1, hb⟩
      have HA : Hid (Below wr.heap.size wr wr) := Below.refl _ _
      have hll1 : (L1.take (L1.length - 2)).length ≤ 1048576 := by rw [List.length_take]; omega
      obtain ⟨ax, capx, rfl⟩ := hown.len
      have hcw : IntKind.i64.wrap ((L1.length : Int) - 2) = (L1.length : Int) - 2 := by rw [IntKind.wrap_i64]; omega
      have hkI : (k : Int) < (T : Int) := by omega
      clear hown ho1 ht2 hb hsm hlen HS'
      generalize L1.take (L1.length - 2) = P at *
      generalize rootD nodeB noneB (L1.drop (L1.length - 2)) = G at *
      generalize L1.length = c at *
      go_wp2_with fail
      go_region_law (first
        | (refine step_enter rfl 45 #[v2'] (EG.out _ ?_) ?_ ?_; (first | exact HA.out | exact below_drew' HA.out); go_simp; rintro e wa ⟨rfl, hba⟩; refine ⟨_, rfl, ?_⟩; have HO : Hid (OwnT wa W.heap.size v1' P ∧ Below W.heap.size W wa) := ⟨HO.out.1.below hba (Nat.le_refl _), HO.out.2.trans (hba.mono HO.out.2.size)⟩; clear hba)
        | (refine step_app_text (w := wa) rfl (.tmp 48) (.tmp 53) rfl W.heap.size v1' P G (by simp [Act.eval]) HO.out.1 (by simp [Act.eval]) hll1 HO.out.2.size ?_; intro v6 w6 hown6 hb6))
      all_goals
        have H6 : Hid (OwnT w6 W.heap.size v6 LN ∧ Below W.heap.size W w6) := ⟨by rw [HN.out]; exact hown6, HO.out.2.trans hb6⟩
        clear hown6 hb6
        go_wp2
        go_roundw
        case rel => exact ⟨k + 1, by omega, by go_num, by rw [← HNN.out]; exact H6.out.1, H6.out.2⟩
        case measure => simp [intOf]; omega
    · have e : k = T := by omega
      have hkI : ¬ (k : Int) < (T : Int) := by omega
      rw [e] at hown hlen
      obtain ⟨ax, capx, rfl⟩ := hown.len
      obtain ⟨⟨c0, c1⟩, _, _⟩ := two_cells' hb (show w.heap.size < W.heap.size by rw [← HW.out.2.2.2]; omega) HW.out.1
      obtain ⟨⟨d0, d1⟩, f0, f1⟩ := two_cells' hb (show w.heap.size + 1 < W.heap.size by rw [← HW.out.2.2.2]; omega) HW.out.2.1
      have H6 : Hid (OwnT wr W.heap.size (.slice ax (joinK T L0).length capx) (joinK T L0) ∧ Below w.heap.size w wr) := ⟨hown, HW.out.2.2.1.trans (hb.mono HW.out.2.2.1.size)⟩
      clear hown hb hsm hlen e
      generalize (joinK T L0).length = c at *
      go_wp2
      exact bodyPost_ret (v := .agg #[.int .i64 ((n : Int) + 1), .slice ax c capx]) (by simp [results, Tryd.results11, go_sem, d0, d1, f0, f1]) rfl
        ⟨_, rfl, ((H6.out.1.far (by rw [← HW.out.2.2.2]; omega)).far (by rw [← HW.out.2.2.2]; omega)).lower HW.out.2.2.1.size, (H6.out.2.setCell (Nat.le_succ _) _).setCell (Nat.le_succ _) _⟩
end Go.Proofs.YtollfcjbcfnfdaaDoor

/-
  The program's RangeAdd, at every argument.
-/
namespace Go.Proofs.YtollfcjbcfnfdaaDoor
open Go.RowKit Go.Lib
set_option linter.unusedVariables false
set_option linter.unusedSimpArgs false

set_option maxHeartbeats 2000000 in
set_option maxRecDepth 10000 in
theorem implAdd_any (size : Int) (v : Value) (l : List ByteArray) (t : ByteArray) (w : World) (h : Texts w w.heap.size v l) (hl : l.length ≤ 1048576) (hz : ∀ j (hj : j < l.length), l[j].size ≤ 1048576) (ht : t.size ≤ 1048576) (hK : Keys w) (hT : TabAt w) :
    Calls Tryd.prog 11 #[.agg #[.int .i64 size, v], .string t] w fun e w' => RangeAns w (addSize size l t) (addNodes size l t) e w' := by
  unfold addSize addNodes
  by_cases h1 : 20000 < t.size
  · rw [if_pos h1, if_pos h1]
    obtain ⟨a, cap, rfl, hx, hy⟩ := h
    have h1I : 20000 < (t.size : Int) := by omega
    have HB : Hid (∀ c1 c2, Below w.heap.size w ((w.alloc c1).alloc c2)) := fun c1 c2 => ((Below.refl _ _).alloc (Nat.le_refl _) _).alloc (by simp) _
    clear hx hy hz hl hK hT h1
    go_enter Tryd.func11, Tryd.ntmps11
    go_wp2
    exact bodyPost_ret (v := .agg #[.int .i64 0, .slice none 0 0]) (by simp [results, Tryd.results11, go_sem]) rfl ⟨_, rfl, OwnT.nil _ _, HB.out _ _⟩
  rw [if_neg h1, if_neg h1]
  by_cases hok : addOK size l t
  · rw [if_pos hok, if_pos hok]
    obtain ⟨n, rfl⟩ := Int.eq_ofNat_of_zero_le (rangeB_yes hok.1).1.1
    rw [Int.toNat_natCast]
    exact implAddY_any n v l t w h hok.1 (by have := hok.2.1; omega) hok.2.2 hK hT
  rw [if_neg hok, if_neg hok]
  obtain ⟨W, hW⟩ : ∃ W, W = (w.alloc (.cells #[.int .i64 size, v] 30)).alloc (.cells #[.int .i64 0, .slice none 0 0] 30) := ⟨_, rfl⟩
  have HW : Hid (W.heap[w.heap.size]? = some (.cells #[.int .i64 size, v] 30 (0, 0)) ∧ W.heap[w.heap.size + 1]? = some (.cells #[.int .i64 0, .slice none 0 0] 30 (0, 0)) ∧ Below w.heap.size w W ∧ w.heap.size + 2 = W.heap.size) := by
    subst hW
    have s1 : (w.alloc (.cells #[.int .i64 size, v] 30)).heap.size = w.heap.size + 1 := by simp
    have h2 := heap_alloc_new (w.alloc (.cells #[.int .i64 size, v] 30)) (.cells #[.int .i64 0, .slice none 0 0] 30)
    rw [s1] at h2
    exact ⟨(heap_alloc_old _ _ (by rw [s1]; omega)).trans (heap_alloc_new w _), h2, ((Below.refl _ _).alloc (Nat.le_refl _) _).alloc (by rw [s1]; omega) _, by simp⟩
  have EC : Hid (Calls Tryd.prog 42 #[v] W fun e w' => ∃ v', e = .returned v' ∧ OwnT w' W.heap.size v' l ∧ Below W.heap.size W w') := copied_any v l W ((h.below HW.out.2.2.1).up HW.out.2.2.1.size) hl hz
  have ER : Hid (∀ w', Below W.heap.size W w' → Calls Tryd.prog 43 #[.agg #[.int .i64 size, v]] w' fun e w'' => e = .returned (.bool (rangeB size l)) ∧ Below w'.heap.size w' w'') := fun w' hb =>
    rangeRight_any size v l w' (((h.below HW.out.2.2.1).below (hb.mono HW.out.2.2.1.size)).up (Nat.le_trans HW.out.2.2.1.size hb.size)) hl
  have HWE : Hid (W = (w.alloc (.cells #[.int .i64 size, v] 30)).alloc (.cells #[.int .i64 0, .slice none 0 0] 30)) := hW
  obtain ⟨a, cap, rfl, hx, hy⟩ := h
  have htz : ¬ 20000 < (t.size : Int) := by omega
  clear hx hy hW hK hT hz hl
  by_cases hr : rangeB size l = true
  · have hr1 := (rangeB_yes hr).1
    rw [hr] at ER
    by_cases hm : size = 1000000
    · have hmB : (size == 1000000) = true := beq_iff_eq.2 hm
      clear hok hr hr1 h1 hm
      go_enter Tryd.func11, Tryd.ntmps11
      go_wp2_with fail
      rw [← HWE.out]
      clear HWE
      refine EC.out.mono ?_
      rintro e w1 ⟨v1, rfl, hown1, hb1⟩
      obtain ⟨ax, capx, rfl⟩ := hown1.len
      obtain ⟨⟨c0, c1⟩, _, _⟩ := two_cells' hb1 (show w.heap.size < W.heap.size by rw [← HW.out.2.2.2]; omega) HW.out.1
      have H1 : Hid (OwnT w1 W.heap.size (.slice ax l.length capx) l ∧ Below W.heap.size W w1) := ⟨hown1, hb1⟩
      clear hown1 hb1 EC
      go_wp2_with fail
      refine (ER.out _ H1.out.2).mono ?_
      rintro e w2 ⟨rfl, hb2⟩
      have H2 : Hid (OwnT w2 W.heap.size (.slice ax l.length capx) l ∧ Below W.heap.size W w2) := ⟨H1.out.1.below hb2 (Nat.le_refl _), H1.out.2.trans (hb2.mono H1.out.2.size)⟩
      clear c0 c1
      obtain ⟨⟨c0, c1⟩, _, _⟩ := two_cells' H2.out.2 (show w.heap.size < W.heap.size by rw [← HW.out.2.2.2]; omega) HW.out.1
      obtain ⟨⟨d0, d1⟩, f0, f1⟩ := two_cells' H2.out.2 (show w.heap.size + 1 < W.heap.size by rw [← HW.out.2.2.2]; omega) HW.out.2.1
      have H3 : Hid (OwnT w2 W.heap.size (.slice ax l.length capx) l ∧ Below w.heap.size w w2) := ⟨H2.out.1, HW.out.2.2.1.trans (H2.out.2.mono HW.out.2.2.1.size)⟩
      clear hb2 H1 ER H2
      go_wp2
      exact bodyPost_ret (v := .agg #[.int .i64 size, .slice ax l.length capx]) (by simp [results, Tryd.results11, go_sem, d0, d1, f0, f1]) rfl
        ⟨_, rfl, ((H3.out.1.far (by rw [← HW.out.2.2.2]; omega)).far (by rw [← HW.out.2.2.2]; omega)).lower HW.out.2.2.1.size, (H3.out.2.setCell (Nat.le_succ _) _).setCell (Nat.le_succ _) _⟩
    · have hmB : (size == 1000000) = false := beq_eq_false_iff_ne.2 hm
      have htb : 100 < (t.size : Int) := by
        by_cases h9 : 100 < (t.size : Int)
        · exact h9
        · exact absurd ⟨hr, by omega, by omega⟩ hok
      clear hok hr hr1 h1 hm
      go_enter Tryd.func11, Tryd.ntmps11
      go_wp2_with fail
      rw [← HWE.out]
      clear HWE
      refine EC.out.mono ?_
      rintro e w1 ⟨v1, rfl, hown1, hb1⟩
      obtain ⟨ax, capx, rfl⟩ := hown1.len
      obtain ⟨⟨c0, c1⟩, _, _⟩ := two_cells' hb1 (show w.heap.size < W.heap.size by rw [← HW.out.2.2.2]; omega) HW.out.1
      have H1 : Hid (OwnT w1 W.heap.size (.slice ax l.length capx) l ∧ Below W.heap.size W w1) := ⟨hown1, hb1⟩
      clear hown1 hb1 EC
      go_wp2_with fail
      refine (ER.out _ H1.out.2).mono ?_
      rintro e w2 ⟨rfl, hb2⟩
      have H2 : Hid (OwnT w2 W.heap.size (.slice ax l.length capx) l ∧ Below W.heap.size W w2) := ⟨H1.out.1.below hb2 (Nat.le_refl _), H1.out.2.trans (hb2.mono H1.out.2.size)⟩
      clear c0 c1
      obtain ⟨⟨c0, c1⟩, _, _⟩ := two_cells' H2.out.2 (show w.heap.size < W.heap.size by rw [← HW.out.2.2.2]; omega) HW.out.1
      obtain ⟨⟨d0, d1⟩, f0, f1⟩ := two_cells' H2.out.2 (show w.heap.size + 1 < W.heap.size by rw [← HW.out.2.2.2]; omega) HW.out.2.1
      have H3 : Hid (OwnT w2 W.heap.size (.slice ax l.length capx) l ∧ Below w.heap.size w w2) := ⟨H2.out.1, HW.out.2.2.1.trans (H2.out.2.mono HW.out.2.2.1.size)⟩
      clear hb2 H1 ER H2
      go_wp2
      exact bodyPost_ret (v := .agg #[.int .i64 size, .slice ax l.length capx]) (by simp [results, Tryd.results11, go_sem, d0, d1, f0, f1]) rfl
        ⟨_, rfl, ((H3.out.1.far (by rw [← HW.out.2.2.2]; omega)).far (by rw [← HW.out.2.2.2]; omega)).lower HW.out.2.2.1.size, (H3.out.2.setCell (Nat.le_succ _) _).setCell (Nat.le_succ _) _⟩
  · have hr' : rangeB size l = false := by simpa using hr
    rw [hr'] at ER
    clear hok hr hr' h1
    go_enter Tryd.func11, Tryd.ntmps11
    go_wp2_with fail
    rw [← HWE.out]
    clear HWE
    refine EC.out.mono ?_
    rintro e w1 ⟨v1, rfl, hown1, hb1⟩
    obtain ⟨ax, capx, rfl⟩ := hown1.len
    obtain ⟨⟨c0, c1⟩, _, _⟩ := two_cells' hb1 (show w.heap.size < W.heap.size by rw [← HW.out.2.2.2]; omega) HW.out.1
    have H1 : Hid (OwnT w1 W.heap.size (.slice ax l.length capx) l ∧ Below W.heap.size W w1) := ⟨hown1, hb1⟩
    clear hown1 hb1 EC
    go_wp2_with fail
    refine (ER.out _ H1.out.2).mono ?_
    rintro e w2 ⟨rfl, hb2⟩
    have H2 : Hid (OwnT w2 W.heap.size (.slice ax l.length capx) l ∧ Below W.heap.size W w2) := ⟨H1.out.1.below hb2 (Nat.le_refl _), H1.out.2.trans (hb2.mono H1.out.2.size)⟩
    clear c0 c1
    obtain ⟨⟨c0, c1⟩, _, _⟩ := two_cells' H2.out.2 (show w.heap.size < W.heap.size by rw [← HW.out.2.2.2]; omega) HW.out.1
    obtain ⟨⟨d0, d1⟩, f0, f1⟩ := two_cells' H2.out.2 (show w.heap.size + 1 < W.heap.size by rw [← HW.out.2.2.2]; omega) HW.out.2.1
    have H3 : Hid (OwnT w2 W.heap.size (.slice ax l.length capx) l ∧ Below w.heap.size w w2) := ⟨H2.out.1, HW.out.2.2.1.trans (H2.out.2.mono HW.out.2.2.1.size)⟩
    clear hb2 H1 ER H2
    go_wp2
    exact bodyPost_ret (v := .agg #[.int .i64 size, .slice ax l.length capx]) (by simp [results, Tryd.results11, go_sem, d0, d1, f0, f1]) rfl
      ⟨_, rfl, ((H3.out.1.far (by rw [← HW.out.2.2.2]; omega)).far (by rw [← HW.out.2.2.2]; omega)).lower HW.out.2.2.1.size, (H3.out.2.setCell (Nat.le_succ _) _).setCell (Nat.le_succ _) _⟩
end Go.Proofs.YtollfcjbcfnfdaaDoor
