/-
  The program's cut of entries in two.
-/
import Derived.Test.YtpglcbidfghfkaaGreatDoorPkImplTree
import Derived.Test.YtpglcbidfghfkaaGreatDoorPkStepLaws
import Derived.Test.YtpglcbidfghfkaaGreatDoorPkRight
namespace Go.Proofs.YtpglcbidfghfkaaGreatDoor
open Go.RowKit Go.Lib
set_option linter.unusedVariables false

/-- Two rows of texts: the first ones, the others. -/
def CutAns (w : World) (B : Nat) (l : List ByteArray) (k : Nat) (e : Ending) : Prop := ∃ a1 c1 a2 c2, e = .returned (.tuple #[.slice a1 k c1, .slice a2 (l.length - k) c2]) ∧ Texts w B (.slice a1 k c1) (l.take k) ∧ Texts w B (.slice a2 (l.length - k) c2) (l.drop k)

set_option maxHeartbeats 1000000 in
theorem cut_any (v : Value) (l : List ByteArray) (w : World) (B : Nat) (h : Texts w B v l) (h2 : 2 ≤ l.length) (hl : l.length ≤ 1048576) :
    Calls Tryz.prog 227 #[v] w fun e w' => CutAns w B l (half l.length) e ∧ ∃ m, w' = w.drewN m := by
  obtain ⟨ex, he, hk1, hk2⟩ := half_spec h2
  have hp := Nat.two_pow_pos ex
  have E : Hid (Calls Tryz.prog 231 #[.int .i64 l.length] w fun e w' => e = .returned (.int .i64 (half l.length)) ∧ w' = w) := splitOf_any l.length w h2 (by omega)
  obtain ⟨k, hk⟩ : ∃ k, k = half l.length := ⟨_, rfl⟩
  rw [← hk] at hk1 hk2 he E ⊢
  obtain ⟨v1, hs1, ht1⟩ := slice_lhm h 0 k (by omega) (by omega) 0 (k : Int) rfl rfl
  obtain ⟨v2, hs2, ht2⟩ := slice_lhm h k l.length (by omega) (by omega) (k : Int) (l.length : Int) rfl rfl
  rw [List.drop_zero] at ht1
  rw [List.take_of_length_le (Nat.le_refl _)] at ht2
  have HC : Hid (CutAns w B l k (.returned (.tuple #[v1, v2]))) := by
    obtain ⟨a1, c1, e1, _, _⟩ := id ht1
    obtain ⟨a2, c2, e2, _, _⟩ := id ht2
    have l1 : (l.take k).length = k := by rw [List.length_take]; omega
    have l2 : (l.drop k).length = l.length - k := by rw [List.length_drop]
    rw [l1] at e1
    rw [l2] at e2
    subst e1 e2
    exact ⟨a1, c1, a2, c2, rfl, ht1, ht2⟩
  obtain ⟨a, cap, rfl, hx, hy⟩ := h
  clear hx hy hk he hp ht1 ht2
  generalize hln : l.length = n at *
  clear hln
  go_enter Tryz.func227, Tryz.ntmps227
  go_wp2_with fail
  refine E.out.mono ?_
  rintro e w1 ⟨rfl, rfl⟩
  clear E
  go_wp2
  go_quiet (fail)
  go_wp2
  go_ret2
  exact ⟨HC.out, _, rfl⟩

/-- What a part of entries has of them. -/
theorem take_small {l : List ByteArray} {n : Nat} (hz : ∀ j (hj : j < l.length), l[j].size ≤ n) (k : Nat) : ∀ j (hj : j < (l.take k).length), (l.take k)[j].size ≤ n := fun j hj => by rw [List.getElem_take]; exact hz _ _
theorem drop_small {l : List ByteArray} {n : Nat} (hz : ∀ j (hj : j < l.length), l[j].size ≤ n) (k : Nat) : ∀ j (hj : j < (l.drop k).length), (l.drop k)[j].size ≤ n := fun j hj => by rw [List.getElem_drop]; exact hz _ _
theorem OwnT.one (w : World) (B : Nat) (t : ByteArray) (hB : B ≤ w.heap.size) : OwnT (w.alloc (.cells #[.string t] 9)) B (.slice (some ⟨w.heap.size, 0, none⟩) 1 1) [t] :=
  ⟨rfl, .inr ⟨w.heap.size, 1, _, rfl, hB, heap_alloc_new w _, Nat.le_refl _, by unfold maxLen; omega, rfl, rfl⟩⟩
end Go.Proofs.YtpglcbidfghfkaaGreatDoor

/-
  The program's path of an entry.
-/
namespace Go.Proofs.YtpglcbidfghfkaaGreatDoor
open Go.RowKit Go.Lib
set_option linter.unusedVariables false

set_option maxHeartbeats 4000000 in
theorem pathIn_any (n : Nat) : ∀ (l : List ByteArray), l.length = n → 1 ≤ n → n ≤ 1000 → (∀ j (hj : j < l.length), l[j].size ≤ 100) → ∀ (i : Nat) (x : Int) (v : Value) (w : World), x = (i : Int) → i < n → Texts w w.heap.size v l → Keys w →
    Calls Tryz.prog 203 #[v, .int .i64 x] w fun e w' => ∃ v', e = .returned v' ∧ OwnT w' w.heap.size v' (pathB l i) ∧ Below w.heap.size w w' := by
  induction n using Nat.strongRecOn with
  | ind n ih =>
    intro l hn h1 hl hz i x v w hx hi h hK
    subst hx
    by_cases hn1 : n = 1
    · subst hn1
      rw [pathB_one i hn]
      obtain ⟨a, cap, rfl, hx, hy⟩ := h
      clear hx hy ih hz hK
      rw [hn]
      go_enter Tryz.func203, Tryz.ntmps203
      go_wp2
      go_ret
      exact ⟨_, rfl, OwnT.nil _ _, Below.refl _ _⟩
    have hl2 : 2 ≤ l.length := by omega
    obtain ⟨ex, he, hk1, hk2⟩ := half_spec hl2
    have hp := Nat.two_pow_pos ex
    have EC : Hid (Calls Tryz.prog 227 #[v] w fun e w' => CutAns w w.heap.size l (half l.length) e ∧ ∃ m, w' = w.drewN m) := cut_any v l w _ h hl2 (by omega)
    have hpl := pathB_left (l := l) (i := i) hl2
    have hpr := pathB_right (l := l) (i := i) hl2
    obtain ⟨k, hk⟩ : ∃ k, k = half l.length := ⟨_, rfl⟩
    rw [← hk] at hk1 hk2 he EC hpl hpr
    have hn1I : ¬ (n : Int) = 1 := by omega
    have hn1B : ((n : Int) == 1) = false := beq_eq_false_iff_ne.2 hn1I
    have l1 : (l.take k).length = k := by rw [List.length_take]; omega
    have l2 : (l.drop k).length = n - k := by rw [List.length_drop]; omega
    have EP1 : Hid (∀ v1 w', Texts w' w'.heap.size v1 (l.take k) → Keys w' → i < k → Calls Tryz.prog 203 #[v1, .int .i64 i] w' fun e w'' => ∃ v', e = .returned v' ∧ OwnT w'' w'.heap.size v' (pathB (l.take k) i) ∧ Below w'.heap.size w' w'') := fun v1 w' h1' hK' hik => ih k (by omega) (l.take k) l1 (by omega) (by omega) (take_small hz k) i i v1 w' rfl hik h1' hK'
    have EP2 : Hid (∀ v1 w', Texts w' w'.heap.size v1 (l.drop k) → Keys w' → ¬ i < k → Calls Tryz.prog 203 #[v1, .int .i64 ((i : Int) - (k : Int))] w' fun e w'' => ∃ v', e = .returned v' ∧ OwnT w'' w'.heap.size v' (pathB (l.drop k) (i - k)) ∧ Below w'.heap.size w' w'') := fun v1 w' h1' hK' hik => ih (n - k) (by omega) (l.drop k) l2 (by omega) (by omega) (drop_small hz k) (i - k) _ v1 w' (by omega) (by omega) h1' hK'
    have ET1 : Hid (∀ v1 w', Texts w' w'.heap.size v1 (l.take k) → Keys w' → Calls Tryz.prog 64 #[v1] w' fun e w'' => e = .returned (.string (treeB (l.take k))) ∧ Below w'.heap.size w' w'') := fun v1 w' h1' hK' => treeOf_any v1 _ w' h1' (by omega) (take_small hz k) hK'
    have ET2 : Hid (∀ v1 w', Texts w' w'.heap.size v1 (l.drop k) → Keys w' → Calls Tryz.prog 64 #[v1] w' fun e w'' => e = .returned (.string (treeB (l.drop k))) ∧ Below w'.heap.size w' w'') := fun v1 w' h1' hK' => treeOf_any v1 _ w' h1' (by omega) (drop_small hz k) hK'
    have HK : Hid (Keys w) := hK
    have HP1 : Hid ((pathB (l.take k) i).length ≤ 1048576 ∧ (pathB (l.drop k) (i - k)).length ≤ 1048576) := ⟨by have := pathB_len k (l.take k) i l1; omega, by have := pathB_len (n - k) (l.drop k) (i - k) l2; omega⟩
    obtain ⟨a, cap, rfl, hx, hy⟩ := h
    clear hx hy ih hz hK hk he hp l1 l2
    by_cases hik : i < k
    · have HP : Hid (pathB l i = pathB (l.take k) i ++ [treeB (l.drop k)]) := hpl hik
      have hikI : (i : Int) < (k : Int) := by omega
      clear hpl hpr EP2 ET1
      generalize hpb : pathB (l.take k) i = P at *
      generalize treeB (l.drop k) = T at *
      clear hpb
      rw [hn] at EC ⊢
      go_enter Tryz.func203, Tryz.ntmps203
      go_wp2_with fail
      refine EC.out.mono ?_
      rintro e w1 ⟨⟨a1, c1, a2, c2, rfl, ht1, ht2⟩, m, rfl⟩
      have H1 : Hid (Below w.heap.size w (w.drewN m) ∧ Texts (w.drewN m) (w.drewN m).heap.size (.slice a1 k c1) (l.take k) ∧ Texts w w.heap.size (.slice a2 (n - k) c2) (l.drop k)) := ⟨below_drewN m (Below.refl _ _), (ht1.below (below_drewN m (Below.refl _ _))), by rw [hn] at ht2; exact ht2⟩
      rw [hn]
      clear ht1 ht2 EC
      go_wp2_with fail
      refine (EP1.out _ _ H1.out.2.1 (HK.out.below H1.out.1 HK.out.lt) hik).mono ?_
      rintro e w2 ⟨v2, rfl, ho2, hb2⟩
      have H2 : Hid (Below w.heap.size w w2 ∧ OwnT w2 w.heap.size v2 P) := ⟨H1.out.1.trans (hb2.mono H1.out.1.size), ho2.lower H1.out.1.size⟩
      clear ho2 hb2 EP1
      go_wp2_with fail
      refine (ET2.out _ _ ((H1.out.2.2.below H2.out.1).up H2.out.1.size) (HK.out.below H2.out.1 HK.out.lt)).mono ?_
      rintro e w3 ⟨rfl, hb3⟩
      have hown := H2.out.2.below hb3 (Nat.le_refl _)
      have H3 : Hid (Below w.heap.size w w3) := H2.out.1.trans (hb3.mono H2.out.1.size)
      have hsz := H3.out.size
      have hll := HP1.out.1
      clear hb3 ET2 H1 H2
      go_wp2_with (at_builtin; go_must (refine wp_app_text rfl (.tmp 23) (.tmp 26) rfl w.heap.size _ _ rfl hown T rfl hll hsz ?_); intro v4 w4 hown4 hb4)
      go_ret
      exact ⟨_, rfl, by rw [HP.out]; exact hown4, H3.out.trans hb4⟩
    · have HP : Hid (pathB l i = pathB (l.drop k) (i - k) ++ [treeB (l.take k)]) := hpr hik
      have hikI : ¬ (i : Int) < (k : Int) := by omega
      clear hpl hpr EP1 ET2
      generalize hpb : pathB (l.drop k) (i - k) = P at *
      generalize treeB (l.take k) = T at *
      clear hpb
      rw [hn] at EC ⊢
      go_enter Tryz.func203, Tryz.ntmps203
      go_wp2_with fail
      refine EC.out.mono ?_
      rintro e w1 ⟨⟨a1, c1, a2, c2, rfl, ht1, ht2⟩, m, rfl⟩
      have H1 : Hid (Below w.heap.size w (w.drewN m) ∧ Texts (w.drewN m) (w.drewN m).heap.size (.slice a2 (n - k) c2) (l.drop k) ∧ Texts w w.heap.size (.slice a1 k c1) (l.take k)) := ⟨below_drewN m (Below.refl _ _), by rw [hn] at ht2; exact ht2.below (below_drewN m (Below.refl _ _)), ht1⟩
      rw [hn]
      clear ht1 ht2 EC
      go_wp2_with fail
      refine (EP2.out _ _ H1.out.2.1 (HK.out.below H1.out.1 HK.out.lt) hik).mono ?_
      rintro e w2 ⟨v2, rfl, ho2, hb2⟩
      have H2 : Hid (Below w.heap.size w w2 ∧ OwnT w2 w.heap.size v2 P) := ⟨H1.out.1.trans (hb2.mono H1.out.1.size), ho2.lower H1.out.1.size⟩
      clear ho2 hb2 EP2
      go_wp2_with fail
      refine (ET1.out _ _ ((H1.out.2.2.below H2.out.1).up H2.out.1.size) (HK.out.below H2.out.1 HK.out.lt)).mono ?_
      rintro e w3 ⟨rfl, hb3⟩
      have hown := H2.out.2.below hb3 (Nat.le_refl _)
      have H3 : Hid (Below w.heap.size w w3) := H2.out.1.trans (hb3.mono H2.out.1.size)
      have hsz := H3.out.size
      have hll := HP1.out.2
      clear hb3 ET1 H1 H2
      go_wp2_with (at_builtin; go_must (refine wp_app_text rfl (.tmp 32) (.tmp 35) rfl w.heap.size _ _ rfl hown T rfl hll hsz ?_); intro v4 w4 hown4 hb4)
      go_ret
      exact ⟨_, rfl, by rw [HP.out]; exact hown4, H3.out.trans hb4⟩
end Go.Proofs.YtpglcbidfghfkaaGreatDoor

/-
  The program's PathOf.
-/
namespace Go.Proofs.YtpglcbidfghfkaaGreatDoor
open Go.RowKit Go.Lib
set_option linter.unusedVariables false

theorem pathV_not {l : List ByteArray} {i : Int} (h : rightB l = false ∨ i < 0 ∨ (l.length : Int) ≤ i) : pathV l i = [] := by
  unfold pathV
  rw [if_neg]
  rintro ⟨h1, h2, h3⟩
  rcases h with h | h | h
  · rw [h] at h1; cases h1
  · omega
  · omega
set_option maxHeartbeats 1000000 in
theorem implPathOf_any (v : Value) (l : List ByteArray) (i : Int) (w : World) (h : Texts w w.heap.size v l) (hl : l.length ≤ 1048576) (hi0 : -9223372036854775808 ≤ i) (hi1 : i ≤ 9223372036854775807) (hK : Keys w) :
    Calls Tryz.prog 149 #[v, .int .i64 i] w fun e w' => ∃ v', e = .returned v' ∧ OwnT w' w.heap.size v' (pathV l i) ∧ Below w.heap.size w w' := by
  have E : Hid (Calls Tryz.prog 63 #[v] w fun e w' => e = .returned (.bool (rightB l)) ∧ w' = w) := entriesRight_any v l w _ h hl
  by_cases hr : rightB l = true
  · rw [hr] at E
    by_cases hin : 0 ≤ i ∧ i < (l.length : Int)
    · obtain ⟨hi2, hi3⟩ := hin
      have hlen := rightB_len hr
      have ET : Hid (Calls Tryz.prog 203 #[v, .int .i64 i] w fun e w' => ∃ v', e = .returned v' ∧ OwnT w' w.heap.size v' (pathB l i.toNat) ∧ Below w.heap.size w w') := pathIn_any l.length l rfl (by omega) (by omega) (fun j hj => rightB_at hr hj) i.toNat i v w (by omega) (by omega) h hK
      have ht : pathV l i = pathB l i.toNat := by unfold pathV; rw [if_pos ⟨hr, hi2, hi3⟩]
      rw [ht]
      generalize pathB l i.toNat = T at *
      obtain ⟨a, cap, rfl, hx, hy⟩ := h
      clear hx hy hr ht hK
      have h0i : ¬ i < 0 := by omega
      have hgi : ¬ (l.length : Int) ≤ i := by omega
      generalize l.length = n at *
      go_enter Tryz.func149, Tryz.ntmps149
      go_wp2_with fail
      refine E.out.mono ?_
      rintro e w1 ⟨rfl, rfl⟩
      clear E
      go_wp2_with fail
      refine ET.out.mono ?_
      rintro e w2 ⟨v2, rfl, ho, hb⟩
      have HB : Hid (OwnT w2 w1.heap.size v2 T ∧ Below w1.heap.size w1 w2) := ⟨ho, hb⟩
      clear hb ho
      go_wp2
      go_ret
      exact ⟨_, rfl, HB.out.1, HB.out.2⟩
    · rw [pathV_not (.inr (by omega))]
      obtain ⟨a, cap, rfl, hx, hy⟩ := h
      clear hx hy hr hK
      by_cases h0i : i < 0
      · clear hin
        generalize l.length = n at *
        go_enter Tryz.func149, Tryz.ntmps149
        go_wp2_with fail
        refine E.out.mono ?_
        rintro e w1 ⟨rfl, rfl⟩
        clear E
        go_wp2
        go_ret
        exact ⟨_, rfl, OwnT.nil _ _, Below.refl _ _⟩
      · have hgi : (l.length : Int) ≤ i := by omega
        clear hin
        generalize l.length = n at *
        go_enter Tryz.func149, Tryz.ntmps149
        go_wp2_with fail
        refine E.out.mono ?_
        rintro e w1 ⟨rfl, rfl⟩
        clear E
        go_wp2
        go_ret
        exact ⟨_, rfl, OwnT.nil _ _, Below.refl _ _⟩
  · have hr' : rightB l = false := by simpa using hr
    rw [pathV_not (.inl hr')]
    rw [hr'] at E
    obtain ⟨a, cap, rfl, hx, hy⟩ := h
    clear hx hy hr hr' hK
    generalize l.length = n at *
    go_enter Tryz.func149, Tryz.ntmps149
    go_wp2_with fail
    refine E.out.mono ?_
    rintro e w1 ⟨rfl, rfl⟩
    clear E
    go_wp2
    go_ret
    exact ⟨_, rfl, OwnT.nil _ _, Below.refl _ _⟩
end Go.Proofs.YtpglcbidfghfkaaGreatDoor
