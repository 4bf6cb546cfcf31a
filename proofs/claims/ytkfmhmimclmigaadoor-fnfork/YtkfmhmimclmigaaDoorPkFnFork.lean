/-
  The walk of the law FnFork.
-/
import Derived.Test.YtkfmhmimclmigaaDoorPkTextRows
import Derived.Test.YtkfmhmimclmigaaDoorPkDraw
import Derived.Test.YtkfmhmimclmigaaDoorPkTexts
namespace Go.Proofs.YtkfmhmimclmigaaDoor
open Go.RowKit Go.Lib
set_option linter.unusedVariables false
set_option linter.unusedSimpArgs false

theorem entry_e (f : Int) (k : Nat) : entryB f false k = (⟨#[101]⟩ : ByteArray) ++ decB k := by simp [entryB]
theorem entry_f (f : Int) (k : Nat) (h : f ≤ (k : Int)) : entryB f true k = (⟨#[102]⟩ : ByteArray) ++ decB k := by simp [entryB, h]
theorem entry_g (f : Int) (k : Nat) (h : (k : Int) < f) : entryB f true k = (⟨#[101]⟩ : ByteArray) ++ decB k := by
  have : ¬ f ≤ (k : Int) := by omega
  simp [entryB, this]
theorem letters_ne (d : ByteArray) : ¬ (⟨#[101]⟩ : ByteArray) ++ d = (⟨#[102]⟩ : ByteArray) ++ d := by
  intro h
  have h1 := congrArg (fun x : ByteArray => x.data.toList) h
  simp [ByteArray.data_append] at h1
theorem ba_beq (a b : ByteArray) : (a.toList == b.toList) = decide (a = b) := by
  by_cases h : a = b
  · subst h; simp
  · simp only [h, decide_false]
    rw [beq_eq_false_iff_ne, toList_data, toList_data]
    intro e
    exact h (ByteArray.ext (Array.toList_inj.1 e))
/-- Entries of both branches are alike ahead of the fork alone. -/
theorem entry_alike (f : Int) (k : Nat) : ((entryB f false k).toList == (entryB f true k).toList) = decide ((k : Int) < f) := by
  rw [ba_beq]
  by_cases h : (k : Int) < f
  · rw [entry_e, entry_g f k h]; simp [h]
  · rw [entry_e, entry_f f k (by omega)]; simp [h, letters_ne]

set_option maxHeartbeats 8000000 in
set_option maxRecDepth 10000 in
theorem fnFork_any (a : Option Addr) (len cap : Nat) (w : World) (hc : Code w w.heap.size a len ∧ len ≤ maxLen) :
    Calls Tryd.prog 3 #[.slice a len cap] w fun e w' => e = .returned (.bool true) ∧ Below w.heap.size w w' := by
  obtain ⟨hc, hm⟩ := hc
  unfold maxLen at hm
  by_cases hlen : (1048576 : Int) < (len : Int)
  · go_enter Tryd.func3, Tryd.ntmps3
    go_wp2
    go_ret
    exact ⟨rfl, Below.refl _ _⟩
  have ED : Hid (Calls Tryd.prog 5 #[.slice a len cap] w fun e w' => ∃ (f : Int) (o : Bool), e = .returned (.tuple #[.int .i64 f, .bool o]) ∧ -1 ≤ f ∧ f ≤ 14 ∧ Below w.heap.size w w') := drawBranch_any a len cap w hc (by omega)
  have EI : Hid (∀ f o X, Calls Tryd.prog 6 #[.int .i64 f, .bool o] X (BranchAns f o X)) := fun f o X => implBranch_any f o X
  have ES : Hid (∀ f o X, Calls Tryd.prog 8 #[.int .i64 f, .bool o] X (BranchAns f o X)) := fun f o X => specBranch_any f o X
  have EQ : Hid (∀ f o v1 v2 X, Texts X X.heap.size v1 (branchV f o) → Texts X X.heap.size v2 (branchV f o) → Calls Tryd.prog 7 #[v1, v2] X fun e w' => e = .returned (.bool true) ∧ Below X.heap.size X w') := fun f o v1 v2 X h1 h2 => lwTexts_any v1 v2 _ X X.heap.size h1 h2 (by have := branchV_len f o; omega)
  clear hc hm
  go_enter Tryd.func3, Tryd.ntmps3
  go_wp2_with fail
  refine ED.out.mono ?_
  rintro e w1 ⟨f, o, rfl, hf0, hf1, hb⟩
  have H1 : Hid (Below w.heap.size w w1) := hb
  clear hb ED
  go_wp2_with fail
  refine (EI.out f o _).mono ?_
  rintro e w2 ⟨v, rfl, ho, hb⟩
  obtain ⟨va, vc, rfl⟩ := ho.len
  have H2 : Hid (Below w.heap.size w w2 ∧ Texts w2 w2.heap.size (.slice va (branchV f o).length vc) (branchV f o)) := ⟨H1.out.trans (hb.mono H1.out.size), ho.texts⟩
  clear ho hb H1
  generalize hn : (branchV f o).length = n at *
  go_wp2_with fail
  refine (ES.out f o _).mono ?_
  rintro e w3 ⟨v2, rfl, ho, hb⟩
  have H3 : Hid (Below w.heap.size w w3 ∧ Texts w3 w3.heap.size (.slice va n vc) (branchV f o) ∧ Texts w3 w3.heap.size v2 (branchV f o)) := ⟨H2.out.1.trans (hb.mono H2.out.1.size), (H2.out.2.below hb).up hb.size, ho.texts⟩
  clear ho hb H2
  go_wp2_with fail
  refine (EQ.out f o _ _ _ H3.out.2.1 H3.out.2.2).mono ?_
  rintro e w4 ⟨rfl, hb⟩
  have H4 : Hid (Below w.heap.size w w4 ∧ Texts w4 w4.heap.size (.slice va n vc) (branchV f o)) := ⟨H3.out.1.trans (hb.mono H3.out.1.size), (H3.out.2.1.below hb).up hb.size⟩
  clear hb H3
  by_cases hf : f < 0 ∨ 12 < f
  · have hn0 : n = 0 := by
      rw [← hn]
      unfold branchV forkB
      have : (decide (0 ≤ f) && decide (f ≤ 12)) = false := by simp; omega
      rw [this]; rfl
    subst hn0
    have hcase : f < 0 ∨ (¬ f < 0 ∧ 12 < f) := by omega
    rcases hcase with h1 | ⟨h1, h2⟩
    · go_wp2_with fail
      refine (ES.out f o _).mono ?_
      rintro e w5 ⟨v2, rfl, ho, hb⟩
      have H5 : Hid (Below w.heap.size w w5 ∧ Texts w5 w5.heap.size (.slice va 0 vc) (branchV f o) ∧ Texts w5 w5.heap.size v2 (branchV f o)) := ⟨H4.out.1.trans (hb.mono H4.out.1.size), (H4.out.2.below hb).up hb.size, ho.texts⟩
      clear ho hb H4
      go_wp2_with fail
      refine (EQ.out f o _ _ _ H5.out.2.1 H5.out.2.2).mono ?_
      rintro e w6 ⟨rfl, hb⟩
      have H6 : Hid (Below w.heap.size w w6) := H5.out.1.trans (hb.mono H5.out.1.size)
      clear hb H5
      go_wp2
      go_ret
      exact ⟨rfl, H6.out⟩
    · go_wp2_with fail
      refine (ES.out f o _).mono ?_
      rintro e w5 ⟨v2, rfl, ho, hb⟩
      have H5 : Hid (Below w.heap.size w w5 ∧ Texts w5 w5.heap.size (.slice va 0 vc) (branchV f o) ∧ Texts w5 w5.heap.size v2 (branchV f o)) := ⟨H4.out.1.trans (hb.mono H4.out.1.size), (H4.out.2.below hb).up hb.size, ho.texts⟩
      clear ho hb H4
      go_wp2_with fail
      refine (EQ.out f o _ _ _ H5.out.2.1 H5.out.2.2).mono ?_
      rintro e w6 ⟨rfl, hb⟩
      have H6 : Hid (Below w.heap.size w w6) := H5.out.1.trans (hb.mono H5.out.1.size)
      clear hb H5
      go_wp2
      go_ret
      exact ⟨rfl, H6.out⟩
  · have hf2 : ¬ f < 0 := by omega
    have hf3 : ¬ 12 < f := by omega
    have hbr : ∀ b, branchV f b = branchL f b := fun b => by
      unfold branchV forkB
      have : (decide (0 ≤ f) && decide (f ≤ 12)) = true := by simp; omega
      rw [this]; rfl
    have HB : Hid (∀ X, Below w.heap.size w X → X = X) := fun _ _ => rfl
    clear hf
    have E5 : Hid (∀ b X, Calls Tryd.prog 6 #[.int .i64 f, .bool b] X fun e w' => ∃ v c, e = .returned (.slice v 12 c) ∧ Texts w' w'.heap.size (.slice v 12 c) (branchL f b) ∧ Below X.heap.size X w') := fun b X => (EI.out f b X).mono fun e w' h => by
      obtain ⟨v, he, ho, hb⟩ := h
      rw [hbr] at ho
      obtain ⟨x, c, hv⟩ := ho.len
      rw [branchL_len] at hv
      subst hv
      exact ⟨x, c, he, ho.texts, hb⟩
    clear EI ES EQ hbr hn
    go_wp2_with fail
    refine (E5.out false _).mono ?_
    rintro e w5 ⟨xa, xc, rfl, ht, hb⟩
    have H5 : Hid (Below w.heap.size w w5 ∧ Texts w5 w5.heap.size (.slice xa 12 xc) (branchL f false)) := ⟨H4.out.1.trans (hb.mono H4.out.1.size), ht⟩
    clear ht hb H4
    go_wp2_with fail
    refine (E5.out true _).mono ?_
    rintro e w6 ⟨ya, yc, rfl, ht, hb⟩
    have H6 : Hid (Below w.heap.size w w6 ∧ Texts w6 w6.heap.size (.slice xa 12 xc) (branchL f false) ∧ Texts w6 w6.heap.size (.slice ya 12 yc) (branchL f true)) := ⟨H5.out.1.trans (hb.mono H5.out.1.size), (H5.out.2.below hb).up hb.size, ht⟩
    clear ht hb H5 E5
    go_wp2
    go_loopw [8] (fun i wr => ∃ k m : Nat, k ≤ 12 ∧ i = .int .i64 k ∧ wr = w6.drewN m) (fun i _ => 12 - (RowKit.intOf i).toNat)
    case atStart => exact ⟨0, 0, Nat.zero_le _, rfl, rfl⟩
    case round =>
      obtain ⟨k, m, hk, rfl, rfl⟩ := hrel
      by_cases hk12 : k < 12
      · have hkI : (k : Int) < 12 := by omega
        obtain ⟨a1, c1, e1, _, hcell1⟩ := H6.out.2.1.at
        obtain ⟨a2, c2, e2, _, hcell2⟩ := H6.out.2.2.at
        have x1 := hcell1 k (by rw [branchL_len]; exact hk12)
        have x2 := hcell2 k (by rw [branchL_len]; exact hk12)
        obtain ⟨b1, o1, ha1, _, y1⟩ := x1
        obtain ⟨b2, o2, ha2, _, y2⟩ := x2
        simp only [Value.slice.injEq] at e1 e2
        obtain ⟨rfl, -, -⟩ := e1
        obtain ⟨rfl, -, -⟩ := e2
        subst ha1
        subst ha2
        have z1 : (branchL f false)[k]'(by rw [branchL_len]; exact hk12) = entryB f false k := by simp [branchL]
        have z2 : (branchL f true)[k]'(by rw [branchL_len]; exact hk12) = entryB f true k := by simp [branchL]
        rw [z1] at y1
        rw [z2] at y2
        have hal := entry_alike f k
        generalize entryB f false k = X1 at *
        generalize entryB f true k = X2 at *
        clear hcell1 hcell2 z1 z2
        by_cases hkf : (k : Int) < f
        · rw [decide_eq_true hkf] at hal
          go_wp2
          go_quiet (fail)
          go_wp2
          go_roundw
          case rel => exact ⟨k + 1, _, by omega, by go_num, rfl⟩
          case measure => simp [RowKit.intOf]; omega
        · rw [decide_eq_false hkf] at hal
          go_wp2
          go_quiet (fail)
          go_wp2
          go_roundw
          case rel => exact ⟨k + 1, _, by omega, by go_num, rfl⟩
          case measure => simp [RowKit.intOf]; omega
      · have hkI : ¬ (k : Int) < 12 := by omega
        go_wp2
        go_ret
        exact ⟨rfl, H6.out.1.trans ⟨rfl, rfl, rfl, Nat.le_refl _, fun _ _ => rfl⟩⟩
end Go.Proofs.YtkfmhmimclmigaaDoor
