/-
  The program's chains ahead of their first step, their texts, their public text.
-/
import Derived.Test.YtchlopmmhcobdagDoorChain
import Derived.Test.YtchlopmmhcobdagDoorImplMac
namespace Go.Proofs.YtchlopmmhcobdagDoor
open Go.RowKit Go.Lib
set_option linter.unusedVariables false
set_option linter.unusedSimpArgs false

theorem heap_alloc2_keys {w : World} (hK : Keys w) (a b : Obj) : Keys ((w.alloc a).alloc b) := hK.below (((Below.refl w.heap.size w).alloc (Nat.le_refl _) a).alloc (by simp) b) hK.lt
/-- The first k chains are laid. -/
def laidTo (f : Nat → ByteArray) (k : Nat) : Nat → ByteArray := fun j => if j < k then f j else ByteArray.empty
theorem laidTo_next (f : Nat → ByteArray) (k : Nat) : ∀ j, j < 6 → laidTo f (k + 1) j = if j = k then f k else laidTo f k j := fun j _ => by
  unfold laidTo
  by_cases h : j = k
  · subst h; simp
  · rw [if_neg h]
    by_cases h2 : j < k
    · rw [if_pos h2, if_pos (by omega)]
    · rw [if_neg h2, if_neg (by omega)]
/-- In between: the answer's block, the chains' block behind it. -/
def LaidAt (w wr : World) (f : Nat → ByteArray) : Prop :=
  wr.heap[w.heap.size]? = some (.cells (cellsT 6 fun _ => ByteArray.empty) 47 (0, 0)) ∧ wr.heap[w.heap.size + 1]? = some (.cells (cellsT 6 f) 47 (0, 0)) ∧ Below w.heap.size w wr ∧ Keys wr
theorem LaidAt.lt {w wr : World} {f : Nat → ByteArray} (h : LaidAt w wr f) : w.heap.size + 1 < wr.heap.size := (Array.getElem?_eq_some_iff.1 h.2.1).1
theorem LaidAt.below {w wr w1 : World} {f : Nat → ByteArray} (h : LaidAt w wr f) (hb : Below wr.heap.size wr w1) : LaidAt w w1 f := by
  have hl := h.lt
  obtain ⟨h1, h2, h3, h4⟩ := h
  exact ⟨(hb.block _ (by omega)).trans h1, (hb.block _ hl).trans h2, h3.trans (hb.mono (by omega)), h4.below hb h4.lt⟩
theorem LaidAt.put {w wr : World} {f f' : Nat → ByteArray} (h : LaidAt w wr f) (k : Nat) (v : ByteArray) (hK : 0 < w.heap.size) (e : ∀ i, i < 6 → f' i = if i = k then v else f i) : LaidAt w (wr.setCell ⟨w.heap.size + 1, k, none⟩ (.string v)) f' := by
  obtain ⟨h1, h2, h3, h4⟩ := h
  refine ⟨?_, rowT_set h2 k v f' e, h3.setCell (by simp) _, h4.below ((Below.refl w.heap.size wr).setCell (p := ⟨w.heap.size + 1, k, none⟩) (by simp) _) hK⟩
  rw [heap_setCell_other _ _ _ _ (by simp)]
  exact h1

set_option maxHeartbeats 1000000 in
set_option maxRecDepth 10000 in
theorem chainsOf_any (s : ByteArray) (i : Int) (w : World) (hs : s.size ≤ 64) (hi0 : 0 ≤ i) (hi1 : i ≤ 3) (hK : Keys w) :
    Calls Tryd.prog 28 #[.string s, .int .i64 i] w fun e w' => e = .returned (.agg (cellsT 6 fun j => beginB s i j)) ∧ Below w.heap.size w w' := by
  have EP : Hid (∀ n w, 0 ≤ n → n ≤ 10 → Calls Tryd.prog 60 #[.int .i64 n] w fun e w' => e = .returned (.string (numB n)) ∧ Below w.heap.size w w') := fun n w h0 h1 => implPutNum_any n w (by omega) (by omega)
  have EJ : Hid (∀ a b w, a.size ≤ 11 → b.size ≤ 11 → Calls Tryd.prog 59 #[.string a, .string b] w fun e w' => e = .returned (.string (a ++ b)) ∧ Below w.heap.size w w') := fun a b w ha hb => joined_any a b w (by omega) (by omega)
  have EM : Hid (∀ t w, t.size ≤ 22 → Keys w → Calls Tryd.prog 58 #[.string s, .string t] w fun e w' => e = .returned (.string (macB s t)) ∧ Below w.heap.size w w') := fun t w ht hK => implMacB s t w (by omega) (by omega) hK
  have HK : Hid (Keys w ∧ 0 < w.heap.size) := ⟨hK, hK.lt⟩
  clear hs hK
  obtain ⟨f, hf⟩ : ∃ f : Nat → ByteArray, f = fun j : Nat => beginB s i j := ⟨_, rfl⟩
  rw [← hf]
  have HFV : Hid (∀ j : Nat, macB s (numB i ++ numB j) = f j) := fun j => by rw [hf]; rfl
  clear hf
  go_enter Tryd.func28, Tryd.ntmps28
  go_wp2
  go_loopw [7] (fun x wr => ∃ k : Nat, k ≤ 6 ∧ x = .int .i64 k ∧ LaidAt w wr (laidTo f k)) (fun x _ => 6 - (intOf x).toNat)
  case atStart => exact ⟨0, by omega, rfl, heap_alloc2_old w _ _, heap_alloc2_new w _ _, ((Below.refl _ _).alloc (Nat.le_refl _) _).alloc (by simp) _, heap_alloc2_keys HK.out.1 _ _⟩
  case round =>
    obtain ⟨k, hk, rfl, hL⟩ := hrel
    have HL : Hid (LaidAt w wr (laidTo f k)) := hL
    by_cases hlt : k < 6
    · have hkI : (k : Int) < 6 := by omega
      have hk0 : (0 : Int) ≤ (k : Int) := by omega
      clear hL
      go_wp2_with fail
      refine (EP.out _ _ hi0 (by omega)).mono ?_
      rintro e w1 ⟨rfl, hb1⟩
      have HL1 : Hid (LaidAt w w1 (laidTo f k)) := HL.out.below hb1
      clear hb1 HL
      go_wp2_with fail
      refine (EP.out _ _ hk0 (by omega)).mono ?_
      rintro e w2 ⟨rfl, hb2⟩
      have HL2 : Hid (LaidAt w w2 (laidTo f k)) := HL1.out.below hb2
      clear hb2 HL1
      go_wp2_with fail
      refine (EJ.out _ _ _ (numB_size _) (numB_size _)).mono ?_
      rintro e w3 ⟨rfl, hb3⟩
      have HL3 : Hid (LaidAt w w3 (laidTo f k)) := HL2.out.below hb3
      clear hb3 HL2
      go_wp2_with fail
      refine (EM.out _ _ (by have := numB_size i; have := numB_size (k : Int); rw [ByteArray.size_append]; omega) HL3.out.2.2.2).mono ?_
      rintro e w4 ⟨rfl, hb4⟩
      rw [HFV.out k]
      have HL4 : Hid (LaidAt w w4 (laidTo f k)) := HL3.out.below hb4
      obtain ⟨hc, hfz⟩ := rowT_cell HL4.out.2.1 (j := k) hlt
      have HL5 : Hid (LaidAt w (w4.setCell ⟨w.heap.size + 1, k, none⟩ (.string (f k))) (laidTo f (k + 1))) := HL4.out.put k (f k) HK.out.2 (laidTo_next f k)
      generalize f k = V at *
      clear hb4 HL3
      go_wp2
      go_roundw
      case rel => exact ⟨k + 1, by omega, by go_num, HL5.out⟩
      case measure => simp [intOf]; omega
    · have e6 : k = 6 := by omega
      obtain ⟨h1, h2, h3, h4⟩ := hL
      have hg : cellsT 6 (laidTo f k) = cellsT 6 f := cellsT_congr fun j hj => by unfold laidTo; rw [if_pos (by omega)]
      rw [hg] at h2
      have hkI : ¬ (k : Int) < 6 := by omega
      clear e6 hg h4 EP EJ EM HL HFV HK
      go_wp2_with (first | (refine wpList_load_row rfl 47 (.tmp 5) rfl (w.heap.size + 1) rfl _ _ _ _ h2 Tryd.underlying47 rfl (by rw [cellsT_size]; exact info6) ?_) | (refine wpList_store_row rfl 47 (.tmp 4) (.tmp 21) rfl w.heap.size _ rfl rfl _ _ h1 (by rw [cellsT_size]; exact info6) (by rw [cellsT_size, cellsT_size]) (cellsT_one _ _) ?_))
      exact bodyPost_ret (results_cell_row Tryd.results28 _ _ w.heap.size _ _ _ _ rfl (setRow_heap wr _ _ _ _ _ h1) Tryd.underlying47 rfl (by rw [cellsT_size]; exact info6)) rfl ⟨rfl, below_setRow h3 (Nat.le_refl _) _⟩

theorem index6 (f : Nat → ByteArray) (k : Nat) (hk : k < 6) (w : World) : (Instr.index 47 (.agg (cellsT 6 f)) (.int .i64 k)).run Tryd.prog w = .ok (.agg #[.string (f k)]) w := by
  have h := cellsT_get f hk
  have hx : (cellsT 6 f).extract k (k + 1) = #[.string (f k)] := by
    apply Array.ext_getElem?
    intro j
    by_cases hj : j = 0
    · subst hj; simp [Array.getElem?_extract, cellsT_size, h]; omega
    · rw [Array.getElem?_eq_none (by simp [cellsT_size]; omega), Array.getElem?_eq_none (by simp; omega)]
  simp [Instr.index, asIntOf, run_underlying Tryd.underlying47, part, hk, h, hx, go_sem]

set_option maxHeartbeats 1000000 in
set_option maxRecDepth 10000 in
theorem public_any (f : Nat → ByteArray) (w : World) (hf : ∀ j, j < 6 → (f j).size = 32) (hK : Keys w) :
    Calls Tryd.prog 47 #[.agg (cellsT 6 f)] w fun e w' => e = .returned (.string (publicOf f)) ∧ Below w.heap.size w w' := by
  have EJ : Hid (∀ a b w, a.size ≤ 192 → b.size ≤ 32 → Calls Tryd.prog 59 #[.string a, .string b] w fun e w' => e = .returned (.string (a ++ b)) ∧ Below w.heap.size w w') := fun a b w ha hb => joined_any a b w (by omega) (by omega)
  have ED : Hid (∀ t w, t.size ≤ 192 → Keys w → Calls Tryd.prog 57 #[.string t] w fun e w' => e = .returned (.string (shaB t)) ∧ Below w.heap.size w w') := fun t w ht hK => by
    have := implDigest_any t w (by omega) hK
    rw [digV_lo (by omega)] at this
    exact this
  have HF : Hid (∀ j, j < 6 → (f j).size = 32) := hf
  have HK : Hid (Keys w ∧ 0 < w.heap.size) := ⟨hK, hK.lt⟩
  have hg0 : (w.alloc (.cells (cellsT 6 f) 47)).heap[w.heap.size]? = some (.cells (cellsT 6 f) 47 (0, 0)) := heap_alloc_new w _
  clear hf hK
  go_enter Tryd.func47, Tryd.ntmps47
  go_wp2_with (first | (refine wpList_load_row rfl 47 (.tmp 1) rfl w.heap.size rfl _ _ _ _ hg0 Tryd.underlying47 rfl (by rw [cellsT_size]; exact info6) ?_))
  go_loopw [3, 7] (fun a x wr => ∃ k : Nat, k ≤ 6 ∧ x = .int .i64 k ∧ a = .string (catB f k) ∧ Below w.heap.size w wr) (fun _ x _ => 6 - (intOf x).toNat)
  case atStart => exact ⟨0, by omega, rfl, rfl, (Below.refl _ _).alloc (Nat.le_refl _) _⟩
  case round =>
    obtain ⟨k, hk, rfl, rfl, hb⟩ := hrel
    have HB : Hid (Below w.heap.size w wr) := hb
    have hcs := catB_size f k (fun j hj => HF.out j (by omega))
    by_cases hlt : k < 6
    · have hi := index6 f k hlt
      have HS : Hid (catB f k ++ f k = catB f (k + 1)) := rfl
      have hfs := HF.out k hlt
      have E := fun w => EJ.out (catB f k) (f k) w (by omega) (by omega)
      rw [HS.out] at E
      have HE : Hid (∀ w, Calls Tryd.prog 59 #[.string (catB f k), .string (f k)] w fun e w' => e = .returned (.string (catB f (k + 1))) ∧ Below w.heap.size w w') := E
      obtain ⟨c1, hc1⟩ : ∃ c1, c1 = catB f (k + 1) := ⟨_, rfl⟩
      rw [← hc1] at HE
      have HC1 : Hid (c1 = catB f (k + 1)) := hc1
      clear hb hcs HS hfs E hc1
      have hkI : (k : Int) < 6 := by omega
      have hk0 : (0 : Int) ≤ (k : Int) := by omega
      go_wp2_with fail
      refine (HE.out _).mono ?_
      rintro e w1 ⟨rfl, hb1⟩
      have HB1 : Hid (Below w.heap.size w w1) := (HB.out.alloc HB.out.size _).trans (hb1.mono (by have := HB.out.size; simp; omega))
      clear hb1 HE
      go_wp2
      go_roundw
      case rel => exact ⟨k + 1, by omega, by go_num, by rw [HC1.out], HB1.out⟩
      case measure => simp [intOf]; omega
    · have e6 : k = 6 := by omega
      have E := fun w hK => ED.out (catB f k) w (by omega) hK
      have HE : Hid (∀ w, Keys w → Calls Tryd.prog 57 #[.string (catB f k)] w fun e w' => e = .returned (.string (publicOf f)) ∧ Below w.heap.size w w') := by
        rw [e6] at E ⊢
        exact E
      have HKr : Hid (Keys wr) := HK.out.1.below hb HK.out.2
      generalize catB f k = c at *
      have hkI : ¬ (k : Int) < 6 := by omega
      clear e6 E hb hcs
      go_wp2_with fail
      refine (HE.out _ HKr.out).mono ?_
      rintro e w1 ⟨rfl, hb1⟩
      have HB1 : Hid (Below w.heap.size w w1) := HB.out.trans (hb1.mono HB.out.size)
      clear hb1 HE
      go_wp2
      go_ret
      exact ⟨rfl, HB1.out⟩
end Go.Proofs.YtchlopmmhcobdagDoor
