/-
  The program's chains: a step, all of them taken further, their texts, their public text.
-/
import Derived.Test.YtpglcbidfghfkabGreatDoorPkSignV
import Derived.Test.YtpglcbidfghfkabGreatDoorPkTexts
import Derived.Test.YtpglcbidfghfkabGreatDoorPkTextRows
import Derived.Test.YtpglcbidfghfkabGreatDoorPkMix
import Derived.Test.YtpglcbidfghfkabGreatDoorPkMem
namespace Go.Proofs.YtpglcbidfghfkabGreatDoor
open Go.RowKit Go.Lib
set_option linter.unusedVariables false
set_option linter.unusedSimpArgs false

theorem digV_lo {s : ByteArray} (h : s.size ≤ 20000) : digV s = shaB s := by unfold digV; rw [if_neg (by omega)]
theorem cellsT_one (n : Nat) (f : Nat → ByteArray) : (cellsT n f).all (·.oneCell') = true := by simp [cellsT, Value.oneCell']
theorem info6 : (Tryz.prog.info? 175).map (·.size) = some 6 := by kernel_rfl
theorem rowT_cell {w : World} {g n : Nat} {f : Nat → ByteArray} {t : TypeId} (hg : w.heap[g]? = some (.cells (cellsT n f) t (0, 0))) {j : Nat} (hj : j < n) :
    w.cell? ⟨g, j, none⟩ = some (.string (f j)) ∧ w.frozen? ⟨g, j, none⟩ = false :=
  ⟨by rw [cell_of_row w g j _ _ _ hg, cellsT_get _ hj], frozen_of_row w g j _ _ hg⟩
theorem rowT_set {w : World} {g n : Nat} {f : Nat → ByteArray} {t : TypeId} (hg : w.heap[g]? = some (.cells (cellsT n f) t (0, 0))) (j : Nat) (v : ByteArray) (f' : Nat → ByteArray) (h : ∀ i, i < n → f' i = if i = j then v else f i) :
    (w.setCell ⟨g, j, none⟩ (.string v)).heap[g]? = some (.cells (cellsT n f') t (0, 0)) := by
  rw [heap_setCell_same w g j _ _ _ hg, cellsT_set, cellsT_congr h]

set_option maxHeartbeats 400000 in
theorem step_any (g k : Nat) (t : ByteArray) (w : World) (hc : w.cell? ⟨g, k, none⟩ = some (.string t)) (hf : w.frozen? ⟨g, k, none⟩ = false) (hg : g < w.heap.size) (ht : t.size = 32) (hK : Keys w) :
    Calls Tryz.prog 161 #[.pointer (some ⟨g, k, none⟩)] w fun e w' => e = .returned (.tuple #[]) ∧ ∃ w1, Below w.heap.size w w1 ∧ w' = w1.setCell ⟨g, k, none⟩ (.string (shaB t)) := by
  have E := implDigest_any t w (by omega) hK
  rw [digV_lo (by omega)] at E
  generalize shaB t = V at *
  have HE : Hid (Calls Tryz.prog 160 #[.string t] w fun e w' => e = .returned (.string V) ∧ Below w.heap.size w w') := E
  clear E hK
  go_enter Tryz.func161, Tryz.ntmps161
  go_wp2_with fail
  refine HE.out.mono ?_
  rintro e w1 ⟨rfl, hb⟩
  have hc1 : w1.cell? ⟨g, k, none⟩ = some (.string t) := (hb.cell (p := ⟨g, k, none⟩) hg).trans hc
  have hf1 : w1.frozen? ⟨g, k, none⟩ = false := (hb.frozen (p := ⟨g, k, none⟩) hg).trans hf
  have HB : Hid (Below w.heap.size w w1) := hb
  clear hb
  go_wp2
  go_end0
  exact ⟨rfl, w1, HB.out, rfl⟩

/-- Chains behind: the first k at their ends, the next one behind i steps. -/
def tk (f : Nat → ByteArray) (m : Nat → Nat) (k i : Nat) : Nat → ByteArray := fun j => if j < k then stepsB (m j) (f j) else if j = k then stepsB i (f j) else f j
theorem tk_start (f : Nat → ByteArray) (m : Nat → Nat) : ∀ j, j < 6 → tk f m 0 0 j = f j := fun j _ => by
  unfold tk
  rw [if_neg (by omega)]
  split <;> rfl
theorem tk_next (f : Nat → ByteArray) (m : Nat → Nat) (k : Nat) : ∀ j, j < 6 → tk f m (k + 1) 0 j = tk f m k (m k) j := fun j _ => by
  unfold tk
  by_cases h : j < k
  · rw [if_pos h, if_pos (by omega)]
  · rw [if_neg h]
    by_cases h2 : j = k
    · subst h2; rw [if_pos (by omega), if_pos rfl]
    · rw [if_neg (by omega), if_neg h2]
      split <;> rfl
theorem tk_step (f : Nat → ByteArray) (m : Nat → Nat) (k i : Nat) : ∀ j, j < 6 → tk f m k (i + 1) j = if j = k then shaB (tk f m k i k) else tk f m k i j := fun j _ => by
  unfold tk
  by_cases h2 : j = k
  · subst h2; simp [stepsB]
  · rw [if_neg h2, if_neg h2, if_neg h2]
theorem tk_end (f : Nat → ByteArray) (m : Nat → Nat) : ∀ j, j < 6 → tk f m 6 0 j = stepsB (m j) (f j) := fun j hj => by
  unfold tk
  rw [if_pos hj]
theorem tk_size {f : Nat → ByteArray} (m : Nat → Nat) (k i : Nat) (hf : ∀ j, j < 6 → (f j).size = 32) (j : Nat) (hj : j < 6) : (tk f m k i j).size = 32 := by
  unfold tk
  split
  · exact stepsB_size _ (hf j hj)
  · split
    · exact stepsB_size _ (hf j hj)
    · exact hf j hj

/-- In between: the chains in block H, the answer's block behind it. -/
def TakenAt (w wr : World) (f : Nat → ByteArray) : Prop :=
  wr.heap[w.heap.size]? = some (.cells (cellsT 6 f) 175 (0, 0)) ∧ wr.heap[w.heap.size + 1]? = some (.cells (cellsT 6 fun _ => ByteArray.empty) 175 (0, 0)) ∧ Below w.heap.size w wr ∧ Keys wr
theorem TakenAt.congr {w wr : World} {f g : Nat → ByteArray} (h : TakenAt w wr f) (e : ∀ j, j < 6 → g j = f j) : TakenAt w wr g := by
  obtain ⟨h1, h2, h3, h4⟩ := h
  exact ⟨by rw [cellsT_congr e]; exact h1, h2, h3, h4⟩
theorem TakenAt.lt {w wr : World} {f : Nat → ByteArray} (h : TakenAt w wr f) : w.heap.size + 1 < wr.heap.size := (Array.getElem?_eq_some_iff.1 h.2.1).1
theorem TakenAt.put {w wr w1 : World} {f f' : Nat → ByteArray} (h : TakenAt w wr f) (hb : Below wr.heap.size wr w1) (k : Nat) (v : ByteArray) (hK : 1 < w.heap.size) (e : ∀ i, i < 6 → f' i = if i = k then v else f i) : TakenAt w (w1.setCell ⟨w.heap.size, k, none⟩ (.string v)) f' := by
  have hl := h.lt
  obtain ⟨h1, h2, h3, h4⟩ := h
  have g1 := (hb.block _ (by omega)).trans h1
  have g2 := (hb.block _ hl).trans h2
  have hb1 : Below w.heap.size w w1 := h3.trans (hb.mono (by omega))
  refine ⟨rowT_set g1 k v f' e, ?_, hb1.setCell (Nat.le_refl _) _, ?_⟩
  · rw [heap_setCell_other _ _ _ _ (by simp)]
    exact g2
  · exact (h4.below hb (by omega)).below ((Below.refl w.heap.size w1).setCell (p := ⟨w.heap.size, k, none⟩) (Nat.le_refl _) _) hK
end Go.Proofs.YtpglcbidfghfkabGreatDoor

/-
  The program's chains ahead of their first step, their texts, their public text.
-/
namespace Go.Proofs.YtpglcbidfghfkabGreatDoor
open Go.RowKit Go.Lib
set_option linter.unusedVariables false
set_option linter.unusedSimpArgs false

theorem heap_alloc2_keys {w : World} (hK : Keys w) (a b : Obj) : Keys ((w.alloc a).alloc b) := hK.below (((Below.refl w.heap.size w).alloc (Nat.le_refl _) a).alloc (by simp) b) hK.lt
/-- The first k chains are laid. -/
def laidTo (f : Nat → ByteArray) (k : Nat) : Nat → ByteArray := fun j => if j < k then f j else ByteArray.empty
theorem laidTo_next (f : Nat → ByteArray) (k : Nat) : ∀ j, j < 6 → laidTo f (k + 1) j = if j = k then f k else laidTo f k j := fun j _ => by
  unfold laidTo
  by_cases h : j = k
  · subst h; simp
  · rw [if_neg h]
    by_cases h2 : j < k
    · rw [if_pos h2, if_pos (by omega)]
    · rw [if_neg h2, if_neg (by omega)]
/-- In between: the answer's block, the chains' block behind it. -/
def LaidAt (w wr : World) (f : Nat → ByteArray) : Prop :=
  wr.heap[w.heap.size]? = some (.cells (cellsT 6 fun _ => ByteArray.empty) 175 (0, 0)) ∧ wr.heap[w.heap.size + 1]? = some (.cells (cellsT 6 f) 175 (0, 0)) ∧ Below w.heap.size w wr ∧ Keys wr
theorem LaidAt.lt {w wr : World} {f : Nat → ByteArray} (h : LaidAt w wr f) : w.heap.size + 1 < wr.heap.size := (Array.getElem?_eq_some_iff.1 h.2.1).1
theorem LaidAt.below {w wr w1 : World} {f : Nat → ByteArray} (h : LaidAt w wr f) (hb : Below wr.heap.size wr w1) : LaidAt w w1 f := by
  have hl := h.lt
  obtain ⟨h1, h2, h3, h4⟩ := h
  exact ⟨(hb.block _ (by omega)).trans h1, (hb.block _ hl).trans h2, h3.trans (hb.mono (by omega)), h4.below hb h4.lt⟩
theorem LaidAt.put {w wr : World} {f f' : Nat → ByteArray} (h : LaidAt w wr f) (k : Nat) (v : ByteArray) (hK : 1 < w.heap.size) (e : ∀ i, i < 6 → f' i = if i = k then v else f i) : LaidAt w (wr.setCell ⟨w.heap.size + 1, k, none⟩ (.string v)) f' := by
  obtain ⟨h1, h2, h3, h4⟩ := h
  refine ⟨?_, rowT_set h2 k v f' e, h3.setCell (by simp) _, h4.below ((Below.refl w.heap.size wr).setCell (p := ⟨w.heap.size + 1, k, none⟩) (by simp) _) hK⟩
  rw [heap_setCell_other _ _ _ _ (by simp)]
  exact h1

theorem index6 (f : Nat → ByteArray) (k : Nat) (hk : k < 6) (w : World) : (Instr.index 175 (.agg (cellsT 6 f)) (.int .i64 k)).run Tryz.prog w = .ok (.agg #[.string (f k)]) w := by
  have h := cellsT_get f hk
  have hx : (cellsT 6 f).extract k (k + 1) = #[.string (f k)] := by
    apply Array.ext_getElem?
    intro j
    by_cases hj : j = 0
    · subst hj; simp [Array.getElem?_extract, cellsT_size, h]; omega
    · rw [Array.getElem?_eq_none (by simp [cellsT_size]; omega), Array.getElem?_eq_none (by simp; omega)]
  simp [Instr.index, asIntOf, run_underlying Tryz.underlying175, part, hk, h, hx, go_sem]

set_option maxHeartbeats 1000000 in
set_option maxRecDepth 10000 in
theorem public_any (f : Nat → ByteArray) (w : World) (hf : ∀ j, j < 6 → (f j).size = 32) (hK : Keys w) :
    Calls Tryz.prog 148 #[.agg (cellsT 6 f)] w fun e w' => e = .returned (.string (publicOf f)) ∧ Below w.heap.size w w' := by
  have EJ : Hid (∀ a b w, a.size ≤ 192 → b.size ≤ 32 → Calls Tryz.prog 78 #[.string a, .string b] w fun e w' => e = .returned (.string (a ++ b)) ∧ Below w.heap.size w w') := fun a b w ha hb => joined_any a b w (by omega) (by omega)
  have ED : Hid (∀ t w, t.size ≤ 192 → Keys w → Calls Tryz.prog 160 #[.string t] w fun e w' => e = .returned (.string (shaB t)) ∧ Below w.heap.size w w') := fun t w ht hK => by
    have := implDigest_any t w (by omega) hK
    rw [digV_lo (by omega)] at this
    exact this
  have HF : Hid (∀ j, j < 6 → (f j).size = 32) := hf
  have HK : Hid (Keys w ∧ 1 < w.heap.size) := ⟨hK, hK.lt⟩
  have hg0 : (w.alloc (.cells (cellsT 6 f) 175)).heap[w.heap.size]? = some (.cells (cellsT 6 f) 175 (0, 0)) := heap_alloc_new w _
  clear hf hK
  go_enter Tryz.func148, Tryz.ntmps148
  go_wp2_with (first | (refine wpList_load_row rfl 175 (.tmp 1) rfl w.heap.size rfl _ _ _ _ hg0 Tryz.underlying175 rfl (by rw [cellsT_size]; exact info6) ?_))
  go_loopw [3, 7] (fun a x wr => ∃ k : Nat, k ≤ 6 ∧ x = .int .i64 k ∧ a = .string (catB f k) ∧ Below w.heap.size w wr) (fun _ x _ => 6 - (intOf x).toNat)
  case atStart => exact ⟨0, by omega, rfl, rfl, (Below.refl _ _).alloc (Nat.le_refl _) _⟩
  case round =>
    obtain ⟨k, hk, rfl, rfl, hb⟩ := hrel
    have HB : Hid (Below w.heap.size w wr) := hb
    have hcs := catB_size f k (fun j hj => HF.out j (by omega))
    by_cases hlt : k < 6
    · have hi := index6 f k hlt
      have HS : Hid (catB f k ++ f k = catB f (k + 1)) := rfl
      have hfs := HF.out k hlt
      have E := fun w => EJ.out (catB f k) (f k) w (by omega) (by omega)
      rw [HS.out] at E
      have HE : Hid (∀ w, Calls Tryz.prog 78 #[.string (catB f k), .string (f k)] w fun e w' => e = .returned (.string (catB f (k + 1))) ∧ Below w.heap.size w w') := E
      obtain ⟨c1, hc1⟩ : ∃ c1, c1 = catB f (k + 1) := ⟨_, rfl⟩
      rw [← hc1] at HE
      have HC1 : Hid (c1 = catB f (k + 1)) := hc1
      clear hb hcs HS hfs E hc1
      have hkI : (k : Int) < 6 := by omega
      have hk0 : (0 : Int) ≤ (k : Int) := by omega
      go_wp2_with fail
      refine (HE.out _).mono ?_
      rintro e w1 ⟨rfl, hb1⟩
      have HB1 : Hid (Below w.heap.size w w1) := (HB.out.alloc HB.out.size _).trans (hb1.mono (by have := HB.out.size; simp; omega))
      clear hb1 HE
      go_wp2
      go_roundw
      case rel => exact ⟨k + 1, by omega, by go_num, by rw [HC1.out], HB1.out⟩
      case measure => simp [intOf]; omega
    · have e6 : k = 6 := by omega
      have E := fun w hK => ED.out (catB f k) w (by omega) hK
      have HE : Hid (∀ w, Keys w → Calls Tryz.prog 160 #[.string (catB f k)] w fun e w' => e = .returned (.string (publicOf f)) ∧ Below w.heap.size w w') := by
        rw [e6] at E ⊢
        exact E
      have HKr : Hid (Keys wr) := HK.out.1.below hb HK.out.2
      generalize catB f k = c at *
      have hkI : ¬ (k : Int) < 6 := by omega
      clear e6 E hb hcs
      go_wp2_with fail
      refine (HE.out _ HKr.out).mono ?_
      rintro e w1 ⟨rfl, hb1⟩
      have HB1 : Hid (Below w.heap.size w w1) := HB.out.trans (hb1.mono HB.out.size)
      clear hb1 HE
      go_wp2
      go_ret
      exact ⟨rfl, HB1.out⟩
end Go.Proofs.YtpglcbidfghfkabGreatDoor

/-
  The program's chains that begin with the Ends of a signature.
-/
namespace Go.Proofs.YtpglcbidfghfkabGreatDoor
open Go.RowKit Go.Lib
set_option linter.unusedVariables false
set_option linter.unusedSimpArgs false

set_option maxHeartbeats 1000000 in
set_option maxRecDepth 10000 in
theorem chainsAt_any (v : Value) (l : List ByteArray) (w : World) (h : Texts w w.heap.size v l) (h6 : l.length = 6) (hK : Keys w) :
    Calls Tryz.prog 146 #[v] w fun e w' => e = .returned (.agg (cellsT 6 fun j => l.getD j ByteArray.empty)) ∧ Below w.heap.size w w' := by
  have HT : Hid (∀ W, Below w.heap.size w W → Texts W w.heap.size v l) := fun W hb => h.below hb
  obtain ⟨a, cap, rfl, hcap, hc⟩ := h.at
  rw [h6] at HT ⊢
  have HG : Hid (∀ (W : World), Below w.heap.size w W → ∀ j, j < 6 → ∃ b off, a = some ⟨b, off, none⟩ ∧ W.cell? ⟨b, off + j, none⟩ = some (.string (l.getD j ByteArray.empty))) := fun W hb j hj => by
    have hjl : j < l.length := by omega
    obtain ⟨b, off, ha, hB, hcell⟩ := hc j hjl
    refine ⟨b, off, ha, (hb.cell (p := ⟨b, off + j, none⟩) hB).trans ?_⟩
    rw [hcell]
    simp [List.getD, hjl]
  have HK : Hid (Keys w ∧ 1 < w.heap.size) := ⟨hK, hK.lt⟩
  clear hc hcap h HT hK h6
  obtain ⟨f, hf⟩ : ∃ f : Nat → ByteArray, f = fun j : Nat => l.getD j ByteArray.empty := ⟨_, rfl⟩
  have HF : Hid (∀ j : Nat, l.getD j ByteArray.empty = f j) := fun j => by rw [hf]
  rw [← hf]
  clear hf
  go_enter Tryz.func146, Tryz.ntmps146
  go_wp2
  go_loopw [5] (fun x wr => ∃ k : Nat, k ≤ 6 ∧ x = .int .i64 k ∧ LaidAt w wr (laidTo f k)) (fun x _ => 6 - (intOf x).toNat)
  case atStart => exact ⟨0, by omega, rfl, heap_alloc2_old w _ _, heap_alloc2_new w _ _, ((Below.refl _ _).alloc (Nat.le_refl _) _).alloc (by simp) _, heap_alloc2_keys HK.out.1 _ _⟩
  case round =>
    obtain ⟨k, hk, rfl, hL⟩ := hrel
    by_cases hlt : k < 6
    · obtain ⟨b, off, rfl, hcell⟩ := HG.out wr hL.2.2.1 k hlt
      rw [HF.out k] at hcell
      obtain ⟨hc, hfz⟩ := rowT_cell hL.2.1 (j := k) hlt
      have HL5 : Hid (LaidAt w (wr.setCell ⟨w.heap.size + 1, k, none⟩ (.string (f k))) (laidTo f (k + 1))) := hL.put k (f k) HK.out.2 (laidTo_next f k)
      generalize f k = V at *
      have hkI : (k : Int) < 6 := by omega
      have hk0 : (0 : Int) ≤ (k : Int) := by omega
      clear hL
      go_wp2
      go_roundw
      case rel => exact ⟨k + 1, by omega, by go_num, HL5.out⟩
      case measure => simp [intOf]; omega
    · have e6 : k = 6 := by omega
      obtain ⟨h1, h2, h3, h4⟩ := hL
      have hg : cellsT 6 (laidTo f k) = cellsT 6 f := cellsT_congr fun j hj => by unfold laidTo; rw [if_pos (by omega)]
      rw [hg] at h2
      have hkI : ¬ (k : Int) < 6 := by omega
      clear e6 hg h4 HG HK HF
      go_wp2_with (first | (refine wpList_load_row rfl 175 (.tmp 3) rfl (w.heap.size + 1) rfl _ _ _ _ h2 Tryz.underlying175 rfl (by rw [cellsT_size]; exact info6) ?_) | (refine wpList_store_row rfl 175 (.tmp 2) (.tmp 16) rfl w.heap.size _ rfl rfl _ _ h1 (by rw [cellsT_size]; exact info6) (by rw [cellsT_size, cellsT_size]) (cellsT_one _ _) ?_))
      exact bodyPost_ret (results_cell_row Tryz.results146 _ _ w.heap.size _ _ _ _ rfl (setRow_heap wr _ _ _ _ _ h1) Tryz.underlying175 rfl (by rw [cellsT_size]; exact info6)) rfl ⟨rfl, below_setRow h3 (Nat.le_refl _) _⟩
end Go.Proofs.YtpglcbidfghfkabGreatDoor

/-
  The program's chains taken further, each as far as a closure tells.
-/
namespace Go.Proofs.YtpglcbidfghfkabGreatDoor
open Go.RowKit Go.Lib
set_option linter.unusedVariables false
set_option linter.unusedSimpArgs false

set_option maxHeartbeats 1000000 in
set_option maxRecDepth 10000 in
theorem takenLeft_any (f : Nat → ByteArray) (m : Nat → Nat) (d : Nat) (w : World) (hf : ∀ j, j < 6 → (f j).size = 32) (hm : ∀ j, j < 6 → m j ≤ 15) (hK : Keys w)
    (EF : ∀ (k : Nat) (W : World), k < 6 → Below w.heap.size w W → Calls Tryz.prog 145 #[.int .i64 k, .pointer (some ⟨d, 0, none⟩)] W fun e W' => e = .returned (.int .i64 (m k : Nat)) ∧ W' = W) :
    Calls Tryz.prog 147 #[.agg (cellsT 6 f), .func (.func 145) #[] #[.pointer (some ⟨d, 0, none⟩)]] w fun e w' => e = .returned (.agg (cellsT 6 fun j => stepsB (m j) (f j))) ∧ Below w.heap.size w w' := by
  have HEF : Hid (∀ (k : Nat) (W : World), k < 6 → Below w.heap.size w W → Calls Tryz.prog 145 #[.int .i64 k, .pointer (some ⟨d, 0, none⟩)] W fun e W' => e = .returned (.int .i64 (m k : Nat)) ∧ W' = W) := EF
  have HF : Hid (∀ j, j < 6 → (f j).size = 32) := hf
  have HM : Hid (∀ j, j < 6 → m j ≤ 15) := hm
  have HK : Hid (Keys w ∧ 1 < w.heap.size) := ⟨hK, hK.lt⟩
  have hmf : ∀ (fn : Fn) (first cap : Array Value) (w : World), (Instr.makeFunc fn first cap).run Tryz.prog w = .ok (.func fn first cap) w := fun _ _ _ _ => rfl
  clear EF hf hm hK
  go_enter Tryz.func147, Tryz.ntmps147
  go_wp2
  go_loopw [7] (fun x wr => ∃ k : Nat, k ≤ 6 ∧ x = .int .i64 k ∧ TakenAt w wr (tk f m k 0)) (fun x _ => 6 - (intOf x).toNat)
  case atStart =>
    refine ⟨0, by omega, rfl, ?_⟩
    refine TakenAt.congr ⟨heap_alloc2_old w _ _, heap_alloc2_new w _ _, ((Below.refl _ _).alloc (Nat.le_refl _) _).alloc (by simp) _, ?_⟩ (tk_start f m)
    exact HK.out.1.below (((Below.refl w.heap.size w).alloc (Nat.le_refl _) _).alloc (by simp) _) HK.out.2
  case round =>
    obtain ⟨k, hk, rfl, hT⟩ := hrel
    by_cases hlt : k < 6
    · have HT : Hid (TakenAt w wr (tk f m k 0)) := hT
      have EK := HEF.out k wr hlt hT.2.2.1
      have hmk := HM.out k hlt
      have HN : Hid (∀ j, j < 6 → tk f m (k + 1) 0 j = tk f m k (m k) j) := tk_next f m k
      obtain ⟨mk, hM⟩ : ∃ mk, mk = m k := ⟨_, rfl⟩
      rw [← hM] at EK hmk HN
      have HE : Hid (Calls Tryz.prog 145 #[.int .i64 k, .pointer (some ⟨d, 0, none⟩)] wr fun e W' => e = .returned (.int .i64 (mk : Nat)) ∧ W' = wr) := EK
      clear EK hM hT
      have hkI : (k : Int) < 6 := by omega
      have hk0 : (0 : Int) ≤ (k : Int) := by omega
      go_wp2_with fail
      refine HE.out.mono ?_
      rintro e w0 ⟨rfl, rfl⟩
      go_wp2
      go_loopw [16] (fun x wr => ∃ i : Nat, i ≤ mk ∧ x = .int .i64 i ∧ TakenAt w wr (tk f m k i)) (fun x _ => mk - (intOf x).toNat)
      case atStart => exact ⟨0, by omega, rfl, HT.out⟩
      case round =>
        clear HT HE
        obtain ⟨i, hi, rfl, hT⟩ := hrel
        have HT : Hid (TakenAt w wr (tk f m k i)) := hT
        by_cases hil : i < mk
        · have hl := hT.lt
          obtain ⟨hc, hfz⟩ := rowT_cell hT.1 (j := k) hlt
          have E := step_any w.heap.size k (tk f m k i k) wr hc hfz (by omega) (tk_size m k i HF.out k hlt) hT.2.2.2
          have HE : Hid (Calls Tryz.prog 161 #[.pointer (some ⟨w.heap.size, k, none⟩)] wr fun e w' => e = .returned (.tuple #[]) ∧ ∃ w1, Below wr.heap.size wr w1 ∧ w' = w1.setCell ⟨w.heap.size, k, none⟩ (.string (shaB (tk f m k i k)))) := E
          have HP : Hid (∀ w1, Below wr.heap.size wr w1 → TakenAt w (w1.setCell ⟨w.heap.size, k, none⟩ (.string (shaB (tk f m k i k)))) (tk f m k (i + 1))) := fun w1 hb => hT.put hb k _ HK.out.2 (tk_step f m k i)
          have hiI : (i : Int) < (mk : Int) := by omega
          clear E hc hfz hT hl HT
          go_wp2_with fail
          refine HE.out.mono ?_
          rintro e w2 ⟨rfl, w1, hb, rfl⟩
          have HT2 := HP.out w1 hb
          have HT3 : Hid (TakenAt w (w1.setCell ⟨w.heap.size, k, none⟩ (.string (shaB (tk f m k i k)))) (tk f m k (i + 1))) := HT2
          generalize w1.setCell ⟨w.heap.size, k, none⟩ (.string (shaB (tk f m k i k))) = w3 at *
          clear hb HT2 HP HE
          go_wp2
          go_roundw
          case rel => exact ⟨i + 1, by omega, by go_num, HT3.out⟩
          case measure => simp [intOf]; omega
        · have ei : i = mk := by omega
          have HT2 : Hid (TakenAt w wr (tk f m (k + 1) 0)) := hT.congr (by rw [ei]; exact HN.out)
          have hiI : ¬ (i : Int) < (mk : Int) := by omega
          clear hT HT ei
          go_wp2
          go_roundw
          case rel => exact ⟨k + 1, by omega, by go_num, HT2.out⟩
          case measure => simp [intOf]; omega
    · have e6 : k = 6 := by omega
      have hT6 := hT.congr (g := fun j => stepsB (m j) (f j)) (by rw [e6]; exact fun j hj => (tk_end f m j hj).symm)
      obtain ⟨h1, h2, h3, h4⟩ := hT6
      have hkI : ¬ (k : Int) < 6 := by omega
      clear hT e6 h4 HEF HF HM HK
      obtain ⟨g, hg⟩ : ∃ g, g = fun j => stepsB (m j) (f j) := ⟨_, rfl⟩
      rw [← hg] at h1
      have HG : Hid (g = fun j => stepsB (m j) (f j)) := hg
      clear hg
      go_wp2_with (first | (refine wpList_load_row rfl 175 (.tmp 2) rfl w.heap.size rfl _ _ _ _ h1 Tryz.underlying175 rfl (by rw [cellsT_size]; exact info6) ?_) | (refine wpList_store_row rfl 175 (.tmp 4) (.tmp 22) rfl (w.heap.size + 1) _ rfl rfl _ _ h2 (by rw [cellsT_size]; exact info6) (by rw [cellsT_size, cellsT_size]) (cellsT_one _ _) ?_))
      exact bodyPost_ret (results_cell_row Tryz.results147 _ _ (w.heap.size + 1) _ _ _ _ rfl (setRow_heap wr _ _ _ _ _ h2) Tryz.underlying175 rfl (by rw [cellsT_size]; exact info6)) rfl ⟨ret_agg (by rw [HG.out]), below_setRow h3 (by omega) _⟩
end Go.Proofs.YtpglcbidfghfkabGreatDoor
