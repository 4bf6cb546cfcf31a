/-
  Rows of texts that can be read; are all of 32 bytes?
-/
import Derived.Test.YtkfmhmimclmigaaDoorPkMem
import Derived.Deep.QuietTactic
import Derived.BigQuiet
namespace Go.Proofs.YtkfmhmimclmigaaDoor
open Go.RowKit Go.Lib
set_option linter.unusedVariables false

/-- The slice v holds the texts l, in a row that lies ahead of B. -/
def Texts (w : World) (B : Nat) (v : Value) (l : List ByteArray) : Prop :=
  ∃ a cap, v = .slice a l.length cap ∧ (l.length = 0 ∨ ∃ b off, a = some ⟨b, off, none⟩ ∧ b < B ∧ ∀ j (h : j < l.length), w.cell? ⟨b, off + j, none⟩ = some (.string l[j])) ∧ l.length ≤ cap
theorem Texts.below {w w' : World} {B : Nat} {v : Value} {l : List ByteArray} (h : Texts w B v l) (hb : Below B w w') : Texts w' B v l := by
  obtain ⟨a, cap, hv, h | ⟨b, off, ha, hB, hc⟩, hcap⟩ := h
  · exact ⟨a, cap, hv, .inl h, hcap⟩
  · exact ⟨a, cap, hv, .inr ⟨b, off, ha, hB, fun j hj => (hb.cell (p := ⟨b, off + j, none⟩) hB).trans (hc j hj)⟩, hcap⟩
theorem Texts.up {w : World} {B B' : Nat} {v : Value} {l : List ByteArray} (h : Texts w B v l) (hB : B ≤ B') : Texts w B' v l := by
  obtain ⟨a, cap, hv, h | ⟨b, off, ha, hb, hc⟩, hcap⟩ := h
  · exact ⟨a, cap, hv, .inl h, hcap⟩
  · exact ⟨a, cap, hv, .inr ⟨b, off, ha, Nat.lt_of_lt_of_le hb hB, hc⟩, hcap⟩

theorem infoText : (Tryd.prog.info? 9).map (fun i => (i.zero, i.size, i.bytes)) = some (some (.string ByteArray.empty), 1, 16) := by kernel_rfl
/-- Are all of 32 bytes? -/
def wideB (l : List ByteArray) : Bool := l.all fun t => decide ((t.size : Int) = 32)
theorem ret_bool {a b : Bool} (h : a = b) : Ending.returned (.bool a) = .returned (.bool b) := by rw [h]
theorem wideB_no {l : List ByteArray} {k : Nat} (hk : k < l.length) (h : ¬ (l[k].size : Int) = 32) : wideB l = false := by
  unfold wideB
  rw [List.all_eq_false]
  exact ⟨l[k], List.getElem_mem hk, by simpa using h⟩
theorem wideB_yes {l : List ByteArray} (h : ∀ j (hj : j < l.length), (l[j].size : Int) = 32) : wideB l = true := by
  unfold wideB
  rw [List.all_eq_true]
  intro t ht
  obtain ⟨j, hj, rfl⟩ := List.getElem_of_mem ht
  simpa using h j hj
theorem wideB_at {l : List ByteArray} (h : wideB l = true) {j : Nat} (hj : j < l.length) : l[j].size = 32 := by
  unfold wideB at h
  have := List.all_eq_true.1 h l[j] (List.getElem_mem hj)
  have h2 : (l[j].size : Int) = 32 := by simpa using this
  omega
end Go.Proofs.YtkfmhmimclmigaaDoor

/-
  Rows of cells that hold texts.
-/
namespace Go.Proofs.YtkfmhmimclmigaaDoor
open Go.RowKit Go.Lib
set_option linter.unusedVariables false
set_option linter.unusedSimpArgs false

/-- n texts, as cells. -/
def cellsT (n : Nat) (f : Nat → ByteArray) : Array Value := ((List.range n).map fun j => Value.string (f j)).toArray
theorem cellsT_size (n : Nat) (f : Nat → ByteArray) : (cellsT n f).size = n := by simp [cellsT]
theorem cellsT_get {n : Nat} (f : Nat → ByteArray) {j : Nat} (h : j < n) : (cellsT n f)[j]? = some (.string (f j)) := by simp [cellsT, h]
theorem cellsT_congr {n : Nat} {f g : Nat → ByteArray} (h : ∀ j, j < n → f j = g j) : cellsT n f = cellsT n g := by
  unfold cellsT
  congr 1
  apply List.map_congr_left
  intro j hj
  rw [h j (by simpa using hj)]
theorem cellsT_set (n : Nat) (f : Nat → ByteArray) (i : Nat) (v : ByteArray) : (cellsT n f).setIfInBounds i (.string v) = cellsT n (fun j => if j = i then v else f j) := by
  apply Array.ext_getElem?
  intro k
  by_cases hk : k < n
  · rw [cellsT_get _ hk, Array.getElem?_setIfInBounds]
    by_cases e : i = k
    · subst e; simp [cellsT_size, hk]
    · rw [if_neg e, cellsT_get _ hk, if_neg (fun h => e h.symm)]
  · rw [Array.getElem?_eq_none (by simp [cellsT_size]; omega), Array.getElem?_eq_none (by simp [cellsT_size]; omega)]
/-- The first k texts are there. -/
def firstT (l : List ByteArray) (k : Nat) : Nat → ByteArray := fun j => if j < k then l.getD j ByteArray.empty else ByteArray.empty
theorem firstT_set (l : List ByteArray) (n k : Nat) (hk : k < l.length) : (cellsT n (firstT l k)).setIfInBounds k (.string l[k]) = cellsT n (firstT l (k + 1)) := by
  rw [cellsT_set]
  apply cellsT_congr
  intro j _
  unfold firstT
  by_cases h : j = k
  · subst h; simp [List.getD, hk]
  · rw [if_neg h]
    by_cases h2 : j < k
    · rw [if_pos h2, if_pos (by omega)]
    · rw [if_neg h2, if_neg (by omega)]

theorem make_texts (w : World) (n : Nat) (l : List ByteArray) (hn : n ≤ 1048576) : ∃ w1, (Instr.makeSlice 25 (.int .i64 (n : Int)) (.int .i64 (n : Int))).run Tryd.prog w = .ok (.slice (some ⟨w.heap.size, 0, none⟩) n n) w1 ∧ w1.heap[w.heap.size]? = some (.cells (cellsT n (firstT l 0)) 9 (0, 0)) ∧ Below w.heap.size w w1 := by
  obtain ⟨i0, hi, hz0, hz1, hz2⟩ := info_parts infoText
  have h := run_make (P := Tryd.prog) w 25 9 i0 (.string ByteArray.empty) Tryd.underlying25 hi hz0 .i64 .i64 n n (by omega) (by omega) (by rw [hz2]; omega) (by omega)
  simp only [Int.toNat_natCast] at h
  refine ⟨_, h, ?_, (Below.refl _ _).alloc (Nat.le_refl _) _⟩
  rw [(MapKept.heap_alloc w _).1, hz1]
  refine congrArg (fun c => some (Obj.cells c 9 (0, 0))) ?_
  apply Array.toList_inj.1
  rw [Nat.mul_one]
  refine Eq.trans (toList_madeCells_one (.string ByteArray.empty) n) ?_
  unfold cellsT firstT
  simp [List.map_const']
end Go.Proofs.YtkfmhmimclmigaaDoor

/-
  Rows of texts: what the laws do with them ahead of a call and behind it.
-/
namespace Go.Proofs.YtkfmhmimclmigaaDoor
open Go.RowKit Go.Lib
set_option linter.unusedVariables false

/-- The law's bound on a row of texts: where it is no less than 0, the row and each of its texts are within it. -/
def SzAns (l : List ByteArray) (e : Ending) : Prop := ∃ r : Int, e = .returned (.int .i64 r) ∧ -1048577 ≤ r ∧ r ≤ 1048576 ∧ (r < 0 ∨ (l.length ≤ 1048576 ∧ ∀ j (h : j < l.length), l[j].size ≤ 1048576))


/-- The slice v holds the texts l in a row of its own, that is no longer. -/
def OwnS (w : World) (g : Nat) (v : Value) (l : List ByteArray) : Prop := v = .slice (some ⟨g, 0, none⟩) l.length l.length ∧ w.heap[g]? = some (.cells (cellsT l.length (firstT l l.length)) 9 (0, 0))
theorem OwnS.texts {w : World} {g B : Nat} {v : Value} {l : List ByteArray} (h : OwnS w g v l) (hB : g < B) : Texts w B v l := by
  refine ⟨_, _, h.1, .inr ⟨g, 0, rfl, hB, fun j hj => ?_⟩, Nat.le_refl _⟩
  rw [Nat.zero_add, cell_of_row w g j _ _ _ h.2, cellsT_get _ hj, firstT, if_pos hj]
  simp [List.getD, hj]

theorem OwnS.lt {w : World} {g : Nat} {v : Value} {l : List ByteArray} (h : OwnS w g v l) : g < w.heap.size := (Array.getElem?_eq_some_iff.1 h.2).1
theorem OwnS.below {w w' : World} {g B : Nat} {v : Value} {l : List ByteArray} (h : OwnS w g v l) (hb : Below B w w') (hB : g < B) : OwnS w' g v l := ⟨h.1, (hb.block g hB).trans h.2⟩


set_option maxHeartbeats 400000 in
theorem eqTexts_any (v1 v2 : Value) (l : List ByteArray) (w : World) (B : Nat) (h1 : Texts w B v1 l) (h2 : Texts w B v2 l) (hl : l.length ≤ 1048577) :
    Calls Tryd.prog 9 #[v1, v2] w fun e w' => e = .returned (.bool true) ∧ Below w.heap.size w w' := by
  obtain ⟨a1, cap1, rfl, hc1, _⟩ := h1
  obtain ⟨a2, cap2, rfl, hc2, _⟩ := h2
  have H1 : Hid (l.length = 0 ∨ ∃ b off, a1 = some ⟨b, off, none⟩ ∧ b < B ∧ ∀ j (h : j < l.length), w.cell? ⟨b, off + j, none⟩ = some (.string l[j])) := hc1
  have H2 : Hid (l.length = 0 ∨ ∃ b off, a2 = some ⟨b, off, none⟩ ∧ b < B ∧ ∀ j (h : j < l.length), w.cell? ⟨b, off + j, none⟩ = some (.string l[j])) := hc2
  clear hc1 hc2
  obtain ⟨n, hn⟩ : ∃ n, n = l.length := ⟨_, rfl⟩
  have HN : Hid (n = l.length) := hn
  rw [← hn] at hl ⊢
  clear hn
  go_enter Tryd.func9, Tryd.ntmps9
  go_wp2
  go_loopw [5] (fun i wr => ∃ k m : Nat, k ≤ n ∧ i = .int .i64 k ∧ wr = w.drewN m) (fun i _ => n - (intOf i).toNat)
  case atStart => exact ⟨0, 0, Nat.zero_le _, rfl, rfl⟩
  case round =>
    obtain ⟨k, m, hk, rfl, rfl⟩ := hrel
    by_cases hkn : k < n
    · have hkl : k < l.length := by rw [← HN.out]; exact hkn
      rcases H1.out with h0 | ⟨b1, off1, rfl, hB1, hcell1⟩
      · omega
      rcases H2.out with h0 | ⟨b2, off2, rfl, hB2, hcell2⟩
      · omega
      have hc1 := hcell1 k hkl
      have hc2 := hcell2 k hkl
      have hknI : (k : Int) < (n : Int) := by omega
      generalize l[k] = t at *
      clear hcell1 hcell2 H1 H2 HN
      go_wp2
      go_quiet (fail)
      go_wp2
      go_roundw
      case rel => exact ⟨k + 1, _, by omega, by go_num, rfl⟩
      case measure => simp [intOf]; omega
    · clear H1 H2 HN
      go_wp2
      go_ret
      exact ⟨rfl, ⟨rfl, rfl, rfl, Nat.le_refl _, fun _ _ => rfl⟩⟩
end Go.Proofs.YtkfmhmimclmigaaDoor

/-
  A row of texts that came in can be read.
-/
namespace Go.Proofs.YtkfmhmimclmigaaDoor
open Go.RowKit Go.Lib
set_option linter.unusedVariables false

/-- An argument that is a row of texts. -/
def TextsArg (w : World) (v : Value) (l : List ByteArray) : Prop := Texts w w.heap.size v l ∧ l.length ≤ 9223372036854775807 ∧ ∀ j (hj : j < l.length), l[j].size ≤ 9223372036854775807
theorem textsArg_nil (w : World) : TextsArg w (.slice none 0 0) [] := ⟨⟨none, 0, rfl, .inl rfl, Nat.le_refl _⟩, by simp, fun j hj => by simp at hj⟩
theorem textsArg_of {w : World} {x : Addr} {len cap : Nat} {ss : List ByteArray} (hl : len ≤ cap) (hm : cap ≤ maxLen) (hz : ss.length = cap) (hcell : ∀ i, i < ss.length → w.cell? (x.add i) = some (.string (ss.getD i ByteArray.empty))) (hw : ∀ s ∈ ss, s.size ≤ maxLen) :
    TextsArg w (.slice (some x) len cap) (ss.take len) := by
  unfold maxLen at hm hw
  have hlen : (ss.take len).length = len := by rw [List.length_take]; omega
  refine ⟨⟨some x, cap, by rw [hlen], ?_, by omega⟩, by omega, fun j hj => hw _ ?_⟩
  · by_cases h0 : len = 0
    · exact .inl (by omega)
    obtain ⟨b, off, spot⟩ := x
    have hc := hcell 0 (by omega)
    have hspot : spot = none := by simpa [Addr.add] using World.cell?_spot hc
    subst hspot
    have hadd : ∀ i, (⟨b, off, none⟩ : Addr).add i = ⟨b, off + i, none⟩ := fun i => by unfold Addr.add; split <;> simp_all
    rw [hadd] at hc
    refine .inr ⟨b, off, rfl, World.block_lt_of_cell? w _ hc, fun j hj => ?_⟩
    have h1 := hcell j (by omega)
    rw [hadd] at h1
    rw [h1, List.getElem_take]
    have hj' : j < ss.length := by omega
    simp [List.getD, hj']
  · rw [List.getElem_take]
    exact List.getElem_mem _
theorem int_bd {n : Int} (h : (Lit.int .i64 n).wf = true) : -9223372036854775808 ≤ n ∧ n ≤ 9223372036854775807 := by simpa [Lit.wf, IntKind.min, IntKind.max, IntKind.bits, IntKind.signed] using h
end Go.Proofs.YtkfmhmimclmigaaDoor
