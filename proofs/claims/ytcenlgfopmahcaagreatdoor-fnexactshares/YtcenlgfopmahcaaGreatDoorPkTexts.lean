/-
  Rows of texts that can be read; are all of 32 bytes?
-/
import Derived.Test.YtcenlgfopmahcaaGreatDoorPkMem
import Derived.Deep.QuietTactic
import Derived.BigQuiet
import Derived.WalkKit
import Derived.WalkSpells
namespace Go.Proofs.YtcenlgfopmahcaaGreatDoor
open Go.RowKit Go.Lib
set_option linter.unusedVariables false

/-- The slice v holds the texts l, in a row that lies ahead of B. -/
def Texts (w : World) (B : Nat) (v : Value) (l : List ByteArray) : Prop :=
  ∃ a cap, v = .slice a l.length cap ∧ (l.length = 0 ∨ ∃ b off, a = some ⟨b, off, none⟩ ∧ b < B ∧ ∀ j (h : j < l.length), w.cell? ⟨b, off + j, none⟩ = some (.string l[j])) ∧ l.length ≤ cap
theorem Texts.below {w w' : World} {B : Nat} {v : Value} {l : List ByteArray} (h : Texts w B v l) (hb : Below B w w') : Texts w' B v l := by
  obtain ⟨a, cap, hv, h | ⟨b, off, ha, hB, hc⟩, hcap⟩ := h
  · exact ⟨a, cap, hv, .inl h, hcap⟩
  · exact ⟨a, cap, hv, .inr ⟨b, off, ha, hB, fun j hj => (hb.cell (p := ⟨b, off + j, none⟩) hB).trans (hc j hj)⟩, hcap⟩
theorem Texts.up {w : World} {B B' : Nat} {v : Value} {l : List ByteArray} (h : Texts w B v l) (hB : B ≤ B') : Texts w B' v l := by
  obtain ⟨a, cap, hv, h | ⟨b, off, ha, hb, hc⟩, hcap⟩ := h
  · exact ⟨a, cap, hv, .inl h, hcap⟩
  · exact ⟨a, cap, hv, .inr ⟨b, off, ha, Nat.lt_of_lt_of_le hb hB, hc⟩, hcap⟩

theorem infoText : (Tryz.prog.info? 9).map (fun i => (i.zero, i.size, i.bytes)) = some (some (.string ByteArray.empty), 1, 16) := by kernel_rfl
/-- Are all of 32 bytes? -/
def wideB (l : List ByteArray) : Bool := l.all fun t => decide ((t.size : Int) = 32)
theorem ret_bool {a b : Bool} (h : a = b) : Ending.returned (.bool a) = .returned (.bool b) := by rw [h]
theorem wideB_no {l : List ByteArray} {k : Nat} (hk : k < l.length) (h : ¬ (l[k].size : Int) = 32) : wideB l = false := by
  unfold wideB
  rw [List.all_eq_false]
  exact ⟨l[k], List.getElem_mem hk, by simpa using h⟩
theorem wideB_yes {l : List ByteArray} (h : ∀ j (hj : j < l.length), (l[j].size : Int) = 32) : wideB l = true := by
  unfold wideB
  rw [List.all_eq_true]
  intro t ht
  obtain ⟨j, hj, rfl⟩ := List.getElem_of_mem ht
  simpa using h j hj
theorem wideB_at {l : List ByteArray} (h : wideB l = true) {j : Nat} (hj : j < l.length) : l[j].size = 32 := by
  unfold wideB at h
  have := List.all_eq_true.1 h l[j] (List.getElem_mem hj)
  have h2 : (l[j].size : Int) = 32 := by simpa using this
  omega
end Go.Proofs.YtcenlgfopmahcaaGreatDoor

/-
  What SigRight and Verify answer.
-/
namespace Go.Proofs.YtcenlgfopmahcaaGreatDoor
open Go.RowKit Go.Lib
set_option linter.unusedVariables false
set_option linter.unusedSimpArgs false

def sigRB (k : Int) (el pl : List ByteArray) : Bool := decide (0 ≤ k ∧ k ≤ 3) && decide ((el.length : Int) = 6) && decide ((pl.length : Int) = 2) && wideB el && wideB pl
theorem sigRB_key {k : Int} {el pl : List ByteArray} (h : ¬ (0 ≤ k ∧ k ≤ 3)) : sigRB k el pl = false := by unfold sigRB; rw [decide_eq_false h]; rfl
theorem sigRB_ends {k : Int} {el pl : List ByteArray} (h0 : 0 ≤ k ∧ k ≤ 3) (h : ¬ (el.length : Int) = 6) : sigRB k el pl = false := by unfold sigRB; rw [decide_eq_true h0, decide_eq_false h]; rfl
theorem sigRB_path {k : Int} {el pl : List ByteArray} (h0 : 0 ≤ k ∧ k ≤ 3) (h1 : (el.length : Int) = 6) (h : ¬ (pl.length : Int) = 2) : sigRB k el pl = false := by unfold sigRB; rw [decide_eq_true h0, decide_eq_true h1, decide_eq_false h]; rfl
theorem sigRB_rest {k : Int} {el pl : List ByteArray} (h0 : 0 ≤ k ∧ k ≤ 3) (h1 : (el.length : Int) = 6) (h2 : (pl.length : Int) = 2) : sigRB k el pl = (wideB el && wideB pl) := by unfold sigRB; rw [decide_eq_true h0, decide_eq_true h1, decide_eq_true h2]; rfl
theorem sigRB_yes {k : Int} {el pl : List ByteArray} (h : sigRB k el pl = true) : (0 ≤ k ∧ k ≤ 3) ∧ el.length = 6 ∧ pl.length = 2 ∧ wideB el = true ∧ wideB pl = true := by
  unfold sigRB at h
  simp at h
  exact ⟨h.1.1.1.1, by omega, by omega, h.1.2, h.2⟩
end Go.Proofs.YtcenlgfopmahcaaGreatDoor

/-
  Rows of cells that hold texts.
-/
namespace Go.Proofs.YtcenlgfopmahcaaGreatDoor
open Go.RowKit Go.Lib
set_option linter.unusedVariables false
set_option linter.unusedSimpArgs false

/-- n texts, as cells. -/
def cellsT (n : Nat) (f : Nat → ByteArray) : Array Value := ((List.range n).map fun j => Value.string (f j)).toArray
theorem cellsT_size (n : Nat) (f : Nat → ByteArray) : (cellsT n f).size = n := by simp [cellsT]
theorem cellsT_get {n : Nat} (f : Nat → ByteArray) {j : Nat} (h : j < n) : (cellsT n f)[j]? = some (.string (f j)) := by simp [cellsT, h]
theorem cellsT_congr {n : Nat} {f g : Nat → ByteArray} (h : ∀ j, j < n → f j = g j) : cellsT n f = cellsT n g := by
  unfold cellsT
  congr 1
  apply List.map_congr_left
  intro j hj
  rw [h j (by simpa using hj)]
theorem cellsT_set (n : Nat) (f : Nat → ByteArray) (i : Nat) (v : ByteArray) : (cellsT n f).setIfInBounds i (.string v) = cellsT n (fun j => if j = i then v else f j) := by
  apply Array.ext_getElem?
  intro k
  by_cases hk : k < n
  · rw [cellsT_get _ hk, Array.getElem?_setIfInBounds]
    by_cases e : i = k
    · subst e; simp [cellsT_size, hk]
    · rw [if_neg e, cellsT_get _ hk, if_neg (fun h => e h.symm)]
  · rw [Array.getElem?_eq_none (by simp [cellsT_size]; omega), Array.getElem?_eq_none (by simp [cellsT_size]; omega)]
/-- The first k texts are there. -/
def firstT (l : List ByteArray) (k : Nat) : Nat → ByteArray := fun j => if j < k then l.getD j ByteArray.empty else ByteArray.empty
theorem firstT_set (l : List ByteArray) (n k : Nat) (hk : k < l.length) : (cellsT n (firstT l k)).setIfInBounds k (.string l[k]) = cellsT n (firstT l (k + 1)) := by
  rw [cellsT_set]
  apply cellsT_congr
  intro j _
  unfold firstT
  by_cases h : j = k
  · subst h; simp [List.getD, hk]
  · rw [if_neg h]
    by_cases h2 : j < k
    · rw [if_pos h2, if_pos (by omega)]
    · rw [if_neg h2, if_neg (by omega)]

theorem make_texts (w : World) (n : Nat) (l : List ByteArray) (hn : n ≤ 1048576) : ∃ w1, (Instr.makeSlice 22 (.int .i64 (n : Int)) (.int .i64 (n : Int))).run Tryz.prog w = .ok (.slice (some ⟨w.heap.size, 0, none⟩) n n) w1 ∧ w1.heap[w.heap.size]? = some (.cells (cellsT n (firstT l 0)) 9 (0, 0)) ∧ Below w.heap.size w w1 := by
  obtain ⟨i0, hi, hz0, hz1, hz2⟩ := info_parts infoText
  have h := run_make (P := Tryz.prog) w 22 9 i0 (.string ByteArray.empty) Tryz.underlying22 hi hz0 .i64 .i64 n n (by omega) (by omega) (by rw [hz2]; omega) (by omega)
  simp only [Int.toNat_natCast] at h
  refine ⟨_, h, ?_, (Below.refl _ _).alloc (Nat.le_refl _) _⟩
  rw [(MapKept.heap_alloc w _).1, hz1]
  refine congrArg (fun c => some (Obj.cells c 9 (0, 0))) ?_
  apply Array.toList_inj.1
  rw [Nat.mul_one]
  refine Eq.trans (toList_madeCells_one (.string ByteArray.empty) n) ?_
  unfold cellsT firstT
  simp [List.map_const']
end Go.Proofs.YtcenlgfopmahcaaGreatDoor

/-
  Rows of texts: what the laws do with them ahead of a call and behind it.
-/
namespace Go.Proofs.YtcenlgfopmahcaaGreatDoor
open Go.RowKit Go.Lib
set_option linter.unusedVariables false

/-- The law's bound on a row of texts: where it is no less than 0, the row and each of its texts are within it. -/
def SzAns (l : List ByteArray) (e : Ending) : Prop := ∃ r : Int, e = .returned (.int .i64 r) ∧ -1048577 ≤ r ∧ r ≤ 1048576 ∧ (r < 0 ∨ (l.length ≤ 1048576 ∧ ∀ j (h : j < l.length), l[j].size ≤ 1048576))

set_option maxHeartbeats 400000 in
theorem sz_any (v : Value) (l : List ByteArray) (left : Int) (w : World) (B : Nat) (h : Texts w B v l) (hl : l.length ≤ 9223372036854775807) (hz : ∀ j (h : j < l.length), l[j].size ≤ 9223372036854775807) (h0 : 0 ≤ left) (h1 : left ≤ 1048576) :
    Calls Tryz.prog 13 #[v, .int .i64 left] w fun e w' => SzAns l e ∧ w' = w := by
  obtain ⟨a, cap, rfl, hc, hcap⟩ := h
  have HZ : Hid (∀ j (h : j < l.length), l[j].size ≤ 9223372036854775807) := hz
  have HC : Hid (l.length = 0 ∨ ∃ b off, a = some ⟨b, off, none⟩ ∧ b < B ∧ ∀ j (h : j < l.length), w.cell? ⟨b, off + j, none⟩ = some (.string l[j])) := hc
  clear hz hc hcap
  by_cases hlt : left - (l.length : Int) < 0
  · go_enter Tryz.func13, Tryz.ntmps13
    go_wp2
    go_ret
    exact ⟨⟨-1, rfl, by omega, by omega, .inl (by omega)⟩, rfl⟩
  · obtain ⟨n, hn⟩ : ∃ n, n = l.length := ⟨_, rfl⟩
    have HN : Hid (n = l.length) := hn
    rw [← hn] at hl hlt ⊢
    clear hn
    go_enter Tryz.func13, Tryz.ntmps13
    go_wp2
    go_loop [1, 5] (fun x i => ∃ (k : Nat) (r : Int), k ≤ n ∧ i = .int .i64 k ∧ x = .int .i64 r ∧ 0 ≤ r ∧ r ≤ 1048576 ∧ ∀ j (h : j < l.length), j < k → l[j].size ≤ 1048576) (fun _ i => n - (RowKit.intOf i).toNat)
    case atStart => exact ⟨0, _, Nat.zero_le _, rfl, rfl, by omega, by omega, fun j _ h => by omega⟩
    case round =>
      obtain ⟨k, r, hk, rfl, rfl, hr0, hr1, hall⟩ := hrel
      have HA : Hid (∀ j (h : j < l.length), j < k → l[j].size ≤ 1048576) := hall
      clear hall
      by_cases hkn : k < n
      · have hkl : k < l.length := by rw [← HN.out]; exact hkn
        rcases HC.out with h0 | ⟨b, off, rfl, hB, hcell⟩
        · omega
        have hc := hcell k hkl
        have hz := HZ.out k hkl
        have HS : Hid (l[k].size ≤ 9223372036854775807) := hz
        have HA2 : Hid (l[k].size ≤ r → ∀ j (h : j < l.length), j < k + 1 → l[j].size ≤ 1048576) := fun hr j h hj => by
          by_cases e : j = k
          · subst e; omega
          · exact HA.out j h (by omega)
        have hknI : (k : Int) < (n : Int) := by omega
        clear hcell HC HA HZ HN
        generalize l[k] = t at *
        by_cases hneg : r - (t.size : Int) < 0
        · go_wp2
          go_ret
          exact ⟨⟨-1, rfl, by omega, by omega, .inl (by omega)⟩, rfl⟩
        · go_wp2
          go_round
          case rel => exact ⟨k + 1, _, by omega, by go_num, rfl, by omega, by omega, HA2.out (by omega)⟩
          case measure => simp [RowKit.intOf]; omega
      · have HF : Hid (l.length ≤ 1048576 ∧ ∀ j (h : j < l.length), l[j].size ≤ 1048576) := ⟨by rw [← HN.out]; omega, fun j h => HA.out j h (by have := HN.out; omega)⟩
        clear HA HN HC HZ
        go_wp2
        go_ret
        exact ⟨⟨r, rfl, by omega, by omega, .inr HF.out⟩, rfl⟩

/-- The slice v holds the texts l in a row of its own, that is no longer. -/
def OwnS (w : World) (g : Nat) (v : Value) (l : List ByteArray) : Prop := v = .slice (some ⟨g, 0, none⟩) l.length l.length ∧ w.heap[g]? = some (.cells (cellsT l.length (firstT l l.length)) 9 (0, 0))
theorem OwnS.texts {w : World} {g B : Nat} {v : Value} {l : List ByteArray} (h : OwnS w g v l) (hB : g < B) : Texts w B v l := by
  refine ⟨_, _, h.1, .inr ⟨g, 0, rfl, hB, fun j hj => ?_⟩, Nat.le_refl _⟩
  rw [Nat.zero_add, cell_of_row w g j _ _ _ h.2, cellsT_get _ hj, firstT, if_pos hj]
  simp [List.getD, hj]

theorem OwnS.lt {w : World} {g : Nat} {v : Value} {l : List ByteArray} (h : OwnS w g v l) : g < w.heap.size := (Array.getElem?_eq_some_iff.1 h.2).1
theorem OwnS.below {w w' : World} {g B : Nat} {v : Value} {l : List ByteArray} (h : OwnS w g v l) (hb : Below B w w') (hB : g < B) : OwnS w' g v l := ⟨h.1, (hb.block g hB).trans h.2⟩

set_option maxHeartbeats 400000 in
theorem toTexts_any (v : Value) (l : List ByteArray) (w : World) (h : Texts w w.heap.size v l) (hl : l.length ≤ 1048576) :
    Calls Tryz.prog 20 #[v] w fun e w' => ∃ v', e = .returned v' ∧ OwnS w' w.heap.size v' l ∧ Below w.heap.size w w' := by
  obtain ⟨w1, hmk, hg1, hb1⟩ := make_texts w l.length l hl
  have HT : Hid (Texts w w.heap.size v l) := h
  obtain ⟨a, cap, rfl, hc, hcap⟩ := h
  have H1 : Hid (w1.heap[w.heap.size]? = _ ∧ Below w.heap.size w w1) := ⟨hg1, hb1⟩
  obtain ⟨n, hn⟩ : ∃ n, n = l.length := ⟨_, rfl⟩
  have HN : Hid (n = l.length) := hn
  rw [← hn] at hl hmk H1 ⊢
  clear hn hg1 hb1
  have HC : Hid (l.length = 0 ∨ ∃ b off, a = some ⟨b, off, none⟩ ∧ b < w.heap.size ∧ ∀ j (h : j < l.length), w.cell? ⟨b, off + j, none⟩ = some (.string l[j])) := hc
  clear hc HT hcap
  go_enter Tryz.func20, Tryz.ntmps20
  go_wp2
  go_loopw [4] (fun i wr => ∃ k : Nat, k ≤ n ∧ i = .int .i64 k ∧ wr.heap[w.heap.size]? = some (.cells (cellsT n (firstT l k)) 9 (0, 0)) ∧ Below w.heap.size w wr) (fun i _ => n - (RowKit.intOf i).toNat)
  case atStart => exact ⟨0, Nat.zero_le _, rfl, H1.out.1, H1.out.2⟩
  case round =>
    clear hmk H1
    obtain ⟨k, hk, rfl, hg, hb⟩ := hrel
    by_cases hkn : k < n
    · have hkl : k < l.length := by rw [← HN.out]; exact hkn
      rcases HC.out with h0 | ⟨b, off, rfl, hB, hcell⟩
      · omega
      have hc : wr.cell? ⟨b, off + k, none⟩ = some (.string l[k]) := (hb.cell (p := ⟨b, off + k, none⟩) hB).trans (hcell k hkl)
      have hc2 : wr.cell? ⟨w.heap.size, k, none⟩ = some (.string (firstT l k k)) := by rw [cell_of_row wr _ k _ _ _ hg, cellsT_get _ hkn]
      have hf2 : wr.frozen? ⟨w.heap.size, k, none⟩ = false := frozen_of_row wr _ k _ _ hg
      have hs := heap_setCell_same wr w.heap.size k _ _ (.string l[k]) hg
      rw [firstT_set l n k hkl] at hs
      have H2 : Hid (_ ∧ Below w.heap.size w wr) := ⟨hs, hb⟩
      have hknI : (k : Int) < (n : Int) := by omega
      generalize l[k] = t at *
      clear hs hg hb hcell HC
      go_wp2
      go_roundw
      case rel => exact ⟨k + 1, by omega, by go_num, H2.out.1, H2.out.2.setCell (Nat.le_refl _) _⟩
      case measure => simp [RowKit.intOf]; omega
    · have ek : k = n := by omega
      rw [ek] at hg
      have H3 : Hid (OwnS wr w.heap.size (.slice (some ⟨w.heap.size, 0, none⟩) n n) l ∧ Below w.heap.size w wr) := ⟨by rw [HN.out] at hg ⊢; exact ⟨rfl, hg⟩, hb⟩
      clear hg hb ek HC HN
      go_wp2
      go_ret
      exact ⟨_, rfl, H3.out.1, H3.out.2⟩

set_option maxHeartbeats 400000 in
theorem eqTexts_any (v1 v2 : Value) (l : List ByteArray) (w : World) (B : Nat) (h1 : Texts w B v1 l) (h2 : Texts w B v2 l) (hl : l.length ≤ 1048577) :
    Calls Tryz.prog 28 #[v1, v2] w fun e w' => e = .returned (.bool true) ∧ Below w.heap.size w w' := by
  obtain ⟨a1, cap1, rfl, hc1, _⟩ := h1
  obtain ⟨a2, cap2, rfl, hc2, _⟩ := h2
  have H1 : Hid (l.length = 0 ∨ ∃ b off, a1 = some ⟨b, off, none⟩ ∧ b < B ∧ ∀ j (h : j < l.length), w.cell? ⟨b, off + j, none⟩ = some (.string l[j])) := hc1
  have H2 : Hid (l.length = 0 ∨ ∃ b off, a2 = some ⟨b, off, none⟩ ∧ b < B ∧ ∀ j (h : j < l.length), w.cell? ⟨b, off + j, none⟩ = some (.string l[j])) := hc2
  clear hc1 hc2
  obtain ⟨n, hn⟩ : ∃ n, n = l.length := ⟨_, rfl⟩
  have HN : Hid (n = l.length) := hn
  rw [← hn] at hl ⊢
  clear hn
  go_enter Tryz.func28, Tryz.ntmps28
  go_wp2
  go_loopw [5] (fun i wr => ∃ k m : Nat, k ≤ n ∧ i = .int .i64 k ∧ wr = w.drewN m) (fun i _ => n - (RowKit.intOf i).toNat)
  case atStart => exact ⟨0, 0, Nat.zero_le _, rfl, rfl⟩
  case round =>
    obtain ⟨k, m, hk, rfl, rfl⟩ := hrel
    by_cases hkn : k < n
    · have hkl : k < l.length := by rw [← HN.out]; exact hkn
      rcases H1.out with h0 | ⟨b1, off1, rfl, hB1, hcell1⟩
      · omega
      rcases H2.out with h0 | ⟨b2, off2, rfl, hB2, hcell2⟩
      · omega
      have hc1 := hcell1 k hkl
      have hc2 := hcell2 k hkl
      have hknI : (k : Int) < (n : Int) := by omega
      generalize l[k] = t at *
      clear hcell1 hcell2 H1 H2 HN
      go_wp2
      go_quiet (fail)
      go_wp2
      go_roundw
      case rel => exact ⟨k + 1, _, by omega, by go_num, rfl⟩
      case measure => simp [RowKit.intOf]; omega
    · clear H1 H2 HN
      go_wp2
      go_ret
      exact ⟨rfl, ⟨rfl, rfl, rfl, Nat.le_refl _, fun _ _ => rfl⟩⟩
end Go.Proofs.YtcenlgfopmahcaaGreatDoor

/-
  A row of texts that came in can be read.
-/
namespace Go.Proofs.YtcenlgfopmahcaaGreatDoor
open Go.RowKit Go.Lib
set_option linter.unusedVariables false

/-- An argument that is a row of texts. -/
def TextsArg (w : World) (v : Value) (l : List ByteArray) : Prop := Texts w w.heap.size v l ∧ l.length ≤ 9223372036854775807 ∧ ∀ j (hj : j < l.length), l[j].size ≤ 9223372036854775807
theorem textsArg_nil (w : World) : TextsArg w (.slice none 0 0) [] := ⟨⟨none, 0, rfl, .inl rfl, Nat.le_refl _⟩, by simp, fun j hj => by simp at hj⟩
theorem textsArg_of {w : World} {x : Addr} {len cap : Nat} {ss : List ByteArray} (hl : len ≤ cap) (hm : cap ≤ maxLen) (hz : ss.length = cap) (hcell : ∀ i, i < ss.length → w.cell? (x.add i) = some (.string (ss.getD i ByteArray.empty))) (hw : ∀ s ∈ ss, s.size ≤ maxLen) :
    TextsArg w (.slice (some x) len cap) (ss.take len) := by
  unfold maxLen at hm hw
  have hlen : (ss.take len).length = len := by rw [List.length_take]; omega
  refine ⟨⟨some x, cap, by rw [hlen], ?_, by omega⟩, by omega, fun j hj => hw _ ?_⟩
  · by_cases h0 : len = 0
    · exact .inl (by omega)
    obtain ⟨b, off, spot⟩ := x
    have hc := hcell 0 (by omega)
    have hspot : spot = none := by simpa [Addr.add] using World.cell?_spot hc
    subst hspot
    have hadd : ∀ i, (⟨b, off, none⟩ : Addr).add i = ⟨b, off + i, none⟩ := fun i => by unfold Addr.add; split <;> simp_all
    rw [hadd] at hc
    refine .inr ⟨b, off, rfl, World.block_lt_of_cell? w _ hc, fun j hj => ?_⟩
    have h1 := hcell j (by omega)
    rw [hadd] at h1
    rw [h1, List.getElem_take]
    have hj' : j < ss.length := by omega
    simp [List.getD, hj']
  · rw [List.getElem_take]
    exact List.getElem_mem _
theorem int_bd {n : Int} (h : (Lit.int .i64 n).wf = true) : -9223372036854775808 ≤ n ∧ n ≤ 9223372036854775807 := by simpa [Lit.wf, IntKind.min, IntKind.max, IntKind.bits, IntKind.signed] using h
end Go.Proofs.YtcenlgfopmahcaaGreatDoor

/-
  Signatures held against each other.
-/
namespace Go.Proofs.YtcenlgfopmahcaaGreatDoor
open Go.RowKit Go.Lib
set_option linter.unusedVariables false
set_option linter.unusedSimpArgs false

set_option maxHeartbeats 1000000 in
set_option maxRecDepth 10000 in
theorem eqSig_any (k : Int) (ve vp ue up : Value) (el pl : List ByteArray) (w : World) (h1 : Texts w w.heap.size ve el) (h2 : Texts w w.heap.size vp pl) (h3 : Texts w w.heap.size ue el) (h4 : Texts w w.heap.size up pl) (hl1 : el.length ≤ 1048577) (hl2 : pl.length ≤ 1048577) :
    Calls Tryz.prog 50 #[.agg #[.int .i64 k, ve, vp], .agg #[.int .i64 k, ue, up]] w fun e w' => e = .returned (.bool true) ∧ Below w.heap.size w w' := by
  have EQ : Hid (∀ a b m w', Texts w' w'.heap.size a m → Texts w' w'.heap.size b m → m.length ≤ 1048577 → Calls Tryz.prog 28 #[a, b] w' fun e w'' => e = .returned (.bool true) ∧ Below w'.heap.size w' w'') := fun a b m w' h1 h2 h3 => eqTexts_any a b m w' w'.heap.size h1 h2 h3
  obtain ⟨W, hW⟩ : ∃ W, W = (w.alloc (.cells #[.int .i64 k, ve, vp] 35)).alloc (.cells #[.int .i64 k, ue, up] 35) := ⟨_, rfl⟩
  have hbW : Below w.heap.size w W := by rw [hW]; exact ((Below.refl _ _).alloc (Nat.le_refl _) _).alloc (by simp) _
  have hzW : W.heap.size = w.heap.size + 2 := by rw [hW]; simp
  have hg1 : W.heap[w.heap.size]? = some (.cells #[.int .i64 k, ve, vp] 35 (0, 0)) := by rw [hW]; exact heap_alloc2_old w _ _
  have hg2 : W.heap[w.heap.size + 1]? = some (.cells #[.int .i64 k, ue, up] 35 (0, 0)) := by rw [hW]; exact heap_alloc2_new w _ _
  have H0 : Hid (Below w.heap.size w W ∧ W.heap.size = w.heap.size + 2 ∧ W.heap[w.heap.size]? = some (.cells #[.int .i64 k, ve, vp] 35 (0, 0)) ∧ W.heap[w.heap.size + 1]? = some (.cells #[.int .i64 k, ue, up] 35 (0, 0))) := ⟨hbW, hzW, hg1, hg2⟩
  have HT : Hid (Texts w w.heap.size ve el ∧ Texts w w.heap.size vp pl ∧ Texts w w.heap.size ue el ∧ Texts w w.heap.size up pl) := ⟨h1, h2, h3, h4⟩
  have HW : Hid (W = (w.alloc (.cells #[.int .i64 k, ve, vp] 35)).alloc (.cells #[.int .i64 k, ue, up] 35)) := hW
  obtain ⟨⟨c0, c1, c2⟩, f0, f1, f2⟩ := three_cells (Below.refl W.heap.size W) (show w.heap.size < W.heap.size by omega) hg1
  obtain ⟨⟨d0, d1, d2⟩, g0, g1, g2⟩ := three_cells (Below.refl W.heap.size W) (show w.heap.size + 1 < W.heap.size by omega) hg2
  clear h1 h2 h3 h4 hW hbW hzW hg1 hg2 f0 f1 f2 g0 g1 g2
  have hkk : (k != k) = false := by simp
  go_enter Tryz.func50, Tryz.ntmps50
  go_wp2_with fail
  rw [← HW.out]
  refine (EQ.out _ _ el _ ((HT.out.1.below H0.out.1).up H0.out.1.size) ((HT.out.2.2.1.below H0.out.1).up H0.out.1.size) hl1).mono ?_
  rintro e w1 ⟨rfl, hb1⟩
  have H1 : Hid (Below w.heap.size w w1) := H0.out.1.trans (hb1.mono H0.out.1.size)
  clear c0 c1 c2 d0 d1 d2
  obtain ⟨⟨c0, c1, c2⟩, f0, f1, f2⟩ := three_cells hb1 (show w.heap.size < W.heap.size by have := H0.out.2.1; omega) H0.out.2.2.1
  obtain ⟨⟨d0, d1, d2⟩, g0, g1, g2⟩ := three_cells hb1 (show w.heap.size + 1 < W.heap.size by have := H0.out.2.1; omega) H0.out.2.2.2
  clear hb1
  go_wp2_with fail
  refine (EQ.out _ _ pl _ ((HT.out.2.1.below H1.out).up H1.out.size) ((HT.out.2.2.2.below H1.out).up H1.out.size) hl2).mono ?_
  rintro e w2 ⟨rfl, hb2⟩
  have H2 : Hid (Below w.heap.size w w2) := H1.out.trans (hb2.mono H1.out.size)
  clear hb2
  go_wp2
  go_ret
  exact ⟨rfl, H2.out⟩
end Go.Proofs.YtcenlgfopmahcaaGreatDoor

/-
  The document's bounds.
-/
namespace Go.Proofs.YtcenlgfopmahcaaGreatDoor
open Go.RowKit Go.Lib
set_option linter.unusedVariables false

set_option maxHeartbeats 400000 in
theorem is_any (n lo hi : Int) (w : World) :
    Calls Tryz.prog 86 #[.int .i64 n, .int .i64 lo, .int .i64 hi] w fun e w' => e = .returned (.bool (decide (lo ≤ n ∧ n ≤ hi))) ∧ w' = w := by
  obtain ⟨V, hV⟩ : ∃ V, V = decide (lo ≤ n ∧ n ≤ hi) := ⟨_, rfl⟩
  rw [← hV]
  have HV : Hid (V = decide (lo ≤ n ∧ n ≤ hi)) := hV
  clear hV
  by_cases h1 : lo ≤ n
  · by_cases h2 : n ≤ hi
    · have HT : Hid (V = true) := HV.out.trans (decide_eq_true ⟨h1, h2⟩)
      clear HV
      go_enter Tryz.func86, Tryz.ntmps86
      go_wp2
      go_ret
      exact ⟨ret_bool HT.out.symm, rfl⟩
    · have HT : Hid (V = false) := HV.out.trans (decide_eq_false fun h => h2 h.2)
      clear HV
      go_enter Tryz.func86, Tryz.ntmps86
      go_wp2
      go_ret
      exact ⟨ret_bool HT.out.symm, rfl⟩
  · have HT : Hid (V = false) := HV.out.trans (decide_eq_false fun h => h1 h.1)
    clear HV
    go_enter Tryz.func86, Tryz.ntmps86
    go_wp2
    go_ret
    exact ⟨ret_bool HT.out.symm, rfl⟩
end Go.Proofs.YtcenlgfopmahcaaGreatDoor

/-
  The document's word on rows of digests.
-/
namespace Go.Proofs.YtcenlgfopmahcaaGreatDoor
open Go.RowKit Go.Lib
set_option linter.unusedVariables false

set_option maxHeartbeats 400000 in
theorem wide_any (v : Value) (l : List ByteArray) (w : World) (B : Nat) (h : Texts w B v l) (hl : l.length ≤ 1048576) :
    Calls Tryz.prog 106 #[v] w fun e w' => e = .returned (.bool (wideB l)) ∧ w' = w := by
  obtain ⟨a, cap, rfl, hc, _⟩ := h
  have HC : Hid (l.length = 0 ∨ ∃ b off, a = some ⟨b, off, none⟩ ∧ b < B ∧ ∀ j (h : j < l.length), w.cell? ⟨b, off + j, none⟩ = some (.string l[j])) := hc
  clear hc
  obtain ⟨n, hn⟩ : ∃ n, n = l.length := ⟨_, rfl⟩
  have HN : Hid (n = l.length) := hn
  rw [← hn] at hl ⊢
  clear hn
  obtain ⟨W, hW⟩ : ∃ W, W = wideB l := ⟨_, rfl⟩
  rw [← hW]
  have HW : Hid (W = wideB l) := hW
  clear hW
  go_enter Tryz.func106, Tryz.ntmps106
  go_wp2
  go_loop [3] (fun i => ∃ k : Nat, k ≤ n ∧ i = .int .i64 k ∧ ∀ j (h : j < l.length), j < k → (l[j].size : Int) = 32) (fun i => n - (RowKit.intOf i).toNat)
  case atStart => exact ⟨0, Nat.zero_le _, rfl, fun j _ h => by omega⟩
  case round =>
    obtain ⟨k, hk, rfl, hall⟩ := hrel
    have HA : Hid (∀ j (h : j < l.length), j < k → (l[j].size : Int) = 32) := hall
    clear hall
    by_cases hkn : k < n
    · have hkl : k < l.length := by rw [← HN.out]; exact hkn
      rcases HC.out with h0 | ⟨b, off, rfl, hB, hcell⟩
      · omega
      have hc := hcell k hkl
      have HA2 : Hid ((l[k].size : Int) = 32 → ∀ j (h : j < l.length), j < k + 1 → (l[j].size : Int) = 32) := fun hr j h hj => by
        by_cases e : j = k
        · subst e; exact hr
        · exact HA.out j h (by omega)
      have HB : Hid (¬ (l[k].size : Int) = 32 → W = false) := fun h => by rw [HW.out]; exact wideB_no hkl h
      have hknI : (k : Int) < (n : Int) := by omega
      clear hcell HC HA
      generalize l[k] = t at *
      by_cases ht : (t.size : Int) = 32
      · go_wp2
        go_round
        case rel => exact ⟨k + 1, by omega, by go_num, HA2.out ht⟩
        case measure => simp [RowKit.intOf]; omega
      · have hWf : Hid (W = false) := HB.out ht
        go_wp2
        go_ret
        exact ⟨ret_bool hWf.out.symm, rfl⟩
    · have hWt : Hid (W = true) := by
        show _ = _
        rw [HW.out]
        exact wideB_yes fun j hj => HA.out j hj (by have := HN.out; omega)
      clear HA HC
      go_wp2
      go_ret
      exact ⟨ret_bool hWt.out.symm, rfl⟩
end Go.Proofs.YtcenlgfopmahcaaGreatDoor

/-
  The document's SigRight.
-/
namespace Go.Proofs.YtcenlgfopmahcaaGreatDoor
open Go.RowKit Go.Lib
set_option linter.unusedVariables false
set_option linter.unusedSimpArgs false

set_option maxHeartbeats 1000000 in
set_option maxRecDepth 10000 in
theorem specSigRight_any (k : Int) (ve vp : Value) (el pl : List ByteArray) (w : World) (h1 : Texts w w.heap.size ve el) (h2 : Texts w w.heap.size vp pl) (hl1 : el.length ≤ 1048576) (hl2 : pl.length ≤ 1048576) :
    Calls Tryz.prog 87 #[.agg #[.int .i64 k, ve, vp]] w fun e w' => e = .returned (.bool (sigRB k el pl)) ∧ Below w.heap.size w w' := by
  have E0 : Hid (∀ w, Calls Tryz.prog 86 #[.int .i64 k, .int .i64 0, .int .i64 3] w fun e w' => e = .returned (.bool (decide (0 ≤ k ∧ k ≤ 3))) ∧ w' = w) := fun w => is_any k 0 3 w
  obtain ⟨W, hW⟩ : ∃ W, W = w.alloc (.cells #[.int .i64 k, ve, vp] 35) := ⟨_, rfl⟩
  have hbW : Below w.heap.size w W := by rw [hW]; exact (Below.refl _ _).alloc (Nat.le_refl _) _
  have E1 : Hid (Calls Tryz.prog 106 #[ve] W fun e w' => e = .returned (.bool (wideB el)) ∧ w' = W) := wide_any ve el W w.heap.size (h1.below hbW) hl1
  have E2 : Hid (Calls Tryz.prog 106 #[vp] W fun e w' => e = .returned (.bool (wideB pl)) ∧ w' = W) := wide_any vp pl W w.heap.size (h2.below hbW) hl2
  have HB : Hid (Below w.heap.size w W) := hbW
  obtain ⟨a1, c1, rfl, _⟩ := h1
  obtain ⟨a2, c2, rfl, _⟩ := h2
  have HW : Hid (w.alloc (.cells #[.int .i64 k, .slice a1 el.length c1, .slice a2 pl.length c2] 35) = W) := hW.symm
  rw [hW] at E1 E2 HB
  clear hW hbW W HW
  by_cases hk : 0 ≤ k ∧ k ≤ 3
  · rw [decide_eq_true hk] at E0
    by_cases h6 : (el.length : Int) = 6
    · by_cases hp2 : (pl.length : Int) = 2
      · rw [sigRB_rest hk h6 hp2]
        have q1 : ((el.length : Int) == 6) = true := by simpa using h6
        have q2 : ((pl.length : Int) == 2) = true := by simpa using hp2
        clear hk h6 hp2
        cases hwe : wideB el with
        | false =>
          rw [hwe] at E1
          clear hwe
          go_enter Tryz.func87, Tryz.ntmps87
          go_wp2_with fail
          refine (E0.out _).mono ?_
          rintro e w0 ⟨rfl, rfl⟩
          clear E0
          go_wp2_with fail
          refine E1.out.mono ?_
          rintro e w1 ⟨rfl, rfl⟩
          go_wp2
          go_ret
          exact ⟨rfl, HB.out⟩
        | true =>
          rw [hwe] at E1
          clear hwe
          go_enter Tryz.func87, Tryz.ntmps87
          go_wp2_with fail
          refine (E0.out _).mono ?_
          rintro e w0 ⟨rfl, rfl⟩
          clear E0
          go_wp2_with fail
          refine E1.out.mono ?_
          rintro e w1 ⟨rfl, rfl⟩
          go_wp2_with fail
          refine E2.out.mono ?_
          rintro e w2 ⟨rfl, rfl⟩
          go_wp2
          go_ret
          exact ⟨rfl, HB.out⟩
      · rw [sigRB_path hk h6 hp2]
        have q1 : ((el.length : Int) == 6) = true := by simpa using h6
        have q2 : ((pl.length : Int) == 2) = false := by simpa using hp2
        clear hk h6 hp2
        go_enter Tryz.func87, Tryz.ntmps87
        go_wp2_with fail
        refine (E0.out _).mono ?_
        rintro e w0 ⟨rfl, rfl⟩
        clear E0
        go_wp2
        go_ret
        exact ⟨rfl, HB.out⟩
    · rw [sigRB_ends hk h6]
      have q1 : ((el.length : Int) == 6) = false := by simpa using h6
      clear hk h6
      go_enter Tryz.func87, Tryz.ntmps87
      go_wp2_with fail
      refine (E0.out _).mono ?_
      rintro e w0 ⟨rfl, rfl⟩
      clear E0
      go_wp2
      go_ret
      exact ⟨rfl, HB.out⟩
  · rw [decide_eq_false hk] at E0
    rw [sigRB_key hk]
    clear hk
    go_enter Tryz.func87, Tryz.ntmps87
    go_wp2_with fail
    refine (E0.out _).mono ?_
    rintro e w0 ⟨rfl, rfl⟩
    clear E0
    go_wp2
    go_ret
    exact ⟨rfl, HB.out⟩
end Go.Proofs.YtcenlgfopmahcaaGreatDoor
