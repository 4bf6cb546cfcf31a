/-
  A key filled up to a block, each byte put together with one: laws on it.
-/
import Derived.Test.YtchlopmmhcobdaaDoorCells
namespace Go.Proofs.YtchlopmmhcobdaaDoor
open Go.RowKit Go.Lib
set_option linter.unusedVariables false

/-- n bytes, as cells. -/
def cells8 (n : Nat) (f : Nat → Int) : Array Value := ((List.range n).map fun j => Value.int .u8 (f j)).toArray
theorem cells8_size (n : Nat) (f : Nat → Int) : (cells8 n f).size = n := by simp [cells8]
theorem cells8_get {n : Nat} (f : Nat → Int) {j : Nat} (h : j < n) : (cells8 n f)[j]? = some (.int .u8 (f j)) := by simp [cells8, h]
theorem cells8_congr {n : Nat} {f g : Nat → Int} (h : ∀ j, j < n → f j = g j) : cells8 n f = cells8 n g := by
  unfold cells8
  congr 1
  apply List.map_congr_left
  intro j hj
  rw [h j (by simpa using hj)]
theorem cells8_set (n : Nat) (f : Nat → Int) (i : Nat) (v : Int) : (cells8 n f).setIfInBounds i (.int .u8 v) = cells8 n (fun j => if j = i then v else f j) := by
  apply Array.ext_getElem?
  intro k
  by_cases hk : k < n
  · rw [cells8_get _ hk, Array.getElem?_setIfInBounds]
    by_cases e : i = k
    · subst e; simp [cells8_size, hk]
    · rw [if_neg e, cells8_get _ hk, if_neg (fun h => e h.symm)]
  · rw [Array.getElem?_eq_none (by simp [cells8_size]; omega), Array.getElem?_eq_none (by simp [cells8_size]; omega)]

theorem bits8_bd (op : BinOp) (a b : Int) : 0 ≤ bits op .u8 a b ∧ bits op .u8 a b < 256 := by
  unfold bits
  simp only [IntKind.wrap_u8']
  omega
/-- The key filled up, each byte put together with m. -/
def maskL (l : List UInt8) (m : Int) : List UInt8 := (List.range 64).map fun j => UInt8.ofNat (bits .xor .u8 (byteL l j) m).toNat
def maskB (k : ByteArray) (m : Int) : ByteArray := baOf (maskL k.data.toList m)
theorem maskL_len (l : List UInt8) (m : Int) : (maskL l m).length = 64 := by simp [maskL]
theorem maskB_size (k : ByteArray) (m : Int) : (maskB k m).size = 64 := by rw [maskB, baOf_size, maskL_len]
def masked (l : List UInt8) (m : Int) (k : Nat) : Nat → Int := fun j => if j < k then bits .xor .u8 (byteL l j) m else byteL l j
theorem masked_set (l : List UInt8) (m : Int) (k : Nat) : (cells8 64 (masked l m k)).setIfInBounds k (.int .u8 (bits .xor .u8 (byteL l k) m)) = cells8 64 (masked l m (k + 1)) := by
  rw [cells8_set]
  apply cells8_congr
  intro j _
  unfold masked
  by_cases h : j = k
  · subst h; simp
  · rw [if_neg h]
    by_cases h2 : j < k
    · rw [if_pos h2, if_pos (by omega)]
    · rw [if_neg h2, if_neg (by omega)]
theorem masked_all (l : List UInt8) (m : Int) : (cells8 64 (masked l m 64)).toList.take 64 = byteCells (maskL l m) := by
  rw [List.take_of_length_le (by simp [cells8])]
  unfold cells8 byteCells maskL
  rw [List.map_map]
  apply List.map_congr_left
  intro j hj
  have hj' : j < 64 := by simpa using hj
  have hb := bits8_bd .xor (byteL l j) m
  simp only [masked, if_pos hj', Function.comp]
  congr 1
  rw [UInt8.toNat_ofNat']
  omega

theorem make_64 (w : World) : ∃ w1, (Instr.makeSlice 22 (.int .i64 64) (.int .i64 64)).run Tryd.prog w = .ok (.slice (some ⟨w.heap.size, 0, none⟩) 64 64) w1 ∧ w1.heap[w.heap.size]? = some (.cells (cells8 64 (fun _ => 0)) 5 (0, 0)) ∧ Below w.heap.size w w1 := by
  obtain ⟨i0, hi, hz0, hz1, hz2⟩ := info_parts infoByte
  have h := run_make (P := Tryd.prog) w 22 5 i0 (.int .u8 0) Tryd.underlying22 hi hz0 .i64 .i64 64 64 (by omega) (by omega) (by rw [hz2]; omega) (by omega)
  refine ⟨_, h, ?_, (Below.refl _ _).alloc (Nat.le_refl _) _⟩
  rw [(MapKept.heap_alloc w _).1, hz1]
  refine congrArg (fun c => some (Obj.cells c 5 (0, 0))) ?_
  apply Array.toList_inj.1
  have e := toList_madeCells_one (.int .u8 0) 64
  refine Eq.trans e ?_
  unfold cells8
  rfl
theorem pad_cells (n : Nat) (l : List UInt8) (hl : l.length ≤ n) : ((cells8 n (fun _ => 0)).toList.take 0 ++ byteCells l ++ (cells8 n (fun _ => 0)).toList.drop (0 + l.length)).toArray = cells8 n (masked l 0 0) := by
  apply Array.toList_inj.1
  apply List.ext_getElem?
  intro j
  have hb : (byteCells l).length = l.length := byteCells_length l
  simp only [List.take_zero, List.nil_append, Nat.zero_add, cells8, masked, Nat.not_lt_zero, if_false]
  by_cases hj : j < l.length
  · rw [List.getElem?_append_left (by omega)]
    have hjn : j < n := by omega
    simp [byteCells, byteL, List.getD, hj, hjn]
  · rw [List.getElem?_append_right (by omega), hb, List.getElem?_drop, show l.length + (j - l.length) = j by omega]
    by_cases hjn : j < n
    · simp [byteL, List.getD, hjn, hj]
    · simp [hjn]
theorem copy_key (w : World) (g : Nat) (k : ByteArray) (hg : w.heap[g]? = some (.cells (cells8 64 (fun _ => 0)) 5 (0, 0))) (hk : k.size ≤ 64) (B : Nat) (hB : B ≤ g) :
    ∃ w2, (Builtin.copy_ #[22, 9] 3 #[.slice (some ⟨g, 0, none⟩) 64 64, .string k]).run Tryd.prog w = .ok (goInt k.size) w2 ∧ w2.heap[g]? = some (.cells (cells8 64 (masked k.data.toList 0 0)) 5 (0, 0)) ∧ Below B w w2 := by
  have hz := cells8_size 64 (fun _ => 0)
  refine ⟨_, run_copy_row_string w _ _ _ _ g 0 64 64 k _ 5 Tryd.underlying22 sizeByte hg hk (by rw [hz]; omega), ?_, below_setRow (Below.refl _ _) hB _⟩
  rw [setRow_heap w g _ _ 5 _ hg]
  refine congrArg (fun c => some (Obj.cells c 5 (0, 0))) ?_
  exact pad_cells 64 k.data.toList hk

theorem key_cell {w : World} {g : Nat} {f : Nat → Int} (hg : w.heap[g]? = some (.cells (cells8 64 f) 5 (0, 0))) {j : Nat} (hj : j < 64) :
    w.cell? ⟨g, j, none⟩ = some (.int .u8 (f j)) ∧ w.frozen? ⟨g, j, none⟩ = false :=
  ⟨by rw [cell_of_row w g j _ _ _ hg, cells8_get _ hj], frozen_of_row w g j _ _ hg⟩

end Go.Proofs.YtchlopmmhcobdaaDoor
