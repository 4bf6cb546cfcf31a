/-
  Rows of numbers and of bytes, and the digest of a text as a text: what the walks of both sides use.
-/
import Derived.Test.YtbngflmebdchlaaMem
import Derived.Test.YtbngflmebdchlaaShaPure
import Derived.WalkKit
import Derived.WalkSpells
import Derived.Deep.QuietTactic
import Derived.BigQuiet
import Derived.BigRegion
import Derived.Deep.WholeRow
namespace Go.Proofs.Ytbngflmebdchlaa
open Go.RowKit Go.Lib
set_option linter.unusedVariables false

/-- n numbers of 32 bits, as cells. -/
def cells32 (n : Nat) (f : Nat → Int) : Array Value := ((List.range n).map fun j => Value.int .u32 (f j)).toArray
theorem cells32_size (n : Nat) (f : Nat → Int) : (cells32 n f).size = n := by simp [cells32]
theorem cells32_get {n : Nat} (f : Nat → Int) {j : Nat} (h : j < n) : (cells32 n f)[j]? = some (.int .u32 (f j)) := by simp [cells32, h]
theorem cells32_one (n : Nat) (f : Nat → Int) : (cells32 n f).all (·.oneCell') = true := by simp [cells32, Value.oneCell']
theorem cells32_set (n : Nat) (f : Nat → Int) (i : Nat) (v : Int) : (cells32 n f).setIfInBounds i (.int .u32 v) = cells32 n (fun j => if j = i then v else f j) := by
  apply Array.ext_getElem?
  intro k
  by_cases hk : k < n
  · rw [cells32_get _ hk, Array.getElem?_setIfInBounds]
    by_cases e : i = k
    · subst e; simp [cells32_size, hk]
    · rw [if_neg e, cells32_get _ hk, if_neg (fun h => e h.symm)]
  · rw [Array.getElem?_eq_none (by simp [cells32_size]; omega), Array.getElem?_eq_none (by simp [cells32_size]; omega)]
theorem cells32_congr {n : Nat} {f g : Nat → Int} (h : ∀ j, j < n → f j = g j) : cells32 n f = cells32 n g := by
  unfold cells32
  congr 1
  apply List.map_congr_left
  intro j hj
  rw [h j (by simpa using hj)]
def H8.cells (s : H8) : Array Value := #[.int .u32 s.a, .int .u32 s.b, .int .u32 s.c, .int .u32 s.d, .int .u32 s.e, .int .u32 s.f, .int .u32 s.g, .int .u32 s.h]
theorem H8.cells_eq (s : H8) : s.cells = cells32 8 s.at := rfl
/-- 'make', by the equation of its run. -/
theorem wp_make_run {w : World} {ops : Array Oper} {rest : List Oper} {o : Oper} {a : Act} {Q : Exit → Act → World → Prop} (hg : o.guard = none) (l c : Operand) (t : TypeId) (ho : o.op = .makeSlice t l c)
    (L C v : Value) (w1 : World) (hl : a.eval l = L) (hc : a.eval c = C) (hrun : (Instr.makeSlice t L C).run Try.prog w = .ok v w1) (h : wpList Try.prog ops Q rest (a.put o.dst v) w1) : wpList Try.prog ops Q (o :: rest) a w := by
  refine wpList_plain hg fun K hK' => ?_
  unfold Oper.wp
  simp [execOp, ho, hl, hc, hrun, Result.andThen]
  exact hK' _ _ h
theorem index_text (s : ByteArray) (k : Nat) (x : Int) (hx : x = k) (h : k < s.size) (w : World) : (Instr.index 9 (.string s) (.int .i64 x)).run Try.prog w = .ok (.int .u8 (byteL s.data.toList k)) w := by
  subst hx
  rw [run_index_string w 9 s .i64 _ Try.underlying9]
  unfold byteL
  have hl : k < s.data.size := h
  have e : s.data.toList.getD k 0 = s[k] := by
    simp only [List.getD, Array.getElem?_toList, Array.getElem?_eq_getElem hl, Option.getD_some]
    rfl
  rw [dif_pos ⟨by omega, by omega⟩, e]
  simp
theorem byteL_bd (l : List UInt8) (k : Nat) : 0 ≤ byteL l k ∧ byteL l k < 256 := by
  unfold byteL
  have := (l.getD k 0).toNat_lt
  omega
theorem below_drewN {B : Nat} {a w : World} (n : Nat) (h : Below B a w) : Below B a (w.drewN n) := ⟨h.os, h.tape, h.output, h.size, h.block⟩
theorem ret_agg {a b : Array Value} (h : a = b) : Ending.returned (.agg a) = .returned (.agg b) := by rw [h]
/-- The first k words are there. -/
def upto (b : Nat → Int) (k : Nat) : Nat → Int := fun j => if j < k then sched b j else 0
theorem upto_set (b : Nat → Int) (k : Nat) : (cells32 64 (upto b k)).setIfInBounds k (.int .u32 (sched b k)) = cells32 64 (upto b (k + 1)) := by
  rw [cells32_set]
  apply cells32_congr
  intro j _
  unfold upto
  by_cases h : j = k
  · subst h; simp
  · rw [if_neg h]
    by_cases h2 : j < k
    · rw [if_pos h2, if_pos (by omega)]
    · rw [if_neg h2, if_neg (by omega)]
theorem upto_cell {t : TypeId} {w : World} {g : Nat} {b : Nat → Int} {k : Nat} (hg : w.heap[g]? = some (.cells (cells32 64 (upto b k)) t (0, 0))) {j : Nat} (hj : j < 64) (hk : j < k) :
    w.cell? ⟨g, j, none⟩ = some (.int .u32 (sched b j)) := by
  rw [cell_of_row w g j _ _ _ hg, cells32_get _ hj, upto, if_pos hk]
theorem upto_any {t : TypeId} {w : World} {g : Nat} {f : Nat → Int} (hg : w.heap[g]? = some (.cells (cells32 64 f) t (0, 0))) {j : Nat} (hj : j < 64) :
    w.cell? ⟨g, j, none⟩ = some (.int .u32 (f j)) ∧ w.frozen? ⟨g, j, none⟩ = false :=
  ⟨by rw [cell_of_row w g j _ _ _ hg, cells32_get _ hj], frozen_of_row w g j _ _ hg⟩
theorem ba_len (x : ByteArray) : x.data.toList.length = x.size := rfl
theorem ba_ext {a b : ByteArray} (h : a.data.toList = b.data.toList) : a = b := by
  apply ByteArray.ext
  exact Array.toList_inj.1 h
theorem byte_mod (n : Int) : (UInt8.ofNat (n % 256).toNat).toNat = n % 256 := by
  rw [UInt8.toNat_ofNat']
  omega
/-- 'append(row, a, b, c, d)', row the call's own: it owns four bytes more; of what lies below B nothing turns. -/
theorem wp_app_four {w : World} {ops : Array Oper} {rest : List Oper} {o : Oper} {a : Act} {Q : Exit → Act → World → Prop} (hgd : o.guard = none) (s x : Operand)
    (ho : o.op = .call { callee := .builtin .append, args := #[s, x], argTypes := #[76, 76] }) (B : Nat) (v : Value) (l : List UInt8) (hs : a.eval s = v) (hown : OwnB w B v l) (c0 c1 c2 c3 : UInt8) (y0 y1 y2 y3 : Int) (hy0 : y0 = c0.toNat) (hy1 : y1 = c1.toNat) (hy2 : y2 = c2.toNat) (hy3 : y3 = c3.toNat)
    (hx : a.eval x = .slice (some ⟨w.heap.size, 0, none⟩) 4 4) (hl : l.length ≤ 1073741824) (hB : B ≤ w.heap.size)
    (h : ∀ v' w', OwnB w' B v' (l ++ [c0, c1, c2, c3]) → Below B w w' → wpList Try.prog ops Q rest (a.put o.dst v') w') : wpList Try.prog ops Q (o :: rest) a (w.alloc (.cells #[.int .u8 y0, .int .u8 y1, .int .u8 y2, .int .u8 y3] 5)) := by
  obtain ⟨i0, hi, hz0, hz1, hz2⟩ := info_parts infoByte
  refine wpList_append_own _ hgd s x 76 ho B 5 i0 (.int .u8 0) 1 1 Try.underlying76 hi hz0 hz1 hz2 rfl (by decide) v l.length (byteCells l) hs (World.ownsRow.alloc hown _) ⟨w.heap.size, 0, none⟩ 4 4 [.int .u8 y0, .int .u8 y1, .int .u8 y2, .int .u8 y3] hx rfl
    (fun j u hu => ?_) (by intro u hu; simp at hu; rcases hu with rfl | rfl | rfl | rfl <;> rfl) (by unfold maxLen; omega) (by omega) (by simp; omega) ?_
  · have hadd : (⟨w.heap.size, 0, none⟩ : Addr).add j = ⟨w.heap.size, j, none⟩ := by unfold Addr.add; split <;> simp_all
    rw [hadd, cell_of_row _ _ j _ _ _ (heap_alloc_new w _)]
    simpa using hu
  intro v' w' h1 h2 _
  refine h v' w' ?_ ?_
  · unfold OwnB
    subst hy0 hy1 hy2 hy3
    simpa [byteCells] using h1
  · refine ((Below.refl B w).alloc hB _).grown h2 (by simp; omega) fun k hk => ?_
    exact (World.ownsRow.lt hown k hk).1
def baOf (l : List UInt8) : ByteArray := ⟨l.toArray⟩
theorem baOf_list (l : List UInt8) : (baOf l).data.toList = l := rfl
theorem baOf_size (l : List UInt8) : (baOf l).size = l.length := by simp [baOf, ByteArray.size]
/-- The digest of a text. -/
def shaB (s : ByteArray) : ByteArray := baOf (shaL s.data.toList)
theorem shaB_size (s : ByteArray) : (shaB s).size = 32 := by rw [shaB, baOf_size, shaL_len]
theorem ba_app_list (a b : ByteArray) : (a ++ b).data.toList = a.data.toList ++ b.data.toList := by simp [ByteArray.data_append]
/-- What Digest answers. -/
def digV (s : ByteArray) : ByteArray := if 20000 < (s.size : Int) then ByteArray.empty else shaB s
end Go.Proofs.Ytbngflmebdchlaa
