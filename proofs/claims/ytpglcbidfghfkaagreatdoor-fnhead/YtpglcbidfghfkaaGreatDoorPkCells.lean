/-
  Rows of numbers and of bytes, and the digest of a text as a text: what the walks of both sides use.
-/
import Derived.Test.YtpglcbidfghfkaaGreatDoorPkMem
import Derived.Test.YtpglcbidfghfkaaGreatDoorPkShaPure
import Derived.Test.YtpglcbidfghfkaaGreatDoorPkPutNum
import Derived.Test.YtpglcbidfghfkaaGreatDoorPkTexts
import Derived.WalkKit
import Derived.WalkSpells
import Derived.Deep.QuietTactic
import Derived.BigQuiet
import Derived.BigRegion
import Derived.Deep.WholeRow
namespace Go.Proofs.YtpglcbidfghfkaaGreatDoor
open Go.RowKit Go.Lib
set_option linter.unusedVariables false

/-- n numbers of 32 bits, as cells. -/
def cells32 (n : Nat) (f : Nat → Int) : Array Value := ((List.range n).map fun j => Value.int .u32 (f j)).toArray
theorem cells32_size (n : Nat) (f : Nat → Int) : (cells32 n f).size = n := by simp [cells32]
theorem cells32_get {n : Nat} (f : Nat → Int) {j : Nat} (h : j < n) : (cells32 n f)[j]? = some (.int .u32 (f j)) := by simp [cells32, h]
theorem cells32_one (n : Nat) (f : Nat → Int) : (cells32 n f).all (·.oneCell') = true := by simp [cells32, Value.oneCell']
theorem cells32_set (n : Nat) (f : Nat → Int) (i : Nat) (v : Int) : (cells32 n f).setIfInBounds i (.int .u32 v) = cells32 n (fun j => if j = i then v else f j) := by
  apply Array.ext_getElem?
  intro k
  by_cases hk : k < n
  · rw [cells32_get _ hk, Array.getElem?_setIfInBounds]
    by_cases e : i = k
    · subst e; simp [cells32_size, hk]
    · rw [if_neg e, cells32_get _ hk, if_neg (fun h => e h.symm)]
  · rw [Array.getElem?_eq_none (by simp [cells32_size]; omega), Array.getElem?_eq_none (by simp [cells32_size]; omega)]
theorem cells32_congr {n : Nat} {f g : Nat → Int} (h : ∀ j, j < n → f j = g j) : cells32 n f = cells32 n g := by
  unfold cells32
  congr 1
  apply List.map_congr_left
  intro j hj
  rw [h j (by simpa using hj)]
def H8.cells (s : H8) : Array Value := #[.int .u32 s.a, .int .u32 s.b, .int .u32 s.c, .int .u32 s.d, .int .u32 s.e, .int .u32 s.f, .int .u32 s.g, .int .u32 s.h]
theorem H8.cells_eq (s : H8) : s.cells = cells32 8 s.at := rfl
/-- 'make', by the equation of its run. -/
theorem wp_make_run {w : World} {ops : Array Oper} {rest : List Oper} {o : Oper} {a : Act} {Q : Exit → Act → World → Prop} (hg : o.guard = none) (l c : Operand) (t : TypeId) (ho : o.op = .makeSlice t l c)
    (L C v : Value) (w1 : World) (hl : a.eval l = L) (hc : a.eval c = C) (hrun : (Instr.makeSlice t L C).run Tryz.prog w = .ok v w1) (h : wpList Tryz.prog ops Q rest (a.put o.dst v) w1) : wpList Tryz.prog ops Q (o :: rest) a w := by
  refine wpList_plain hg fun K hK' => ?_
  unfold Oper.wp
  simp [execOp, ho, hl, hc, hrun, Result.andThen]
  exact hK' _ _ h
theorem index_text (s : ByteArray) (k : Nat) (x : Int) (hx : x = k) (h : k < s.size) (w : World) : (Instr.index 9 (.string s) (.int .i64 x)).run Tryz.prog w = .ok (.int .u8 (byteL s.data.toList k)) w := by
  subst hx
  rw [run_index_string w 9 s .i64 _ Tryz.underlying9]
  unfold byteL
  have hl : k < s.data.size := h
  have e : s.data.toList.getD k 0 = s[k] := by
    simp only [List.getD, Array.getElem?_toList, Array.getElem?_eq_getElem hl, Option.getD_some]
    rfl
  rw [dif_pos ⟨by omega, by omega⟩, e]
  simp
theorem byteL_bd (l : List UInt8) (k : Nat) : 0 ≤ byteL l k ∧ byteL l k < 256 := by
  unfold byteL
  have := (l.getD k 0).toNat_lt
  omega
theorem below_drewN {B : Nat} {a w : World} (n : Nat) (h : Below B a w) : Below B a (w.drewN n) := ⟨h.os, h.tape, h.output, h.size, h.block⟩
theorem ret_agg {a b : Array Value} (h : a = b) : Ending.returned (.agg a) = .returned (.agg b) := by rw [h]
/-- The first k words are there. -/
def upto (b : Nat → Int) (k : Nat) : Nat → Int := fun j => if j < k then sched b j else 0
theorem upto_set (b : Nat → Int) (k : Nat) : (cells32 64 (upto b k)).setIfInBounds k (.int .u32 (sched b k)) = cells32 64 (upto b (k + 1)) := by
  rw [cells32_set]
  apply cells32_congr
  intro j _
  unfold upto
  by_cases h : j = k
  · subst h; simp
  · rw [if_neg h]
    by_cases h2 : j < k
    · rw [if_pos h2, if_pos (by omega)]
    · rw [if_neg h2, if_neg (by omega)]
theorem upto_cell {t : TypeId} {w : World} {g : Nat} {b : Nat → Int} {k : Nat} (hg : w.heap[g]? = some (.cells (cells32 64 (upto b k)) t (0, 0))) {j : Nat} (hj : j < 64) (hk : j < k) :
    w.cell? ⟨g, j, none⟩ = some (.int .u32 (sched b j)) := by
  rw [cell_of_row w g j _ _ _ hg, cells32_get _ hj, upto, if_pos hk]
theorem upto_any {t : TypeId} {w : World} {g : Nat} {f : Nat → Int} (hg : w.heap[g]? = some (.cells (cells32 64 f) t (0, 0))) {j : Nat} (hj : j < 64) :
    w.cell? ⟨g, j, none⟩ = some (.int .u32 (f j)) ∧ w.frozen? ⟨g, j, none⟩ = false :=
  ⟨by rw [cell_of_row w g j _ _ _ hg, cells32_get _ hj], frozen_of_row w g j _ _ hg⟩
theorem ba_len (x : ByteArray) : x.data.toList.length = x.size := rfl
theorem ba_ext {a b : ByteArray} (h : a.data.toList = b.data.toList) : a = b := by
  apply ByteArray.ext
  exact Array.toList_inj.1 h
theorem byte_mod (n : Int) : (UInt8.ofNat (n % 256).toNat).toNat = n % 256 := by
  rw [UInt8.toNat_ofNat']
  omega
/-- 'append(row, a, b, c, d)', row the call's own: it owns four bytes more; of what lies below B nothing turns. -/
theorem wp_app_four {w : World} {ops : Array Oper} {rest : List Oper} {o : Oper} {a : Act} {Q : Exit → Act → World → Prop} (hgd : o.guard = none) (s x : Operand)
    (ho : o.op = .call { callee := .builtin .append, args := #[s, x], argTypes := #[22, 22] }) (B : Nat) (v : Value) (l : List UInt8) (hs : a.eval s = v) (hown : OwnB w B v l) (c0 c1 c2 c3 : UInt8) (y0 y1 y2 y3 : Int) (hy0 : y0 = c0.toNat) (hy1 : y1 = c1.toNat) (hy2 : y2 = c2.toNat) (hy3 : y3 = c3.toNat)
    (hx : a.eval x = .slice (some ⟨w.heap.size, 0, none⟩) 4 4) (hl : l.length ≤ 1073741824) (hB : B ≤ w.heap.size)
    (h : ∀ v' w', OwnB w' B v' (l ++ [c0, c1, c2, c3]) → Below B w w' → wpList Tryz.prog ops Q rest (a.put o.dst v') w') : wpList Tryz.prog ops Q (o :: rest) a (w.alloc (.cells #[.int .u8 y0, .int .u8 y1, .int .u8 y2, .int .u8 y3] 5)) := by
  obtain ⟨i0, hi, hz0, hz1, hz2⟩ := info_parts infoByte
  refine wpList_append_own _ hgd s x 22 ho B 5 i0 (.int .u8 0) 1 1 Tryz.underlying22 hi hz0 hz1 hz2 rfl (by decide) v l.length (byteCells l) hs (World.ownsRow.alloc hown _) ⟨w.heap.size, 0, none⟩ 4 4 [.int .u8 y0, .int .u8 y1, .int .u8 y2, .int .u8 y3] hx rfl
    (fun j u hu => ?_) (by intro u hu; simp at hu; rcases hu with rfl | rfl | rfl | rfl <;> rfl) (by unfold maxLen; omega) (by omega) (by simp; omega) ?_
  · have hadd : (⟨w.heap.size, 0, none⟩ : Addr).add j = ⟨w.heap.size, j, none⟩ := by unfold Addr.add; split <;> simp_all
    rw [hadd, cell_of_row _ _ j _ _ _ (heap_alloc_new w _)]
    simpa using hu
  intro v' w' h1 h2 _
  refine h v' w' ?_ ?_
  · unfold OwnB
    subst hy0 hy1 hy2 hy3
    simpa [byteCells] using h1
  · refine ((Below.refl B w).alloc hB _).grown h2 (by simp; omega) fun k hk => ?_
    exact (World.ownsRow.lt hown k hk).1
def baOf (l : List UInt8) : ByteArray := ⟨l.toArray⟩
theorem baOf_list (l : List UInt8) : (baOf l).data.toList = l := rfl
theorem baOf_size (l : List UInt8) : (baOf l).size = l.length := by simp [baOf, ByteArray.size]
/-- The digest of a text. -/
def shaB (s : ByteArray) : ByteArray := baOf (shaL s.data.toList)
theorem shaB_size (s : ByteArray) : (shaB s).size = 32 := by rw [shaB, baOf_size, shaL_len]
theorem ba_app_list (a b : ByteArray) : (a ++ b).data.toList = a.data.toList ++ b.data.toList := by simp [ByteArray.data_append]
/-- What Digest answers. -/
def digV (s : ByteArray) : ByteArray := if 20000 < (s.size : Int) then ByteArray.empty else shaB s
end Go.Proofs.YtpglcbidfghfkaaGreatDoor

/-
  A key filled up to a block, each byte put together with one: laws on it.
-/
namespace Go.Proofs.YtpglcbidfghfkaaGreatDoor
open Go.RowKit Go.Lib
set_option linter.unusedVariables false

/-- n bytes, as cells. -/
def cells8 (n : Nat) (f : Nat → Int) : Array Value := ((List.range n).map fun j => Value.int .u8 (f j)).toArray
theorem cells8_size (n : Nat) (f : Nat → Int) : (cells8 n f).size = n := by simp [cells8]
theorem cells8_get {n : Nat} (f : Nat → Int) {j : Nat} (h : j < n) : (cells8 n f)[j]? = some (.int .u8 (f j)) := by simp [cells8, h]
theorem cells8_congr {n : Nat} {f g : Nat → Int} (h : ∀ j, j < n → f j = g j) : cells8 n f = cells8 n g := by
  unfold cells8
  congr 1
  apply List.map_congr_left
  intro j hj
  rw [h j (by simpa using hj)]
theorem cells8_set (n : Nat) (f : Nat → Int) (i : Nat) (v : Int) : (cells8 n f).setIfInBounds i (.int .u8 v) = cells8 n (fun j => if j = i then v else f j) := by
  apply Array.ext_getElem?
  intro k
  by_cases hk : k < n
  · rw [cells8_get _ hk, Array.getElem?_setIfInBounds]
    by_cases e : i = k
    · subst e; simp [cells8_size, hk]
    · rw [if_neg e, cells8_get _ hk, if_neg (fun h => e h.symm)]
  · rw [Array.getElem?_eq_none (by simp [cells8_size]; omega), Array.getElem?_eq_none (by simp [cells8_size]; omega)]

theorem bits8_bd (op : BinOp) (a b : Int) : 0 ≤ bits op .u8 a b ∧ bits op .u8 a b < 256 := by
  unfold bits
  simp only [IntKind.wrap_u8']
  omega
/-- The key filled up, each byte put together with m. -/
def maskL (l : List UInt8) (m : Int) : List UInt8 := (List.range 64).map fun j => UInt8.ofNat (bits .xor .u8 (byteL l j) m).toNat
def maskB (k : ByteArray) (m : Int) : ByteArray := baOf (maskL k.data.toList m)
theorem maskL_len (l : List UInt8) (m : Int) : (maskL l m).length = 64 := by simp [maskL]
theorem maskB_size (k : ByteArray) (m : Int) : (maskB k m).size = 64 := by rw [maskB, baOf_size, maskL_len]
def masked (l : List UInt8) (m : Int) (k : Nat) : Nat → Int := fun j => if j < k then bits .xor .u8 (byteL l j) m else byteL l j
theorem masked_set (l : List UInt8) (m : Int) (k : Nat) : (cells8 64 (masked l m k)).setIfInBounds k (.int .u8 (bits .xor .u8 (byteL l k) m)) = cells8 64 (masked l m (k + 1)) := by
  rw [cells8_set]
  apply cells8_congr
  intro j _
  unfold masked
  by_cases h : j = k
  · subst h; simp
  · rw [if_neg h]
    by_cases h2 : j < k
    · rw [if_pos h2, if_pos (by omega)]
    · rw [if_neg h2, if_neg (by omega)]
theorem masked_all (l : List UInt8) (m : Int) : (cells8 64 (masked l m 64)).toList.take 64 = byteCells (maskL l m) := by
  rw [List.take_of_length_le (by simp [cells8])]
  unfold cells8 byteCells maskL
  rw [List.map_map]
  apply List.map_congr_left
  intro j hj
  have hj' : j < 64 := by simpa using hj
  have hb := bits8_bd .xor (byteL l j) m
  simp only [masked, if_pos hj', Function.comp]
  congr 1
  rw [UInt8.toNat_ofNat']
  omega

theorem make_64 (w : World) : ∃ w1, (Instr.makeSlice 22 (.int .i64 64) (.int .i64 64)).run Tryz.prog w = .ok (.slice (some ⟨w.heap.size, 0, none⟩) 64 64) w1 ∧ w1.heap[w.heap.size]? = some (.cells (cells8 64 (fun _ => 0)) 5 (0, 0)) ∧ Below w.heap.size w w1 := by
  obtain ⟨i0, hi, hz0, hz1, hz2⟩ := info_parts infoByte
  have h := run_make (P := Tryz.prog) w 22 5 i0 (.int .u8 0) Tryz.underlying22 hi hz0 .i64 .i64 64 64 (by omega) (by omega) (by rw [hz2]; omega) (by omega)
  refine ⟨_, h, ?_, (Below.refl _ _).alloc (Nat.le_refl _) _⟩
  rw [(MapKept.heap_alloc w _).1, hz1]
  refine congrArg (fun c => some (Obj.cells c 5 (0, 0))) ?_
  apply Array.toList_inj.1
  have e := toList_madeCells_one (.int .u8 0) 64
  refine Eq.trans e ?_
  unfold cells8
  rfl
theorem pad_cells (n : Nat) (l : List UInt8) (hl : l.length ≤ n) : ((cells8 n (fun _ => 0)).toList.take 0 ++ byteCells l ++ (cells8 n (fun _ => 0)).toList.drop (0 + l.length)).toArray = cells8 n (masked l 0 0) := by
  apply Array.toList_inj.1
  apply List.ext_getElem?
  intro j
  have hb : (byteCells l).length = l.length := byteCells_length l
  simp only [List.take_zero, List.nil_append, Nat.zero_add, cells8, masked, Nat.not_lt_zero, if_false]
  by_cases hj : j < l.length
  · rw [List.getElem?_append_left (by omega)]
    have hjn : j < n := by omega
    simp [byteCells, byteL, List.getD, hj, hjn]
  · rw [List.getElem?_append_right (by omega), hb, List.getElem?_drop, show l.length + (j - l.length) = j by omega]
    by_cases hjn : j < n
    · simp [byteL, List.getD, hjn, hj]
    · simp [hjn]
theorem copy_key (w : World) (g : Nat) (k : ByteArray) (hg : w.heap[g]? = some (.cells (cells8 64 (fun _ => 0)) 5 (0, 0))) (hk : k.size ≤ 64) (B : Nat) (hB : B ≤ g) :
    ∃ w2, (Builtin.copy_ #[22, 9] 3 #[.slice (some ⟨g, 0, none⟩) 64 64, .string k]).run Tryz.prog w = .ok (goInt k.size) w2 ∧ w2.heap[g]? = some (.cells (cells8 64 (masked k.data.toList 0 0)) 5 (0, 0)) ∧ Below B w w2 := by
  have hz := cells8_size 64 (fun _ => 0)
  refine ⟨_, run_copy_row_string w _ _ _ _ g 0 64 64 k _ 5 Tryz.underlying22 sizeByte hg hk (by rw [hz]; omega), ?_, below_setRow (Below.refl _ _) hB _⟩
  rw [setRow_heap w g _ _ 5 _ hg]
  refine congrArg (fun c => some (Obj.cells c 5 (0, 0))) ?_
  exact pad_cells 64 k.data.toList hk

theorem key_cell {w : World} {g : Nat} {f : Nat → Int} (hg : w.heap[g]? = some (.cells (cells8 64 f) 5 (0, 0))) {j : Nat} (hj : j < 64) :
    w.cell? ⟨g, j, none⟩ = some (.int .u8 (f j)) ∧ w.frozen? ⟨g, j, none⟩ = false :=
  ⟨by rw [cell_of_row w g j _ _ _ hg, cells8_get _ hj], frozen_of_row w g j _ _ hg⟩

end Go.Proofs.YtpglcbidfghfkaaGreatDoor

/-
  What Mac and Stretch answer.
-/
namespace Go.Proofs.YtpglcbidfghfkaaGreatDoor
open Go.RowKit Go.Lib
set_option linter.unusedVariables false

/-- The mac of a key of at most 64 bytes. -/
def macK (k t : ByteArray) : ByteArray := shaB (maskB k 92 ++ shaB (maskB k 54 ++ t))
/-- The key, if it is longer its digest. -/
def keyB (k : ByteArray) : ByteArray := if 64 < (k.size : Int) then shaB k else k
def macB (k t : ByteArray) : ByteArray := macK (keyB k) t
theorem macB_size (k t : ByteArray) : (macB k t).size = 32 := shaB_size _
theorem keyB_size (k : ByteArray) : (keyB k).size ≤ 64 := by
  unfold keyB
  split
  · rw [shaB_size]; omega
  · omega
/-- What Mac answers. -/
def macV (k t : ByteArray) : ByteArray := if 20000 < (k.size : Int) ∨ 20000 < (t.size : Int) then ByteArray.empty else macB k t
def saltB : ByteArray := ⟨#[115, 97, 108, 116]⟩
/-- The pass, stretched n times. -/
def strB (p : ByteArray) : Nat → ByteArray
  | 0 => saltB
  | n + 1 => macB p (strB p n)
theorem strB_size (p : ByteArray) (n : Nat) : (strB p n).size ≤ 32 := by
  cases n with
  | zero => show saltB.size ≤ 32; decide
  | succ n => unfold strB; rw [macB_size]; omega
/-- What Stretch answers. -/
def strV (p : ByteArray) (n : Int) : ByteArray := if 20000 < (p.size : Int) ∨ n < 1 ∨ 100 < n then ByteArray.empty else strB p n.toNat
end Go.Proofs.YtpglcbidfghfkaaGreatDoor

/-
  What the functions of chapter 5 answer: chains of digests, the public texts of a seed, the digits of a text.
-/
namespace Go.Proofs.YtpglcbidfghfkaaGreatDoor
open Go.RowKit Go.Lib
set_option linter.unusedVariables false
set_option linter.unusedSimpArgs false

/-- n steps. -/
def stepsB : Nat → ByteArray → ByteArray
  | 0, t => t
  | n + 1, t => shaB (stepsB n t)
theorem stepsB_sha (n : Nat) (t : ByteArray) : stepsB n (shaB t) = stepsB (n + 1) t := by
  induction n with
  | zero => rfl
  | succ n ih => show shaB (stepsB n (shaB t)) = shaB (stepsB (n + 1) t); rw [ih]
theorem stepsB_more (a b : Nat) (t : ByteArray) : stepsB a (stepsB b t) = stepsB (b + a) t := by
  induction a with
  | zero => rfl
  | succ a ih => show shaB (stepsB a (stepsB b t)) = shaB (stepsB (b + a) t); rw [ih]
theorem stepsB_size (n : Nat) {t : ByteArray} (h : t.size = 32) : (stepsB n t).size = 32 := by
  cases n with
  | zero => exact h
  | succ n => exact shaB_size _
/-- The bytes of a number. -/
def numB (n : Int) : ByteArray := ⟨(putNum n).toArray⟩
theorem numN_len (f : Nat) : ∀ x, (putN f x).length ≤ f + 1 := by
  induction f with
  | zero => intro x; simp [putN]
  | succ f ih =>
    intro x
    have := ih (x / 128)
    unfold putN
    split
    · simp
    · simp; omega
theorem numB_size (n : Int) : (numB n).size ≤ 11 := by
  have := numN_len 10 (foldU n)
  simpa [numB, putNum, ByteArray.size] using this
/-- The beginning of a chain. -/
def beginB (s : ByteArray) (i j : Int) : ByteArray := macB s (numB i ++ numB j)
theorem beginB_size (s : ByteArray) (i j : Int) : (beginB s i j).size = 32 := macB_size _ _
/-- n texts one behind the other. -/
def catB (f : Nat → ByteArray) : Nat → ByteArray
  | 0 => ByteArray.empty
  | n + 1 => catB f n ++ f n
theorem catB_size (f : Nat → ByteArray) (n : Nat) (h : ∀ j, j < n → (f j).size = 32) : (catB f n).size = 32 * n := by
  induction n with
  | zero => rfl
  | succ n ih =>
    show (catB f n ++ f n).size = _
    rw [ByteArray.size_append, ih (fun j hj => h j (by omega)), h n (by omega)]
    omega
theorem catB_congr {f g : Nat → ByteArray} (n : Nat) (h : ∀ j, j < n → f j = g j) : catB f n = catB g n := by
  induction n with
  | zero => rfl
  | succ n ih =>
    show catB f n ++ f n = catB g n ++ g n
    rw [ih (fun j hj => h j (by omega)), h n (by omega)]
/-- The public text of a key whose chains are at their ends. -/
def publicOf (f : Nat → ByteArray) : ByteArray := shaB (catB f 6)
def publicB (s : ByteArray) (i : Nat) : ByteArray := publicOf fun j => stepsB 15 (beginB s i j)
theorem publicB_size (s : ByteArray) (i : Nat) : (publicB s i).size = 32 := shaB_size _
/-- The public texts of a seed's keys. -/
def pubsB (s : ByteArray) : List ByteArray := (List.range 4).map (publicB s)
theorem pubsB_len (s : ByteArray) : (pubsB s).length = 4 := by simp [pubsB]
theorem pubsB_at (s : ByteArray) (j : Nat) (hj : j < (pubsB s).length) : (pubsB s)[j] = publicB s j := by simp [pubsB]
theorem pubsB_size (s : ByteArray) (j : Nat) (hj : j < (pubsB s).length) : (pubsB s)[j].size ≤ 100 := by
  rw [pubsB_at, publicB_size]; omega

/-- The digits of two bytes. -/
def digF (x y : Int) : Nat → Int
  | 0 => x / 16
  | 1 => x % 16
  | 2 => y / 16
  | 3 => y % 16
  | 4 => (60 - x / 16 - x % 16 - y / 16 - y % 16) / 16
  | _ => (60 - x / 16 - x % 16 - y / 16 - y % 16) % 16
theorem digF_bd {x y : Int} (hx0 : 0 ≤ x) (hx1 : x < 256) (hy0 : 0 ≤ y) (hy1 : y < 256) (j : Nat) : 0 ≤ digF x y j ∧ digF x y j ≤ 15 := by
  match j with
  | 0 => show 0 ≤ x / 16 ∧ x / 16 ≤ 15; omega
  | 1 => show 0 ≤ x % 16 ∧ x % 16 ≤ 15; omega
  | 2 => show 0 ≤ y / 16 ∧ y / 16 ≤ 15; omega
  | 3 => show 0 ≤ y % 16 ∧ y % 16 ≤ 15; omega
  | 4 => show 0 ≤ (60 - x / 16 - x % 16 - y / 16 - y % 16) / 16 ∧ (60 - x / 16 - x % 16 - y / 16 - y % 16) / 16 ≤ 15; omega
  | n + 5 => show 0 ≤ (60 - x / 16 - x % 16 - y / 16 - y % 16) % 16 ∧ (60 - x / 16 - x % 16 - y / 16 - y % 16) % 16 ≤ 15; omega
/-- The digits of a text. -/
def digI (t : ByteArray) (j : Nat) : Int := digF (byteL (shaB t).data.toList 0) (byteL (shaB t).data.toList 1) j
theorem digI_bd (t : ByteArray) (j : Nat) : 0 ≤ digI t j ∧ digI t j ≤ 15 :=
  digF_bd (byteL_bd _ 0).1 (byteL_bd _ 0).2 (byteL_bd _ 1).1 (byteL_bd _ 1).2 j
def digB (t : ByteArray) (j : Nat) : Nat := (digI t j).toNat
theorem digB_cast (t : ByteArray) (j : Nat) : ((digB t j : Nat) : Int) = digI t j := by have := digI_bd t j; unfold digB; omega
theorem digB_le (t : ByteArray) (j : Nat) : digB t j ≤ 15 := by have := digI_bd t j; unfold digB; omega
/-- Is it a seed? -/
def seedB (s : ByteArray) : Bool := decide (1 ≤ (s.size : Int) ∧ (s.size : Int) ≤ 64)
theorem seedB_yes {s : ByteArray} (h : seedB s = true) : 1 ≤ (s.size : Int) ∧ (s.size : Int) ≤ 64 := by unfold seedB at h; simpa using h
theorem seedB_no {s : ByteArray} (h : ¬ seedB s = true) : ¬ (1 ≤ (s.size : Int) ∧ (s.size : Int) ≤ 64) := by unfold seedB at h; simpa using h
/-- The Ends of a signature. -/
def endsB (s : ByteArray) (k : Int) (t : ByteArray) : List ByteArray := (List.range 6).map fun j => stepsB (digB t j) (beginB s k j)
/-- The Ends, each taken as far as it is left to go. -/
def leftB (t : ByteArray) (l : List ByteArray) : ByteArray := publicOf fun j => stepsB (15 - digB t j) (l.getD j ByteArray.empty)
/-- WHAT IS SIGNED COMES TO THE KEY'S PUBLIC TEXT. -/
theorem left_ends (s : ByteArray) (k : Nat) (t : ByteArray) : leftB t (endsB s k t) = publicB s k := by
  unfold leftB publicB publicOf
  refine congrArg shaB (catB_congr 6 fun j hj => ?_)
  have hg : (endsB s k t).getD j ByteArray.empty = stepsB (digB t j) (beginB s k j) := by simp [endsB, List.getD, hj]
  have hd := digB_le t j
  rw [hg, stepsB_more, show digB t j + (15 - digB t j) = 15 by omega]
end Go.Proofs.YtpglcbidfghfkaaGreatDoor

/-
  The leaf of a text, the digest of two.
-/
namespace Go.Proofs.YtpglcbidfghfkaaGreatDoor
open Go.RowKit Go.Lib
set_option linter.unusedVariables false

def zeroB : ByteArray := ⟨#[0]⟩
def oneB : ByteArray := ⟨#[1]⟩
/-- The leaf of a text; the digest of two. -/
def leafB (t : ByteArray) : ByteArray := shaB (zeroB ++ t)
def nodeB (l r : ByteArray) : ByteArray := shaB ((oneB ++ l) ++ r)
theorem leafB_size (t : ByteArray) : (leafB t).size = 32 := shaB_size _
theorem nodeB_size (l r : ByteArray) : (nodeB l r).size = 32 := shaB_size _
end Go.Proofs.YtpglcbidfghfkaaGreatDoor

/-
  The digest of nothing; the tree of entries.
-/
namespace Go.Proofs.YtpglcbidfghfkaaGreatDoor
set_option linter.unusedVariables false

/-- The digest of nothing. -/
def noneB : ByteArray := shaB ByteArray.empty
/-- The tree of entries. -/
def treeB (l : List ByteArray) : ByteArray := treeD nodeB noneB (l.map leafB)
theorem treeB_none {l : List ByteArray} (h : l.length = 0) : treeB l = noneB := by
  obtain rfl := List.eq_nil_of_length_eq_zero h
  simp [treeB, treeD_nil]
theorem treeB_one {l : List ByteArray} (h : l.length = 1) (h0 : 0 < l.length) : treeB l = leafB l[0] := by
  match l, h with
  | [x], _ => exact treeD_one nodeB noneB (leafB x)
theorem treeB_more {l : List ByteArray} (h : 2 ≤ l.length) : treeB l = nodeB (treeB (l.take (half l.length))) (treeB (l.drop (half l.length))) := by
  unfold treeB
  rw [treeD_more nodeB noneB (l := l.map leafB) (by simpa using h), List.length_map, List.map_take, List.map_drop]
theorem noneB_size : noneB.size = 32 := shaB_size _
theorem treeB_size (l : List ByteArray) : (treeB l).size = 32 := by
  rcases Nat.lt_or_ge l.length 2 with h | h
  · by_cases h0 : l.length = 0
    · rw [treeB_none h0, noneB_size]
    · rw [treeB_one (by omega) (by omega), leafB_size]
  · rw [treeB_more h, nodeB_size]
end Go.Proofs.YtpglcbidfghfkaaGreatDoor

/-
  What Included answers.
-/
namespace Go.Proofs.YtpglcbidfghfkaaGreatDoor
open Go.RowKit Go.Lib
set_option linter.unusedVariables false

/-- What the end of a run says. -/
def inclEnd (root : ByteArray) : Option (Nat × Nat × ByteArray) → Bool
  | none => false
  | some (_, b, h) => decide (b = 0) && (h.toList == root.toList)
/-- What Included answers. -/
def inclB (leaf : ByteArray) (i n : Int) (path : List ByteArray) (root : ByteArray) : Bool :=
  if 63 < (path.length : Int) ∨ wideB path = false ∨ ¬ (leaf.size : Int) = 32 ∨ ¬ (root.size : Int) = 32 ∨ i < 0 ∨ n ≤ i then false else inclEnd root (inclRun nodeB (some (i.toNat, (n - 1).toNat, leaf)) path)
end Go.Proofs.YtpglcbidfghfkaaGreatDoor

/-
  What Consistent answers.
-/
namespace Go.Proofs.YtpglcbidfghfkaaGreatDoor
open Go.RowKit Go.Lib
set_option linter.unusedVariables false

/-- Halved as long as it is even. -/
def oddS (go : Nat → Nat) (n : Nat) : Nat := if h : n % 2 = 0 ∧ 0 < n then go (n / 2) else n
def oddOf (n : Nat) : Nat := wfix id 0 oddS n
theorem oddOf_eq (n : Nat) : oddOf n = if h : n % 2 = 0 ∧ 0 < n then oddOf (n / 2) else n :=
  wfix_eq id 0 oddS (fun x g g' h => by
    unfold oddS
    by_cases c : x % 2 = 0 ∧ 0 < x
    · rw [dif_pos c, dif_pos c]
      exact h _ (by show x / 2 < x; omega)
    · rw [dif_neg c, dif_neg c]) n
def powB (n : Nat) : Bool := decide (oddOf n = 1)
theorem oddOf_even {n : Nat} (h : n % 2 = 0) (h0 : 0 < n) : oddOf n = oddOf (n / 2) := by rw [oddOf_eq, dif_pos ⟨h, h0⟩]
theorem oddOf_odd {n : Nat} (h : n % 2 = 1) : oddOf n = n := by rw [oddOf_eq, dif_neg (by omega)]
theorem oddOf_pow (e : Nat) : oddOf (2 ^ e) = 1 := by
  induction e with
  | zero => exact oddOf_odd rfl
  | succ e ih =>
    have hp := Nat.two_pow_pos e
    rw [oddOf_even (by rw [Nat.pow_succ]; omega) (by rw [Nat.pow_succ]; omega), show 2 ^ (e + 1) / 2 = 2 ^ e by rw [Nat.pow_succ]; omega, ih]
theorem pow_oddOf (n : Nat) : oddOf n = 1 → ∃ e, n = 2 ^ e := by
  induction n using Nat.strongRecOn with
  | ind n ih =>
    intro h
    by_cases h2 : n % 2 = 0 ∧ 0 < n
    · rw [oddOf_even h2.1 h2.2] at h
      obtain ⟨e, he⟩ := ih (n / 2) (by omega) h
      exact ⟨e + 1, by rw [Nat.pow_succ, ← he]; omega⟩
    · rw [oddOf_eq, dif_neg h2] at h
      exact ⟨0, by rw [h]⟩
theorem powB_iff (n : Nat) : powB n = true ↔ ∃ e, n = 2 ^ e := by
  unfold powB
  rw [decide_eq_true_iff]
  exact ⟨pow_oddOf n, fun ⟨e, he⟩ => by rw [he]; exact oddOf_pow e⟩

/-- What the end of a run says. -/
def consEnd (was root : ByteArray) : Option (Nat × Nat × ByteArray × ByteArray) → Bool
  | none => false
  | some (_, b, x, y) => decide (b = 0) && (x.toList == was.toList) && (y.toList == root.toList)
/-- The row that is run over. -/
def rowB (m : Nat) (proof : List ByteArray) (was : ByteArray) : List ByteArray := if powB m then was :: proof else proof
/-- What Consistent answers of right arguments. -/
def consY (m n : Nat) (proof : List ByteArray) (was root : ByteArray) : Bool :=
  if m = n then decide (proof.length = 0) && (was.toList == root.toList) else consEnd was root (consAll nodeB (odds (m - 1) (n - 1)) (rowB m proof was))
/-- What Consistent answers. -/
def consB (m n : Int) (proof : List ByteArray) (was root : ByteArray) : Bool :=
  if 64 < (proof.length : Int) ∨ wideB proof = false ∨ ¬ (was.size : Int) = 32 ∨ ¬ (root.size : Int) = 32 ∨ m < 1 ∨ n < m then false else consY m.toNat n.toNat proof was root
theorem consB_no {m n : Int} {proof : List ByteArray} {was root : ByteArray} (h : 64 < (proof.length : Int) ∨ wideB proof = false ∨ ¬ (was.size : Int) = 32 ∨ ¬ (root.size : Int) = 32 ∨ m < 1 ∨ n < m) : consB m n proof was root = false := by
  unfold consB
  rw [if_pos h]
theorem consB_yes {m n : Int} {proof : List ByteArray} {was root : ByteArray} (h1 : proof.length ≤ 64) (h2 : wideB proof = true) (h3 : (was.size : Int) = 32) (h4 : (root.size : Int) = 32) (h5 : 1 ≤ m) (h6 : m ≤ n) : consB m n proof was root = consY m.toNat n.toNat proof was root := by
  unfold consB
  rw [if_neg]
  rintro (h | h | h | h | h | h)
  · omega
  · rw [h2] at h; cases h
  · exact h h3
  · exact h h4
  · omega
  · omega

/-- Retraced from above, and held against both. -/
theorem cons_ret (m n : Nat) (proof : List ByteArray) (was root : ByteArray) (h1 : 1 ≤ m) (hmn : m ≤ n) :
    consY m n proof was root = ((retR nodeB ByteArray.empty was proof.reverse m n true).2 && (((retR nodeB ByteArray.empty was proof.reverse m n true).1.1.toList == was.toList) && ((retR nodeB ByteArray.empty was proof.reverse m n true).1.2.toList == root.toList))) := by
  unfold consY
  by_cases hm : m = n
  · subst hm
    rw [if_pos rfl]
    cases hr : proof.reverse with
    | nil =>
      have hp : proof = [] := List.reverse_eq_nil_iff.1 hr
      rw [retR, if_pos ⟨rfl, rfl⟩, hp]
      simp
    | cons p r =>
      have hp : ¬ proof.length = 0 := by
        intro h
        have : proof.reverse.length = 0 := by rw [List.length_reverse, h]
        rw [hr] at this
        simp at this
      rw [retR, if_pos ⟨rfl, rfl⟩, decide_eq_false hp]
      simp
  · rw [if_neg hm]
    have key : ∀ R : (ByteArray × ByteArray) × Bool, ∀ s : Option (Nat × Nat × ByteArray × ByteArray), consOut s = (if R.2 then some R.1 else none) → consEnd was root s = (R.2 && ((R.1.1.toList == was.toList) && (R.1.2.toList == root.toList))) := by
      rintro ⟨⟨x, y⟩, f⟩ s hs
      cases s with
      | none =>
        cases f with
        | true => simp [consOut] at hs
        | false => rfl
      | some t =>
        obtain ⟨a, b, x', y'⟩ := t
        by_cases hb : b = 0
        · cases f with
          | true =>
            simp [consOut, hb] at hs
            obtain ⟨rfl, rfl⟩ := hs
            simp [consEnd, hb]
          | false => simp [consOut, hb] at hs
        · cases f with
          | true => simp [consOut, hb] at hs
          | false => simp [consEnd, hb]
    by_cases hp : powB m = true
    · have hpow := (powB_iff m).1 hp
      have hrow : rowB m proof was = was :: proof := by unfold rowB; rw [if_pos hp]
      have hrun := ret_run nodeB ByteArray.empty was m n (was :: proof) h1 (by omega)
      rw [hrow, key _ _ hrun, List.reverse_cons]
      obtain ⟨e1, e2⟩ := ret_pow nodeB ByteArray.empty was proof.reverse m n hpow hmn (.inr (by omega))
      rw [← e1]
      cases hf : (retR nodeB ByteArray.empty was proof.reverse m n true).2 with
      | false => rfl
      | true => rw [e2 hf]
    · have hrow : rowB m proof was = proof := by unfold rowB; rw [if_neg hp]
      have hrun := ret_run nodeB ByteArray.empty was m n proof h1 (by omega)
      rw [hrow, key _ _ hrun, ret_not nodeB ByteArray.empty was proof.reverse m n (fun h => hp ((powB_iff m).2 h)) h1 (by omega)]
end Go.Proofs.YtpglcbidfghfkaaGreatDoor

/-
  What Verify answers.
-/
namespace Go.Proofs.YtpglcbidfghfkaaGreatDoor
open Go.RowKit Go.Lib
set_option linter.unusedVariables false
set_option linter.unusedSimpArgs false

def verB (root text : ByteArray) (k : Int) (el pl : List ByteArray) : Bool := sigRB k el pl && decide ((root.size : Int) = 32) && decide ((text.size : Int) ≤ 20000) && inclB (leafB (leftB text el)) k 4 pl root
theorem verB_sig {root text : ByteArray} {k : Int} {el pl : List ByteArray} (h : sigRB k el pl = false) : verB root text k el pl = false := by unfold verB; rw [h]; rfl
theorem verB_root {root text : ByteArray} {k : Int} {el pl : List ByteArray} (h : sigRB k el pl = true) (h1 : ¬ (root.size : Int) = 32) : verB root text k el pl = false := by unfold verB; rw [h, decide_eq_false h1]; rfl
theorem verB_text {root text : ByteArray} {k : Int} {el pl : List ByteArray} (h : sigRB k el pl = true) (h1 : (root.size : Int) = 32) (h2 : ¬ (text.size : Int) ≤ 20000) : verB root text k el pl = false := by unfold verB; rw [h, decide_eq_true h1, decide_eq_false h2]; rfl
theorem verB_rest {root text : ByteArray} {k : Int} {el pl : List ByteArray} (h : sigRB k el pl = true) (h1 : (root.size : Int) = 32) (h2 : (text.size : Int) ≤ 20000) : verB root text k el pl = inclB (leafB (leftB text el)) k 4 pl root := by unfold verB; rw [h, decide_eq_true h1, decide_eq_true h2]; rfl
theorem leftB_size (t : ByteArray) (l : List ByteArray) : (leftB t l).size = 32 := shaB_size _
theorem wide_get {l : List ByteArray} (h : wideB l = true) (h6 : l.length = 6) (j : Nat) (hj : j < 6) : (l.getD j ByteArray.empty).size = 32 := by
  have hjl : j < l.length := by omega
  have e : l.getD j ByteArray.empty = l[j] := by simp [List.getD, hjl]
  rw [e]
  exact wideB_at h hjl
end Go.Proofs.YtpglcbidfghfkaaGreatDoor

/-
  A number of 32 bits turned right, the document's way.
-/
namespace Go.Proofs.YtpglcbidfghfkaaGreatDoor
open Go.RowKit
set_option linter.unusedVariables false

theorem turn_any (k x : Int) (w : World) (hk : k ∈ [2, 6, 7, 11, 13, 17, 18, 19, 22, 25]) (h0 : 0 ≤ x) (h1 : x < 4294967296) :
    Calls Tryz.prog 228 #[.int .u32 x, .int .u64 k] w fun e w' => e = .returned (.int .u32 (rotr k x)) ∧ w' = w := by
  simp only [List.mem_cons, List.not_mem_nil, or_false] at hk
  rcases hk with rfl | rfl | rfl | rfl | rfl | rfl | rfl | rfl | rfl | rfl
  all_goals
    go_enter Tryz.func228, Tryz.ntmps228
    go_wp2
    go_ret
    exact ⟨rfl, rfl⟩
end Go.Proofs.YtpglcbidfghfkaaGreatDoor

/-
  Is it a seed? The document's test.
-/
namespace Go.Proofs.YtpglcbidfghfkaaGreatDoor
open Go.RowKit Go.Lib
set_option linter.unusedVariables false
set_option linter.unusedSimpArgs false

set_option maxHeartbeats 400000 in
theorem specSeed_any (s : ByteArray) (w : World) (hz : s.size ≤ 1048576) :
    Calls Tryz.prog 70 #[.string s] w fun e w' => e = .returned (.bool (seedB s)) ∧ w' = w := by
  unfold seedB
  by_cases h1 : 1 ≤ (s.size : Int)
  · by_cases h2 : (s.size : Int) ≤ 64
    · rw [decide_eq_true ⟨h1, h2⟩]
      go_enter Tryz.func70, Tryz.ntmps70
      go_wp2
      go_ret
      exact ⟨rfl, rfl⟩
    · rw [decide_eq_false (fun h => h2 h.2)]
      go_enter Tryz.func70, Tryz.ntmps70
      go_wp2
      go_ret
      exact ⟨rfl, rfl⟩
  · rw [decide_eq_false (fun h => h1 h.1)]
    go_enter Tryz.func70, Tryz.ntmps70
    go_wp2
    go_ret
    exact ⟨rfl, rfl⟩
end Go.Proofs.YtpglcbidfghfkaaGreatDoor

/-
  The program's key, filled up to a block, each byte put together with one.
-/
namespace Go.Proofs.YtpglcbidfghfkaaGreatDoor
open Go.RowKit Go.Lib
set_option linter.unusedVariables false

set_option maxHeartbeats 1000000 in
set_option maxRecDepth 10000 in
theorem maskedKey_any (k : ByteArray) (m : Int) (w : World) (hk : k.size ≤ 64) (hm0 : 0 ≤ m) (hm1 : m < 256) :
    Calls Tryz.prog 226 #[.string k, .int .u8 m] w fun e w' => e = .returned (.string (maskB k m)) ∧ Below w.heap.size w w' := by
  obtain ⟨w1, hmk, hg1, hb1⟩ := make_64 w
  obtain ⟨w2, hcp, hg2, hb2⟩ := copy_key w1 w.heap.size k hg1 hk w.heap.size (Nat.le_refl _)
  have HMK : Hid (_ = _) := hmk
  have e0 : masked k.data.toList 0 0 = masked k.data.toList m 0 := by unfold masked; simp
  rw [e0] at hg2
  have H2 : Hid (w2.heap[w.heap.size]? = _ ∧ Below w.heap.size w w2) := ⟨hg2, hb1.trans hb2⟩
  clear hmk hg1 hb1 hg2 hb2 e0
  go_enter Tryz.func226, Tryz.ntmps226
  go_wp2_with (at_make; go_must (refine wp_make_run rfl _ _ 22 rfl _ _ _ w1 rfl rfl HMK.out ?_))
  go_loopw [13] (fun i wr => ∃ j : Nat, j ≤ 64 ∧ i = .int .i64 j ∧ wr.heap[w.heap.size]? = some (.cells (cells8 64 (masked k.data.toList m j)) 5 (0, 0)) ∧ Below w.heap.size w wr) (fun i _ => 64 - (intOf i).toNat)
  case atStart => exact ⟨0, by omega, rfl, H2.out.1, H2.out.2⟩
  case round =>
    obtain ⟨j, hj, rfl, hg, hb⟩ := hrel
    by_cases hlt : j < 64
    · obtain ⟨hc, hf⟩ := key_cell hg hlt
      have e : masked k.data.toList m j j = byteL k.data.toList j := by unfold masked; rw [if_neg (by omega)]
      rw [e] at hc
      have hs := heap_setCell_same wr w.heap.size j _ _ (.int .u8 (bits .xor .u8 (byteL k.data.toList j) m)) hg
      rw [masked_set] at hs
      have H3 : Hid (_ ∧ Below w.heap.size w wr) := ⟨hs, hb⟩
      obtain ⟨p0, p1⟩ := byteL_bd k.data.toList j
      generalize byteL k.data.toList j = x at *
      clear hs hg hb e hcp
      go_wp2
      go_roundw
      case rel => exact ⟨j + 1, by omega, by go_num, H3.out.1, H3.out.2.setCell (Nat.le_refl _) _⟩
      case measure => simp [intOf]; omega
    · have e64 : j = 64 := by omega
      rw [e64] at hg
      have hcv := conv_text wr w.heap.size 64 64 (maskL k.data.toList m) _ _ _ hg (masked_all _ _) (maskL_len _ _)
      have HB : Hid (Below w.heap.size w wr) := hb
      clear hg hb e64 hcp
      go_wp2
      go_ret
      exact ⟨rfl, HB.out⟩
end Go.Proofs.YtpglcbidfghfkaaGreatDoor

/-
  Is it a seed, is it a key? The program's tests.
-/
namespace Go.Proofs.YtpglcbidfghfkaaGreatDoor
open Go.RowKit Go.Lib
set_option linter.unusedVariables false
set_option linter.unusedSimpArgs false

set_option maxHeartbeats 400000 in
theorem seedRight_any (s : ByteArray) (w : World) (hz : s.size ≤ 1048576) :
    Calls Tryz.prog 61 #[.string s] w fun e w' => e = .returned (.bool (seedB s)) ∧ w' = w := by
  unfold seedB
  by_cases h1 : 1 ≤ (s.size : Int)
  · by_cases h2 : (s.size : Int) ≤ 64
    · rw [decide_eq_true ⟨h1, h2⟩]
      go_enter Tryz.func61, Tryz.ntmps61
      go_wp2
      go_ret
      exact ⟨rfl, rfl⟩
    · rw [decide_eq_false (fun h => h2 h.2)]
      go_enter Tryz.func61, Tryz.ntmps61
      go_wp2
      go_ret
      exact ⟨rfl, rfl⟩
  · rw [decide_eq_false (fun h => h1 h.1)]
    go_enter Tryz.func61, Tryz.ntmps61
    go_wp2
    go_ret
    exact ⟨rfl, rfl⟩
end Go.Proofs.YtpglcbidfghfkaaGreatDoor
