/-
  Small laws on rows of bytes that a call makes itself: make, copy of a text into such a row, a row turned into a text.
-/
import Derived.Test.YtcenlgfopmahcaaGreatDoorRows
import Derived.WalkKit
import Derived.WalkSpells
import Derived.Lib.BufferWrite
import Derived.Laws.OwnMore
import Derived.Laws.CopyOwn
import Derived.Laws.BytesArg
namespace Go.Proofs.YtcenlgfopmahcaaGreatDoor
open Go.RowKit Go.Lib

theorem ret_str {a b : ByteArray} (h : a = b) : Ending.returned (.string a) = .returned (.string b) := by rw [h]

theorem infoByte : (Tryz.prog.info? 5).map (fun i => (i.zero, i.size, i.bytes)) = some (some (.int .u8 0), 1, 1) := by kernel_rfl
theorem sizeByte : (Tryz.prog.info? 5).map (·.size) = some 1 := by kernel_rfl
theorem sizeByte' : ((Tryz.prog.info? 5).map (·.size)).isSome = true := by kernel_rfl

theorem make_bytes (w : World) (n : Nat) (hn : n ≤ 1073741824) : ∃ w1 cur, (Instr.makeSlice 87 (.int .i64 (n : Int)) (.int .i64 (n : Int))).run Tryz.prog w = .ok (.slice (some ⟨w.heap.size, 0, none⟩) n n) w1 ∧
    w1.heap[w.heap.size]? = some (.cells cur 5 (0, 0)) ∧ cur.size = n ∧ Below w.heap.size w w1 := by
  obtain ⟨i0, hi, hz0, hz1, hz2⟩ := info_parts infoByte
  have h := run_make (P := Tryz.prog) w 87 5 i0 (.int .u8 0) Tryz.underlying87 hi hz0 .i64 .i64 n n (by omega) (by omega) (by rw [hz2]; omega) (by omega)
  simp only [Int.toNat_natCast] at h
  refine ⟨_, madeCells (Value.int IntKind.u8 0).cells (n * i0.size), h, (MapKept.heap_alloc w _).1, by rw [size_madeCells, hz1]; omega, (Below.refl _ _).alloc (Nat.le_refl _) _⟩

theorem copy_text (w : World) (g o dLen dCap : Nat) (s : ByteArray) (cur : Array Value) (t : TypeId) (hg : w.heap[g]? = some (.cells cur t (0, 0))) (hle : s.size ≤ dLen) (hfit : o + s.size ≤ cur.size) (B : Nat) (hB : B ≤ g) :
    ∃ w2 cur2, (Builtin.copy_ #[87, 9] 3 #[.slice (some ⟨g, o, none⟩) dLen dCap, .string s]).run Tryz.prog w = .ok (goInt s.size) w2 ∧
      w2.heap[g]? = some (.cells cur2 t (0, 0)) ∧ cur2.size = cur.size ∧ cur2.toList.take (o + s.size) = cur.toList.take o ++ byteCells s.data.toList ∧ Below B w w2 := by
  have hlen : (byteCells s.data.toList).length = s.size := by rw [byteCells_length, ← size_eq]
  have hcl : cur.toList.length = cur.size := rfl
  refine ⟨_, _, run_copy_row_string w _ _ _ _ g o dLen dCap s cur t Tryz.underlying87 sizeByte hg hle hfit, setRow_heap w g _ _ t _ hg, ?_, ?_, below_setRow (Below.refl _ _) hB _⟩
  · simp [hlen]; omega
  · rw [List.take_append_of_le_length (by simp [hlen]; omega)]
    exact List.take_of_length_le (by simp [hlen]; omega)

theorem cell_row {w : World} {g : Nat} {cur : Array Value} {t : TypeId} {fr : Nat × Nat} (hg : w.heap[g]? = some (.cells cur t fr)) (j : Nat) : w.cell? ⟨g, j, none⟩ = cur[j]? := by
  simp [World.cell?, hg]

theorem conv_text (w : World) (g n cap : Nat) (l : List UInt8) (cur : Array Value) (t : TypeId) (fr : Nat × Nat) (hg : w.heap[g]? = some (.cells cur t fr)) (hl : cur.toList.take n = byteCells l) (hn : l.length = n) :
    (convert 87 9 (.slice (some ⟨g, 0, none⟩) n cap)).run Tryz.prog w = .ok (.string ⟨l.toArray⟩) w := by
  have h := run_convert_bytes_arg (P := Tryz.prog) w 87 5 Tryz.underlying87 Tryz.underlying5 g 0 n cap (l.map fun c => (c.toNat : Int)) (by simpa using hn) (fun i hi => by
    rw [Nat.zero_add, cell_row hg]
    have e : (cur.toList.take n)[i]? = cur[i]? := by rw [List.getElem?_take]; simp [hi]
    rw [← e, hl]
    have hil : i < l.length := by omega
    simp [byteCells, List.getD, hil]) 9 Tryz.underlying9
  rw [h]
  exact congrArg (fun z => Result.ok (Value.string z) w) (by simp [strOfNums, Function.comp_def])

/-- A block of three cells that was laid ahead of a call lies there behind it. -/
theorem three_cells {B g : Nat} {W w1 : World} {a b c : Value} {t : TypeId} (hb : Below B W w1) (hB : g < B) (hW : W.heap[g]? = some (.cells #[a, b, c] t (0, 0))) :
    (w1.cell? ⟨g, 0, none⟩ = some a ∧ w1.cell? ⟨g, 1, none⟩ = some b ∧ w1.cell? ⟨g, 2, none⟩ = some c) ∧ w1.frozen? ⟨g, 0, none⟩ = false ∧ w1.frozen? ⟨g, 1, none⟩ = false ∧ w1.frozen? ⟨g, 2, none⟩ = false := by
  have h := (hb.block g hB).trans hW
  simp [World.cell?, World.frozen?, h]

theorem below_after {w w1 : World} {o : Obj} (hb : Below (w.alloc o).heap.size (w.alloc o) w1) : Below w.heap.size w w1 :=
  ((Below.refl w.heap.size w).alloc (Nat.le_refl _) o).trans (hb.mono (by simp))
theorem below_drew {B : Nat} {w w1 : World} (hb : Below B w.drew w1) : Below B w w1 := ⟨hb.os, hb.tape, hb.output, hb.size, hb.block⟩

/-- The slice v owns the bytes l, in a row of the call's own. -/
def OwnB (w : World) (B : Nat) (v : Value) (l : List UInt8) : Prop := w.ownsRow B 5 1 v l.length (byteCells l)

theorem OwnB.nil (w : World) (B : Nat) : OwnB w B (.slice none 0 0) [] := World.ownsRow_nil w B _ _
theorem OwnB.made (w : World) (B : Nat) (hB : B ≤ w.heap.size) : OwnB (w.alloc (.cells #[] 5)) B (.slice (some ⟨w.heap.size, 0, none⟩) 0 0) [] := World.ownsRow_made w #[] 0 hB (Nat.zero_le _) rfl

theorem own_conv {w : World} {B : Nat} {v : Value} {l : List UInt8} (h : OwnB w B v l) : (convert 87 9 v).run Tryz.prog w = .ok (.string ⟨l.toArray⟩) w := by
  rcases h with ⟨h1, ⟨rfl, h2⟩ | ⟨g, cap, cur, rfl, _, hg, _, _, _, ht⟩⟩
  · have : l = [] := List.eq_nil_of_length_eq_zero h2
    subst this
    exact run_convert_bytes_nil w 87 5 Tryz.underlying87 Tryz.underlying5 0 0 9 Tryz.underlying9
  · exact conv_text w g l.length cap l cur _ _ hg (by simpa using ht) rfl

/-- 'append(row, c)', row the call's own: it owns one byte more; of what lies below B nothing turns. -/
theorem wp_app_byte {w : World} {ops : Array Oper} {rest : List Oper} {o : Oper} {a : Act} {Q : Exit → Act → World → Prop} (hgd : o.guard = none) (s x : Operand)
    (ho : o.op = .call { callee := .builtin .append, args := #[s, x], argTypes := #[87, 87] }) (B : Nat) (v : Value) (l : List UInt8) (hs : a.eval s = v) (hown : OwnB w B v l) (c : UInt8) (y : Int) (hy : y = c.toNat)
    (hx : a.eval x = .slice (some ⟨w.heap.size, 0, none⟩) 1 1) (hl : l.length ≤ 1073741824) (hB : B ≤ w.heap.size)
    (h : ∀ v' w', OwnB w' B v' (l ++ [c]) → Below B w w' → wpList Tryz.prog ops Q rest (a.put o.dst v') w') : wpList Tryz.prog ops Q (o :: rest) a (w.alloc (.cells #[.int .u8 y] 5)) := by
  obtain ⟨i0, hi, hz0, hz1, hz2⟩ := info_parts infoByte
  refine wpList_append_own _ hgd s x 87 ho B 5 i0 (.int .u8 0) 1 1 Tryz.underlying87 hi hz0 hz1 hz2 rfl (by decide) v l.length (byteCells l) hs (World.ownsRow.alloc hown _) ⟨w.heap.size, 0, none⟩ 1 1 [.int .u8 y] hx rfl
    (cell_one_new _ _ _) (by intro u hu; simp at hu; subst hu; rfl) (by unfold maxLen; omega) (by omega) (by simp; omega) ?_
  intro v' w' h1 h2 _
  refine h v' w' ?_ ?_
  · unfold OwnB
    subst hy
    simpa [byteCells] using h1
  · refine ((Below.refl B w).alloc hB _).grown h2 (by simp; omega) fun k hk => ?_
    exact (World.ownsRow.lt hown k hk).1
end Go.Proofs.YtcenlgfopmahcaaGreatDoor

/-
  The program's helper that lays one text behind the other in memory of its own: it answers the two texts joined, and turns nothing that was there.
-/
namespace Go.Proofs.YtcenlgfopmahcaaGreatDoor
open Go.RowKit Go.Lib

theorem ba_append (a b : ByteArray) : (⟨(a.data.toList ++ b.data.toList).toArray⟩ : ByteArray) = a ++ b := by
  apply ByteArray.ext
  simp [ByteArray.data_append]

set_option maxHeartbeats 400000 in
theorem joined_any (a b : ByteArray) (w : World) (ha : a.size ≤ 1048576) (hb : b.size ≤ 1048576) :
    Calls Tryz.prog 67 #[.string a, .string b] w fun e w' => e = .returned (.string (a ++ b)) ∧ Below w.heap.size w w' := by
  obtain ⟨w1, cur, hmk, hg, hcs, hb1⟩ := make_bytes w (a.size + b.size) (by omega)
  obtain ⟨w2, cur2, hc1, hg2, hcs2, htk2, hb2⟩ := copy_text w1 w.heap.size 0 (a.size + b.size) (a.size + b.size) a cur 5 hg (by omega) (by omega) w.heap.size (Nat.le_refl _)
  rw [Int.natCast_add] at hmk
  by_cases h0 : b.size = 0
  · obtain rfl : b = ByteArray.empty := by simpa using h0
    have hc2 := fun d n => run_copy_empty_string (P := Tryz.prog) w2 87 9 3 5 d n n ByteArray.empty Tryz.underlying87 sizeByte' rfl
    have hcv := conv_text w2 w.heap.size (a.size + ByteArray.empty.size) (a.size + ByteArray.empty.size) a.data.toList cur2 5 (0, 0) hg2 (by simpa using htk2) (by simp)
    have HB : Hid (Below w.heap.size w w2) := hb1.trans hb2
    clear hg hcs hb1 hg2 hcs2 htk2 hb2 h0 hb
    simp only [ByteArray.size_empty, Nat.add_zero, Int.natCast_zero, Int.add_zero] at hmk hc1 hc2 hcv
    go_enter Tryz.func67, Tryz.ntmps67
    go_wp2
    go_ret
    exact ⟨ret_str (by simp), HB.out⟩
  · obtain ⟨w3, cur3, hc2, hg3, hcs3, htk3, hb3⟩ := copy_text w2 w.heap.size a.size b.size b.size b cur2 5 hg2 (by omega) (by omega) w.heap.size (Nat.le_refl _)
    have hcv := conv_text w3 w.heap.size (a.size + b.size) (a.size + b.size) (a.data.toList ++ b.data.toList) cur3 5 (0, 0) hg3 (by
      rw [htk3, show a.size = 0 + a.size by omega, htk2]; simp [byteCells]) (by simp)
    have HB : Hid (Below w.heap.size w w3) := (hb1.trans hb2).trans hb3
    clear hg hcs hb1 hg2 hcs2 htk2 hb2 hg3 hcs3 htk3 hb3
    have hne : ¬ (a.size + b.size = a.size) := by omega
    go_enter Tryz.func67, Tryz.ntmps67
    go_wp2
    go_ret
    exact ⟨ret_str (ba_append a b), HB.out⟩
end Go.Proofs.YtcenlgfopmahcaaGreatDoor

/-
  Is it a key? The program's test.
-/
namespace Go.Proofs.YtcenlgfopmahcaaGreatDoor
open Go.RowKit Go.Lib
set_option linter.unusedVariables false
set_option linter.unusedSimpArgs false

set_option maxHeartbeats 400000 in
theorem keyRight_any (k : Int) (w : World) :
    Calls Tryz.prog 128 #[.int .i64 k] w fun e w' => e = .returned (.bool (decide (0 ≤ k ∧ k ≤ 3))) ∧ w' = w := by
  by_cases h1 : 0 ≤ k
  · by_cases h2 : k < 4
    · rw [decide_eq_true ⟨h1, by omega⟩]
      go_enter Tryz.func128, Tryz.ntmps128
      go_wp2
      go_ret
      exact ⟨rfl, rfl⟩
    · rw [decide_eq_false (fun h => by omega)]
      go_enter Tryz.func128, Tryz.ntmps128
      go_wp2
      go_ret
      exact ⟨rfl, rfl⟩
  · rw [decide_eq_false (fun h => h1 h.1)]
    go_enter Tryz.func128, Tryz.ntmps128
    go_wp2
    go_ret
    exact ⟨rfl, rfl⟩
end Go.Proofs.YtcenlgfopmahcaaGreatDoor
