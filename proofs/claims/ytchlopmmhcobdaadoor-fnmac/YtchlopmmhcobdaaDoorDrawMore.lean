/-
  Contracts of the document's draws, more: a number at some limit; texts.
-/
import Derived.Test.YtchlopmmhcobdaaDoorSource
namespace Go.Proofs.YtchlopmmhcobdaaDoor
open Go.RowKit Go.Lib
set_option linter.unusedVariables false

/-- A number of int64; the source stays one, and nothing else has turned. -/
def AnyAns (q : Nat) (w : World) (e : Ending) (w' : World) : Prop := ∃ v : Int, e = .returned (.int .i64 v) ∧ -9223372036854775808 ≤ v ∧ v ≤ 9223372036854775807 ∧ Src w' q ∧ w.grownBy w' (some q)

theorem edge_cell {w w1 : World} {q : Nat} {cs : Array Value} {t : TypeId} (hg : (w.alloc (.cells cs t)).grownBy w1 (some q)) (hq : q < w.heap.size) (i : Nat) : w1.cell? ⟨w.heap.size, i, none⟩ = cs[i]? := by
  have h := (hg.block w.heap.size (by simp) (by simp; omega)).trans (MapKept.heap_alloc w _).1
  simp [World.cell?, h]

set_option maxHeartbeats 1000000 in
theorem edge_any (q : Nat) (w : World) (h : Src w q) :
    Calls Tryd.prog 71 #[.pointer (some ⟨q, 0, none⟩)] w fun e w' => AnyAns q w e w' := by
  have HN : Hid (∀ w, Src w q → Calls Tryd.prog 65 #[.pointer (some ⟨q, 0, none⟩), .int .i64 14] w fun e w' => NumAns 14 q w e w') := fun w h => n_any q 14 w h (by omega)
  have hlt := h.lt
  have HS : Hid (∀ o, Src (w.alloc o) q) := fun o => h.below ((Below.refl _ _).alloc (Nat.le_refl _) _) hlt
  clear h
  go_enter Tryd.func71, Tryd.ntmps71
  go_wp2_with fail
  refine (HN.out _ (HS.out _)).mono ?_
  rintro e w1 ⟨v, rfl, hv0, hv1, hs1, hg1⟩
  have hc := edge_cell hg1 hlt v.toNat
  have HS1 : Hid (Src w1 q ∧ w.grownBy w1 (some q)) := ⟨hs1, grown_trans (World.grownBy_alloc w _ _) hg1⟩
  clear hs1 hg1
  have hv2 : v = 0 ∨ v = 1 ∨ v = 2 ∨ v = 3 ∨ v = 4 ∨ v = 5 ∨ v = 6 ∨ v = 7 ∨ v = 8 ∨ v = 9 ∨ v = 10 ∨ v = 11 ∨ v = 12 ∨ v = 13 := by omega
  clear hv0 hv1
  rcases hv2 with rfl | rfl | rfl | rfl | rfl | rfl | rfl | rfl | rfl | rfl | rfl | rfl | rfl | rfl
  all_goals
    simp at hc
    go_wp2
    go_ret
    exact ⟨_, rfl, by omega, by omega, HS1.out.1, HS1.out.2⟩

theorem make_zeros (w : World) (n : Nat) (hn : n ≤ 1073741824) : ∃ w1, (Instr.makeSlice 22 (.int .i64 (n : Int)) (.int .i64 (n : Int))).run Tryd.prog w = .ok (.slice (some ⟨w.heap.size, 0, none⟩) n n) w1 ∧
    (convert 22 9 (.slice (some ⟨w.heap.size, 0, none⟩) n n)).run Tryd.prog w1 = .ok (.string ⟨(List.replicate n 0).toArray⟩) w1 ∧ Below w.heap.size w w1 := by
  obtain ⟨i0, hi, hz0, hz1, hz2⟩ := info_parts infoByte
  have h := run_make (P := Tryd.prog) w 22 5 i0 (.int .u8 0) Tryd.underlying22 hi hz0 .i64 .i64 n n (by omega) (by omega) (by rw [hz2]; omega) (by omega)
  simp only [Int.toNat_natCast] at h
  refine ⟨_, h, ?_, (Below.refl _ _).alloc (Nat.le_refl _) _⟩
  refine conv_text _ w.heap.size n n (List.replicate n 0) (madeCells (Value.int IntKind.u8 0).cells (n * i0.size)) _ _ (MapKept.heap_alloc w _).1 ?_ (by simp)
  have e : (madeCells (Value.int IntKind.u8 0).cells (n * i0.size)).toList = List.replicate n (.int .u8 0) := by
    rw [hz1, Nat.mul_one]; exact toList_madeCells_one _ _
  rw [e, List.take_of_length_le (by simp)]
  simp [byteCells]

/-- A text of at most m bytes; of what was there nothing has turned. -/
def TextAns (m : Int) (w : World) (e : Ending) (w' : World) : Prop := ∃ t : ByteArray, e = .returned (.string t) ∧ (t.size : Int) ≤ m ∧ Below w.heap.size w w'

theorem below_of_grown {w w1 w2 : World} (h : Below w.heap.size w w1) (hg : w1.grownBy w2 (some w.heap.size)) : Below w.heap.size w w2 :=
  h.trans ⟨hg.os, hg.tape, hg.output, hg.size, fun k hk => hg.block k (Nat.lt_of_lt_of_le hk h.size) (by simp; omega)⟩

end Go.Proofs.YtchlopmmhcobdaaDoor
