/-
  The program's words of a block and its round.
-/
import Derived.Test.YtjbmjccjlmlljaaDoorRot
import Derived.Test.YtjbmjccjlmlljaaDoorMem
import Derived.Deep.WholeRow
namespace Go.Proofs.YtjbmjccjlmlljaaDoor
open Go.RowKit Go.Lib
set_option linter.unusedVariables false

/-- n numbers of 32 bits, as cells. -/
def cells32 (n : Nat) (f : Nat → Int) : Array Value := ((List.range n).map fun j => Value.int .u32 (f j)).toArray
theorem cells32_size (n : Nat) (f : Nat → Int) : (cells32 n f).size = n := by simp [cells32]
theorem cells32_get {n : Nat} (f : Nat → Int) {j : Nat} (h : j < n) : (cells32 n f)[j]? = some (.int .u32 (f j)) := by simp [cells32, h]
theorem cells32_one (n : Nat) (f : Nat → Int) : (cells32 n f).all (·.oneCell') = true := by simp [cells32, Value.oneCell']
theorem cells32_set (n : Nat) (f : Nat → Int) (i : Nat) (v : Int) : (cells32 n f).setIfInBounds i (.int .u32 v) = cells32 n (fun j => if j = i then v else f j) := by
  apply Array.ext_getElem?
  intro k
  by_cases hk : k < n
  · rw [cells32_get _ hk, Array.getElem?_setIfInBounds]
    by_cases e : i = k
    · subst e; simp [cells32_size, hk]
    · rw [if_neg e, cells32_get _ hk, if_neg (fun h => e h.symm)]
  · rw [Array.getElem?_eq_none (by simp [cells32_size]; omega), Array.getElem?_eq_none (by simp [cells32_size]; omega)]
theorem cells32_congr {n : Nat} {f g : Nat → Int} (h : ∀ j, j < n → f j = g j) : cells32 n f = cells32 n g := by
  unfold cells32
  congr 1
  apply List.map_congr_left
  intro j hj
  rw [h j (by simpa using hj)]
def H8.cells (s : H8) : Array Value := #[.int .u32 s.a, .int .u32 s.b, .int .u32 s.c, .int .u32 s.d, .int .u32 s.e, .int .u32 s.f, .int .u32 s.g, .int .u32 s.h]
theorem H8.cells_eq (s : H8) : s.cells = cells32 8 s.at := rfl

/-- 'make', by the equation of its run. -/
theorem wp_make_run {w : World} {ops : Array Oper} {rest : List Oper} {o : Oper} {a : Act} {Q : Exit → Act → World → Prop} (hg : o.guard = none) (l c : Operand) (t : TypeId) (ho : o.op = .makeSlice t l c)
    (L C v : Value) (w1 : World) (hl : a.eval l = L) (hc : a.eval c = C) (hrun : (Instr.makeSlice t L C).run Tryd.prog w = .ok v w1) (h : wpList Tryd.prog ops Q rest (a.put o.dst v) w1) : wpList Tryd.prog ops Q (o :: rest) a w := by
  refine wpList_plain hg fun K hK' => ?_
  unfold Oper.wp
  simp [execOp, ho, hl, hc, hrun, Result.andThen]
  exact hK' _ _ h
theorem index_text (s : ByteArray) (k : Nat) (x : Int) (hx : x = k) (h : k < s.size) (w : World) : (Instr.index 9 (.string s) (.int .i64 x)).run Tryd.prog w = .ok (.int .u8 (byteL s.data.toList k)) w := by
  subst hx
  rw [run_index_string w 9 s .i64 _ Tryd.underlying9]
  unfold byteL
  have hl : k < s.data.size := h
  have e : s.data.toList.getD k 0 = s[k] := by
    simp only [List.getD, Array.getElem?_toList, Array.getElem?_eq_getElem hl, Option.getD_some]
    rfl
  rw [dif_pos ⟨by omega, by omega⟩, e]
  simp
theorem byteL_bd (l : List UInt8) (k : Nat) : 0 ≤ byteL l k ∧ byteL l k < 256 := by
  unfold byteL
  have := (l.getD k 0).toNat_lt
  omega

set_option maxHeartbeats 1000000 in
theorem wordAt_any (s : ByteArray) (k : Nat) (w : World) (hk : k + 4 ≤ s.size) (hs : s.size ≤ 1048576) :
    Calls Tryd.prog 60 #[.string s, .int .i64 k] w fun e w' => e = .returned (.int .u32 (four (byteL s.data.toList k) (byteL s.data.toList (k + 1)) (byteL s.data.toList (k + 2)) (byteL s.data.toList (k + 3)))) ∧ ∃ n, w' = w.drewN n := by
  have i0 := fun w => index_text s k _ rfl (by omega) w
  have i1 := fun w => index_text s (k + 1) (k + 1 : Int) (by omega) (by omega) w
  have i2 := fun w => index_text s (k + 2) (k + 2 : Int) (by omega) (by omega) w
  have i3 := fun w => index_text s (k + 3) (k + 3 : Int) (by omega) (by omega) w
  have w1 : IntKind.i64.wrap ((k : Int) + 1) = k + 1 := by rw [IntKind.wrap_i64]; omega
  have w2 : IntKind.i64.wrap ((k : Int) + 2) = k + 2 := by rw [IntKind.wrap_i64]; omega
  have w3 : IntKind.i64.wrap ((k : Int) + 3) = k + 3 := by rw [IntKind.wrap_i64]; omega
  obtain ⟨p0, q0⟩ := byteL_bd s.data.toList k
  obtain ⟨p1, q1⟩ := byteL_bd s.data.toList (k + 1)
  obtain ⟨p2, q2⟩ := byteL_bd s.data.toList (k + 2)
  obtain ⟨p3, q3⟩ := byteL_bd s.data.toList (k + 3)
  generalize byteL s.data.toList k = x at *
  generalize byteL s.data.toList (k + 1) = y at *
  generalize byteL s.data.toList (k + 2) = z at *
  generalize byteL s.data.toList (k + 3) = u at *
  clear hk hs
  go_enter Tryd.func60, Tryd.ntmps60
  go_wp2
  go_quiet (fail)
  go_wp2
  go_ret
  exact ⟨rfl, _, rfl⟩

end Go.Proofs.YtjbmjccjlmlljaaDoor
