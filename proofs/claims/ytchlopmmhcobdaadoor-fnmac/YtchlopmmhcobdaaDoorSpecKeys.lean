/-
  The document's numbers of the rounds, its state at first, and laws on the rows that a block makes.
-/
import Derived.Test.YtchlopmmhcobdaaDoorRotSpec
import Derived.Deep.RegionWith
import Derived.Deep.RegionLaw
import Derived.Deep.RegionHeld3
namespace Go.Proofs.YtchlopmmhcobdaaDoor
open Go.RowKit Go.Lib
set_option linter.unusedVariables false

theorem infoWord : (Tryd.prog.info? 150).map (fun i => (i.zero, i.size, i.bytes)) = some (some (.int .u32 0), 1, 4) := by kernel_rfl
theorem infoLong : (Tryd.prog.info? 2).map (fun i => (i.zero, i.size, i.bytes)) = some (some (.int .i64 0), 1, 8) := by kernel_rfl

theorem keys_any (w : World) :
    Calls Tryd.prog 146 #[] w fun e w' => e = .returned (.slice (some ⟨w.heap.size, 0, none⟩) 64 64) ∧ w' = w.alloc (.cells (cells32 64 keyAt) 150) := by
  go_enter Tryd.func146, Tryd.ntmps146
  go_wp2
  go_ret
  exact ⟨rfl, rfl⟩

theorem wrap_sum4 (a b c d : Int) : IntKind.u32.wrap (IntKind.u32.wrap (IntKind.u32.wrap (a + b) + c) + d) = (a + b + c + d) % 4294967296 := by
  simp only [IntKind.wrap_u32']
  omega
theorem wrap_sum5 (a b c d e : Int) : IntKind.u32.wrap (IntKind.u32.wrap (IntKind.u32.wrap (IntKind.u32.wrap (a + b) + c) + d) + e) = (a + b + c + d + e) % 4294967296 := by
  simp only [IntKind.wrap_u32']
  omega
theorem wrap_add (x y : Int) (h0 : 0 ≤ x) (h1 : x < 4294967296) : IntKind.i64.wrap (IntKind.u32.wrap (IntKind.u32.wrap x + y)) = (x + y) % 4294967296 := by
  simp only [IntKind.wrap_u32']
  rw [IntKind.wrap_i64]
  omega
theorem mod_sum5 (a b c d e : Int) : ((a + b + c + d) % 4294967296 + e) % 4294967296 = (a + b + c + d + e) % 4294967296 := by omega
/-- The eight numbers lie in the row that begins at block g. -/
def Row8 (w : World) (g : Nat) (s : H8) : Prop := ∀ j, j < 8 → w.cell? ⟨g, j, none⟩ = some (.int .i64 (s.at j))

theorem start_any (w : World) :
    Calls Tryd.prog 123 #[] w fun e w' => e = .returned (.slice (some ⟨w.heap.size, 0, none⟩) 8 8) ∧ Row8 w' w.heap.size first8 ∧ Below w.heap.size w w' := by
  go_enter Tryd.func123, Tryd.ntmps123
  go_wp2
  go_ret
  refine ⟨rfl, fun j hj => ?_, (Below.refl _ _).alloc (Nat.le_refl _) _⟩
  rw [cell_of_row _ _ j _ _ _ (heap_alloc_new w _)]
  have : j = 0 ∨ j = 1 ∨ j = 2 ∨ j = 3 ∨ j = 4 ∨ j = 5 ∨ j = 6 ∨ j = 7 := by omega
  rcases this with rfl | rfl | rfl | rfl | rfl | rfl | rfl | rfl <;> rfl

theorem make_words (w : World) (b : Nat → Int) : ∃ w1, (Instr.makeSlice 156 (.int .i64 64) (.int .i64 64)).run Tryd.prog w = .ok (.slice (some ⟨w.heap.size, 0, none⟩) 64 64) w1 ∧
    w1.heap[w.heap.size]? = some (.cells (cells32 64 (upto b 0)) 150 (0, 0)) ∧ Below w.heap.size w w1 := by
  obtain ⟨i0, hi, hz0, hz1, hz2⟩ := info_parts infoWord
  have h := run_make (P := Tryd.prog) w 156 150 i0 (.int .u32 0) Tryd.underlying156 hi hz0 .i64 .i64 64 64 (by omega) (by omega) (by rw [hz2]; omega) (by omega)
  refine ⟨_, h, ?_, (Below.refl _ _).alloc (Nat.le_refl _) _⟩
  rw [(MapKept.heap_alloc w _).1, hz1]
  refine congrArg (fun c => some (Obj.cells c 150 (0, 0))) ?_
  apply Array.toList_inj.1
  have e := toList_madeCells_one (.int .u32 0) 64
  refine Eq.trans e ?_
  unfold cells32 upto
  rfl

/-- What the rounds read: the rounds' numbers in block gk, the block's words in the row that was made first. -/
def Reads (w : World) (b : Nat → Int) (gk : Nat) (wr : World) : Prop := (∀ j, j < 64 → wr.cell? ⟨gk, j, none⟩ = some (.int .u32 (keyAt j))) ∧ (∀ j, j < 64 → wr.cell? ⟨w.heap.size, j, none⟩ = some (.int .u32 (sched b j))) ∧ Below w.heap.size w wr
theorem Reads.drewN {w : World} {b : Nat → Int} {gk : Nat} {wr : World} (h : Reads w b gk wr) (n : Nat) : Reads w b gk (wr.drewN n) := ⟨h.1, h.2.1, below_drewN n h.2.2⟩
theorem after_keys {w wr wk : World} {b : Nat → Int} {n : Nat} (hg : wr.heap[w.heap.size]? = some (.cells (cells32 64 (upto b 64)) 150 (0, 0))) (hb : Below w.heap.size w wr) (hwk : wk = (wr.drewN n).alloc (.cells (cells32 64 keyAt) 150)) :
    Reads w b wr.heap.size wk := by
  subst hwk
  refine ⟨fun j hj => ?_, fun j hj => ?_, (below_drewN _ hb).alloc hb.size _⟩
  · refine (cell_of_row _ _ j _ _ _ (heap_alloc_new (wr.drewN n) _)).trans ?_
    rw [cells32_get _ hj]
  · have h := (heap_alloc_old (wr.drewN n) (.cells (cells32 64 keyAt) 150) (Array.getElem?_eq_some_iff.1 hg).1).trans hg
    rw [cell_of_row _ _ j _ _ _ h, cells32_get _ hj, upto, if_pos hj]

theorem put_one {B g : Nat} {w wr : World} {b : Nat → Int} {k : Nat} (hg : wr.heap[g]? = some (.cells (cells32 64 (upto b k)) 150 (0, 0))) (hb : Below B w wr) (hB : B ≤ g) :
    (wr.setCell ⟨g, k, none⟩ (.int .u32 (sched b k))).heap[g]? = some (.cells (cells32 64 (upto b (k + 1))) 150 (0, 0)) ∧
    Below B w (wr.setCell ⟨g, k, none⟩ (.int .u32 (sched b k))) :=
  ⟨by rw [heap_setCell_same wr _ k _ _ _ hg, upto_set], hb.setCell (p := ⟨g, k, none⟩) hB _⟩
theorem put_one_drew {B g : Nat} {w wr : World} {b : Nat → Int} {k : Nat} (hg : wr.heap[g]? = some (.cells (cells32 64 (upto b k)) 150 (0, 0))) (hb : Below B w wr) (hB : B ≤ g) (n : Nat) :
    ((wr.drewN n).setCell ⟨g, k, none⟩ (.int .u32 (sched b k))).heap[g]? = some (.cells (cells32 64 (upto b (k + 1))) 150 (0, 0)) ∧
    Below B w ((wr.drewN n).setCell ⟨g, k, none⟩ (.int .u32 (sched b k))) := put_one (wr := wr.drewN n) hg (below_drewN n hb) hB


/-- The slice v owns the numbers l, in a row of the call's own. -/
def OwnI (w : World) (B : Nat) (v : Value) (l : List Int) : Prop := w.ownsRow B 2 1 v l.length (l.map (.int .i64))
theorem OwnI.made (w : World) (B : Nat) (hB : B ≤ w.heap.size) : OwnI (w.alloc (.cells #[] 2)) B (.slice (some ⟨w.heap.size, 0, none⟩) 0 0) [] := World.ownsRow_made w #[] 0 hB (Nat.zero_le _) rfl

/-- 'append(row, n)' as one step of a region that draws, row the call's own. -/
theorem step_app_num {ops : Array Oper} {o : Oper} {a : Act} {w : World} {K : Act → World → Prop} {Q : Exit → Act → World → Prop} {E : Prop} (hg : o.guard = none) (s x : Operand)
    (ho : o.op = .call { callee := .builtin .append, args := #[s, x], argTypes := #[84, 84] }) (B : Nat) (v : Value) (l : List Int) (y : Int) (hs : a.eval s = v) (hown : OwnI w B v l)
    (hx : a.eval x = .slice (some ⟨w.heap.size, 0, none⟩) 1 1) (hl : l.length ≤ 1048576) (hB : B ≤ w.heap.size)
    (h : ∀ v' w', OwnI w' B v' (l ++ [y]) → Below B w w' → K (a.put o.dst v') w') :
    if Region.wanted o (yielded ops a.tmps) = true then Oper.wp Tryd.prog o a (w.alloc (.cells #[.int .i64 y] 2)) K Q else E := by
  have hw : Region.wanted o (yielded ops a.tmps) = true := by simp [Region.wanted, hg]
  rw [if_pos hw]
  obtain ⟨i0, hi, hz0, hz1, hz2⟩ := info_parts infoLong
  obtain ⟨v', w', hrun, r1, r2, _⟩ := run_append_own (P := Tryd.prog) (w.alloc (.cells #[.int .i64 y] 2)) B 84 o.type 2 i0 (.int .i64 0) 1 8 Tryd.underlying84 hi hz0 hz1 hz2 rfl (by decide) v l.length (l.map (.int .i64)) (World.ownsRow.alloc hown _) ⟨w.heap.size, 0, none⟩ 1 1 [.int .i64 y] rfl
    (cell_one_new _ _ _) (by intro u hu; simp at hu; subst hu; rfl) (by unfold maxLen; omega) (by omega) (by simp; omega)
  unfold Oper.wp
  simp [execOp, ho, resolve, invoke, builtin, hs, hx, hrun, Result.andThen]
  refine h v' w' ?_ ?_
  · unfold OwnI
    simpa using r1
  · refine ((Below.refl B w).alloc hB _).grown r2 (by simp; omega) fun k hk => ?_
    exact (World.ownsRow.lt hown k hk).1

/-- The first k numbers of the state behind the block. -/
def outL (s v : H8) (k : Nat) : List Int := (List.range k).map fun j => add32 (s.at j) (v.at j)
theorem outL_succ (s v : H8) (k : Nat) : outL s v (k + 1) = outL s v k ++ [(s.at k + v.at k) % 4294967296] := by
  unfold outL
  rw [List.range_succ, List.map_append]
  rfl
theorem outL_len (s v : H8) (k : Nat) : (outL s v k).length = k := by simp [outL]
theorem out_row {w : World} {B : Nat} {o : Value} {s v : H8} (h : OwnI w B o (outL s v 8)) : ∃ g c, o = .slice (some ⟨g, 0, none⟩) 8 c ∧ B ≤ g ∧ Row8 w g (s.plus v) := by
  unfold OwnI at h
  rw [outL_len] at h
  rcases h.2 with ⟨_, h0⟩ | ⟨g, cap, cur, rfl, hb, _⟩
  · omega
  · refine ⟨g, cap, rfl, hb, fun j hj => ?_⟩
    rw [h.cellAt j (by omega), H8.plus_at]
    simp [outL, hj]
theorem row_cell {wr : World} (v : H8) {j : Nat} (hj : j < 8) : (wr.alloc (.cells v.cells 150)).cell? ⟨wr.heap.size, j, none⟩ = some (.int .u32 (v.at j)) := by
  rw [cell_of_row _ _ j _ _ _ (heap_alloc_new wr _), H8.cells_eq, cells32_get _ hj]
end Go.Proofs.YtchlopmmhcobdaaDoor
