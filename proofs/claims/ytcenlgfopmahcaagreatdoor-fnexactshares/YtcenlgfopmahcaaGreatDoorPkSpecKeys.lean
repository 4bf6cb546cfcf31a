/-
  The document's numbers of the rounds, its state at first, and laws on the rows that a block makes.
-/
import Derived.Test.YtcenlgfopmahcaaGreatDoorPkCells
import Derived.Deep.RegionWith
import Derived.Deep.RegionLaw
import Derived.Deep.RegionHeld3
namespace Go.Proofs.YtcenlgfopmahcaaGreatDoor
open Go.RowKit Go.Lib
set_option linter.unusedVariables false

theorem infoWord : (Tryz.prog.info? 126).map (fun i => (i.zero, i.size, i.bytes)) = some (some (.int .u32 0), 1, 4) := by kernel_rfl
theorem infoLong : (Tryz.prog.info? 2).map (fun i => (i.zero, i.size, i.bytes)) = some (some (.int .i64 0), 1, 8) := by kernel_rfl

theorem keys_any (w : World) :
    Calls Tryz.prog 94 #[] w fun e w' => e = .returned (.slice (some ⟨w.heap.size, 0, none⟩) 64 64) ∧ w' = w.alloc (.cells (cells32 64 keyAt) 126) := by
  go_enter Tryz.func94, Tryz.ntmps94
  go_wp2
  go_ret
  exact ⟨rfl, rfl⟩

theorem wrap_sum4 (a b c d : Int) : IntKind.u32.wrap (IntKind.u32.wrap (IntKind.u32.wrap (a + b) + c) + d) = (a + b + c + d) % 4294967296 := by
  simp only [IntKind.wrap_u32']
  omega
theorem wrap_sum5 (a b c d e : Int) : IntKind.u32.wrap (IntKind.u32.wrap (IntKind.u32.wrap (IntKind.u32.wrap (a + b) + c) + d) + e) = (a + b + c + d + e) % 4294967296 := by
  simp only [IntKind.wrap_u32']
  omega
theorem wrap_add (x y : Int) (h0 : 0 ≤ x) (h1 : x < 4294967296) : IntKind.i64.wrap (IntKind.u32.wrap (IntKind.u32.wrap x + y)) = (x + y) % 4294967296 := by
  simp only [IntKind.wrap_u32']
  rw [IntKind.wrap_i64]
  omega
theorem mod_sum5 (a b c d e : Int) : ((a + b + c + d) % 4294967296 + e) % 4294967296 = (a + b + c + d + e) % 4294967296 := by omega
/-- The eight numbers lie in the row that begins at block g. -/
def Row8 (w : World) (g : Nat) (s : H8) : Prop := ∀ j, j < 8 → w.cell? ⟨g, j, none⟩ = some (.int .i64 (s.at j))

theorem start_any (w : World) :
    Calls Tryz.prog 72 #[] w fun e w' => e = .returned (.slice (some ⟨w.heap.size, 0, none⟩) 8 8) ∧ Row8 w' w.heap.size first8 ∧ Below w.heap.size w w' := by
  go_enter Tryz.func72, Tryz.ntmps72
  go_wp2
  go_ret
  refine ⟨rfl, fun j hj => ?_, (Below.refl _ _).alloc (Nat.le_refl _) _⟩
  rw [cell_of_row _ _ j _ _ _ (heap_alloc_new w _)]
  have : j = 0 ∨ j = 1 ∨ j = 2 ∨ j = 3 ∨ j = 4 ∨ j = 5 ∨ j = 6 ∨ j = 7 := by omega
  rcases this with rfl | rfl | rfl | rfl | rfl | rfl | rfl | rfl <;> rfl

theorem make_words (w : World) (b : Nat → Int) : ∃ w1, (Instr.makeSlice 125 (.int .i64 64) (.int .i64 64)).run Tryz.prog w = .ok (.slice (some ⟨w.heap.size, 0, none⟩) 64 64) w1 ∧
    w1.heap[w.heap.size]? = some (.cells (cells32 64 (upto b 0)) 126 (0, 0)) ∧ Below w.heap.size w w1 := by
  obtain ⟨i0, hi, hz0, hz1, hz2⟩ := info_parts infoWord
  have h := run_make (P := Tryz.prog) w 125 126 i0 (.int .u32 0) Tryz.underlying125 hi hz0 .i64 .i64 64 64 (by omega) (by omega) (by rw [hz2]; omega) (by omega)
  refine ⟨_, h, ?_, (Below.refl _ _).alloc (Nat.le_refl _) _⟩
  rw [(MapKept.heap_alloc w _).1, hz1]
  refine congrArg (fun c => some (Obj.cells c 126 (0, 0))) ?_
  apply Array.toList_inj.1
  have e := toList_madeCells_one (.int .u32 0) 64
  refine Eq.trans e ?_
  unfold cells32 upto
  rfl

/-- What the rounds read: the rounds' numbers in block gk, the block's words in the row that was made first. -/
def Reads (w : World) (b : Nat → Int) (gk : Nat) (wr : World) : Prop := (∀ j, j < 64 → wr.cell? ⟨gk, j, none⟩ = some (.int .u32 (keyAt j))) ∧ (∀ j, j < 64 → wr.cell? ⟨w.heap.size, j, none⟩ = some (.int .u32 (sched b j))) ∧ Below w.heap.size w wr
theorem Reads.drewN {w : World} {b : Nat → Int} {gk : Nat} {wr : World} (h : Reads w b gk wr) (n : Nat) : Reads w b gk (wr.drewN n) := ⟨h.1, h.2.1, below_drewN n h.2.2⟩
theorem after_keys {w wr wk : World} {b : Nat → Int} {n : Nat} (hg : wr.heap[w.heap.size]? = some (.cells (cells32 64 (upto b 64)) 126 (0, 0))) (hb : Below w.heap.size w wr) (hwk : wk = (wr.drewN n).alloc (.cells (cells32 64 keyAt) 126)) :
    Reads w b wr.heap.size wk := by
  subst hwk
  refine ⟨fun j hj => ?_, fun j hj => ?_, (below_drewN _ hb).alloc hb.size _⟩
  · refine (cell_of_row _ _ j _ _ _ (heap_alloc_new (wr.drewN n) _)).trans ?_
    rw [cells32_get _ hj]
  · have h := (heap_alloc_old (wr.drewN n) (.cells (cells32 64 keyAt) 126) (Array.getElem?_eq_some_iff.1 hg).1).trans hg
    rw [cell_of_row _ _ j _ _ _ h, cells32_get _ hj, upto, if_pos hj]

theorem put_one {B g : Nat} {w wr : World} {b : Nat → Int} {k : Nat} (hg : wr.heap[g]? = some (.cells (cells32 64 (upto b k)) 126 (0, 0))) (hb : Below B w wr) (hB : B ≤ g) :
    (wr.setCell ⟨g, k, none⟩ (.int .u32 (sched b k))).heap[g]? = some (.cells (cells32 64 (upto b (k + 1))) 126 (0, 0)) ∧
    Below B w (wr.setCell ⟨g, k, none⟩ (.int .u32 (sched b k))) :=
  ⟨by rw [heap_setCell_same wr _ k _ _ _ hg, upto_set], hb.setCell (p := ⟨g, k, none⟩) hB _⟩
theorem put_one_drew {B g : Nat} {w wr : World} {b : Nat → Int} {k : Nat} (hg : wr.heap[g]? = some (.cells (cells32 64 (upto b k)) 126 (0, 0))) (hb : Below B w wr) (hB : B ≤ g) (n : Nat) :
    ((wr.drewN n).setCell ⟨g, k, none⟩ (.int .u32 (sched b k))).heap[g]? = some (.cells (cells32 64 (upto b (k + 1))) 126 (0, 0)) ∧
    Below B w ((wr.drewN n).setCell ⟨g, k, none⟩ (.int .u32 (sched b k))) := put_one (wr := wr.drewN n) hg (below_drewN n hb) hB


/-- The slice v owns the numbers l, in a row of the call's own. -/
def OwnI (w : World) (B : Nat) (v : Value) (l : List Int) : Prop := w.ownsRow B 2 1 v l.length (l.map (.int .i64))
theorem OwnI.made (w : World) (B : Nat) (hB : B ≤ w.heap.size) : OwnI (w.alloc (.cells #[] 2)) B (.slice (some ⟨w.heap.size, 0, none⟩) 0 0) [] := World.ownsRow_made w #[] 0 hB (Nat.zero_le _) rfl

/-- 'append(row, n)' as one step of a region that draws, row the call's own. -/
theorem step_app_num {ops : Array Oper} {o : Oper} {a : Act} {w : World} {K : Act → World → Prop} {Q : Exit → Act → World → Prop} {E : Prop} (hg : o.guard = none) (s x : Operand)
    (ho : o.op = .call { callee := .builtin .append, args := #[s, x], argTypes := #[95, 95] }) (B : Nat) (v : Value) (l : List Int) (y : Int) (hs : a.eval s = v) (hown : OwnI w B v l)
    (hx : a.eval x = .slice (some ⟨w.heap.size, 0, none⟩) 1 1) (hl : l.length ≤ 1048576) (hB : B ≤ w.heap.size)
    (h : ∀ v' w', OwnI w' B v' (l ++ [y]) → Below B w w' → K (a.put o.dst v') w') :
    if Region.wanted o (yielded ops a.tmps) = true then Oper.wp Tryz.prog o a (w.alloc (.cells #[.int .i64 y] 2)) K Q else E := by
  have hw : Region.wanted o (yielded ops a.tmps) = true := by simp [Region.wanted, hg]
  rw [if_pos hw]
  obtain ⟨i0, hi, hz0, hz1, hz2⟩ := info_parts infoLong
  obtain ⟨v', w', hrun, r1, r2, _⟩ := run_append_own (P := Tryz.prog) (w.alloc (.cells #[.int .i64 y] 2)) B 95 o.type 2 i0 (.int .i64 0) 1 8 Tryz.underlying95 hi hz0 hz1 hz2 rfl (by decide) v l.length (l.map (.int .i64)) (World.ownsRow.alloc hown _) ⟨w.heap.size, 0, none⟩ 1 1 [.int .i64 y] rfl
    (cell_one_new _ _ _) (by intro u hu; simp at hu; subst hu; rfl) (by unfold maxLen; omega) (by omega) (by simp; omega)
  unfold Oper.wp
  simp [execOp, ho, resolve, invoke, builtin, hs, hx, hrun, Result.andThen]
  refine h v' w' ?_ ?_
  · unfold OwnI
    simpa using r1
  · refine ((Below.refl B w).alloc hB _).grown r2 (by simp; omega) fun k hk => ?_
    exact (World.ownsRow.lt hown k hk).1

/-- The first k numbers of the state behind the block. -/
def outL (s v : H8) (k : Nat) : List Int := (List.range k).map fun j => add32 (s.at j) (v.at j)
theorem outL_succ (s v : H8) (k : Nat) : outL s v (k + 1) = outL s v k ++ [(s.at k + v.at k) % 4294967296] := by
  unfold outL
  rw [List.range_succ, List.map_append]
  rfl
theorem outL_len (s v : H8) (k : Nat) : (outL s v k).length = k := by simp [outL]
theorem out_row {w : World} {B : Nat} {o : Value} {s v : H8} (h : OwnI w B o (outL s v 8)) : ∃ g c, o = .slice (some ⟨g, 0, none⟩) 8 c ∧ B ≤ g ∧ Row8 w g (s.plus v) := by
  unfold OwnI at h
  rw [outL_len] at h
  rcases h.2 with ⟨_, h0⟩ | ⟨g, cap, cur, rfl, hb, _⟩
  · omega
  · refine ⟨g, cap, rfl, hb, fun j hj => ?_⟩
    rw [h.cellAt j (by omega), H8.plus_at]
    simp [outL, hj]
theorem row_cell {wr : World} (v : H8) {j : Nat} (hj : j < 8) : (wr.alloc (.cells v.cells 126)).cell? ⟨wr.heap.size, j, none⟩ = some (.int .u32 (v.at j)) := by
  rw [cell_of_row _ _ j _ _ _ (heap_alloc_new wr _), H8.cells_eq, cells32_get _ hj]
end Go.Proofs.YtcenlgfopmahcaaGreatDoor

/-
  The document's block: what it answers is the state behind the block.
-/
namespace Go.Proofs.YtcenlgfopmahcaaGreatDoor
open Go.RowKit Go.Lib
set_option linter.unusedVariables false

set_option maxHeartbeats 8000000 in
set_option maxRecDepth 20000 in
theorem block_any (s : H8) (p : ByteArray) (g c : Nat) (w : World) (hs : s.Ok) (hp : p.size = 64) (hr : Row8 w g s) :
    Calls Tryz.prog 73 #[.slice (some ⟨g, 0, none⟩) 8 c, .string p] w fun e w' => ∃ g' c', e = .returned (.slice (some ⟨g', 0, none⟩) 8 c') ∧ Row8 w' g' (block s p.data.toList) ∧ w.heap.size ≤ g' ∧ Below w.heap.size w w' := by
  have HI : Hid (∀ k : Nat, k < 16 → (∀ w, (Instr.index 9 (.string p) (.int .i64 (4 * (k : Int)))).run Tryz.prog w = .ok (.int .u8 (byteL p.data.toList (4 * k))) w) ∧ (∀ w, (Instr.index 9 (.string p) (.int .i64 (4 * (k : Int) + 1))).run Tryz.prog w = .ok (.int .u8 (byteL p.data.toList (4 * k + 1))) w) ∧ (∀ w, (Instr.index 9 (.string p) (.int .i64 (4 * (k : Int) + 2))).run Tryz.prog w = .ok (.int .u8 (byteL p.data.toList (4 * k + 2))) w) ∧ (∀ w, (Instr.index 9 (.string p) (.int .i64 (4 * (k : Int) + 3))).run Tryz.prog w = .ok (.int .u8 (byteL p.data.toList (4 * k + 3))) w)) := by
    intro k hk
    exact ⟨fun w => index_text p (4 * k) _ (by omega) (by omega) w, fun w => index_text p (4 * k + 1) _ (by omega) (by omega) w, fun w => index_text p (4 * k + 2) _ (by omega) (by omega) w, fun w => index_text p (4 * k + 3) _ (by omega) (by omega) w⟩
  obtain ⟨b, hbb⟩ : ∃ b, b = wordF p.data.toList := ⟨_, rfl⟩
  have HBB : Hid (b = wordF p.data.toList) := hbb
  have hbd : ∀ i, i < 16 → 0 ≤ b i ∧ b i < 4294967296 := fun i _ => by rw [hbb]; exact wordF_bd _ i
  unfold block
  rw [← hbb]
  clear hbb
  obtain ⟨w1, hmk, hg1, hb1⟩ := make_words w b
  have HR : Hid (Row8 w g s) := hr
  have H1 : Hid (w1.heap[w.heap.size]? = _ ∧ Below w.heap.size w w1) := ⟨hg1, hb1⟩
  have HMK : Hid (_ = _) := hmk
  clear hr hg1 hb1 hp hmk
  go_enter Tryz.func73, Tryz.ntmps73
  go_wp2_with (at_make; go_loud (refine wp_make_run rfl _ _ 125 rfl _ _ _ w1 rfl rfl HMK.out ?_))
  clear HMK
  go_loopw [6] (fun i wr => ∃ k : Nat, k ≤ 16 ∧ i = .int .i64 k ∧ wr.heap[w.heap.size]? = some (.cells (cells32 64 (upto b k)) 126 (0, 0)) ∧ Below w.heap.size w wr) (fun i _ => 16 - (RowKit.intOf i).toNat)
  case atStart => exact ⟨0, by omega, rfl, H1.out.1, H1.out.2⟩
  case round =>
    obtain ⟨k, hk, rfl, hg, hb⟩ := hrel
    by_cases hlt : k < 16
    · obtain ⟨i0, i1, i2, i3⟩ := HI.out k hlt
      have w0 : IntKind.i64.wrap (4 * (k : Int)) = 4 * k := by rw [IntKind.wrap_i64]; omega
      have w1' : IntKind.i64.wrap (4 * (k : Int) + 1) = 4 * k + 1 := by rw [IntKind.wrap_i64]; omega
      have w2 : IntKind.i64.wrap (4 * (k : Int) + 2) = 4 * k + 2 := by rw [IntKind.wrap_i64]; omega
      have w3 : IntKind.i64.wrap (4 * (k : Int) + 3) = 4 * k + 3 := by rw [IntKind.wrap_i64]; omega
      have hsk : sched b k = four (byteL p.data.toList (4 * k)) (byteL p.data.toList (4 * k + 1)) (byteL p.data.toList (4 * k + 2)) (byteL p.data.toList (4 * k + 3)) := by
        rw [sched_lo b hlt, HBB.out]
        rfl
      unfold four at hsk
      obtain ⟨p0, q0⟩ := byteL_bd p.data.toList (4 * k)
      obtain ⟨p1, q1⟩ := byteL_bd p.data.toList (4 * k + 1)
      obtain ⟨p2, q2⟩ := byteL_bd p.data.toList (4 * k + 2)
      obtain ⟨p3, q3⟩ := byteL_bd p.data.toList (4 * k + 3)
      generalize byteL p.data.toList (4 * k) = x at *
      generalize byteL p.data.toList (4 * k + 1) = y at *
      generalize byteL p.data.toList (4 * k + 2) = z at *
      generalize byteL p.data.toList (4 * k + 3) = u at *
      have HS : Hid (sched b k = _) := hsk
      obtain ⟨hc, hf⟩ := upto_any hg (j := k) (by omega)
      have H2 : Hid (wr.heap[w.heap.size]? = _ ∧ Below w.heap.size w wr) := ⟨hg, hb⟩
      clear hg hb hsk HI
      go_wp2
      go_big_region
      all_goals
        rw [← HS.out]
        have H3 : Hid (_ ∧ _) := put_one H2.out.1 H2.out.2 (Nat.le_refl w.heap.size)
        clear hc hf i0 i1 i2 i3 HS H2 w0 w1' w2 w3 p0 p1 p2 p3 q0 q1 q2 q3
        go_wp2
        go_roundw
        case rel => exact ⟨k + 1, by omega, by go_num, H3.out.1, H3.out.2.drew⟩
        case measure => simp [RowKit.intOf]; omega
    · have e16 : k = 16 := by omega
      rw [e16] at hg
      have R : Hid (∀ (k x : Int) (w : World), k ∈ [2, 6, 7, 11, 13, 17, 18, 19, 22, 25] → 0 ≤ x → x < 4294967296 → Calls Tryz.prog 93 #[.int .u32 x, .int .u64 k] w fun e w' => e = .returned (.int .u32 (rotr k x)) ∧ w' = w) := turn_any
      clear e16 HI HBB H1
      go_wp2
      go_loopw [7] (fun i wr => ∃ k : Nat, 16 ≤ k ∧ k ≤ 64 ∧ i = .int .i64 k ∧ wr.heap[w.heap.size]? = some (.cells (cells32 64 (upto b k)) 126 (0, 0)) ∧ Below w.heap.size w wr) (fun i _ => 64 - (RowKit.intOf i).toNat)
      case atStart => exact ⟨16, by omega, by omega, rfl, hg, hb⟩
      case round =>
        clear hg hb hk hlt
        rename_i k0
        obtain ⟨k, hk0, hk, rfl, hg, hb⟩ := hrel
        by_cases hlt : k < 64
        · obtain ⟨hc, hf⟩ := upto_any hg (j := k) (by omega)
          have hc16 := upto_cell hg (j := k - 16) (by omega) (by omega)
          have hc15 := upto_cell hg (j := k - 15) (by omega) (by omega)
          have hc7 := upto_cell hg (j := k - 7) (by omega) (by omega)
          have hc2 := upto_cell hg (j := k - 2) (by omega) (by omega)
          have hw16 : IntKind.i64.wrap ((k : Int) - 16) = k - 16 := by rw [IntKind.wrap_i64]; omega
          have hw7 : IntKind.i64.wrap ((k : Int) - 7) = k - 7 := by rw [IntKind.wrap_i64]; omega
          have H2 : Hid (wr.heap[w.heap.size]? = _ ∧ Below w.heap.size w wr) := ⟨hg, hb⟩
          clear hg hb
          have hs := sched_hi b (i := k) (by omega)
          obtain ⟨p16, q16⟩ := sched_bd b hbd (k - 16)
          obtain ⟨p15, q15⟩ := sched_bd b hbd (k - 15)
          obtain ⟨p7, q7⟩ := sched_bd b hbd (k - 7)
          obtain ⟨p2, q2⟩ := sched_bd b hbd (k - 2)
          generalize sched b (k - 16) = x16 at *
          generalize sched b (k - 15) = x15 at *
          generalize sched b (k - 7) = x7 at *
          generalize sched b (k - 2) = x2 at *
          unfold sig0 sig1 at hs
          rw [← wrap_sum4] at hs
          have HS : Hid (sched b k = _) := hs
          clear hs
          go_wp2
          have h16 : (16 : Int) ≤ k := by omega
          have g16 : (k : Int) - 16 < 64 := by omega
          have t16 : ((k : Int) - 16).toNat = k - 16 := by omega
          have h7 : (7 : Int) ≤ k := by omega
          have g7 : (k : Int) - 7 < 64 := by omega
          have t7 : ((k : Int) - 7).toNat = k - 7 := by omega
          have n16 : ∀ (w' : World) (v : Value), (w'.setCell ⟨w.heap.size, k, none⟩ v).cell? ⟨w.heap.size, k - 16, none⟩ = w'.cell? ⟨w.heap.size, k - 16, none⟩ := fun w' v => World.cell?_setCell_other w' _ _ v (by simp)
          have n7 : ∀ (w' : World) (v : Value), (w'.setCell ⟨w.heap.size, k, none⟩ v).cell? ⟨w.heap.size, k - 7, none⟩ = w'.cell? ⟨w.heap.size, k - 7, none⟩ := fun w' v => World.cell?_setCell_other w' _ _ v (by simp)
          go_region_held3 (fun w' => w'.cell? ⟨w.heap.size, k - 16, none⟩ = some (.int .u32 x16) ∧ w'.cell? ⟨w.heap.size, k - 7, none⟩ = some (.int .u32 x7)) (go_keep)
            (first | (go_at_call 93; refine (R.out _ _ _ (by decide) (by omega) (by omega)).mono ?_; rintro e w' ⟨rfl, rfl⟩))
          all_goals
            rw [← HS.out]
            have H3 : Hid (_ ∧ _) := put_one H2.out.1 H2.out.2 (Nat.le_refl w.heap.size)
            clear hc hf HS H2 hc16 hc15 hc7 hc2 hw16 hw7 h16 g16 t16 h7 g7 t7 n16 n7 p16 q16 p15 q15 p7 q7 p2 q2
            go_wp2
            go_roundw
            case rel => exact ⟨k + 1, by omega, by omega, by go_num, H3.out.1, H3.out.2.drew⟩
            case measure => simp [RowKit.intOf]; omega
        · have e64 : k = 64 := by omega
          rw [e64] at hg
          clear e64
          have HC : Hid (∀ j, j < 8 → wr.cell? ⟨g, j, none⟩ = some (.int .i64 (s.at j))) := fun j hj => (hb.cell (p := ⟨g, j, none⟩) (block_lt_of_cell (HR.out j hj))).trans (HR.out j hj)
          have r0 : wr.cell? ⟨g, 0, none⟩ = some (.int .i64 s.a) := HC.out 0 (by omega)
          have r1 : wr.cell? ⟨g, 1, none⟩ = some (.int .i64 s.b) := HC.out 1 (by omega)
          have r2 : wr.cell? ⟨g, 2, none⟩ = some (.int .i64 s.c) := HC.out 2 (by omega)
          have r3 : wr.cell? ⟨g, 3, none⟩ = some (.int .i64 s.d) := HC.out 3 (by omega)
          have r4 : wr.cell? ⟨g, 4, none⟩ = some (.int .i64 s.e) := HC.out 4 (by omega)
          have r5 : wr.cell? ⟨g, 5, none⟩ = some (.int .i64 s.f) := HC.out 5 (by omega)
          have r6 : wr.cell? ⟨g, 6, none⟩ = some (.int .i64 s.g) := HC.out 6 (by omega)
          have r7 : wr.cell? ⟨g, 7, none⟩ = some (.int .i64 s.h) := HC.out 7 (by omega)
          have HOK : Hid s.Ok := hs
          obtain ⟨⟨ha0, ha1⟩, ⟨hb0, hb1⟩, ⟨hc0, hc1⟩, ⟨hd0, hd1⟩, ⟨he0, he1⟩, ⟨hf0, hf1⟩, ⟨hg0, hg1⟩, ⟨hh0, hh1⟩⟩ := hs
          have H4 : Hid (wr.heap[w.heap.size]? = _ ∧ Below w.heap.size w wr) := ⟨hg, hb⟩
          clear hg hb
          go_wp2
          go_quiet (fail)
          go_wp2
          go_quiet (fail)
          go_wp2_with fail
          refine (keys_any _).mono ?_
          rintro e wk ⟨rfl, hwk⟩
          have h5 := after_keys H4.out.1 H4.out.2 hwk
          have HC5 : Hid (∀ j, j < 8 → wk.cell? ⟨g, j, none⟩ = some (.int .i64 (s.at j))) := fun j hj => (h5.2.2.cell (p := ⟨g, j, none⟩) (block_lt_of_cell (HR.out j hj))).trans (HR.out j hj)
          have H5 : Hid (Reads w b wr.heap.size wk) := h5
          clear h5 hwk HC r0 r1 r2 r3 r4 r5 r6 r7 H4
          simp only [World.heap_drewN]
          generalize wr.heap.size = gk at *
          go_wp2
          go_loopw [10, 11, 12, 13, 14, 15, 16, 17, 19] (fun a b' c d e f g h i wr => ∃ k : Nat, k ≤ 64 ∧ i = .int .i64 k ∧ a = .int .u32 (rounds b s k).a ∧ b' = .int .u32 (rounds b s k).b ∧ c = .int .u32 (rounds b s k).c ∧ d = .int .u32 (rounds b s k).d ∧ e = .int .u32 (rounds b s k).e ∧ f = .int .u32 (rounds b s k).f ∧ g = .int .u32 (rounds b s k).g ∧ h = .int .u32 (rounds b s k).h ∧ Reads w b gk wr) (fun _ _ _ _ _ _ _ _ i _ => 64 - (RowKit.intOf i).toNat)
          case atStart => exact ⟨0, by omega, rfl, rfl, rfl, rfl, rfl, rfl, rfl, rfl, rfl, H5.out⟩
          case round =>
            clear hk0 hk hlt H5 HC5
            rename_i k1
            obtain ⟨k, hk, rfl, rfl, rfl, rfl, rfl, rfl, rfl, rfl, rfl, hrd⟩ := hrel
            have H5 : Hid (Reads w b gk wr) := hrd
            clear hrd
            by_cases hlt : k < 64
            · have hkc := H5.out.1 k hlt
              have hwc := H5.out.2.1 k hlt
              have hok := rounds_ok b HOK.out k
              have hst : rounds b s (k + 1) = (rounds b s k).step ((keyAt k + sched b k) % 4294967296) := rfl
              generalize rounds b s k = st at *
              generalize keyAt k = kk at *
              generalize sched b k = sk at *
              have ht1 := t1_parts st kk sk
              have hxa := step_a st ((kk + sk) % 4294967296)
              have hxe := step_e st ((kk + sk) % 4294967296)
              obtain ⟨T, hT⟩ : ∃ T, T = t1F st ((kk + sk) % 4294967296) := ⟨_, rfl⟩
              have hTb : 0 ≤ T ∧ T < 4294967296 := by rw [hT]; unfold t1F; omega
              have HX : Hid (rounds b s (k + 1) = ⟨(T + (big0 st.a + majF st.a st.b st.c) % 4294967296) % 4294967296, st.a, st.b, st.c, (st.d + T) % 4294967296, st.e, st.f, st.g⟩) := by
                show _ = _
                rw [hst, hT]
                rfl
              rw [← hT, ← mod_sum5] at ht1
              have hm : IntKind.u32.max = 4294967295 := rfl
              have hsg : IntKind.u32.signed = false := rfl
              unfold big1 chF at ht1
              unfold big0 majF at HX
              have HT : Hid (_ = T) := ht1
              obtain ⟨hT0, hT1⟩ := hTb
              clear ht1 hxa hxe hT hst
              obtain ⟨⟨a0, a1⟩, ⟨b0, b1⟩, ⟨c0, c1⟩, ⟨d0, d1⟩, ⟨e0, e1⟩, ⟨f0, f1⟩, ⟨g0, g1⟩, ⟨h0, h1⟩⟩ := hok
              obtain ⟨sa, sb, sc, sd, se, sf, sg, sh⟩ := st
              dsimp only at *
              go_wp2
              go_quiet ((go_at_call 93; exact Calls.quiet_of_same (R.out _ _ _ (by decide) (by omega) (by omega))))
              rw [HT.out]
              go_wp2_with (go_at_call 93; refine (R.out _ _ _ (by decide) (by omega) (by omega)).mono ?_; rintro e w' ⟨rfl, rfl⟩)
              go_roundw
              case rel => exact ⟨k + 1, by omega, by go_num, by rw [HX.out], by rw [HX.out], by rw [HX.out], by rw [HX.out], by rw [HX.out], by rw [HX.out], by rw [HX.out], by rw [HX.out], H5.out.drewN nq⟩
              case measure => simp [RowKit.intOf]; omega
            · have e64 : k = 64 := by omega
              obtain ⟨v, hv⟩ : ∃ x, rounds b s 64 = x := ⟨_, rfl⟩
              have hvk : rounds b s k = v := by rw [e64]; exact hv
              have HV : Hid (rounds b s 64 = v ∧ v.Ok ∧ s.Ok) := ⟨hv, by rw [← hv]; exact rounds_ok b HOK.out 64, HOK.out⟩
              rw [hvk]
              clear e64 hvk hv HOK
              have H6 : Hid (Reads w b gk wr ∧ w.heap.size ≤ wr.heap.size ∧ (∀ j, j < 8 → (wr.alloc (.cells v.cells 126)).cell? ⟨wr.heap.size, j, none⟩ = some (.int .u32 (v.at j))) ∧ (∀ j, j < 8 → (wr.alloc (.cells v.cells 126)).cell? ⟨g, j, none⟩ = some (.int .i64 (s.at j))) ∧ Below w.heap.size w (wr.alloc (.cells v.cells 126)) ∧ g < w.heap.size) := by
                have hb := H5.out.2.2
                have hb' : Below w.heap.size w (wr.alloc (.cells v.cells 126)) := hb.alloc hb.size _
                exact ⟨H5.out, hb.size, fun j hj => row_cell v hj, fun j hj => (hb'.cell (p := ⟨g, j, none⟩) (block_lt_of_cell (HR.out j hj))).trans (HR.out j hj), hb', block_lt_of_cell (HR.out 0 (by omega))⟩
              unfold H8.cells at H6
              clear H5 HR
              go_wp2
              obtain ⟨w6, hw6⟩ : ∃ x, wr.alloc (.cells #[.int .u32 v.a, .int .u32 v.b, .int .u32 v.c, .int .u32 v.d, .int .u32 v.e, .int .u32 v.f, .int .u32 v.g, .int .u32 v.h] 126) = x := ⟨_, rfl⟩
              have hz6 : w6.heap.size = wr.heap.size + 1 := by rw [← hw6]; simp
              rw [hw6] at H6
              simp only [hw6]
              have hmd := OwnI.made w6 (wr.heap.size + 1) (by omega)
              rw [hz6] at hmd
              have hsz6 := H6.out.2.1
              generalize wr.heap.size = gv at *
              have HZ6 : Hid (w6.heap.size = gv + 1 ∧ w.heap.size ≤ gv) := ⟨hz6, hsz6⟩
              clear hw6 hz6 hsz6
              go_loopw [23, 24] (fun o i wx => ∃ k : Nat, k ≤ 8 ∧ i = .int .i64 k ∧ OwnI wx (gv + 1) o (outL s v k) ∧ Below (gv + 1) w6 wx) (fun _ i _ => 8 - (RowKit.intOf i).toNat)
              case atStart => exact ⟨0, by omega, rfl, hmd, (Below.refl _ _).alloc (by rw [HZ6.out.1]; exact Nat.le_refl _) _⟩
              case round =>
                clear hmd hk hlt
                rename_i k2
                obtain ⟨k, hk, rfl, hown, hb⟩ := hrel
                by_cases hlt : k < 8
                · have hcv := (hb.cell (p := ⟨gv, k, none⟩) (by simp)).trans (H6.out.2.2.1 k hlt)
                  have hcs := (hb.cell (p := ⟨g, k, none⟩) (Nat.lt_of_lt_of_le H6.out.2.2.2.2.2 (Nat.le_succ_of_le HZ6.out.2))).trans (H6.out.2.2.2.1 k hlt)
                  have HS : Hid (outL s v (k + 1) = _) := outL_succ s v k
                  have hl := outL_len s v k
                  obtain ⟨p0, p1⟩ := H8.at_bd HV.out.2.2 k
                  obtain ⟨q0, q1⟩ := H8.at_bd HV.out.2.1 k
                  generalize s.at k = x at *
                  generalize v.at k = y at *
                  have hll : (outL s v k).length ≤ 1048576 := by omega
                  have hsz : gv + 1 ≤ wr.heap.size := by have := hb.size; rw [HZ6.out.1] at this; exact this
                  clear hl
                  go_wp2
                  go_region_law (go_must (refine step_app_num (w := wr.drew) rfl (.tmp 220) (.tmp 232) rfl (gv + 1) _ (outL s v k) _ (by simp [Act.eval]) (show OwnI wr.drew _ _ _ from hown) (by simp [Act.eval]) hll hsz ?_); intro v1 w1 hown1 hb1)
                  all_goals
                    rw [wrap_add x y p0 p1] at hown1
                    have H7 : Hid (OwnI w1 (gv + 1) v1 (outL s v (k + 1)) ∧ Below (gv + 1) w6 w1) := ⟨by rw [HS.out]; exact hown1, hb.trans (below_drew hb1)⟩
                    clear hown1 hb1 hown hb hcv hcs p0 p1 q0 q1
                    go_wp2
                    go_roundw
                    case rel => exact ⟨k + 1, by omega, by go_num, H7.out.1, H7.out.2⟩
                    case measure => simp [RowKit.intOf]; omega
                · have e8 : k = 8 := by omega
                  rw [e8] at hown
                  obtain ⟨g', c', hgc, hgB, hrow⟩ := out_row hown
                  have H8 : Hid (_ = _ ∧ w.heap.size ≤ g' ∧ Row8 wr g' (s.plus v) ∧ Below w.heap.size w wr) := ⟨hgc, Nat.le_trans HZ6.out.2 (Nat.le_of_succ_le hgB), hrow, H6.out.2.2.2.2.1.trans (hb.mono (Nat.le_succ_of_le HZ6.out.2))⟩
                  clear hown hb hgc hgB hrow e8
                  go_wp2
                  go_ret
                  refine ⟨g', c', ?_, ?_, H8.out.2.1, H8.out.2.2.2⟩
                  · exact congrArg Ending.returned H8.out.1
                  · rw [HV.out.1]
                    exact H8.out.2.2.1
end Go.Proofs.YtcenlgfopmahcaaGreatDoor
