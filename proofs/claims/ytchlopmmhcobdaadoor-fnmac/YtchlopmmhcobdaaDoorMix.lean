/-
  The program's block: the state that lies in memory is that behind the block; nothing that lies ahead of it turns.
-/
import Derived.Test.YtchlopmmhcobdaaDoorWords
import Derived.Deep.RegionWith
import Derived.Deep.MidRow
namespace Go.Proofs.YtchlopmmhcobdaaDoor
open Go.RowKit Go.Lib
set_option linter.unusedVariables false

/-- The rounds' numbers lie in the program's variable. -/
def Keys (w : World) : Prop := ∀ j, j < 64 → w.cell? ⟨2, j, none⟩ = some (.int .u32 (keyAt j))
theorem Keys.lt {w : World} (h : Keys w) : 2 < w.heap.size := block_lt_of_cell (h 0 (by omega))
theorem Keys.below {w w' : World} {B : Nat} (h : Keys w) (hb : Below B w w') (hB : 2 < B) : Keys w' := fun j hj => (hb.cell (p := ⟨2, j, none⟩) hB).trans (h j hj)

theorem H8.cells_one (s : H8) : s.cells.all (·.oneCell') = true := by rw [H8.cells_eq]; exact cells32_one _ _
theorem info8 : (Tryd.prog.info? 152).map (·.size) = some 8 := by kernel_rfl
theorem index64 (f : Nat → Int) (k : Nat) (hk : k < 64) (w : World) : (Instr.index 177 (.agg (cells32 64 f)) (.int .i64 k)).run Tryd.prog w = .ok (.int .u32 (f k)) w := by
  have h := cells32_get f hk
  simp [Instr.index, asIntOf, run_underlying Tryd.underlying177, part, hk, h, go_sem]
theorem index8 (f : Nat → Int) (k : Nat) (hk : k < 8) (w : World) : (Instr.index 152 (.agg (cells32 8 f)) (.int .i64 k)).run Tryd.prog w = .ok (.int .u32 (f k)) w := by
  have h := cells32_get f hk
  simp [Instr.index, asIntOf, run_underlying Tryd.underlying152, part, hk, h, go_sem]

theorem eight_cells {w : World} {g : Nat} {f : Nat → Int} {tail : Array Value} {t : TypeId} (hg : w.heap[g]? = some (.cells (cells32 8 f ++ tail) t (0, 0))) (j : Nat) (hj : j < 8) :
    w.cell? ⟨g, j, none⟩ = some (.int .u32 (f j)) ∧ w.frozen? ⟨g, j, none⟩ = false := by
  refine ⟨?_, frozen_of_row w g j _ _ hg⟩
  rw [cell_of_row w g j _ _ _ hg, Array.getElem?_append_left (by rw [cells32_size]; exact hj), cells32_get _ hj]
theorem eight_cells' {w : World} {g : Nat} {f : Nat → Int} {t : TypeId} (hg : w.heap[g]? = some (.cells (cells32 8 f) t (0, 0))) (j : Nat) (hj : j < 8) :
    w.cell? ⟨g, j, none⟩ = some (.int .u32 (f j)) ∧ w.frozen? ⟨g, j, none⟩ = false := by
  refine ⟨?_, frozen_of_row w g j _ _ hg⟩
  rw [cell_of_row w g j _ _ _ hg, cells32_get _ hj]

theorem two_of (w1 : World) (cs : Array Value) (t : TypeId) (g : Nat) {o : Obj} (hg : w1.heap[g]? = some o) :
    ∃ w2 n, w1.alloc (.cells cs t) = w2 ∧ n = w1.heap.size ∧ w2.heap[g]? = some o ∧ w2.heap.size = n + 1 ∧ w2.heap[n]? = some (.cells cs t (0, 0)) ∧ Below w1.heap.size w1 w2 :=
  ⟨_, _, rfl, rfl, (heap_alloc_old w1 _ (Array.getElem?_eq_some_iff.1 hg).1).trans hg, by simp, heap_alloc_new w1 _, (Below.refl _ _).alloc (Nat.le_refl _) _⟩
theorem eight_all {w : World} {g : Nat} {s : H8} {tail : Array Value} {t : TypeId} (hg : w.heap[g]? = some (.cells (cells32 8 s.at ++ tail) t (0, 0))) :
    (w.cell? ⟨g, 0, none⟩ = some (.int .u32 s.a) ∧ w.frozen? ⟨g, 0, none⟩ = false) ∧ (w.cell? ⟨g, 1, none⟩ = some (.int .u32 s.b) ∧ w.frozen? ⟨g, 1, none⟩ = false) ∧ (w.cell? ⟨g, 2, none⟩ = some (.int .u32 s.c) ∧ w.frozen? ⟨g, 2, none⟩ = false) ∧
    (w.cell? ⟨g, 3, none⟩ = some (.int .u32 s.d) ∧ w.frozen? ⟨g, 3, none⟩ = false) ∧ (w.cell? ⟨g, 4, none⟩ = some (.int .u32 s.e) ∧ w.frozen? ⟨g, 4, none⟩ = false) ∧ (w.cell? ⟨g, 5, none⟩ = some (.int .u32 s.f) ∧ w.frozen? ⟨g, 5, none⟩ = false) ∧
    (w.cell? ⟨g, 6, none⟩ = some (.int .u32 s.g) ∧ w.frozen? ⟨g, 6, none⟩ = false) ∧ (w.cell? ⟨g, 7, none⟩ = some (.int .u32 s.h) ∧ w.frozen? ⟨g, 7, none⟩ = false) :=
  ⟨eight_cells hg 0 (by omega), eight_cells hg 1 (by omega), eight_cells hg 2 (by omega), eight_cells hg 3 (by omega), eight_cells hg 4 (by omega), eight_cells hg 5 (by omega), eight_cells hg 6 (by omega), eight_cells hg 7 (by omega)⟩
theorem eight_all' {w : World} {g : Nat} {s : H8} {t : TypeId} (hg : w.heap[g]? = some (.cells s.cells t (0, 0))) :
    (w.cell? ⟨g, 0, none⟩ = some (.int .u32 s.a) ∧ w.frozen? ⟨g, 0, none⟩ = false) ∧ (w.cell? ⟨g, 1, none⟩ = some (.int .u32 s.b) ∧ w.frozen? ⟨g, 1, none⟩ = false) ∧ (w.cell? ⟨g, 2, none⟩ = some (.int .u32 s.c) ∧ w.frozen? ⟨g, 2, none⟩ = false) ∧
    (w.cell? ⟨g, 3, none⟩ = some (.int .u32 s.d) ∧ w.frozen? ⟨g, 3, none⟩ = false) ∧ (w.cell? ⟨g, 4, none⟩ = some (.int .u32 s.e) ∧ w.frozen? ⟨g, 4, none⟩ = false) ∧ (w.cell? ⟨g, 5, none⟩ = some (.int .u32 s.f) ∧ w.frozen? ⟨g, 5, none⟩ = false) ∧
    (w.cell? ⟨g, 6, none⟩ = some (.int .u32 s.g) ∧ w.frozen? ⟨g, 6, none⟩ = false) ∧ (w.cell? ⟨g, 7, none⟩ = some (.int .u32 s.h) ∧ w.frozen? ⟨g, 7, none⟩ = false) := by
  have h : w.heap[g]? = some (.cells (cells32 8 s.at ++ #[]) t (0, 0)) := by rw [hg, H8.cells_eq]; simp
  exact eight_all h
theorem set8 {w : World} {g : Nat} {t : TypeId} {s : H8} {y0 y1 y2 y3 y4 y5 y6 y7 : Value} (hg : w.heap[g]? = some (.cells s.cells t (0, 0))) :
    ((((((((w.setCell ⟨g, 0, none⟩ y0).setCell ⟨g, 1, none⟩ y1).setCell ⟨g, 2, none⟩ y2).setCell ⟨g, 3, none⟩ y3).setCell ⟨g, 4, none⟩ y4).setCell ⟨g, 5, none⟩ y5).setCell ⟨g, 6, none⟩ y6).setCell ⟨g, 7, none⟩ y7).heap[g]? = some (.cells #[y0, y1, y2, y3, y4, y5, y6, y7] t (0, 0)) := by
  have h0 := heap_setCell_same w g 0 _ t y0 hg
  have h1 := heap_setCell_same _ g 1 _ t y1 h0
  have h2 := heap_setCell_same _ g 2 _ t y2 h1
  have h3 := heap_setCell_same _ g 3 _ t y3 h2
  have h4 := heap_setCell_same _ g 4 _ t y4 h3
  have h5 := heap_setCell_same _ g 5 _ t y5 h4
  have h6 := heap_setCell_same _ g 6 _ t y6 h5
  rw [heap_setCell_same _ g 7 _ t y7 h6]
  simp [H8.cells]

/-- The first k of the eight numbers are added. -/
def mixed (s v : H8) (k : Nat) : Nat → Int := fun j => if j < k then add32 (s.at j) (v.at j) else s.at j
theorem mixed_all (s v : H8) : cells32 8 (mixed s v 8) = cells32 8 (s.plus v).at := by
  apply cells32_congr
  intro j hj
  unfold mixed
  rw [if_pos hj, H8.plus_at]
theorem mixed_set {w : World} {g : Nat} {s v : H8} {k : Nat} {tail : Array Value} {t : TypeId} (hg : w.heap[g]? = some (.cells (cells32 8 (mixed s v k) ++ tail) t (0, 0))) (hk : k < 8) :
    (w.setCell ⟨g, k, none⟩ (.int .u32 (add32 (s.at k) (v.at k)))).heap[g]? = some (.cells (cells32 8 (mixed s v (k + 1)) ++ tail) t (0, 0)) := by
  rw [heap_setCell_same w g k _ _ _ hg]
  congr 2
  have e : cells32 8 (mixed s v (k + 1)) = (cells32 8 (mixed s v k)).setIfInBounds k (.int .u32 (add32 (s.at k) (v.at k))) := by
    rw [cells32_set]
    apply cells32_congr
    intro j hj
    unfold mixed
    by_cases h : j = k
    · subst h; simp
    · rw [if_neg h]
      by_cases h2 : j < k
      · rw [if_pos h2, if_pos (by omega)]
      · rw [if_neg h2, if_neg (by omega)]
  rw [e]
  apply Array.ext_getElem?
  intro i
  have hz := cells32_size 8 (mixed s v k)
  by_cases hi : i < 8
  · rw [Array.getElem?_append_left (by simp [hz, hi]), Array.getElem?_setIfInBounds, Array.getElem?_setIfInBounds, Array.getElem?_append_left (by omega)]
    by_cases e : k = i
    · rw [if_pos e, if_pos e, if_pos (by simp [hz]; omega), if_pos (by omega)]
    · rw [if_neg e, if_neg e]
  · rw [Array.getElem?_append_right (by simp [hz]; omega), Array.getElem?_setIfInBounds, if_neg (by omega), Array.getElem?_append_right (by omega)]
    simp

set_option maxHeartbeats 2000000 in
theorem mix_any (s : H8) (p : ByteArray) (g : Nat) (t : TypeId) (tail : Array Value) (w : World) (hs : s.Ok) (hp : p.size = 64) (hK : Keys w) (hg : w.heap[g]? = some (.cells (cells32 8 s.at ++ tail) t (0, 0))) (hgK : 2 < g) :
    Calls Tryd.prog 152 #[.pointer (some ⟨g, 0, none⟩), .string p] w fun e w' => e = .returned (.tuple #[]) ∧ w'.heap[g]? = some (.cells (cells32 8 (block s p.data.toList).at ++ tail) t (0, 0)) ∧ Below g w w' := by
  have E : Hid (∀ w, Calls Tryd.prog 154 #[.string p] w fun e w' => e = .returned (.agg (cells32 64 (sched (wordF p.data.toList)))) ∧ Below w.heap.size w w') := fun w => blockWords_any p w hp
  have hgl : g < w.heap.size := (Array.getElem?_eq_some_iff.1 hg).1
  have hbd : ∀ i, i < 16 → 0 ≤ wordF p.data.toList i ∧ wordF p.data.toList i < 4294967296 := fun i _ => wordF_bd _ i
  unfold block
  generalize wordF p.data.toList = b at *
  clear hp
  have HG : Hid (Keys w ∧ w.heap[g]? = some (.cells (cells32 8 s.at ++ tail) t (0, 0)) ∧ 2 < g ∧ g < w.heap.size) := ⟨hK, hg, hgK, hgl⟩
  clear hK hg hgK hgl
  go_enter Tryd.func152, Tryd.ntmps152
  go_wp2_with fail
  refine (E.out _).mono ?_
  rintro e w1 ⟨rfl, hb1⟩
  have hg1 : w1.heap[g]? = some (.cells (cells32 8 s.at ++ tail) t (0, 0)) := (hb1.block g HG.out.2.2.2).trans HG.out.2.1
  have hK1 : Keys w1 := HG.out.1.below hb1 HG.out.1.lt
  have hsz1 : w.heap.size ≤ w1.heap.size := hb1.size
  have hb1' : Hid (Below w.heap.size w w1) := hb1
  clear hb1
  go_wp2_with (first | (refine wpList_store_row rfl 177 (.tmp 4) (.tmp 11) rfl w1.heap.size _ rfl rfl _ _ (heap_alloc_new w1 _) (by rw [cells32_size]; exact info64) (by rw [cells32_size]; rfl) (cells32_one _ _) ?_; rw [World.setRow_alloc_new]; obtain ⟨w2, n4, hw2, hn4, hg2, hz2, hr2, hb2⟩ := two_of w1 (cells32 64 (sched b)) 177 g hg1; rw [hw2]; simp only [← hn4]; have H2 : Hid (n4 = w1.heap.size ∧ w2.heap.size = n4 + 1 ∧ w2.heap[n4]? = some (.cells (cells32 64 (sched b)) 177 (0, 0)) ∧ Below w1.heap.size w1 w2) := ⟨hn4, hz2, hr2, hb2⟩; clear hn4 hz2 hr2 hb2 hw2; obtain ⟨⟨c0, _⟩, ⟨c1, _⟩, ⟨c2, _⟩, ⟨c3, _⟩, ⟨c4, _⟩, ⟨c5, _⟩, ⟨c6, _⟩, ⟨c7, _⟩⟩ := eight_all hg2) | (refine wpList_store_row rfl 152 (.tmp 5) (.tmp 14) rfl w2.heap.size s.cells rfl rfl _ _ (heap_alloc_new w2 _) info8 rfl s.cells_one ?_; rw [World.setRow_alloc_new]; clear c0 c1 c2 c3 c4 c5 c6 c7; obtain ⟨w3, n5, hw3, hn5, hr3, hz3, hs3, hb3⟩ := two_of w2 s.cells 152 n4 H2.out.2.2.1; rw [hw3]; simp only [← hn5]; have H3 : Hid (n5 = w2.heap.size ∧ w3.heap.size = n5 + 1 ∧ w3.heap[n4]? = some (.cells (cells32 64 (sched b)) 177 (0, 0)) ∧ w3.heap[n5]? = some (.cells s.cells 152 (0, 0)) ∧ Below w2.heap.size w2 w3) := ⟨hn5, hz3, hr3, hs3, hb3⟩; clear hn5 hz3 hr3 hs3 hb3 hw3) | (refine wpList_load_row rfl 177 (.tmp 4) rfl n4 rfl _ _ _ _ H3.out.2.2.1 Tryd.underlying177 rfl (by rw [cells32_size]; exact info64) ?_))
  have hb3 : Below w.heap.size w w3 := (hb1'.out.trans (H2.out.2.2.2.mono hb1'.out.size)).trans (H3.out.2.2.2.2.mono (Nat.le_trans hb1'.out.size H2.out.2.2.2.size))
  have hn5 : w.heap.size ≤ n5 := by rw [H3.out.1]; exact Nat.le_trans hb1'.out.size H2.out.2.2.2.size
  have hr3 := H3.out.2.2.2.1
  clear H2 H3 hb1' hg1 hK1 hsz1 hg2 E
  go_loopw [16] (fun i wr => ∃ k : Nat, k ≤ 64 ∧ i = .int .i64 k ∧ wr.heap[n5]? = some (.cells (rounds b s k).cells 152 (0, 0)) ∧ Below w.heap.size w wr) (fun i _ => 64 - (intOf i).toNat)
  case atStart => exact ⟨0, by omega, rfl, hr3, hb3⟩
  case round =>
    clear hr3 hb3
    obtain ⟨k, hk, rfl, hr, hb⟩ := hrel
    by_cases hlt : k < 64
    · have hi := fun w => index64 (sched b) k hlt w
      have hkc := HG.out.1.below hb HG.out.1.lt k hlt
      have hkb := keyAt_bd k
      have hsb := sched_bd b hbd k
      have hok := rounds_ok b hs k
      have hst : (rounds b s (k + 1)) = (rounds b s k).step ((keyAt k + sched b k) % 4294967296) := rfl
      generalize rounds b s k = st at *
      generalize keyAt k = kk at *
      generalize sched b k = sk at *
      obtain ⟨⟨c0, _⟩, ⟨c1, _⟩, ⟨c2, _⟩, ⟨c3, _⟩, ⟨c4, _⟩, ⟨c5, _⟩, ⟨c6, _⟩, ⟨c7, _⟩⟩ := eight_all' hr
      have E : Hid (∀ w, Calls Tryd.prog 155 #[.agg st.cells, .int .u32 ((kk + sk) % 4294967296)] w fun e w' => e = .returned (.agg (rounds b s (k + 1)).cells) ∧ Below w.heap.size w w') := by
        rw [hst]
        exact fun w => afterRound_any st _ w hok (by unfold In32; omega)
      unfold H8.cells at E
      obtain ⟨st1, hst1⟩ : ∃ x, rounds b s (k + 1) = x := ⟨_, rfl⟩
      rw [hst1] at E
      have HST : Hid (rounds b s (k + 1) = st1) := hst1
      clear hst hok hst1
      obtain ⟨hkb0, hkb1⟩ := hkb
      obtain ⟨hsb0, hsb1⟩ := hsb
      have H4 : Hid (wr.heap[n5]? = some (.cells st.cells 152 (0, 0)) ∧ Below w.heap.size w wr ∧ w.heap.size ≤ n5 ∧ n5 < wr.heap.size) := ⟨hr, hb, hn5, (Array.getElem?_eq_some_iff.1 hr).1⟩
      clear hr hb hn5
      go_wp2
      go_region_with (go_at_call 155; refine (E.out _).mono ?_; rintro e w4 ⟨rfl, hb4⟩; obtain ⟨⟨d0, f0⟩, ⟨d1, f1⟩, ⟨d2, f2⟩, ⟨d3, f3⟩, ⟨d4, f4⟩, ⟨d5, f5⟩, ⟨d6, f6⟩, ⟨d7, f7⟩⟩ := eight_all' ((hb4.block n5 H4.out.2.2.2).trans H4.out.1))
      all_goals
        have H5 : Hid (_ ∧ _) := And.intro (set8 (y0 := .int .u32 st1.a) (y1 := .int .u32 st1.b) (y2 := .int .u32 st1.c) (y3 := .int .u32 st1.d) (y4 := .int .u32 st1.e) (y5 := .int .u32 st1.f) (y6 := .int .u32 st1.g) (y7 := .int .u32 st1.h) ((hb4.block n5 H4.out.2.2.2).trans H4.out.1)) (H4.out.2.1.trans ((below_drew hb4).mono H4.out.2.1.size))
        clear d0 d1 d2 d3 d4 d5 d6 d7 f0 f1 f2 f3 f4 f5 f6 f7 hb4 c0 c1 c2 c3 c4 c5 c6 c7 hi hkc
        go_wp2
        go_roundw
        case rel => exact ⟨k + 1, by omega, by go_num, by rw [HST.out]; exact H5.out.1, (((((((H5.out.2.setCell H4.out.2.2.1 _).setCell H4.out.2.2.1 _).setCell H4.out.2.2.1 _).setCell H4.out.2.2.1 _).setCell H4.out.2.2.1 _).setCell H4.out.2.2.1 _).setCell H4.out.2.2.1 _).setCell H4.out.2.2.1 _⟩
        case measure => simp [intOf]; omega
    · have e64 : k = 64 := by omega
      rw [e64] at hr
      clear e64
      obtain ⟨⟨c0, _⟩, ⟨c1, _⟩, ⟨c2, _⟩, ⟨c3, _⟩, ⟨c4, _⟩, ⟨c5, _⟩, ⟨c6, _⟩, ⟨c7, _⟩⟩ := eight_all' hr
      have hok := rounds_ok b hs 64
      obtain ⟨v, hv⟩ : ∃ x, rounds b s 64 = x := ⟨_, rfl⟩
      rw [hv] at hr hok c0 c1 c2 c3 c4 c5 c6 c7
      have HV : Hid (rounds b s 64 = v) := hv
      clear hv
      have H6 : Hid (wr.heap[g]? = some (.cells (cells32 8 s.at ++ tail) t (0, 0)) ∧ Below g w wr ∧ v.Ok) := ⟨(hb.block g HG.out.2.2.2).trans HG.out.2.1, hb.mono (Nat.le_of_lt HG.out.2.2.2), hok⟩
      clear hr hb hn5 hok
      go_wp2
      clear c0 c1 c2 c3 c4 c5 c6 c7
      go_loopw [29] (fun i wr => ∃ k : Nat, k ≤ 8 ∧ i = .int .i64 k ∧ wr.heap[g]? = some (.cells (cells32 8 (mixed s v k) ++ tail) t (0, 0)) ∧ Below g w wr) (fun i _ => 8 - (intOf i).toNat)
      case atStart => exact ⟨0, by omega, rfl, H6.out.1, H6.out.2.1⟩
      case round =>
        clear hk hlt
        obtain ⟨k, hk, rfl, hr, hb⟩ := hrel
        by_cases hlt : k < 8
        · have hi : ∀ w, (Instr.index 152 (.agg v.cells) (.int .i64 k)).run Tryd.prog w = .ok (.int .u32 (v.at k)) w := fun w => index8 v.at k hlt w
          unfold H8.cells at hi
          obtain ⟨hc, hf⟩ := eight_cells hr k hlt
          have e : mixed s v k k = s.at k := by unfold mixed; rw [if_neg (by omega)]
          rw [e] at hc
          have H7 : Hid (_ ∧ Below g w wr) := ⟨mixed_set hr hlt, hb⟩
          unfold add32 at H7
          obtain ⟨p0, p1⟩ := H8.at_bd hs k
          obtain ⟨q0, q1⟩ := H8.at_bd H6.out.2.2 k
          generalize s.at k = x at *
          generalize v.at k = y at *
          clear e hr hb
          go_wp2
          go_region
          all_goals
            go_wp2
            go_roundw
            case rel => exact ⟨k + 1, by omega, by go_num, H7.out.1, (H7.out.2.setCell (Nat.le_refl _) _).drew⟩
            case measure => simp [intOf]; omega
        · have e8 : k = 8 := by omega
          rw [e8, mixed_all] at hr
          have H8 : Hid (_ ∧ Below g w wr) := ⟨hr, hb⟩
          clear hr hb e8
          go_wp2
          go_end0
          exact ⟨rfl, by rw [HV.out]; exact H8.out.1, H8.out.2⟩
end Go.Proofs.YtchlopmmhcobdaaDoor
