/-
  The program's block: the state that lies in memory is that behind the block; nothing that lies ahead of it turns.
-/
import Derived.Test.YtcenlgfopmahcaaGreatDoorPkCells
import Derived.Test.YtcenlgfopmahcaaGreatDoorPkMem
import Derived.Deep.RegionWith
import Derived.Deep.MidRow
namespace Go.Proofs.YtcenlgfopmahcaaGreatDoor
open Go.RowKit Go.Lib
set_option linter.unusedVariables false

/-- The rounds' numbers lie in the program's variable. -/
def Keys (w : World) : Prop := ∀ j, j < 64 → w.cell? ⟨1, j, none⟩ = some (.int .u32 (keyAt j))
theorem Keys.lt {w : World} (h : Keys w) : 1 < w.heap.size := block_lt_of_cell (h 0 (by omega))
theorem Keys.below {w w' : World} {B : Nat} (h : Keys w) (hb : Below B w w') (hB : 1 < B) : Keys w' := fun j hj => (hb.cell (p := ⟨1, j, none⟩) hB).trans (h j hj)

theorem H8.cells_one (s : H8) : s.cells.all (·.oneCell') = true := by rw [H8.cells_eq]; exact cells32_one _ _
theorem info8 : (Tryz.prog.info? 197).map (·.size) = some 8 := by kernel_rfl
theorem index64 (f : Nat → Int) (k : Nat) (hk : k < 64) (w : World) : (Instr.index 205 (.agg (cells32 64 f)) (.int .i64 k)).run Tryz.prog w = .ok (.int .u32 (f k)) w := by
  have h := cells32_get f hk
  simp [Instr.index, asIntOf, run_underlying Tryz.underlying205, part, hk, h, go_sem]
theorem index8 (f : Nat → Int) (k : Nat) (hk : k < 8) (w : World) : (Instr.index 197 (.agg (cells32 8 f)) (.int .i64 k)).run Tryz.prog w = .ok (.int .u32 (f k)) w := by
  have h := cells32_get f hk
  simp [Instr.index, asIntOf, run_underlying Tryz.underlying197, part, hk, h, go_sem]

theorem eight_cells {w : World} {g : Nat} {f : Nat → Int} {tail : Array Value} {t : TypeId} (hg : w.heap[g]? = some (.cells (cells32 8 f ++ tail) t (0, 0))) (j : Nat) (hj : j < 8) :
    w.cell? ⟨g, j, none⟩ = some (.int .u32 (f j)) ∧ w.frozen? ⟨g, j, none⟩ = false := by
  refine ⟨?_, frozen_of_row w g j _ _ hg⟩
  rw [cell_of_row w g j _ _ _ hg, Array.getElem?_append_left (by rw [cells32_size]; exact hj), cells32_get _ hj]
theorem eight_cells' {w : World} {g : Nat} {f : Nat → Int} {t : TypeId} (hg : w.heap[g]? = some (.cells (cells32 8 f) t (0, 0))) (j : Nat) (hj : j < 8) :
    w.cell? ⟨g, j, none⟩ = some (.int .u32 (f j)) ∧ w.frozen? ⟨g, j, none⟩ = false := by
  refine ⟨?_, frozen_of_row w g j _ _ hg⟩
  rw [cell_of_row w g j _ _ _ hg, cells32_get _ hj]

theorem two_of (w1 : World) (cs : Array Value) (t : TypeId) (g : Nat) {o : Obj} (hg : w1.heap[g]? = some o) :
    ∃ w2 n, w1.alloc (.cells cs t) = w2 ∧ n = w1.heap.size ∧ w2.heap[g]? = some o ∧ w2.heap.size = n + 1 ∧ w2.heap[n]? = some (.cells cs t (0, 0)) ∧ Below w1.heap.size w1 w2 :=
  ⟨_, _, rfl, rfl, (heap_alloc_old w1 _ (Array.getElem?_eq_some_iff.1 hg).1).trans hg, by simp, heap_alloc_new w1 _, (Below.refl _ _).alloc (Nat.le_refl _) _⟩
theorem eight_all {w : World} {g : Nat} {s : H8} {tail : Array Value} {t : TypeId} (hg : w.heap[g]? = some (.cells (cells32 8 s.at ++ tail) t (0, 0))) :
    (w.cell? ⟨g, 0, none⟩ = some (.int .u32 s.a) ∧ w.frozen? ⟨g, 0, none⟩ = false) ∧ (w.cell? ⟨g, 1, none⟩ = some (.int .u32 s.b) ∧ w.frozen? ⟨g, 1, none⟩ = false) ∧ (w.cell? ⟨g, 2, none⟩ = some (.int .u32 s.c) ∧ w.frozen? ⟨g, 2, none⟩ = false) ∧
    (w.cell? ⟨g, 3, none⟩ = some (.int .u32 s.d) ∧ w.frozen? ⟨g, 3, none⟩ = false) ∧ (w.cell? ⟨g, 4, none⟩ = some (.int .u32 s.e) ∧ w.frozen? ⟨g, 4, none⟩ = false) ∧ (w.cell? ⟨g, 5, none⟩ = some (.int .u32 s.f) ∧ w.frozen? ⟨g, 5, none⟩ = false) ∧
    (w.cell? ⟨g, 6, none⟩ = some (.int .u32 s.g) ∧ w.frozen? ⟨g, 6, none⟩ = false) ∧ (w.cell? ⟨g, 7, none⟩ = some (.int .u32 s.h) ∧ w.frozen? ⟨g, 7, none⟩ = false) :=
  ⟨eight_cells hg 0 (by omega), eight_cells hg 1 (by omega), eight_cells hg 2 (by omega), eight_cells hg 3 (by omega), eight_cells hg 4 (by omega), eight_cells hg 5 (by omega), eight_cells hg 6 (by omega), eight_cells hg 7 (by omega)⟩
theorem eight_all' {w : World} {g : Nat} {s : H8} {t : TypeId} (hg : w.heap[g]? = some (.cells s.cells t (0, 0))) :
    (w.cell? ⟨g, 0, none⟩ = some (.int .u32 s.a) ∧ w.frozen? ⟨g, 0, none⟩ = false) ∧ (w.cell? ⟨g, 1, none⟩ = some (.int .u32 s.b) ∧ w.frozen? ⟨g, 1, none⟩ = false) ∧ (w.cell? ⟨g, 2, none⟩ = some (.int .u32 s.c) ∧ w.frozen? ⟨g, 2, none⟩ = false) ∧
    (w.cell? ⟨g, 3, none⟩ = some (.int .u32 s.d) ∧ w.frozen? ⟨g, 3, none⟩ = false) ∧ (w.cell? ⟨g, 4, none⟩ = some (.int .u32 s.e) ∧ w.frozen? ⟨g, 4, none⟩ = false) ∧ (w.cell? ⟨g, 5, none⟩ = some (.int .u32 s.f) ∧ w.frozen? ⟨g, 5, none⟩ = false) ∧
    (w.cell? ⟨g, 6, none⟩ = some (.int .u32 s.g) ∧ w.frozen? ⟨g, 6, none⟩ = false) ∧ (w.cell? ⟨g, 7, none⟩ = some (.int .u32 s.h) ∧ w.frozen? ⟨g, 7, none⟩ = false) := by
  have h : w.heap[g]? = some (.cells (cells32 8 s.at ++ #[]) t (0, 0)) := by rw [hg, H8.cells_eq]; simp
  exact eight_all h
theorem set8 {w : World} {g : Nat} {t : TypeId} {s : H8} {y0 y1 y2 y3 y4 y5 y6 y7 : Value} (hg : w.heap[g]? = some (.cells s.cells t (0, 0))) :
    ((((((((w.setCell ⟨g, 0, none⟩ y0).setCell ⟨g, 1, none⟩ y1).setCell ⟨g, 2, none⟩ y2).setCell ⟨g, 3, none⟩ y3).setCell ⟨g, 4, none⟩ y4).setCell ⟨g, 5, none⟩ y5).setCell ⟨g, 6, none⟩ y6).setCell ⟨g, 7, none⟩ y7).heap[g]? = some (.cells #[y0, y1, y2, y3, y4, y5, y6, y7] t (0, 0)) := by
  have h0 := heap_setCell_same w g 0 _ t y0 hg
  have h1 := heap_setCell_same _ g 1 _ t y1 h0
  have h2 := heap_setCell_same _ g 2 _ t y2 h1
  have h3 := heap_setCell_same _ g 3 _ t y3 h2
  have h4 := heap_setCell_same _ g 4 _ t y4 h3
  have h5 := heap_setCell_same _ g 5 _ t y5 h4
  have h6 := heap_setCell_same _ g 6 _ t y6 h5
  rw [heap_setCell_same _ g 7 _ t y7 h6]
  simp [H8.cells]

/-- The first k of the eight numbers are added. -/
def mixed (s v : H8) (k : Nat) : Nat → Int := fun j => if j < k then add32 (s.at j) (v.at j) else s.at j
theorem mixed_all (s v : H8) : cells32 8 (mixed s v 8) = cells32 8 (s.plus v).at := by
  apply cells32_congr
  intro j hj
  unfold mixed
  rw [if_pos hj, H8.plus_at]
theorem mixed_set {w : World} {g : Nat} {s v : H8} {k : Nat} {tail : Array Value} {t : TypeId} (hg : w.heap[g]? = some (.cells (cells32 8 (mixed s v k) ++ tail) t (0, 0))) (hk : k < 8) :
    (w.setCell ⟨g, k, none⟩ (.int .u32 (add32 (s.at k) (v.at k)))).heap[g]? = some (.cells (cells32 8 (mixed s v (k + 1)) ++ tail) t (0, 0)) := by
  rw [heap_setCell_same w g k _ _ _ hg]
  congr 2
  have e : cells32 8 (mixed s v (k + 1)) = (cells32 8 (mixed s v k)).setIfInBounds k (.int .u32 (add32 (s.at k) (v.at k))) := by
    rw [cells32_set]
    apply cells32_congr
    intro j hj
    unfold mixed
    by_cases h : j = k
    · subst h; simp
    · rw [if_neg h]
      by_cases h2 : j < k
      · rw [if_pos h2, if_pos (by omega)]
      · rw [if_neg h2, if_neg (by omega)]
  rw [e]
  apply Array.ext_getElem?
  intro i
  have hz := cells32_size 8 (mixed s v k)
  by_cases hi : i < 8
  · rw [Array.getElem?_append_left (by simp [hz, hi]), Array.getElem?_setIfInBounds, Array.getElem?_setIfInBounds, Array.getElem?_append_left (by omega)]
    by_cases e : k = i
    · rw [if_pos e, if_pos e, if_pos (by simp [hz]; omega), if_pos (by omega)]
    · rw [if_neg e, if_neg e]
  · rw [Array.getElem?_append_right (by simp [hz]; omega), Array.getElem?_setIfInBounds, if_neg (by omega), Array.getElem?_append_right (by omega)]
    simp

set_option maxHeartbeats 2000000 in
theorem mix_any (s : H8) (p : ByteArray) (g : Nat) (t : TypeId) (tail : Array Value) (w : World) (hs : s.Ok) (hp : p.size = 64) (hK : Keys w) (hg : w.heap[g]? = some (.cells (cells32 8 s.at ++ tail) t (0, 0))) (hgK : 1 < g) :
    Calls Tryz.prog 160 #[.pointer (some ⟨g, 0, none⟩), .string p] w fun e w' => e = .returned (.tuple #[]) ∧ w'.heap[g]? = some (.cells (cells32 8 (block s p.data.toList).at ++ tail) t (0, 0)) ∧ Below g w w' := by
  have E : Hid (∀ w, Calls Tryz.prog 161 #[.string p] w fun e w' => e = .returned (.agg (cells32 64 (sched (wordF p.data.toList)))) ∧ Below w.heap.size w w') := fun w => blockWords_any p w hp
  have hgl : g < w.heap.size := (Array.getElem?_eq_some_iff.1 hg).1
  have hbd : ∀ i, i < 16 → 0 ≤ wordF p.data.toList i ∧ wordF p.data.toList i < 4294967296 := fun i _ => wordF_bd _ i
  unfold block
  generalize wordF p.data.toList = b at *
  clear hp
  have HG : Hid (Keys w ∧ w.heap[g]? = some (.cells (cells32 8 s.at ++ tail) t (0, 0)) ∧ 1 < g ∧ g < w.heap.size) := ⟨hK, hg, hgK, hgl⟩
  clear hK hg hgK hgl
  go_enter Tryz.func160, Tryz.ntmps160
  go_wp2_with fail
  refine (E.out _).mono ?_
  rintro e w1 ⟨rfl, hb1⟩
  have hg1 : w1.heap[g]? = some (.cells (cells32 8 s.at ++ tail) t (0, 0)) := (hb1.block g HG.out.2.2.2).trans HG.out.2.1
  have hK1 : Keys w1 := HG.out.1.below hb1 HG.out.1.lt
  have hsz1 : w.heap.size ≤ w1.heap.size := hb1.size
  have hb1' : Hid (Below w.heap.size w w1) := hb1
  clear hb1
  go_wp2_with (first | (refine wpList_store_row rfl 205 (.tmp 4) (.tmp 11) rfl w1.heap.size _ rfl rfl _ _ (heap_alloc_new w1 _) (by rw [cells32_size]; exact info64) (by rw [cells32_size]; rfl) (cells32_one _ _) ?_; rw [World.setRow_alloc_new]; obtain ⟨w2, n4, hw2, hn4, hg2, hz2, hr2, hb2⟩ := two_of w1 (cells32 64 (sched b)) 205 g hg1; rw [hw2]; simp only [← hn4]; have H2 : Hid (n4 = w1.heap.size ∧ w2.heap.size = n4 + 1 ∧ w2.heap[n4]? = some (.cells (cells32 64 (sched b)) 205 (0, 0)) ∧ Below w1.heap.size w1 w2) := ⟨hn4, hz2, hr2, hb2⟩; clear hn4 hz2 hr2 hb2 hw2; obtain ⟨⟨c0, _⟩, ⟨c1, _⟩, ⟨c2, _⟩, ⟨c3, _⟩, ⟨c4, _⟩, ⟨c5, _⟩, ⟨c6, _⟩, ⟨c7, _⟩⟩ := eight_all hg2) | (refine wpList_store_row rfl 197 (.tmp 5) (.tmp 14) rfl w2.heap.size s.cells rfl rfl _ _ (heap_alloc_new w2 _) info8 rfl s.cells_one ?_; rw [World.setRow_alloc_new]; clear c0 c1 c2 c3 c4 c5 c6 c7; obtain ⟨w3, n5, hw3, hn5, hr3, hz3, hs3, hb3⟩ := two_of w2 s.cells 197 n4 H2.out.2.2.1; rw [hw3]; simp only [← hn5]; have H3 : Hid (n5 = w2.heap.size ∧ w3.heap.size = n5 + 1 ∧ w3.heap[n4]? = some (.cells (cells32 64 (sched b)) 205 (0, 0)) ∧ w3.heap[n5]? = some (.cells s.cells 197 (0, 0)) ∧ Below w2.heap.size w2 w3) := ⟨hn5, hz3, hr3, hs3, hb3⟩; clear hn5 hz3 hr3 hs3 hb3 hw3) | (refine wpList_load_row rfl 205 (.tmp 4) rfl n4 rfl _ _ _ _ H3.out.2.2.1 Tryz.underlying205 rfl (by rw [cells32_size]; exact info64) ?_))
  have hb3 : Below w.heap.size w w3 := (hb1'.out.trans (H2.out.2.2.2.mono hb1'.out.size)).trans (H3.out.2.2.2.2.mono (Nat.le_trans hb1'.out.size H2.out.2.2.2.size))
  have hn5 : w.heap.size ≤ n5 := by rw [H3.out.1]; exact Nat.le_trans hb1'.out.size H2.out.2.2.2.size
  have hr3 := H3.out.2.2.2.1
  clear H2 H3 hb1' hg1 hK1 hsz1 hg2 E
  go_loopw [16] (fun i wr => ∃ k : Nat, k ≤ 64 ∧ i = .int .i64 k ∧ wr.heap[n5]? = some (.cells (rounds b s k).cells 197 (0, 0)) ∧ Below w.heap.size w wr) (fun i _ => 64 - (RowKit.intOf i).toNat)
  case atStart => exact ⟨0, by omega, rfl, hr3, hb3⟩
  case round =>
    clear hr3 hb3
    obtain ⟨k, hk, rfl, hr, hb⟩ := hrel
    by_cases hlt : k < 64
    · have hi := fun w => index64 (sched b) k hlt w
      have hkc := HG.out.1.below hb HG.out.1.lt k hlt
      have hkb := keyAt_bd k
      have hsb := sched_bd b hbd k
      have hok := rounds_ok b hs k
      have hst : (rounds b s (k + 1)) = (rounds b s k).step ((keyAt k + sched b k) % 4294967296) := rfl
      generalize rounds b s k = st at *
      generalize keyAt k = kk at *
      generalize sched b k = sk at *
      obtain ⟨⟨c0, _⟩, ⟨c1, _⟩, ⟨c2, _⟩, ⟨c3, _⟩, ⟨c4, _⟩, ⟨c5, _⟩, ⟨c6, _⟩, ⟨c7, _⟩⟩ := eight_all' hr
      have E : Hid (∀ w, Calls Tryz.prog 162 #[.agg st.cells, .int .u32 ((kk + sk) % 4294967296)] w fun e w' => e = .returned (.agg (rounds b s (k + 1)).cells) ∧ Below w.heap.size w w') := by
        rw [hst]
        exact fun w => afterRound_any st _ w hok (by unfold In32; omega)
      unfold H8.cells at E
      obtain ⟨st1, hst1⟩ : ∃ x, rounds b s (k + 1) = x := ⟨_, rfl⟩
      rw [hst1] at E
      have HST : Hid (rounds b s (k + 1) = st1) := hst1
      clear hst hok hst1
      obtain ⟨hkb0, hkb1⟩ := hkb
      obtain ⟨hsb0, hsb1⟩ := hsb
      have H4 : Hid (wr.heap[n5]? = some (.cells st.cells 197 (0, 0)) ∧ Below w.heap.size w wr ∧ w.heap.size ≤ n5 ∧ n5 < wr.heap.size) := ⟨hr, hb, hn5, (Array.getElem?_eq_some_iff.1 hr).1⟩
      clear hr hb hn5
      go_wp2
      go_region_with (go_at_call 162; refine (E.out _).mono ?_; rintro e w4 ⟨rfl, hb4⟩; obtain ⟨⟨d0, f0⟩, ⟨d1, f1⟩, ⟨d2, f2⟩, ⟨d3, f3⟩, ⟨d4, f4⟩, ⟨d5, f5⟩, ⟨d6, f6⟩, ⟨d7, f7⟩⟩ := eight_all' ((hb4.block n5 H4.out.2.2.2).trans H4.out.1))
      all_goals
        have H5 : Hid (_ ∧ _) := And.intro (set8 (y0 := .int .u32 st1.a) (y1 := .int .u32 st1.b) (y2 := .int .u32 st1.c) (y3 := .int .u32 st1.d) (y4 := .int .u32 st1.e) (y5 := .int .u32 st1.f) (y6 := .int .u32 st1.g) (y7 := .int .u32 st1.h) ((hb4.block n5 H4.out.2.2.2).trans H4.out.1)) (H4.out.2.1.trans ((below_drew hb4).mono H4.out.2.1.size))
        clear d0 d1 d2 d3 d4 d5 d6 d7 f0 f1 f2 f3 f4 f5 f6 f7 hb4 c0 c1 c2 c3 c4 c5 c6 c7 hi hkc
        go_wp2
        go_roundw
        case rel => exact ⟨k + 1, by omega, by go_num, by rw [HST.out]; exact H5.out.1, (((((((H5.out.2.setCell H4.out.2.2.1 _).setCell H4.out.2.2.1 _).setCell H4.out.2.2.1 _).setCell H4.out.2.2.1 _).setCell H4.out.2.2.1 _).setCell H4.out.2.2.1 _).setCell H4.out.2.2.1 _).setCell H4.out.2.2.1 _⟩
        case measure => simp [RowKit.intOf]; omega
    · have e64 : k = 64 := by omega
      rw [e64] at hr
      clear e64
      obtain ⟨⟨c0, _⟩, ⟨c1, _⟩, ⟨c2, _⟩, ⟨c3, _⟩, ⟨c4, _⟩, ⟨c5, _⟩, ⟨c6, _⟩, ⟨c7, _⟩⟩ := eight_all' hr
      have hok := rounds_ok b hs 64
      obtain ⟨v, hv⟩ : ∃ x, rounds b s 64 = x := ⟨_, rfl⟩
      rw [hv] at hr hok c0 c1 c2 c3 c4 c5 c6 c7
      have HV : Hid (rounds b s 64 = v) := hv
      clear hv
      have H6 : Hid (wr.heap[g]? = some (.cells (cells32 8 s.at ++ tail) t (0, 0)) ∧ Below g w wr ∧ v.Ok) := ⟨(hb.block g HG.out.2.2.2).trans HG.out.2.1, hb.mono (Nat.le_of_lt HG.out.2.2.2), hok⟩
      clear hr hb hn5 hok
      go_wp2
      clear c0 c1 c2 c3 c4 c5 c6 c7
      go_loopw [29] (fun i wr => ∃ k : Nat, k ≤ 8 ∧ i = .int .i64 k ∧ wr.heap[g]? = some (.cells (cells32 8 (mixed s v k) ++ tail) t (0, 0)) ∧ Below g w wr) (fun i _ => 8 - (RowKit.intOf i).toNat)
      case atStart => exact ⟨0, by omega, rfl, H6.out.1, H6.out.2.1⟩
      case round =>
        clear hk hlt
        obtain ⟨k, hk, rfl, hr, hb⟩ := hrel
        by_cases hlt : k < 8
        · have hi : ∀ w, (Instr.index 197 (.agg v.cells) (.int .i64 k)).run Tryz.prog w = .ok (.int .u32 (v.at k)) w := fun w => index8 v.at k hlt w
          unfold H8.cells at hi
          obtain ⟨hc, hf⟩ := eight_cells hr k hlt
          have e : mixed s v k k = s.at k := by unfold mixed; rw [if_neg (by omega)]
          rw [e] at hc
          have H7 : Hid (_ ∧ Below g w wr) := ⟨mixed_set hr hlt, hb⟩
          unfold add32 at H7
          obtain ⟨p0, p1⟩ := H8.at_bd hs k
          obtain ⟨q0, q1⟩ := H8.at_bd H6.out.2.2 k
          generalize s.at k = x at *
          generalize v.at k = y at *
          clear e hr hb
          go_wp2
          go_region
          all_goals
            go_wp2
            go_roundw
            case rel => exact ⟨k + 1, by omega, by go_num, H7.out.1, (H7.out.2.setCell (Nat.le_refl _) _).drew⟩
            case measure => simp [RowKit.intOf]; omega
        · have e8 : k = 8 := by omega
          rw [e8, mixed_all] at hr
          have H8 : Hid (_ ∧ Below g w wr) := ⟨hr, hb⟩
          clear hr hb e8
          go_wp2
          go_end0
          exact ⟨rfl, by rw [HV.out]; exact H8.out.1, H8.out.2⟩
end Go.Proofs.YtcenlgfopmahcaaGreatDoor

/-
  The program's digest at work: a text is taken in; what does not fill a block waits.
-/
namespace Go.Proofs.YtcenlgfopmahcaaGreatDoor
open Go.RowKit Go.Lib
set_option linter.unusedVariables false

/-- The cells of a digest at work. -/
def hashObj (s : H8) (r : ByteArray) (n : Int) : Array Value := cells32 8 s.at ++ #[.string r, .int .u64 n]
def strSize : Value → Nat
  | .string s => s.size
  | _ => 0
theorem hash_rest {w : World} {g : Nat} {s : H8} {r : ByteArray} {n : Int} {t : TypeId} (hg : w.heap[g]? = some (.cells (hashObj s r n) t (0, 0))) : w.cell? ⟨g, 8, none⟩ = some (.string r) ∧ w.frozen? ⟨g, 8, none⟩ = false :=
  ⟨by rw [cell_of_row w g 8 _ _ _ hg, hashObj, Array.getElem?_append_right (by rw [cells32_size]; omega), cells32_size]; rfl, frozen_of_row w g 8 _ _ hg⟩
theorem hash_len {w : World} {g : Nat} {s : H8} {r : ByteArray} {n : Int} {t : TypeId} (hg : w.heap[g]? = some (.cells (hashObj s r n) t (0, 0))) : w.cell? ⟨g, 9, none⟩ = some (.int .u64 n) ∧ w.frozen? ⟨g, 9, none⟩ = false :=
  ⟨by rw [cell_of_row w g 9 _ _ _ hg, hashObj, Array.getElem?_append_right (by rw [cells32_size]; omega), cells32_size]; rfl, frozen_of_row w g 9 _ _ hg⟩
theorem hash_set8 {w : World} {g : Nat} {s : H8} {r : ByteArray} {n : Int} {t : TypeId} (hg : w.heap[g]? = some (.cells (hashObj s r n) t (0, 0))) (r' : ByteArray) : (w.setCell ⟨g, 8, none⟩ (.string r')).heap[g]? = some (.cells (hashObj s r' n) t (0, 0)) := by
  rw [heap_setCell_same w g 8 _ _ _ hg]
  rfl
theorem hash_set9 {w : World} {g : Nat} {s : H8} {r : ByteArray} {n : Int} {t : TypeId} (hg : w.heap[g]? = some (.cells (hashObj s r n) t (0, 0))) (n' : Int) : (w.setCell ⟨g, 9, none⟩ (.int .u64 n')).heap[g]? = some (.cells (hashObj s r n') t (0, 0)) := by
  rw [heap_setCell_same w g 9 _ _ _ hg]
  rfl
theorem take_head (y : ByteArray) (h : 64 ≤ (y.size : Int)) (w : World) : (Instr.slice 9 (.string y) none (some (.int .i64 64)) none).run Tryz.prog w = .ok (.string (y.extract 0 64)) w := by
  rw [run_slice_string_h w 9 y Tryz.underlying9 .i64 _ (by omega) (by omega)]
  rfl
theorem take_tail (y : ByteArray) (h : 64 ≤ (y.size : Int)) (w : World) : (Instr.slice 9 (.string y) (some (.int .i64 64)) none none).run Tryz.prog w = .ok (.string (y.extract 64 y.size)) w := by
  rw [run_slice_string_l w 9 y Tryz.underlying9 .i64 _ (by omega) (by omega)]
  rfl
theorem head_list (y : ByteArray) : (y.extract 0 64).data.toList = y.data.toList.take 64 := by simp [ByteArray.data_extract]
theorem tail_list (y : ByteArray) : (y.extract 64 y.size).data.toList = y.data.toList.drop 64 := by
  rw [ByteArray.data_extract, Array.toList_extract, List.extract]
  exact List.take_of_length_le (by rw [List.length_drop, ba_len]; omega)

set_option maxHeartbeats 2000000 in
theorem take_any (s : H8) (r x : ByteArray) (n : Int) (g : Nat) (w : World) (hs : s.Ok) (hr : r.size ≤ 64) (hx : x.size ≤ 100000) (hK : Keys w) (hg : w.heap[g]? = some (.cells (hashObj s r n) 200 (0, 0))) (hgK : 1 < g) (R : ByteArray) (hR : R.data.toList = rest (r ++ x).data.toList) :
    Calls Tryz.prog 157 #[.pointer (some ⟨g, 0, none⟩), .string x] w fun e w' => e = .returned (.tuple #[]) ∧ w'.heap[g]? = some (.cells (hashObj (absorb s (r ++ x).data.toList) R n) 200 (0, 0)) ∧ Below g w w' := by
  obtain ⟨hc, _⟩ := hash_rest hg
  have hgl : g < w.heap.size := (Array.getElem?_eq_some_iff.1 hg).1
  have E : Hid (∀ w, Calls Tryz.prog 67 #[.string r, .string x] w fun e w' => e = .returned (.string (r ++ x)) ∧ Below w.heap.size w w') := fun w => joined_any r x w (by omega) (by omega)
  have hj : (r ++ x).size ≤ 100064 := by rw [ByteArray.size_append]; omega
  generalize r ++ x = j at *
  obtain ⟨A, hA⟩ : ∃ A, A = absorb s j.data.toList := ⟨_, rfl⟩
  rw [← hA]
  have HA : Hid (absorb s j.data.toList = A ∧ rest j.data.toList = R.data.toList) := ⟨hA.symm, hR.symm⟩
  clear hA hR
  have HG : Hid (s.Ok ∧ Keys w ∧ w.heap[g]? = some (.cells (hashObj s r n) 200 (0, 0)) ∧ 1 < g ∧ g < w.heap.size) := ⟨hs, hK, hg, hgK, hgl⟩
  clear hK hg hgK hgl hs
  go_enter Tryz.func157, Tryz.ntmps157
  go_wp2_with fail
  refine (E.out _).mono ?_
  rintro e w1 ⟨rfl, hb1⟩
  have H1 : Hid (Below w.heap.size w w1) := hb1
  clear hb1 hc E
  have hg1 : w1.heap[g]? = some (.cells (hashObj s r n) 200 (0, 0)) := (H1.out.block g HG.out.2.2.2.2).trans HG.out.2.2.1
  have hb1 : Below g w w1 := H1.out.mono (Nat.le_of_lt HG.out.2.2.2.2)
  go_wp2
  go_loopw [1] (fun u wr => ∃ (st : H8) (y : ByteArray), u = .string y ∧ y.size ≤ 100064 ∧ st.Ok ∧ absorb st y.data.toList = A ∧ rest y.data.toList = R.data.toList ∧ wr.heap[g]? = some (.cells (hashObj st r n) 200 (0, 0)) ∧ Below g w wr) (fun u _ => strSize u)
  case atStart => exact ⟨s, j, rfl, hj, HG.out.1, HA.out.1, HA.out.2, hg1, hb1⟩
  case round =>
    clear hg1 hb1
    obtain ⟨st, y, rfl, hy, hok, hab, hre, hr, hb⟩ := hrel
    by_cases hlt : 64 ≤ (y.size : Int)
    · have E : Hid (∀ w, Keys w → w.heap[g]? = some (.cells (hashObj st r n) 200 (0, 0)) → Calls Tryz.prog 160 #[.pointer (some ⟨g, 0, none⟩), .string (y.extract 0 64)] w fun e w' => e = .returned (.tuple #[]) ∧ w'.heap[g]? = some (.cells (hashObj (block st (y.extract 0 64).data.toList) r n) 200 (0, 0)) ∧ Below g w w') := by
        intro w hK hg
        exact mix_any st (y.extract 0 64) g _ _ w hok (by simp; omega) hK hg HG.out.2.2.2.1
      have H2 : Hid (Keys wr ∧ wr.heap[g]? = some (.cells (hashObj st r n) 200 (0, 0)) ∧ Below g w wr) := ⟨HG.out.2.1.below hb HG.out.2.2.2.1, hr, hb⟩
      have H3 : Hid ((block st (y.extract 0 64).data.toList).Ok ∧ absorb (block st (y.extract 0 64).data.toList) (y.extract 64 y.size).data.toList = A ∧ rest (y.extract 64 y.size).data.toList = R.data.toList) := by
        have hl : ¬ y.data.toList.length < 64 := by rw [ba_len]; omega
        refine ⟨block_ok _ _, ?_, ?_⟩
        · rw [head_list, tail_list, ← hab, absorb_ge st hl]
        · rw [tail_list, ← hre, rest_ge hl]
      have hsl := take_head y hlt
      have hst := take_tail y hlt
      clear hab hre hr hb hok
      generalize block st (y.extract 0 64).data.toList = st1 at *
      go_wp2
      go_region_with (go_at_call 160; refine (E.out wr.drew H2.out.1 H2.out.2.1).mono ?_; rintro e w4 ⟨rfl, hg4, hb4⟩)
      all_goals
        have H4 : Hid (w4.heap[g]? = some (.cells (hashObj st1 r n) 200 (0, 0)) ∧ Below g w w4) := ⟨hg4, H2.out.2.2.trans (below_drew hb4)⟩
        clear hg4 hb4
        go_wp2
        go_roundw
        case rel => exact ⟨st1, _, rfl, by simp; omega, H3.out.1, H3.out.2.1, H3.out.2.2, H4.out.1, H4.out.2⟩
        case measure => simp [strSize]; omega
    · have hl : y.data.toList.length < 64 := by rw [ba_len]; omega
      rw [absorb_lt st hl] at hab
      rw [rest_lt hl] at hre
      subst hab
      obtain rfl := ba_ext hre
      obtain ⟨hc, hf⟩ := hash_rest hr
      have H5 : Hid (wr.heap[g]? = some (.cells (hashObj st r n) 200 (0, 0)) ∧ Below g w wr) := ⟨hr, hb⟩
      clear hl hre hok hr hb HA H1 HG
      go_wp2
      go_end0
      exact ⟨rfl, hash_set8 H5.out.1 y, H5.out.2.setCell (Nat.le_refl _) _⟩

set_option maxHeartbeats 2000000 in
theorem add_any (s : H8) (r x : ByteArray) (n : Int) (g : Nat) (w : World) (hs : s.Ok) (hr : r.size ≤ 64) (hx : x.size ≤ 100000) (hn0 : 0 ≤ n) (hn : n ≤ 100000) (hK : Keys w) (hg : w.heap[g]? = some (.cells (hashObj s r n) 200 (0, 0))) (hgK : 1 < g) (R : ByteArray) (hR : R.data.toList = rest (r ++ x).data.toList) :
    Calls Tryz.prog 147 #[.pointer (some ⟨g, 0, none⟩), .string x] w fun e w' => e = .returned (.tuple #[]) ∧ w'.heap[g]? = some (.cells (hashObj (absorb s (r ++ x).data.toList) R (n + x.size)) 200 (0, 0)) ∧ Below g w w' := by
  obtain ⟨hc, hf⟩ := hash_len hg
  have H : Hid (∀ w, Keys w → w.heap[g]? = some (.cells (hashObj s r (n + x.size)) 200 (0, 0)) → Calls Tryz.prog 157 #[.pointer (some ⟨g, 0, none⟩), .string x] w fun e w' => e = .returned (.tuple #[]) ∧ w'.heap[g]? = some (.cells (hashObj (absorb s (r ++ x).data.toList) R (n + x.size)) 200 (0, 0)) ∧ Below g w w') := fun w h1 h2 => take_any s r x (n + x.size) g w hs hr hx h1 h2 hgK R hR
  have hb : Below g w (w.setCell ⟨g, 9, none⟩ (.int .u64 (n + x.size))) := (Below.refl g w).setCell (p := ⟨g, 9, none⟩) (Nat.le_refl g) _
  have HG : Hid (Keys (w.setCell ⟨g, 9, none⟩ (.int .u64 (n + x.size))) ∧ (w.setCell ⟨g, 9, none⟩ (.int .u64 (n + x.size))).heap[g]? = some (.cells (hashObj s r (n + x.size)) 200 (0, 0)) ∧ Below g w (w.setCell ⟨g, 9, none⟩ (.int .u64 (n + x.size)))) := ⟨hK.below hb hgK, hash_set9 hg _, hb⟩
  clear hK hg hgK hs hR hb
  go_enter Tryz.func147, Tryz.ntmps147
  go_wp2_with fail
  refine (H.out _ HG.out.1 HG.out.2.1).mono ?_
  rintro e w1 ⟨rfl, hg1, hb1⟩
  have H1 : Hid (_ ∧ Below g w w1) := ⟨hg1, HG.out.2.2.trans hb1⟩
  clear hg1 hb1
  go_wp2
  go_end0
  exact ⟨rfl, H1.out.1, H1.out.2⟩

theorem firstState_any (w : World) :
    Calls Tryz.prog 156 #[] w fun e w' => e = .returned (.agg first8.cells) ∧ Below w.heap.size w w' := by
  unfold first8 H8.cells
  go_enter Tryz.func156, Tryz.ntmps156
  go_wp2
  exact bodyPost_ret (v := .agg first8.cells) (by simp [results, Tryz.results156, go_sem, first8, H8.cells]) rfl ⟨rfl, (Below.refl _ _).alloc (Nat.le_refl _) _⟩

theorem newHash_any (w : World) :
    Calls Tryz.prog 146 #[] w fun e w' => ∃ g, e = .returned (.pointer (some ⟨g, 0, none⟩)) ∧ w.heap.size ≤ g ∧ w'.heap[g]? = some (.cells (hashObj first8 ByteArray.empty 0) 200 (0, 0)) ∧ Below w.heap.size w w' := by
  have E : Hid (∀ w, Calls Tryz.prog 156 #[] w fun e w' => e = .returned (.agg first8.cells) ∧ Below w.heap.size w w') := firstState_any
  unfold first8 H8.cells at E
  go_enter Tryz.func146, Tryz.ntmps146
  go_wp2_with fail
  refine (E.out _).mono ?_
  rintro e w1 ⟨rfl, hb1⟩
  go_wp2
  go_ret
  exact ⟨w1.heap.size, rfl, hb1.size, heap_alloc_new w1 _, hb1.alloc hb1.size _⟩
end Go.Proofs.YtcenlgfopmahcaaGreatDoor

/-
  The program's digest at its end: the last block is filled up, the eight numbers are laid out.
-/
namespace Go.Proofs.YtcenlgfopmahcaaGreatDoor
open Go.RowKit Go.Lib
set_option linter.unusedVariables false

set_option maxHeartbeats 1000000 in
set_option maxRecDepth 10000 in
theorem text_any (s : H8) (w : World) (hs : s.Ok) :
    Calls Tryz.prog 158 #[.agg s.cells] w fun e w' => e = .returned (.string ⟨(out8 s 8).toArray⟩) ∧ Below w.heap.size w w' := by
  have hw0 : (w.alloc (.cells s.cells 197)).heap[w.heap.size]? = some (.cells s.cells 197 (0, 0)) := heap_alloc_new w _
  obtain ⟨⟨c0, _⟩, ⟨c1, _⟩, ⟨c2, _⟩, ⟨c3, _⟩, ⟨c4, _⟩, ⟨c5, _⟩, ⟨c6, _⟩, ⟨c7, _⟩⟩ := eight_all' hw0
  have HI : Hid (∀ k, k < 8 → ∀ w, (Instr.index 197 (.agg s.cells) (.int .i64 (k : Nat))).run Tryz.prog w = .ok (.int .u32 (s.at k)) w) := fun k hk w => index8 s.at k hk w
  unfold H8.cells at *
  go_enter Tryz.func158, Tryz.ntmps158
  go_wp2
  go_loopw [3, 7] (fun v i wr => ∃ k : Nat, k ≤ 8 ∧ i = .int .i64 k ∧ OwnB wr w.heap.size v (out8 s k) ∧ Below w.heap.size w wr) (fun _ i _ => 8 - (RowKit.intOf i).toNat)
  case atStart => exact ⟨0, by omega, rfl, OwnB.nil _ _, (Below.refl _ _).alloc (Nat.le_refl _) _⟩
  case round =>
    clear hw0 c0 c1 c2 c3 c4 c5 c6 c7
    obtain ⟨k, hk, rfl, hown, hb⟩ := hrel
    by_cases hlt : k < 8
    · have hi := HI.out k hlt
      have HS : Hid (out8 s (k + 1) = out8 s k ++ fourB (s.at k)) := out8_succ s k
      have hl := out8_len s k
      obtain ⟨p0, p1⟩ := H8.at_bd hs k
      generalize s.at k = x at *
      have hll : (out8 s k).length ≤ 1073741824 := by omega
      have hsz := hb.size
      have Y0 : Hid (x / 16777216 = (UInt8.ofNat (x / 16777216 % 256).toNat).toNat) := by
        show _ = _
        rw [byte_mod]
        omega
      have Y1 : Hid (x / 65536 % 256 = (UInt8.ofNat (x / 65536 % 256).toNat).toNat) := (byte_mod _).symm
      have Y2 : Hid (x / 256 % 256 = (UInt8.ofNat (x / 256 % 256).toNat).toNat) := (byte_mod _).symm
      have Y3 : Hid (x % 256 = (UInt8.ofNat (x % 256).toNat).toNat) := (byte_mod _).symm
      go_wp2_with (at_builtin; go_must (refine wp_app_four rfl (.tmp 10) (.tmp 22) rfl w.heap.size _ (out8 s k) rfl hown (UInt8.ofNat (x / 16777216 % 256).toNat) (UInt8.ofNat (x / 65536 % 256).toNat) (UInt8.ofNat (x / 256 % 256).toNat) (UInt8.ofNat (x % 256).toNat) _ _ _ _ Y0.out Y1.out Y2.out Y3.out rfl hll hsz ?_); intro v1 w1 hown1 hb1)
      go_roundw
      case rel => exact ⟨k + 1, by omega, by go_num, by rw [HS.out]; exact hown1, hb.trans hb1⟩
      case measure => simp [RowKit.intOf]; omega
    · have e8 : k = 8 := by omega
      rw [e8] at hown
      have hcv := own_conv hown
      have HB : Hid (Below w.heap.size w wr) := hb
      clear hown hb e8 HI
      go_wp2
      go_ret
      exact ⟨rfl, HB.out⟩

theorem made_pad (w : World) (z : Nat) (hz : z ≤ 64) : ∃ w1, (Instr.makeSlice 87 (.int .i64 ((1 + z : Nat) : Int)) (.int .i64 ((1 + z : Nat) : Int))).run Tryz.prog w = .ok (.slice (some ⟨w.heap.size, 0, none⟩) (1 + z) (1 + z)) w1 ∧
    w1.cell? ⟨w.heap.size, 0, none⟩ = some (.int .u8 0) ∧ w1.frozen? ⟨w.heap.size, 0, none⟩ = false ∧ OwnB (w1.setCell ⟨w.heap.size, 0, none⟩ (.int .u8 128)) w.heap.size (.slice (some ⟨w.heap.size, 0, none⟩) (1 + z) (1 + z)) (128 :: List.replicate z 0) ∧ Below w.heap.size w w1 := by
  obtain ⟨i0, hi, hz0, hz1, hz2⟩ := info_parts infoByte
  obtain ⟨w1, hmk, hown, hgr⟩ := run_make_full (P := Tryz.prog) w w.heap.size 87 5 i0 (.int .u8 0) 1 Tryz.underlying87 hi hz0 hz1 .i64 .i64 (1 + z) (by rw [hz2]; omega) (by unfold maxLen; omega) (Nat.le_refl _)
  have e : (madeCells (Value.int .u8 0).cells ((1 + z) * 1)).toList = List.replicate (1 + z) (.int .u8 0) := by
    rw [Nat.mul_one]
    exact toList_madeCells_one _ _
  rw [e] at hown
  refine ⟨w1, hmk, ?_, hown.frozenAt 0, ?_, (Below.refl _ _).grown hgr (Nat.le_refl _) (fun k h => by cases h)⟩
  · rw [hown.cellAt 0 (by omega), Nat.add_comm, List.replicate_succ]
    rfl
  · have h := (hown.stored 0 (.int .u8 128)).1
    unfold OwnB
    have el : (128 :: List.replicate z 0 : List UInt8).length = 1 + z := by simp; omega
    have ec : byteCells (128 :: List.replicate z 0) = (List.replicate (1 + z) (Value.int .u8 0)).set 0 (.int .u8 128) := by
      rw [Nat.add_comm, List.replicate_succ, List.set_cons_zero]
      simp [byteCells]
    rw [el, ec]
    exact h

theorem eightB_len (n : Int) : (eightB n).length = 8 := rfl

set_option maxHeartbeats 4000000 in
set_option maxRecDepth 10000 in
theorem end_any (s : H8) (r : ByteArray) (n : Nat) (g : Nat) (w : World) (hs : s.Ok) (hr : r.size = n % 64) (hn : n ≤ 100000) (hK : Keys w) (hg : w.heap[g]? = some (.cells (hashObj s r n) 200 (0, 0))) (hgK : 1 < g) :
    Calls Tryz.prog 148 #[.pointer (some ⟨g, 0, none⟩)] w fun e w' => e = .returned (.string ⟨(out8 (absorb s (r.data.toList ++ padding n)) 8).toArray⟩) ∧ Below g w w' := by
  obtain ⟨hc8, hf8⟩ := hash_rest hg
  obtain ⟨hc9, hf9⟩ := hash_len hg
  have hgl : g < w.heap.size := (Array.getElem?_eq_some_iff.1 hg).1
  obtain ⟨z, hz⟩ : ∃ z, z = (119 - n % 64) % 64 := ⟨_, rfl⟩
  obtain ⟨w1, hmk, hm0, hm1, hown, hb1⟩ := made_pad w z (by omega)
  have hnum : ((1 + z : Nat) : Int) = (1 : Int) + (119 - (r.size : Int)) % 64 := by omega
  rw [hnum] at hmk
  have hr63 : r.size < 64 := by omega
  have hgc : w1.cell? ⟨g, 9, none⟩ = some (.int .u64 n) := (hb1.cell (p := ⟨g, 9, none⟩) hgl).trans hc9
  have hb2 : Below w.heap.size w (w1.setCell ⟨w.heap.size, 0, none⟩ (.int .u8 128)) := hb1.setCell (p := ⟨w.heap.size, 0, none⟩) (Nat.le_refl _) _
  have HP : Hid (128 :: List.replicate z 0 ++ eightB (n * 8) = padding n) := by
    show _ = _
    rw [hz]
    simp [padding, Int.mul_comm]
  obtain ⟨V, hV⟩ : ∃ V, V = out8 (absorb s (r.data.toList ++ padding n)) 8 := ⟨_, rfl⟩
  rw [← hV]
  have HG : Hid (V = out8 (absorb s (r.data.toList ++ padding n)) 8 ∧ s.Ok ∧ Keys w ∧ w.heap[g]? = some (.cells (hashObj s r n) 200 (0, 0)) ∧ 1 < g ∧ r.size = n % 64 ∧ z = (119 - n % 64) % 64 ∧ OwnB (w1.setCell ⟨w.heap.size, 0, none⟩ (.int .u8 128)) w.heap.size (.slice (some ⟨w.heap.size, 0, none⟩) (1 + z) (1 + z)) (128 :: List.replicate z 0) ∧ Below w.heap.size w (w1.setCell ⟨w.heap.size, 0, none⟩ (.int .u8 128))) := ⟨hV, hs, hK, hg, hgK, hr, hz, hown, hb2⟩
  have hz64 : z ≤ 64 := by omega
  clear hV hs hK hg hgK hr hz hown hb2 hb1 hnum hf8 hf9
  go_enter Tryz.func148, Tryz.ntmps148
  go_wp2
  have hm8 : (0 : Int) ≤ (n : Int) * 8 := by omega
  have hm9 : (n : Int) * 8 < 18446744073709551616 := by omega
  generalize (n : Int) * 8 = m at *
  go_loopw [4, 6] (fun v i wr => ∃ k : Nat, k ≤ 8 ∧ i = .int .i64 (56 - 8 * (k : Int)) ∧ OwnB wr w.heap.size v (128 :: List.replicate z 0 ++ (eightB m).take k) ∧ Below w.heap.size w wr) (fun _ i _ => (RowKit.intOf i + 8).toNat)
  case atStart => exact ⟨0, by omega, rfl, by simpa using HG.out.2.2.2.2.2.2.2.1, HG.out.2.2.2.2.2.2.2.2⟩
  case round =>
    clear hm0 hm1 hgc hmk
    obtain ⟨k, hk, rfl, hown, hb⟩ := hrel
    have hsz := hb.size
    by_cases hlt : k < 8
    · have hll : (128 :: List.replicate z 0 ++ (eightB m).take k).length ≤ 1073741824 := by simp; omega
      have hk8 : k = 0 ∨ k = 1 ∨ k = 2 ∨ k = 3 ∨ k = 4 ∨ k = 5 ∨ k = 6 ∨ k = 7 := by omega
      clear hc8 hc9 hgl HG HP
      rcases hk8 with rfl | rfl | rfl | rfl | rfl | rfl | rfl | rfl
      · have Y : Hid (m / 72057594037927936 = (UInt8.ofNat (m / 72057594037927936 % 256).toNat).toNat) := by
          show _ = _
          rw [byte_mod]
          omega
        go_wp2_with (at_builtin; go_must (refine wp_app_byte rfl (.tmp 28) (.tmp 33) rfl w.heap.size _ _ rfl hown _ _ Y.out rfl hll hsz ?_); intro v1 w1 hown1 hb1)
        go_roundw
        case rel => exact ⟨1, by omega, by go_num, by rw [List.append_assoc] at hown1; exact hown1, hb.trans hb1⟩
        case measure => simp [RowKit.intOf]
      · have Y : Hid (m / 281474976710656 % 256 = (UInt8.ofNat (m / 281474976710656 % 256).toNat).toNat) := (byte_mod _).symm
        go_wp2_with (at_builtin; go_must (refine wp_app_byte rfl (.tmp 28) (.tmp 33) rfl w.heap.size _ _ rfl hown _ _ Y.out rfl hll hsz ?_); intro v1 w1 hown1 hb1)
        go_roundw
        case rel => exact ⟨2, by omega, by go_num, by rw [List.append_assoc] at hown1; exact hown1, hb.trans hb1⟩
        case measure => simp [RowKit.intOf]
      · have Y : Hid (m / 1099511627776 % 256 = (UInt8.ofNat (m / 1099511627776 % 256).toNat).toNat) := (byte_mod _).symm
        go_wp2_with (at_builtin; go_must (refine wp_app_byte rfl (.tmp 28) (.tmp 33) rfl w.heap.size _ _ rfl hown _ _ Y.out rfl hll hsz ?_); intro v1 w1 hown1 hb1)
        go_roundw
        case rel => exact ⟨3, by omega, by go_num, by rw [List.append_assoc] at hown1; exact hown1, hb.trans hb1⟩
        case measure => simp [RowKit.intOf]
      · have Y : Hid (m / 4294967296 % 256 = (UInt8.ofNat (m / 4294967296 % 256).toNat).toNat) := (byte_mod _).symm
        go_wp2_with (at_builtin; go_must (refine wp_app_byte rfl (.tmp 28) (.tmp 33) rfl w.heap.size _ _ rfl hown _ _ Y.out rfl hll hsz ?_); intro v1 w1 hown1 hb1)
        go_roundw
        case rel => exact ⟨4, by omega, by go_num, by rw [List.append_assoc] at hown1; exact hown1, hb.trans hb1⟩
        case measure => simp [RowKit.intOf]
      · have Y : Hid (m / 16777216 % 256 = (UInt8.ofNat (m / 16777216 % 256).toNat).toNat) := (byte_mod _).symm
        go_wp2_with (at_builtin; go_must (refine wp_app_byte rfl (.tmp 28) (.tmp 33) rfl w.heap.size _ _ rfl hown _ _ Y.out rfl hll hsz ?_); intro v1 w1 hown1 hb1)
        go_roundw
        case rel => exact ⟨5, by omega, by go_num, by rw [List.append_assoc] at hown1; exact hown1, hb.trans hb1⟩
        case measure => simp [RowKit.intOf]
      · have Y : Hid (m / 65536 % 256 = (UInt8.ofNat (m / 65536 % 256).toNat).toNat) := (byte_mod _).symm
        go_wp2_with (at_builtin; go_must (refine wp_app_byte rfl (.tmp 28) (.tmp 33) rfl w.heap.size _ _ rfl hown _ _ Y.out rfl hll hsz ?_); intro v1 w1 hown1 hb1)
        go_roundw
        case rel => exact ⟨6, by omega, by go_num, by rw [List.append_assoc] at hown1; exact hown1, hb.trans hb1⟩
        case measure => simp [RowKit.intOf]
      · have Y : Hid (m / 256 % 256 = (UInt8.ofNat (m / 256 % 256).toNat).toNat) := (byte_mod _).symm
        go_wp2_with (at_builtin; go_must (refine wp_app_byte rfl (.tmp 28) (.tmp 33) rfl w.heap.size _ _ rfl hown _ _ Y.out rfl hll hsz ?_); intro v1 w1 hown1 hb1)
        go_roundw
        case rel => exact ⟨7, by omega, by go_num, by rw [List.append_assoc] at hown1; exact hown1, hb.trans hb1⟩
        case measure => simp [RowKit.intOf]
      · have Y : Hid (m % 256 = (UInt8.ofNat (m % 256).toNat).toNat) := (byte_mod _).symm
        go_wp2_with (at_builtin; go_must (refine wp_app_byte rfl (.tmp 28) (.tmp 33) rfl w.heap.size _ _ rfl hown _ _ Y.out rfl hll hsz ?_); intro v1 w1 hown1 hb1)
        go_roundw
        case rel => exact ⟨8, by omega, by go_num, by rw [List.append_assoc] at hown1; exact hown1, hb.trans hb1⟩
        case measure => simp [RowKit.intOf]
    · have e8 : k = 8 := by omega
      have hcv := own_conv hown
      have HO : Hid ((128 :: List.replicate z 0 ++ (eightB m).take k) = padding n) := by
        show _ = _
        rw [e8, ← HP.out]
        rfl
      rw [HO.out] at hcv
      have hbg : Below g w wr := hb.mono (Nat.le_of_lt hgl)
      have hgr : wr.heap[g]? = some (.cells (hashObj s r n) 200 (0, 0)) := (hb.block g hgl).trans HG.out.2.2.2.1
      have hKr : Keys wr := HG.out.2.2.1.below hbg HG.out.2.2.2.2.1
      have hpl : (⟨(padding n).toArray⟩ : ByteArray).size = (padding n).length := by simp [ByteArray.size]
      have hlen := padding_len n
      have hre : rest (r ++ ⟨(padding n).toArray⟩).data.toList = [] := by
        apply List.eq_nil_of_length_eq_zero
        rw [rest_len, ba_len, ByteArray.size_append, hpl, hlen, HG.out.2.2.2.2.2.1]
        omega
      have hap : (r ++ (⟨(padding n).toArray⟩ : ByteArray)).data.toList = r.data.toList ++ padding n := by simp [ByteArray.data_append]
      have E := take_any s r ⟨(padding n).toArray⟩ n g wr HG.out.2.1 (by omega) (by omega) hKr hgr HG.out.2.2.2.2.1 ByteArray.empty (by rw [hre]; rfl)
      rw [hap] at E
      have hok := absorb_ok HG.out.2.1 (r.data.toList ++ padding n)
      have HV := HG.out.1
      generalize absorb s (r.data.toList ++ padding n) = A at *
      have HE : Hid (Calls Tryz.prog 157 #[.pointer (some ⟨g, 0, none⟩), .string ⟨(padding n).toArray⟩] wr fun e w' => e = .returned (.tuple #[]) ∧ w'.heap[g]? = some (.cells (hashObj A ByteArray.empty n) 200 (0, 0)) ∧ Below g wr w') := E
      have H1 : Hid (Below g w wr ∧ A.Ok ∧ V = out8 A 8) := ⟨hbg, hok, HV⟩
      clear E hok HV hap hre hpl hlen hKr hgr hbg HO HG HP hown hb e8 hc8 hc9
      go_wp2_with fail
      refine HE.out.mono ?_
      rintro e w2 ⟨rfl, hg2, hb2⟩
      have HT : Hid (∀ w, Calls Tryz.prog 158 #[.agg A.cells] w fun e w' => e = .returned (.string ⟨V.toArray⟩) ∧ Below w.heap.size w w') := by
        intro w
        rw [H1.out.2.2]
        exact text_any A w H1.out.2.1
      unfold H8.cells at HT
      obtain ⟨⟨c0, _⟩, ⟨c1, _⟩, ⟨c2, _⟩, ⟨c3, _⟩, ⟨c4, _⟩, ⟨c5, _⟩, ⟨c6, _⟩, ⟨c7, _⟩⟩ := eight_all hg2
      have H2 : Hid (Below g w w2 ∧ g ≤ w2.heap.size) := ⟨H1.out.1.trans hb2, Nat.le_of_lt (Array.getElem?_eq_some_iff.1 hg2).1⟩
      clear hb2 hg2 HE
      go_wp2_with fail
      refine (HT.out _).mono ?_
      rintro e w3 ⟨rfl, hb3⟩
      have H3 : Hid (Below g w w3) := H2.out.1.trans (hb3.mono H2.out.2)
      clear hb3 c0 c1 c2 c3 c4 c5 c6 c7
      go_wp2
      go_ret
      exact ⟨rfl, H3.out⟩
end Go.Proofs.YtcenlgfopmahcaaGreatDoor

/-
  The program's digest of two texts, one behind the other.
-/
namespace Go.Proofs.YtcenlgfopmahcaaGreatDoor
open Go.RowKit Go.Lib
set_option linter.unusedVariables false

theorem end_value (f b : List UInt8) : out8 (absorb (absorb (absorb first8 f) (rest f ++ b)) (rest (rest f ++ b) ++ padding (f.length + b.length))) 8 = shaL (f ++ b) := by
  unfold shaL
  have h1 := absorb_append first8 f b
  have h2 := absorb_append first8 (f ++ b) (padding (f ++ b).length)
  rw [h2.1, h1.1, h1.2, List.length_append]

set_option maxHeartbeats 2000000 in
set_option maxRecDepth 10000 in
theorem digestOf_any (f b : ByteArray) (w : World) (hf : f.size ≤ 50000) (hb : b.size ≤ 50000) (hK : Keys w) :
    Calls Tryz.prog 125 #[.string f, .string b] w fun e w' => e = .returned (.string (shaB (f ++ b))) ∧ Below w.heap.size w w' := by
  have hv := end_value f.data.toList b.data.toList
  have E1 : Hid (∀ g w, Keys w → w.heap[g]? = some (.cells (hashObj first8 ByteArray.empty 0) 200 (0, 0)) → 1 < g → Calls Tryz.prog 147 #[.pointer (some ⟨g, 0, none⟩), .string f] w fun e w' => e = .returned (.tuple #[]) ∧ w'.heap[g]? = some (.cells (hashObj (absorb first8 f.data.toList) (baOf (rest f.data.toList)) f.size) 200 (0, 0)) ∧ Below g w w') := by
    intro g w h1 h2 h3
    have h := add_any first8 ByteArray.empty f 0 g w first8_ok (by simp) (by omega) (by omega) (by omega) h1 h2 h3 (baOf (rest f.data.toList)) (by rw [baOf_list, ByteArray.empty_append])
    rw [ByteArray.empty_append, Int.zero_add] at h
    exact h
  have E2 : Hid (∀ g w, Keys w → w.heap[g]? = some (.cells (hashObj (absorb first8 f.data.toList) (baOf (rest f.data.toList)) f.size) 200 (0, 0)) → 1 < g → Calls Tryz.prog 147 #[.pointer (some ⟨g, 0, none⟩), .string b] w fun e w' => e = .returned (.tuple #[]) ∧ w'.heap[g]? = some (.cells (hashObj (absorb (absorb first8 f.data.toList) (rest f.data.toList ++ b.data.toList)) (baOf (rest (rest f.data.toList ++ b.data.toList))) ((f.size + b.size : Nat) : Int)) 200 (0, 0)) ∧ Below g w w') := by
    intro g w h1 h2 h3
    have hl : (rest f.data.toList).length ≤ 64 := by rw [rest_len]; omega
    have h := add_any _ (baOf (rest f.data.toList)) b f.size g w (absorb_ok first8_ok _) (by rw [baOf_size]; exact hl) (by omega) (by omega) (by omega) h1 h2 h3 (baOf (rest (rest f.data.toList ++ b.data.toList))) (by rw [baOf_list, ba_app_list, baOf_list])
    rw [ba_app_list, baOf_list, ← Int.natCast_add] at h
    exact h
  have E3 : Hid (∀ g w, Keys w → w.heap[g]? = some (.cells (hashObj (absorb (absorb first8 f.data.toList) (rest f.data.toList ++ b.data.toList)) (baOf (rest (rest f.data.toList ++ b.data.toList))) ((f.size + b.size : Nat) : Int)) 200 (0, 0)) → 1 < g → Calls Tryz.prog 148 #[.pointer (some ⟨g, 0, none⟩)] w fun e w' => e = .returned (.string (shaB (f ++ b))) ∧ Below g w w') := by
    intro g w h1 h2 h3
    have h := end_any _ (baOf (rest (rest f.data.toList ++ b.data.toList))) (f.size + b.size) g w (absorb_ok (absorb_ok first8_ok _) _) (by
      rw [baOf_size, rest_len, List.length_append, rest_len, ba_len, ba_len]
      omega) (by omega) h1 h2 h3
    rw [baOf_list] at h
    have e : out8 (absorb (absorb (absorb first8 f.data.toList) (rest f.data.toList ++ b.data.toList)) (rest (rest f.data.toList ++ b.data.toList) ++ padding (f.size + b.size))) 8 = shaL (f ++ b).data.toList := by
      rw [ba_app_list]
      exact hv
    rw [e] at h
    exact h
  have HK : Hid (Keys w) := hK
  clear hK hv hf hb
  generalize shaB (f ++ b) = V at *
  generalize absorb (absorb first8 f.data.toList) (rest f.data.toList ++ b.data.toList) = A2 at *
  generalize absorb first8 f.data.toList = A1 at *
  generalize baOf (rest (rest f.data.toList ++ b.data.toList)) = R2 at *
  generalize baOf (rest f.data.toList) = R1 at *
  go_enter Tryz.func125, Tryz.ntmps125
  go_wp2_with fail
  refine (newHash_any _).mono ?_
  rintro e w1 ⟨g, rfl, hgw, hg1, hb1⟩
  have H1 : Hid (Keys w1 ∧ w1.heap[g]? = _ ∧ 1 < g ∧ w.heap.size ≤ g ∧ Below w.heap.size w w1) := ⟨HK.out.below hb1 HK.out.lt, hg1, Nat.lt_of_lt_of_le HK.out.lt hgw, hgw, hb1⟩
  clear hgw hg1 hb1
  go_wp2_with fail
  refine (E1.out _ _ H1.out.1 H1.out.2.1 H1.out.2.2.1).mono ?_
  rintro e w2 ⟨rfl, hg2, hb2⟩
  have H2 : Hid (Keys w2 ∧ w2.heap[g]? = _ ∧ Below w.heap.size w w2) := ⟨H1.out.1.below hb2 H1.out.2.2.1, hg2, H1.out.2.2.2.2.trans (hb2.mono H1.out.2.2.2.1)⟩
  clear hg2 hb2
  go_wp2_with fail
  refine (E2.out _ _ H2.out.1 H2.out.2.1 H1.out.2.2.1).mono ?_
  rintro e w3 ⟨rfl, hg3, hb3⟩
  have H3 : Hid (Keys w3 ∧ w3.heap[g]? = _ ∧ Below w.heap.size w w3) := ⟨H2.out.1.below hb3 H1.out.2.2.1, hg3, H2.out.2.2.trans (hb3.mono H1.out.2.2.2.1)⟩
  clear hg3 hb3
  go_wp2_with fail
  refine (E3.out _ _ H3.out.1 H3.out.2.1 H1.out.2.2.1).mono ?_
  rintro e w4 ⟨rfl, hb4⟩
  have H4 : Hid (Below w.heap.size w w4) := H3.out.2.2.trans (hb4.mono H1.out.2.2.2.1)
  clear hb4
  go_wp2
  go_ret
  exact ⟨rfl, H4.out⟩

end Go.Proofs.YtcenlgfopmahcaaGreatDoor

/-
  The program's Digest.
-/
namespace Go.Proofs.YtcenlgfopmahcaaGreatDoor
open Go.RowKit Go.Lib
set_option linter.unusedVariables false

set_option maxHeartbeats 400000 in
set_option maxRecDepth 10000 in
theorem implDigest_any (s : ByteArray) (w : World) (hs : s.size ≤ 1048576) (hK : Keys w) :
    Calls Tryz.prog 126 #[.string s] w fun e w' => e = .returned (.string (digV s)) ∧ Below w.heap.size w w' := by
  unfold digV
  by_cases h : 20000 < (s.size : Int)
  · rw [if_pos h]
    clear hK
    go_enter Tryz.func126, Tryz.ntmps126
    go_wp2
    go_ret
    exact ⟨rfl, Below.refl _ _⟩
  · rw [if_neg h]
    have E := digestOf_any s ByteArray.empty w (by omega) (by simp) hK
    rw [ByteArray.append_empty] at E
    generalize shaB s = v at *
    have HE : Hid (Calls Tryz.prog 125 #[.string s, .string ⟨#[]⟩] w fun e w' => e = .returned (.string v) ∧ Below w.heap.size w w') := E
    clear E hK
    go_enter Tryz.func126, Tryz.ntmps126
    go_wp2_with fail
    refine HE.out.mono ?_
    rintro e w1 ⟨rfl, hb⟩
    have HB : Hid (Below w.heap.size w w1) := hb
    clear hb
    go_wp2
    go_ret
    exact ⟨rfl, HB.out⟩
end Go.Proofs.YtcenlgfopmahcaaGreatDoor

/-
  The program's Mac. Condition: the program's variable holds the rounds' numbers.
-/
namespace Go.Proofs.YtcenlgfopmahcaaGreatDoor
open Go.RowKit Go.Lib
set_option linter.unusedVariables false

end Go.Proofs.YtcenlgfopmahcaaGreatDoor
