/-
  The program's words of a block, spread over the rounds.
-/
import Derived.Test.YtchlopmmhcobdaaDoorRound2
namespace Go.Proofs.YtchlopmmhcobdaaDoor
open Go.RowKit Go.Lib
set_option linter.unusedVariables false

theorem info64 : (Tryd.prog.info? 177).map (·.size) = some 64 := by kernel_rfl

theorem load64 (w : World) (g : Nat) (f : Nat → Int) (hg : w.heap[g]? = some (.cells (cells32 64 f) 177 (0, 0))) :
    (Instr.loadAt 177 (.pointer (some ⟨g, 0, none⟩))).run Tryd.prog w = .ok (.agg (cells32 64 f)) w := by
  simp only [Instr.loadAt, Instr.sureAddr, Sem.run_bind, Sem.run_pure, Result.andThen_ok]
  exact run_loadVar_row w g _ _ _ _ _ hg Tryd.underlying177 rfl (by rw [cells32_size]; exact info64)
theorem store64 (w : World) (g : Nat) (old : Array Value) (f : Nat → Int) (hg : w.heap[g]? = some (.cells old 177 (0, 0))) (ho : old.size = 64) :
    (Instr.storeAt 177 (.pointer (some ⟨g, 0, none⟩)) (.agg (cells32 64 f))).run Tryd.prog w = .ok () (w.setRow g (cells32 64 f)) := by
  simp only [Instr.storeAt, Instr.sureAddr, Sem.run_bind, Sem.run_pure, Result.andThen_ok]
  exact run_storeVar_row w g _ _ _ _ hg (by rw [cells32_size]; exact info64) (by rw [ho, cells32_size]) (cells32_one _ _)

theorem put_word {w wr : World} {b : Nat → Int} {k : Nat} (hg : wr.heap[w.heap.size]? = some (.cells (cells32 64 (upto b 0)) 177 (0, 0))) (hg1 : wr.heap[w.heap.size + 1]? = some (.cells (cells32 64 (upto b k)) 177 (0, 0))) (hb : Below w.heap.size w wr) (hk : k < 64) (_ : k < 64) (n : Nat) :
    ((wr.drewN n).setCell ⟨w.heap.size + 1, k, none⟩ (.int .u32 (sched b k))).heap[w.heap.size]? = some (.cells (cells32 64 (upto b 0)) 177 (0, 0)) ∧
    ((wr.drewN n).setCell ⟨w.heap.size + 1, k, none⟩ (.int .u32 (sched b k))).heap[w.heap.size + 1]? = some (.cells (cells32 64 (upto b (k + 1))) 177 (0, 0)) ∧
    Below w.heap.size w ((wr.drewN n).setCell ⟨w.heap.size + 1, k, none⟩ (.int .u32 (sched b k))) := by
  refine ⟨?_, ?_, (below_drewN n hb).setCell (by simp) _⟩
  · rw [heap_setCell_other _ _ _ _ (by simp)]
    exact hg
  · rw [heap_setCell_same (wr.drewN n) _ k _ _ _ hg1, upto_set]

set_option maxHeartbeats 1000000 in
theorem blockWords_any (s : ByteArray) (w : World) (hs : s.size = 64) :
    Calls Tryd.prog 154 #[.string s] w fun e w' => e = .returned (.agg (cells32 64 (sched (wordF s.data.toList)))) ∧ Below w.heap.size w w' := by
  have E : Hid (∀ (k : Nat) (w : World), k < 16 → Calls Tryd.prog 156 #[.string s, .int .i64 ((4 * k : Nat) : Int)] w fun e w' => e = .returned (.int .u32 (sched (wordF s.data.toList) k)) ∧ ∃ n, w' = w.drewN n) := by
    intro k w hk
    rw [sched_lo _ hk]
    exact wordAt_any s (4 * k) w (by omega) (by omega)
  clear hs
  have hbd : ∀ i, i < 16 → 0 ≤ wordF s.data.toList i ∧ wordF s.data.toList i < 4294967296 := fun i _ => wordF_bd _ i
  generalize wordF s.data.toList = b at *
  have R : Hid (∀ (k x : Int) (w : World), k ∈ [2, 6, 7, 11, 13, 17, 18, 19, 22, 25] → 0 ≤ x → x < 4294967296 → Calls Tryd.prog 157 #[.int .u32 x, .int .i64 k] w fun e w' => e = .returned (.int .u32 (rotr k x)) ∧ w' = w) := right_any
  go_enter Tryd.func154, Tryd.ntmps154
  go_wp2
  go_loopw [4] (fun i wr => ∃ k : Nat, k ≤ 16 ∧ i = .int .i64 k ∧ wr.heap[w.heap.size]? = some (.cells (cells32 64 (upto b 0)) 177 (0, 0)) ∧ wr.heap[w.heap.size + 1]? = some (.cells (cells32 64 (upto b k)) 177 (0, 0)) ∧ Below w.heap.size w wr) (fun i _ => 16 - (intOf i).toNat)
  case atStart =>
    refine ⟨0, by omega, rfl, ?_, ?_, ?_⟩
    · exact heap_alloc2_old w _ _
    · exact heap_alloc2_new w _ _
    · exact (((Below.refl _ _).alloc (Nat.le_refl _) _).alloc (by simp) _)
  case round =>
    obtain ⟨k, hk, rfl, hg, hg1, hb⟩ := hrel
    by_cases hlt : k < 16
    · have E' := fun w => E.out k w hlt
      have HE : Hid (∀ w, Calls Tryd.prog 156 #[.string s, .int .i64 (4 * (k : Int))] w fun e w' => e = .returned (.int .u32 (sched b k)) ∧ ∃ n, w' = w.drewN n) := by
        have h := E'
        simp only [Int.natCast_mul] at h
        exact h
      clear E E'
      have ⟨hc, hf⟩ := upto_any hg1 (j := k) (by omega)
      have HG : Hid (wr.heap[w.heap.size]? = _ ∧ wr.heap[w.heap.size + 1]? = _ ∧ Below w.heap.size w wr) := ⟨hg, hg1, hb⟩
      clear hg hg1 hb
      go_wp2_with fail
      refine (HE.out _).mono ?_
      rintro e w' ⟨rfl, n, rfl⟩
      go_wp2
      go_roundw
      case rel => exact ⟨k + 1, by omega, by go_num, put_word HG.out.1 HG.out.2.1 HG.out.2.2 (by omega) (by omega) n⟩
      case measure => simp [intOf]; omega
    · have e16 : k = 16 := by omega
      rw [e16] at hg1
      clear E e16
      go_wp2
      go_loopw [5] (fun i wr => ∃ k : Nat, 16 ≤ k ∧ k ≤ 64 ∧ i = .int .i64 k ∧ wr.heap[w.heap.size]? = some (.cells (cells32 64 (upto b 0)) 177 (0, 0)) ∧ wr.heap[w.heap.size + 1]? = some (.cells (cells32 64 (upto b k)) 177 (0, 0)) ∧ Below w.heap.size w wr) (fun i _ => 64 - (intOf i).toNat)
      case atStart => exact ⟨16, by omega, by omega, rfl, hg, hg1, hb⟩
      case round =>
        clear hg hg1 hb hk hlt
        rename_i k0
        obtain ⟨k, hk0, hk, rfl, hg, hg1, hb⟩ := hrel
        by_cases hlt : k < 64
        · obtain ⟨hc, hf⟩ := upto_any hg1 (j := k) (by omega)
          have hc16 := upto_cell hg1 (j := k - 16) (by omega) (by omega)
          have hc15 := upto_cell hg1 (j := k - 15) (by omega) (by omega)
          have hc7 := upto_cell hg1 (j := k - 7) (by omega) (by omega)
          have hc2 := upto_cell hg1 (j := k - 2) (by omega) (by omega)
          have hw16 : IntKind.i64.wrap ((k : Int) - 16) = k - 16 := by rw [IntKind.wrap_i64]; omega
          have hw15 : IntKind.i64.wrap ((k : Int) - 15) = k - 15 := by rw [IntKind.wrap_i64]; omega
          have hw7 : IntKind.i64.wrap ((k : Int) - 7) = k - 7 := by rw [IntKind.wrap_i64]; omega
          have hw2 : IntKind.i64.wrap ((k : Int) - 2) = k - 2 := by rw [IntKind.wrap_i64]; omega
          have HG : Hid (wr.heap[w.heap.size]? = _ ∧ wr.heap[w.heap.size + 1]? = _ ∧ Below w.heap.size w wr) := ⟨hg, hg1, hb⟩
          clear hg hg1 hb
          have hs := sched_hi b (i := k) (by omega)
          obtain ⟨p16, q16⟩ := sched_bd b hbd (k - 16)
          obtain ⟨p15, q15⟩ := sched_bd b hbd (k - 15)
          obtain ⟨p7, q7⟩ := sched_bd b hbd (k - 7)
          obtain ⟨p2, q2⟩ := sched_bd b hbd (k - 2)
          generalize sched b (k - 16) = x16 at *
          generalize sched b (k - 15) = x15 at *
          generalize sched b (k - 7) = x7 at *
          generalize sched b (k - 2) = x2 at *
          unfold sig0 sig1 at hs
          have HS : Hid (sched b k = _) := hs
          clear hs
          go_wp2
          go_quiet (fail)
          go_wp2_with (go_at_call 157; refine (R.out _ _ _ (by decide) (by omega) (by omega)).mono ?_; rintro e w' ⟨rfl, rfl⟩)
          go_region
          all_goals
            rw [← HS.out]
            go_wp2
            go_roundw
            case rel => exact ⟨k + 1, by omega, by omega, by go_num, put_word HG.out.1 HG.out.2.1 HG.out.2.2 (by omega) (by omega) (nq + 1)⟩
            case measure => simp [intOf]; omega
        · have e64 : k = 64 := by omega
          rw [e64] at hg1
          clear e64
          go_wp2_with (first | (refine wpList_load_row rfl 177 (.tmp 3) rfl (w.heap.size + 1) rfl _ _ _ _ hg1 Tryd.underlying177 rfl (by rw [cells32_size]; exact info64) ?_) | (refine wpList_store_row rfl 177 (.tmp 2) (.tmp 63) rfl w.heap.size _ rfl rfl _ _ hg (by rw [cells32_size]; exact info64) (by rw [cells32_size, cells32_size]) (cells32_one _ _) ?_))
          refine bodyPost_ret (results_cell_row Tryd.results154 _ _ w.heap.size _ _ _ _ rfl (setRow_heap wr _ _ _ _ _ hg) Tryd.underlying177 rfl (by rw [cells32_size]; exact info64)) rfl ⟨ret_agg (cells32_congr fun j hj => ?_), below_setRow hb (Nat.le_refl _) _⟩
          unfold upto
          rw [if_pos hj]
end Go.Proofs.YtchlopmmhcobdaaDoor
