/-
  The program's words of a block and its round.
-/
import Derived.Test.YtpglcbidfghfkaaGreatDoorPkRot
import Derived.Test.YtpglcbidfghfkaaGreatDoorPkCells
namespace Go.Proofs.YtpglcbidfghfkaaGreatDoor
open Go.RowKit Go.Lib
set_option linter.unusedVariables false

set_option maxHeartbeats 1000000 in
theorem wordAt_any (s : ByteArray) (k : Nat) (w : World) (hk : k + 4 ≤ s.size) (hs : s.size ≤ 1048576) :
    Calls Tryz.prog 261 #[.string s, .int .i64 k] w fun e w' => e = .returned (.int .u32 (four (byteL s.data.toList k) (byteL s.data.toList (k + 1)) (byteL s.data.toList (k + 2)) (byteL s.data.toList (k + 3)))) ∧ ∃ n, w' = w.drewN n := by
  have i0 := fun w => index_text s k _ rfl (by omega) w
  have i1 := fun w => index_text s (k + 1) (k + 1 : Int) (by omega) (by omega) w
  have i2 := fun w => index_text s (k + 2) (k + 2 : Int) (by omega) (by omega) w
  have i3 := fun w => index_text s (k + 3) (k + 3 : Int) (by omega) (by omega) w
  have w1 : IntKind.i64.wrap ((k : Int) + 1) = k + 1 := by rw [IntKind.wrap_i64]; omega
  have w2 : IntKind.i64.wrap ((k : Int) + 2) = k + 2 := by rw [IntKind.wrap_i64]; omega
  have w3 : IntKind.i64.wrap ((k : Int) + 3) = k + 3 := by rw [IntKind.wrap_i64]; omega
  obtain ⟨p0, q0⟩ := byteL_bd s.data.toList k
  obtain ⟨p1, q1⟩ := byteL_bd s.data.toList (k + 1)
  obtain ⟨p2, q2⟩ := byteL_bd s.data.toList (k + 2)
  obtain ⟨p3, q3⟩ := byteL_bd s.data.toList (k + 3)
  generalize byteL s.data.toList k = x at *
  generalize byteL s.data.toList (k + 1) = y at *
  generalize byteL s.data.toList (k + 2) = z at *
  generalize byteL s.data.toList (k + 3) = u at *
  clear hk hs
  go_enter Tryz.func261, Tryz.ntmps261
  go_wp2
  go_quiet (fail)
  go_wp2
  go_ret
  exact ⟨rfl, _, rfl⟩

end Go.Proofs.YtpglcbidfghfkaaGreatDoor

/-
  The program's round: it answers the eight numbers behind the round.
-/
namespace Go.Proofs.YtpglcbidfghfkaaGreatDoor
open Go.RowKit Go.Lib
set_option linter.unusedVariables false

set_option maxHeartbeats 1000000 in
theorem afterRound_any (s : H8) (add : Int) (w : World) (hs : s.Ok) (ha : In32 add) :
    Calls Tryz.prog 254 #[.agg s.cells, .int .u32 add] w fun e w' => e = .returned (.agg (s.step add).cells) ∧ Below w.heap.size w w' := by
  obtain ⟨⟨a0, a1⟩, ⟨b0, b1⟩, ⟨c0, c1⟩, ⟨d0, d1⟩, ⟨e0, e1⟩, ⟨f0, f1⟩, ⟨g0, g1⟩, ⟨h0, h1⟩⟩ := hs
  obtain ⟨ha0, ha1⟩ := ha
  have R : Hid (∀ (k x : Int) (w : World), k ∈ [2, 6, 7, 11, 13, 17, 18, 19, 22, 25] → 0 ≤ x → x < 4294967296 → Calls Tryz.prog 262 #[.int .u32 x, .int .i64 k] w fun e w' => e = .returned (.int .u32 (rotr k x)) ∧ w' = w) := right_any
  obtain ⟨V, hV⟩ : ∃ V, V = (s.step add).cells := ⟨_, rfl⟩
  rw [← hV]
  have hv : #[Value.int .u32 ((s.h + big1 s.e + chF s.e s.f s.g + add + (big0 s.a + majF s.a s.b s.c)) % 4294967296), .int .u32 s.a, .int .u32 s.b, .int .u32 s.c, .int .u32 ((s.d + (s.h + big1 s.e + chF s.e s.f s.g + add)) % 4294967296), .int .u32 s.e, .int .u32 s.f, .int .u32 s.g] = V := by
    rw [hV, step_a, step_e]
    rfl
  clear hV
  unfold big1 big0 chF majF at hv
  have HV : Hid _ := hv
  clear hv
  unfold H8.cells
  obtain ⟨a, b, c, d, e, f, g, h⟩ := s
  dsimp only at *
  have hm : IntKind.u32.max = 4294967295 := rfl
  go_enter Tryz.func254, Tryz.ntmps254
  go_wp2
  go_quiet (fail)
  go_wp2_with (go_at_call 262; refine (R.out _ _ _ (by decide) (by omega) (by omega)).mono ?_; rintro e w' ⟨rfl, rfl⟩)
  refine bodyPost_ret (v := .agg V) (by simp [results, Tryz.results254, go_sem]; exact HV.out) rfl ⟨rfl, ?_⟩
  refine (((((((Below.setCell ?_ (by simp) _).setCell (by simp) _).setCell (by simp) _).setCell (by simp) _).setCell (by simp) _).setCell (by simp) _).setCell (by simp) _).setCell (by simp) _
  exact below_drewN _ (((Below.refl _ _).alloc (Nat.le_refl _) _).alloc (by simp) _)
end Go.Proofs.YtpglcbidfghfkaaGreatDoor

/-
  The program's words of a block, spread over the rounds.
-/
namespace Go.Proofs.YtpglcbidfghfkaaGreatDoor
open Go.RowKit Go.Lib
set_option linter.unusedVariables false

theorem info64 : (Tryz.prog.info? 271).map (·.size) = some 64 := by kernel_rfl

theorem load64 (w : World) (g : Nat) (f : Nat → Int) (hg : w.heap[g]? = some (.cells (cells32 64 f) 271 (0, 0))) :
    (Instr.loadAt 271 (.pointer (some ⟨g, 0, none⟩))).run Tryz.prog w = .ok (.agg (cells32 64 f)) w := by
  simp only [Instr.loadAt, Instr.sureAddr, Sem.run_bind, Sem.run_pure, Result.andThen_ok]
  exact run_loadVar_row w g _ _ _ _ _ hg Tryz.underlying271 rfl (by rw [cells32_size]; exact info64)
theorem store64 (w : World) (g : Nat) (old : Array Value) (f : Nat → Int) (hg : w.heap[g]? = some (.cells old 271 (0, 0))) (ho : old.size = 64) :
    (Instr.storeAt 271 (.pointer (some ⟨g, 0, none⟩)) (.agg (cells32 64 f))).run Tryz.prog w = .ok () (w.setRow g (cells32 64 f)) := by
  simp only [Instr.storeAt, Instr.sureAddr, Sem.run_bind, Sem.run_pure, Result.andThen_ok]
  exact run_storeVar_row w g _ _ _ _ hg (by rw [cells32_size]; exact info64) (by rw [ho, cells32_size]) (cells32_one _ _)

theorem put_word {w wr : World} {b : Nat → Int} {k : Nat} (hg : wr.heap[w.heap.size]? = some (.cells (cells32 64 (upto b 0)) 271 (0, 0))) (hg1 : wr.heap[w.heap.size + 1]? = some (.cells (cells32 64 (upto b k)) 271 (0, 0))) (hb : Below w.heap.size w wr) (hk : k < 64) (_ : k < 64) (n : Nat) :
    ((wr.drewN n).setCell ⟨w.heap.size + 1, k, none⟩ (.int .u32 (sched b k))).heap[w.heap.size]? = some (.cells (cells32 64 (upto b 0)) 271 (0, 0)) ∧
    ((wr.drewN n).setCell ⟨w.heap.size + 1, k, none⟩ (.int .u32 (sched b k))).heap[w.heap.size + 1]? = some (.cells (cells32 64 (upto b (k + 1))) 271 (0, 0)) ∧
    Below w.heap.size w ((wr.drewN n).setCell ⟨w.heap.size + 1, k, none⟩ (.int .u32 (sched b k))) := by
  refine ⟨?_, ?_, (below_drewN n hb).setCell (by simp) _⟩
  · rw [heap_setCell_other _ _ _ _ (by simp)]
    exact hg
  · rw [heap_setCell_same (wr.drewN n) _ k _ _ _ hg1, upto_set]

set_option maxHeartbeats 1000000 in
theorem blockWords_any (s : ByteArray) (w : World) (hs : s.size = 64) :
    Calls Tryz.prog 253 #[.string s] w fun e w' => e = .returned (.agg (cells32 64 (sched (wordF s.data.toList)))) ∧ Below w.heap.size w w' := by
  have E : Hid (∀ (k : Nat) (w : World), k < 16 → Calls Tryz.prog 261 #[.string s, .int .i64 ((4 * k : Nat) : Int)] w fun e w' => e = .returned (.int .u32 (sched (wordF s.data.toList) k)) ∧ ∃ n, w' = w.drewN n) := by
    intro k w hk
    rw [sched_lo _ hk]
    exact wordAt_any s (4 * k) w (by omega) (by omega)
  clear hs
  have hbd : ∀ i, i < 16 → 0 ≤ wordF s.data.toList i ∧ wordF s.data.toList i < 4294967296 := fun i _ => wordF_bd _ i
  generalize wordF s.data.toList = b at *
  have R : Hid (∀ (k x : Int) (w : World), k ∈ [2, 6, 7, 11, 13, 17, 18, 19, 22, 25] → 0 ≤ x → x < 4294967296 → Calls Tryz.prog 262 #[.int .u32 x, .int .i64 k] w fun e w' => e = .returned (.int .u32 (rotr k x)) ∧ w' = w) := right_any
  go_enter Tryz.func253, Tryz.ntmps253
  go_wp2
  go_loopw [4] (fun i wr => ∃ k : Nat, k ≤ 16 ∧ i = .int .i64 k ∧ wr.heap[w.heap.size]? = some (.cells (cells32 64 (upto b 0)) 271 (0, 0)) ∧ wr.heap[w.heap.size + 1]? = some (.cells (cells32 64 (upto b k)) 271 (0, 0)) ∧ Below w.heap.size w wr) (fun i _ => 16 - (intOf i).toNat)
  case atStart =>
    refine ⟨0, by omega, rfl, ?_, ?_, ?_⟩
    · exact heap_alloc2_old w _ _
    · exact heap_alloc2_new w _ _
    · exact (((Below.refl _ _).alloc (Nat.le_refl _) _).alloc (by simp) _)
  case round =>
    obtain ⟨k, hk, rfl, hg, hg1, hb⟩ := hrel
    by_cases hlt : k < 16
    · have E' := fun w => E.out k w hlt
      have HE : Hid (∀ w, Calls Tryz.prog 261 #[.string s, .int .i64 (4 * (k : Int))] w fun e w' => e = .returned (.int .u32 (sched b k)) ∧ ∃ n, w' = w.drewN n) := by
        have h := E'
        simp only [Int.natCast_mul] at h
        exact h
      clear E E'
      have ⟨hc, hf⟩ := upto_any hg1 (j := k) (by omega)
      have HG : Hid (wr.heap[w.heap.size]? = _ ∧ wr.heap[w.heap.size + 1]? = _ ∧ Below w.heap.size w wr) := ⟨hg, hg1, hb⟩
      clear hg hg1 hb
      go_wp2_with fail
      refine (HE.out _).mono ?_
      rintro e w' ⟨rfl, n, rfl⟩
      go_wp2
      go_roundw
      case rel => exact ⟨k + 1, by omega, by go_num, put_word HG.out.1 HG.out.2.1 HG.out.2.2 (by omega) (by omega) n⟩
      case measure => simp [intOf]; omega
    · have e16 : k = 16 := by omega
      rw [e16] at hg1
      clear E e16
      go_wp2
      go_loopw [5] (fun i wr => ∃ k : Nat, 16 ≤ k ∧ k ≤ 64 ∧ i = .int .i64 k ∧ wr.heap[w.heap.size]? = some (.cells (cells32 64 (upto b 0)) 271 (0, 0)) ∧ wr.heap[w.heap.size + 1]? = some (.cells (cells32 64 (upto b k)) 271 (0, 0)) ∧ Below w.heap.size w wr) (fun i _ => 64 - (intOf i).toNat)
      case atStart => exact ⟨16, by omega, by omega, rfl, hg, hg1, hb⟩
      case round =>
        clear hg hg1 hb hk hlt
        rename_i k0
        obtain ⟨k, hk0, hk, rfl, hg, hg1, hb⟩ := hrel
        by_cases hlt : k < 64
        · obtain ⟨hc, hf⟩ := upto_any hg1 (j := k) (by omega)
          have hc16 := upto_cell hg1 (j := k - 16) (by omega) (by omega)
          have hc15 := upto_cell hg1 (j := k - 15) (by omega) (by omega)
          have hc7 := upto_cell hg1 (j := k - 7) (by omega) (by omega)
          have hc2 := upto_cell hg1 (j := k - 2) (by omega) (by omega)
          have hw16 : IntKind.i64.wrap ((k : Int) - 16) = k - 16 := by rw [IntKind.wrap_i64]; omega
          have hw15 : IntKind.i64.wrap ((k : Int) - 15) = k - 15 := by rw [IntKind.wrap_i64]; omega
          have hw7 : IntKind.i64.wrap ((k : Int) - 7) = k - 7 := by rw [IntKind.wrap_i64]; omega
          have hw2 : IntKind.i64.wrap ((k : Int) - 2) = k - 2 := by rw [IntKind.wrap_i64]; omega
          have HG : Hid (wr.heap[w.heap.size]? = _ ∧ wr.heap[w.heap.size + 1]? = _ ∧ Below w.heap.size w wr) := ⟨hg, hg1, hb⟩
          clear hg hg1 hb
          have hs := sched_hi b (i := k) (by omega)
          obtain ⟨p16, q16⟩ := sched_bd b hbd (k - 16)
          obtain ⟨p15, q15⟩ := sched_bd b hbd (k - 15)
          obtain ⟨p7, q7⟩ := sched_bd b hbd (k - 7)
          obtain ⟨p2, q2⟩ := sched_bd b hbd (k - 2)
          generalize sched b (k - 16) = x16 at *
          generalize sched b (k - 15) = x15 at *
          generalize sched b (k - 7) = x7 at *
          generalize sched b (k - 2) = x2 at *
          unfold sig0 sig1 at hs
          have HS : Hid (sched b k = _) := hs
          clear hs
          go_wp2
          go_quiet (fail)
          go_wp2_with (go_at_call 262; refine (R.out _ _ _ (by decide) (by omega) (by omega)).mono ?_; rintro e w' ⟨rfl, rfl⟩)
          go_region
          all_goals
            rw [← HS.out]
            go_wp2
            go_roundw
            case rel => exact ⟨k + 1, by omega, by omega, by go_num, put_word HG.out.1 HG.out.2.1 HG.out.2.2 (by omega) (by omega) (nq + 1)⟩
            case measure => simp [intOf]; omega
        · have e64 : k = 64 := by omega
          rw [e64] at hg1
          clear e64
          go_wp2_with (first | (refine wpList_load_row rfl 271 (.tmp 3) rfl (w.heap.size + 1) rfl _ _ _ _ hg1 Tryz.underlying271 rfl (by rw [cells32_size]; exact info64) ?_) | (refine wpList_store_row rfl 271 (.tmp 2) (.tmp 63) rfl w.heap.size _ rfl rfl _ _ hg (by rw [cells32_size]; exact info64) (by rw [cells32_size, cells32_size]) (cells32_one _ _) ?_))
          refine bodyPost_ret (results_cell_row Tryz.results253 _ _ w.heap.size _ _ _ _ rfl (setRow_heap wr _ _ _ _ _ hg) Tryz.underlying271 rfl (by rw [cells32_size]; exact info64)) rfl ⟨ret_agg (cells32_congr fun j hj => ?_), below_setRow hb (Nat.le_refl _) _⟩
          unfold upto
          rw [if_pos hj]
end Go.Proofs.YtpglcbidfghfkaaGreatDoor
