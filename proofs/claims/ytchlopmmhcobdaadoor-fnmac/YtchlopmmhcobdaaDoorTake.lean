/-
  The program's digest at work: a text is taken in; what does not fill a block waits.
-/
import Derived.Test.YtchlopmmhcobdaaDoorMix
import Derived.Test.YtchlopmmhcobdaaDoorJoin
namespace Go.Proofs.YtchlopmmhcobdaaDoor
open Go.RowKit Go.Lib
set_option linter.unusedVariables false

/-- The cells of a digest at work. -/
def hashObj (s : H8) (r : ByteArray) (n : Int) : Array Value := cells32 8 s.at ++ #[.string r, .int .u64 n]
def strSize : Value → Nat
  | .string s => s.size
  | _ => 0
theorem hash_rest {w : World} {g : Nat} {s : H8} {r : ByteArray} {n : Int} {t : TypeId} (hg : w.heap[g]? = some (.cells (hashObj s r n) t (0, 0))) : w.cell? ⟨g, 8, none⟩ = some (.string r) ∧ w.frozen? ⟨g, 8, none⟩ = false :=
  ⟨by rw [cell_of_row w g 8 _ _ _ hg, hashObj, Array.getElem?_append_right (by rw [cells32_size]; omega), cells32_size]; rfl, frozen_of_row w g 8 _ _ hg⟩
theorem hash_len {w : World} {g : Nat} {s : H8} {r : ByteArray} {n : Int} {t : TypeId} (hg : w.heap[g]? = some (.cells (hashObj s r n) t (0, 0))) : w.cell? ⟨g, 9, none⟩ = some (.int .u64 n) ∧ w.frozen? ⟨g, 9, none⟩ = false :=
  ⟨by rw [cell_of_row w g 9 _ _ _ hg, hashObj, Array.getElem?_append_right (by rw [cells32_size]; omega), cells32_size]; rfl, frozen_of_row w g 9 _ _ hg⟩
theorem hash_set8 {w : World} {g : Nat} {s : H8} {r : ByteArray} {n : Int} {t : TypeId} (hg : w.heap[g]? = some (.cells (hashObj s r n) t (0, 0))) (r' : ByteArray) : (w.setCell ⟨g, 8, none⟩ (.string r')).heap[g]? = some (.cells (hashObj s r' n) t (0, 0)) := by
  rw [heap_setCell_same w g 8 _ _ _ hg]
  rfl
theorem hash_set9 {w : World} {g : Nat} {s : H8} {r : ByteArray} {n : Int} {t : TypeId} (hg : w.heap[g]? = some (.cells (hashObj s r n) t (0, 0))) (n' : Int) : (w.setCell ⟨g, 9, none⟩ (.int .u64 n')).heap[g]? = some (.cells (hashObj s r n') t (0, 0)) := by
  rw [heap_setCell_same w g 9 _ _ _ hg]
  rfl
theorem take_head (y : ByteArray) (h : 64 ≤ (y.size : Int)) (w : World) : (Instr.slice 9 (.string y) none (some (.int .i64 64)) none).run Tryd.prog w = .ok (.string (y.extract 0 64)) w := by
  rw [run_slice_string_h w 9 y Tryd.underlying9 .i64 _ (by omega) (by omega)]
  rfl
theorem take_tail (y : ByteArray) (h : 64 ≤ (y.size : Int)) (w : World) : (Instr.slice 9 (.string y) (some (.int .i64 64)) none none).run Tryd.prog w = .ok (.string (y.extract 64 y.size)) w := by
  rw [run_slice_string_l w 9 y Tryd.underlying9 .i64 _ (by omega) (by omega)]
  rfl
theorem head_list (y : ByteArray) : (y.extract 0 64).data.toList = y.data.toList.take 64 := by simp [ByteArray.data_extract]
theorem tail_list (y : ByteArray) : (y.extract 64 y.size).data.toList = y.data.toList.drop 64 := by
  rw [ByteArray.data_extract, Array.toList_extract, List.extract]
  exact List.take_of_length_le (by rw [List.length_drop, ba_len]; omega)

set_option maxHeartbeats 2000000 in
theorem take_any (s : H8) (r x : ByteArray) (n : Int) (g : Nat) (w : World) (hs : s.Ok) (hr : r.size ≤ 64) (hx : x.size ≤ 100000) (hK : Keys w) (hg : w.heap[g]? = some (.cells (hashObj s r n) 155 (0, 0))) (hgK : 2 < g) (R : ByteArray) (hR : R.data.toList = rest (r ++ x).data.toList) :
    Calls Tryd.prog 143 #[.pointer (some ⟨g, 0, none⟩), .string x] w fun e w' => e = .returned (.tuple #[]) ∧ w'.heap[g]? = some (.cells (hashObj (absorb s (r ++ x).data.toList) R n) 155 (0, 0)) ∧ Below g w w' := by
  obtain ⟨hc, _⟩ := hash_rest hg
  have hgl : g < w.heap.size := (Array.getElem?_eq_some_iff.1 hg).1
  have E : Hid (∀ w, Calls Tryd.prog 67 #[.string r, .string x] w fun e w' => e = .returned (.string (r ++ x)) ∧ Below w.heap.size w w') := fun w => joined_any r x w (by omega) (by omega)
  have hj : (r ++ x).size ≤ 100064 := by rw [ByteArray.size_append]; omega
  generalize r ++ x = j at *
  obtain ⟨A, hA⟩ : ∃ A, A = absorb s j.data.toList := ⟨_, rfl⟩
  rw [← hA]
  have HA : Hid (absorb s j.data.toList = A ∧ rest j.data.toList = R.data.toList) := ⟨hA.symm, hR.symm⟩
  clear hA hR
  have HG : Hid (s.Ok ∧ Keys w ∧ w.heap[g]? = some (.cells (hashObj s r n) 155 (0, 0)) ∧ 2 < g ∧ g < w.heap.size) := ⟨hs, hK, hg, hgK, hgl⟩
  clear hK hg hgK hgl hs
  go_enter Tryd.func143, Tryd.ntmps143
  go_wp2_with fail
  refine (E.out _).mono ?_
  rintro e w1 ⟨rfl, hb1⟩
  have H1 : Hid (Below w.heap.size w w1) := hb1
  clear hb1 hc E
  have hg1 : w1.heap[g]? = some (.cells (hashObj s r n) 155 (0, 0)) := (H1.out.block g HG.out.2.2.2.2).trans HG.out.2.2.1
  have hb1 : Below g w w1 := H1.out.mono (Nat.le_of_lt HG.out.2.2.2.2)
  go_wp2
  go_loopw [1] (fun u wr => ∃ (st : H8) (y : ByteArray), u = .string y ∧ y.size ≤ 100064 ∧ st.Ok ∧ absorb st y.data.toList = A ∧ rest y.data.toList = R.data.toList ∧ wr.heap[g]? = some (.cells (hashObj st r n) 155 (0, 0)) ∧ Below g w wr) (fun u _ => strSize u)
  case atStart => exact ⟨s, j, rfl, hj, HG.out.1, HA.out.1, HA.out.2, hg1, hb1⟩
  case round =>
    clear hg1 hb1
    obtain ⟨st, y, rfl, hy, hok, hab, hre, hr, hb⟩ := hrel
    by_cases hlt : 64 ≤ (y.size : Int)
    · have E : Hid (∀ w, Keys w → w.heap[g]? = some (.cells (hashObj st r n) 155 (0, 0)) → Calls Tryd.prog 152 #[.pointer (some ⟨g, 0, none⟩), .string (y.extract 0 64)] w fun e w' => e = .returned (.tuple #[]) ∧ w'.heap[g]? = some (.cells (hashObj (block st (y.extract 0 64).data.toList) r n) 155 (0, 0)) ∧ Below g w w') := by
        intro w hK hg
        exact mix_any st (y.extract 0 64) g _ _ w hok (by simp; omega) hK hg HG.out.2.2.2.1
      have H2 : Hid (Keys wr ∧ wr.heap[g]? = some (.cells (hashObj st r n) 155 (0, 0)) ∧ Below g w wr) := ⟨HG.out.2.1.below hb HG.out.2.2.2.1, hr, hb⟩
      have H3 : Hid ((block st (y.extract 0 64).data.toList).Ok ∧ absorb (block st (y.extract 0 64).data.toList) (y.extract 64 y.size).data.toList = A ∧ rest (y.extract 64 y.size).data.toList = R.data.toList) := by
        have hl : ¬ y.data.toList.length < 64 := by rw [ba_len]; omega
        refine ⟨block_ok _ _, ?_, ?_⟩
        · rw [head_list, tail_list, ← hab, absorb_ge st hl]
        · rw [tail_list, ← hre, rest_ge hl]
      have hsl := take_head y hlt
      have hst := take_tail y hlt
      clear hab hre hr hb hok
      generalize block st (y.extract 0 64).data.toList = st1 at *
      go_wp2
      go_region_with (go_at_call 152; refine (E.out wr.drew H2.out.1 H2.out.2.1).mono ?_; rintro e w4 ⟨rfl, hg4, hb4⟩)
      all_goals
        have H4 : Hid (w4.heap[g]? = some (.cells (hashObj st1 r n) 155 (0, 0)) ∧ Below g w w4) := ⟨hg4, H2.out.2.2.trans (below_drew hb4)⟩
        clear hg4 hb4
        go_wp2
        go_roundw
        case rel => exact ⟨st1, _, rfl, by simp; omega, H3.out.1, H3.out.2.1, H3.out.2.2, H4.out.1, H4.out.2⟩
        case measure => simp [strSize]; omega
    · have hl : y.data.toList.length < 64 := by rw [ba_len]; omega
      rw [absorb_lt st hl] at hab
      rw [rest_lt hl] at hre
      subst hab
      obtain rfl := ba_ext hre
      obtain ⟨hc, hf⟩ := hash_rest hr
      have H5 : Hid (wr.heap[g]? = some (.cells (hashObj st r n) 155 (0, 0)) ∧ Below g w wr) := ⟨hr, hb⟩
      clear hl hre hok hr hb HA H1 HG
      go_wp2
      go_end0
      exact ⟨rfl, hash_set8 H5.out.1 y, H5.out.2.setCell (Nat.le_refl _) _⟩

set_option maxHeartbeats 2000000 in
theorem add_any (s : H8) (r x : ByteArray) (n : Int) (g : Nat) (w : World) (hs : s.Ok) (hr : r.size ≤ 64) (hx : x.size ≤ 100000) (hn0 : 0 ≤ n) (hn : n ≤ 100000) (hK : Keys w) (hg : w.heap[g]? = some (.cells (hashObj s r n) 155 (0, 0))) (hgK : 2 < g) (R : ByteArray) (hR : R.data.toList = rest (r ++ x).data.toList) :
    Calls Tryd.prog 121 #[.pointer (some ⟨g, 0, none⟩), .string x] w fun e w' => e = .returned (.tuple #[]) ∧ w'.heap[g]? = some (.cells (hashObj (absorb s (r ++ x).data.toList) R (n + x.size)) 155 (0, 0)) ∧ Below g w w' := by
  obtain ⟨hc, hf⟩ := hash_len hg
  have H : Hid (∀ w, Keys w → w.heap[g]? = some (.cells (hashObj s r (n + x.size)) 155 (0, 0)) → Calls Tryd.prog 143 #[.pointer (some ⟨g, 0, none⟩), .string x] w fun e w' => e = .returned (.tuple #[]) ∧ w'.heap[g]? = some (.cells (hashObj (absorb s (r ++ x).data.toList) R (n + x.size)) 155 (0, 0)) ∧ Below g w w') := fun w h1 h2 => take_any s r x (n + x.size) g w hs hr hx h1 h2 hgK R hR
  have hb : Below g w (w.setCell ⟨g, 9, none⟩ (.int .u64 (n + x.size))) := (Below.refl g w).setCell (p := ⟨g, 9, none⟩) (Nat.le_refl g) _
  have HG : Hid (Keys (w.setCell ⟨g, 9, none⟩ (.int .u64 (n + x.size))) ∧ (w.setCell ⟨g, 9, none⟩ (.int .u64 (n + x.size))).heap[g]? = some (.cells (hashObj s r (n + x.size)) 155 (0, 0)) ∧ Below g w (w.setCell ⟨g, 9, none⟩ (.int .u64 (n + x.size)))) := ⟨hK.below hb hgK, hash_set9 hg _, hb⟩
  clear hK hg hgK hs hR hb
  go_enter Tryd.func121, Tryd.ntmps121
  go_wp2_with fail
  refine (H.out _ HG.out.1 HG.out.2.1).mono ?_
  rintro e w1 ⟨rfl, hg1, hb1⟩
  have H1 : Hid (_ ∧ Below g w w1) := ⟨hg1, HG.out.2.2.trans hb1⟩
  clear hg1 hb1
  go_wp2
  go_end0
  exact ⟨rfl, H1.out.1, H1.out.2⟩

theorem firstState_any (w : World) :
    Calls Tryd.prog 142 #[] w fun e w' => e = .returned (.agg first8.cells) ∧ Below w.heap.size w w' := by
  unfold first8 H8.cells
  go_enter Tryd.func142, Tryd.ntmps142
  go_wp2
  exact bodyPost_ret (v := .agg first8.cells) (by simp [results, Tryd.results142, go_sem, first8, H8.cells]) rfl ⟨rfl, (Below.refl _ _).alloc (Nat.le_refl _) _⟩

theorem newHash_any (w : World) :
    Calls Tryd.prog 120 #[] w fun e w' => ∃ g, e = .returned (.pointer (some ⟨g, 0, none⟩)) ∧ w.heap.size ≤ g ∧ w'.heap[g]? = some (.cells (hashObj first8 ByteArray.empty 0) 155 (0, 0)) ∧ Below w.heap.size w w' := by
  have E : Hid (∀ w, Calls Tryd.prog 142 #[] w fun e w' => e = .returned (.agg first8.cells) ∧ Below w.heap.size w w') := firstState_any
  unfold first8 H8.cells at E
  go_enter Tryd.func120, Tryd.ntmps120
  go_wp2_with fail
  refine (E.out _).mono ?_
  rintro e w1 ⟨rfl, hb1⟩
  go_wp2
  go_ret
  exact ⟨w1.heap.size, rfl, hb1.size, heap_alloc_new w1 _, hb1.alloc hb1.size _⟩
end Go.Proofs.YtchlopmmhcobdaaDoor
