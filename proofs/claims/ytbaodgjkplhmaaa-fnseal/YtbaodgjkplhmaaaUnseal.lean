/-
  The walks of the program's Unseal.
-/
import Derived.Test.YtbaodgjkplhmaaaSeal
import Derived.Deep.RegionWith
import Derived.BigRegion
namespace Go.Proofs.Ytbaodgjkplhmaaa
open Go.RowKit Go.Lib
set_option linter.unusedVariables false

theorem slice_tail (s : ByteArray) (h2 : 4 ≤ (s.size : Int)) (w : World) : (Instr.slice 9 (.string s) (some (.int .i64 ((s.size : Int) - 4))) none none).run Try.prog w = .ok (.string (s.extract (s.size - 4) s.size)) w := by
  rw [run_slice_string_l w 9 s Try.underlying9 .i64 _ (by omega) (by omega)]
  rw [show ((s.size : Int) - 4).toNat = s.size - 4 by omega]

theorem slice_head (s : ByteArray) (h2 : 4 ≤ (s.size : Int)) (w : World) : (Instr.slice 9 (.string s) none (some (.int .i64 ((s.size : Int) - 4))) none).run Try.prog w = .ok (.string (s.extract 0 (s.size - 4))) w := by
  rw [run_slice_string_h w 9 s Try.underlying9 .i64 _ (by omega) (by omega)]
  rw [show ((s.size : Int) - 4).toNat = s.size - 4 by omega]

/-- What Unseal answers, by how the sum compares. -/
def unV (s : ByteArray) (q : Bool) : Value := if q then .agg #[.string (s.extract 0 (s.size - 4)), .int .i64 0, .int .i64 0] else .agg #[.string ⟨#[]⟩, .int .i64 0, .int .i64 5]

/-- Does the sum of all but the last four bytes stand in these? -/
def sumRight (s : ByteArray) : Bool := (fourS (crcOf 0 (s.extract 0 (s.size - 4)).data.toList)).toList == (s.extract (s.size - 4) s.size).toList
/-- What Unseal answers: the text and the code. -/
def unT (s : ByteArray) : ByteArray := if 20000 < (s.size : Int) ∨ (s.size : Int) < 4 ∨ sumRight s = false then ⟨#[]⟩ else s.extract 0 (s.size - 4)
def unC (s : ByteArray) : Int := if 20000 < (s.size : Int) then 2 else if (s.size : Int) < 4 then 4 else if sumRight s = false then 5 else 0
def unOut (t : ByteArray) (c : Int) : Value := .agg #[.string t, .int .i64 0, .int .i64 c]

theorem unV_out {s : ByteArray} (h1 : ¬ 20000 < (s.size : Int)) (h2 : ¬ (s.size : Int) < 4) : unV s (sumRight s) = unOut (unT s) (unC s) := by
  unfold unV unOut unT unC
  cases h : sumRight s
  · simp [h1, h2]
  · simp [h1, h2]

set_option maxHeartbeats 400000 in
theorem implUnseal_mid (s : ByteArray) (w : World) (h1 : s.size ≤ 20000) (h2 : 4 ≤ (s.size : Int)) (f : ByteArray) (q : Bool) (hq : (f.toList == (s.extract (s.size - 4) s.size).toList) = q)
    (HE2 : Hid (∀ w, Calls Try.prog 18 #[.string (s.extract 0 (s.size - 4))] w fun e w' => e = .returned (.string f) ∧ Below w.heap.size w w'))
    (HE3 : Hid (∀ w, Calls Try.prog 17 #[.string (s.extract 0 (s.size - 4)), .string ⟨#[]⟩] w fun e w' => e = .returned (.string (s.extract 0 (s.size - 4))) ∧ Below w.heap.size w w')) :
    Calls Try.prog 8 #[.string s] w fun e w' => e = .returned (unV s q) ∧ Below w.heap.size w w' := by
  have hsl := slice_tail s h2
  have hsh := slice_head s h2
  have hz0 : (0 : Int) ≤ (s.size : Int) - 4 := by omega
  have hz1 : (s.size : Int) - 4 ≤ (s.size : Int) := by omega
  have hwr : IntKind.i64.wrap ((s.size : Int) - 4) = (s.size : Int) - 4 := by rw [IntKind.wrap_i64]; omega
  cases q
  · go_enter Try.func8, Try.ntmps8
    go_wp2_with fail
    go_region_with (go_at_call 18; refine (HE2.out _).mono ?_; rintro e w1 ⟨rfl, hb⟩)
    all_goals
      obtain ⟨⟨c0, c1, c2⟩, f0, f1, f2⟩ := three_cells hb (g := w.heap.size) (by simp) (MapKept.heap_alloc w _).1
      have HB : Hid (Below w.heap.size w w1) := below_after (below_drew hb)
      clear hb
      go_wp2
      refine bodyPost_ret (by simp [results, Try.results8, go_sem, c0, c1, c2]; rfl) rfl ⟨rfl, ?_⟩
      exact ((HB.out.setCell (Nat.le_refl _) _).setCell (Nat.le_refl _) _).setCell (Nat.le_refl _) _
  · go_enter Try.func8, Try.ntmps8
    go_wp2_with fail
    go_region_with (go_at_call 18; refine (HE2.out _).mono ?_; rintro e w1 ⟨rfl, hb⟩)
    all_goals
      have hg1 : w1.heap[w.heap.size]? = _ := (hb.block w.heap.size (by simp)).trans (MapKept.heap_alloc w _).1
      have hlt : w.heap.size < w1.heap.size := by have := hb.size; simp at this; omega
      have HB : Hid (Below w.heap.size w w1) := below_after (below_drew hb)
      clear hb
      have HG : Hid (w1.heap[w.heap.size]? = _) := hg1
      clear hg1
      go_wp2_with fail
      refine (HE3.out _).mono ?_
      rintro e w2 ⟨rfl, hb2⟩
      obtain ⟨⟨c0, c1, c2⟩, f0, f1, f2⟩ := three_cells hb2 hlt HG.out
      have HB2 : Hid (Below w.heap.size w w2) := HB.out.trans (hb2.mono (by omega))
      clear hb2 hlt HG HB
      go_wp2
      refine bodyPost_ret (by simp [results, Try.results8, go_sem, c0, c1, c2]; rfl) rfl ⟨rfl, ?_⟩
      exact ((HB2.out.setCell (Nat.le_refl _) _).setCell (Nat.le_refl _) _).setCell (Nat.le_refl _) _
set_option maxHeartbeats 400000 in
theorem implUnseal_small (s : ByteArray) (w : World) (h : (s.size : Int) < 4) :
    Calls Try.prog 8 #[.string s] w fun e w' => e = .returned (.agg #[.string ⟨#[]⟩, .int .i64 0, .int .i64 4]) ∧ Below w.heap.size w w' := by
  go_enter Try.func8, Try.ntmps8
  go_wp2
  exact bodyPost_ret (v := .agg #[.string ⟨#[]⟩, .int .i64 0, .int .i64 4]) (by simp [results, Try.results8, go_sem]) rfl ⟨rfl, (Below.refl _ _).alloc (Nat.le_refl _) _⟩
set_option maxHeartbeats 400000 in
theorem implUnseal_big (s : ByteArray) (w : World) (hs : s.size ≤ 1048576) (h : 20000 < (s.size : Int)) :
    Calls Try.prog 8 #[.string s] w fun e w' => e = .returned (.agg #[.string ⟨#[]⟩, .int .i64 0, .int .i64 2]) ∧ Below w.heap.size w w' := by
  go_enter Try.func8, Try.ntmps8
  go_wp2
  exact bodyPost_ret (v := .agg #[.string ⟨#[]⟩, .int .i64 0, .int .i64 2]) (by simp [results, Try.results8, go_sem]) rfl ⟨rfl, (Below.refl _ _).alloc (Nat.le_refl _) _⟩

theorem implUnseal (s : ByteArray) (w : World) (hs : s.size ≤ 1048576) :
    Calls Try.prog 8 #[.string s] w fun e w' => e = .returned (unOut (unT s) (unC s)) ∧ Below w.heap.size w w' := by
  by_cases h1 : 20000 < (s.size : Int)
  · have e1 : unT s = ⟨#[]⟩ := by unfold unT; rw [if_pos (.inl h1)]
    have e2 : unC s = 2 := by unfold unC; rw [if_pos h1]
    rw [e1, e2]
    exact implUnseal_big s w hs h1
  by_cases h2 : (s.size : Int) < 4
  · have e1 : unT s = ⟨#[]⟩ := by unfold unT; rw [if_pos (.inr (.inl h2))]
    have e2 : unC s = 4 := by unfold unC; rw [if_neg h1, if_pos h2]
    rw [e1, e2]
    exact implUnseal_small s w h2
  rw [← unV_out h1 h2]
  have hz : (s.extract 0 (s.size - 4)).size ≤ 20000 := by simp; omega
  have ev : crcV 0 (s.extract 0 (s.size - 4)) = crcOf 0 (s.extract 0 (s.size - 4)).data.toList := by unfold crcV; rw [if_neg (by omega)]
  refine implUnseal_mid s w (by omega) (by omega) (fourS (crcOf 0 (s.extract 0 (s.size - 4)).data.toList)) _ rfl (fun w => ?_) (fun w => ?_)
  · rw [← ev]; exact sumOf_any _ w (by omega)
  · refine (joined_any (s.extract 0 (s.size - 4)) ⟨#[]⟩ w (by omega) (Nat.zero_le _)).mono fun e w' ⟨he, hw⟩ => ⟨?_, hw⟩
    rw [he]
    exact ret_str (by apply ByteArray.ext; simp [ByteArray.data_append])
end Go.Proofs.Ytbaodgjkplhmaaa
