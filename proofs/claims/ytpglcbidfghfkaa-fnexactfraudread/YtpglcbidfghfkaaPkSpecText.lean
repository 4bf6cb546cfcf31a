/-
  The walk of the document's GetText.
-/
import Derived.Test.YtpglcbidfghfkaaPkReadText
import Derived.Test.YtpglcbidfghfkaaPkSpecNum
import Derived.RegionTactic
import Derived.BigRegion
namespace Go.Proofs.Ytpglcbidfghfkaa
open Go.RowKit Go.Lib
set_option linter.unusedVariables false

set_option maxHeartbeats 1000000 in
theorem specText_of (s : ByteArray) (k : Int) (w : World) (n a c : Int)
    (HE : Hid (∀ w, Calls Try.prog 36 #[.string s, .int .i64 k] w fun e w' => e = .returned (.agg #[.int .i64 n, .int .i64 a, .int .i64 c]) ∧ Below w.heap.size w w'))
    (hp : c = 0 → 0 ≤ a ∧ a ≤ s.size ∧ ¬ 20000 < (s.size : Int)) :
    Calls Try.prog 37 #[.string s, .int .i64 k] w fun e w' => e = .returned (textV (textOf s (n, a, c))) ∧ Below w.heap.size w w' := by
  by_cases hc : c = 0
  rotate_left
  · have e : textOf s (n, a, c) = (⟨#[]⟩, 0, c) := by unfold textOf; rw [if_pos hc]
    rw [e]
    have hcb : (c != 0) = true := by simp [hc]
    clear hp e hc
    go_enter Try.func37, Try.ntmps37
    go_wp2_with fail
    refine (HE.out _).mono ?_
    rintro e w1 ⟨rfl, hb⟩
    obtain ⟨⟨c0, c1, c2⟩, f0, f1, f2⟩ := three_any hb (g := w.heap.size) (by simp) (MapKept.heap_alloc w _).1
    have HB : Hid (Below w.heap.size w w1) := below_after hb
    have hlt : w.heap.size < w1.heap.size := by have := hb.size; simp at this; omega
    clear hb
    go_wp2
    refine bodyPost_ret (v := textV (⟨#[]⟩, 0, c)) (by simp [results, Try.results37, go_sem, textV, c0, c1, c2, hlt]) rfl ⟨rfl, ?_⟩
    refine Below.alloc ?_ (by simp; omega) _
    exact ((HB.out.setCell (Nat.le_refl _) _).setCell (Nat.le_refl _) _).setCell (Nat.le_refl _) _
  · subst hc
    obtain ⟨ha0, ha1, hs⟩ := hp rfl
    by_cases hn : n < 0 ∨ 20000 < n
    · have e : textOf s (n, a, 0) = (⟨#[]⟩, 0, 3) := by unfold textOf; rw [if_neg (by simp), if_pos hn]
      rw [e]
      clear hp e
      rcases hn with hn | hn
      all_goals
        go_enter Try.func37, Try.ntmps37
        go_wp2_with fail
        refine (HE.out _).mono ?_
        rintro e w1 ⟨rfl, hb⟩
        obtain ⟨⟨c0, c1, c2⟩, f0, f1, f2⟩ := three_any hb (g := w.heap.size) (by simp) (MapKept.heap_alloc w _).1
        have HB : Hid (Below w.heap.size w w1) := below_after hb
        have hlt : w.heap.size < w1.heap.size := by have := hb.size; simp at this; omega
        clear hb
        go_wp2
        refine bodyPost_ret (v := textV (⟨#[]⟩, 0, 3)) (by simp [results, Try.results37, go_sem, textV, c0, c1, c2, hlt]) rfl ⟨rfl, ?_⟩
        refine Below.alloc ?_ (by simp; omega) _
        exact ((HB.out.setCell (Nat.le_refl _) _).setCell (Nat.le_refl _) _).setCell (Nat.le_refl _) _
    by_cases hl : (s.size : Int) - n < a
    · have e : textOf s (n, a, 0) = (⟨#[]⟩, 0, 4) := by unfold textOf; rw [if_neg (by simp), if_neg hn, if_pos hl]
      rw [e]
      have hn0 : 0 ≤ n := by omega
      have hn1 : n ≤ 20000 := by omega
      clear hp e hn
      go_enter Try.func37, Try.ntmps37
      go_wp2_with fail
      refine (HE.out _).mono ?_
      rintro e w1 ⟨rfl, hb⟩
      obtain ⟨⟨c0, c1, c2⟩, f0, f1, f2⟩ := three_any hb (g := w.heap.size) (by simp) (MapKept.heap_alloc w _).1
      have HB : Hid (Below w.heap.size w w1) := below_after hb
      have hlt : w.heap.size < w1.heap.size := by have := hb.size; simp at this; omega
      clear hb
      go_wp2
      refine bodyPost_ret (v := textV (⟨#[]⟩, 0, 4)) (by simp [results, Try.results37, go_sem, textV, c0, c1, c2, hlt]) rfl ⟨rfl, ?_⟩
      refine Below.alloc ?_ (by simp; omega) _
      exact ((HB.out.setCell (Nat.le_refl _) _).setCell (Nat.le_refl _) _).setCell (Nat.le_refl _) _
    have e : textOf s (n, a, 0) = (s.extract a.toNat (a + n).toNat, a + n, 0) := by unfold textOf; rw [if_neg (by simp), if_neg hn, if_neg hl]
    rw [e]
    have hn0 : 0 ≤ n := by omega
    have hn1 : n ≤ 20000 := by omega
    have hl' : a ≤ (s.size : Int) - n := by omega
    have hsl := slice_of (s := s) hn0 ha0 (by omega)
    have hwr : IntKind.i64.wrap (a + n) = a + n := by rw [IntKind.wrap_i64]; omega
    clear hp e hn hl
    go_enter Try.func37, Try.ntmps37
    go_wp2_with fail
    refine (HE.out _).mono ?_
    rintro e w1 ⟨rfl, hb⟩
    obtain ⟨⟨c0, c1, c2⟩, f0, f1, f2⟩ := three_any hb (g := w.heap.size) (by simp) (MapKept.heap_alloc w _).1
    have HB : Hid (Below w.heap.size w w1) := below_after hb
    have hlt : w.heap.size < w1.heap.size := by have := hb.size; simp at this; omega
    clear hb
    go_wp2
    go_region
    all_goals go_wp2
    refine bodyPost_ret (v := textV (s.extract a.toNat (a + n).toNat, a + n, 0)) (by simp [results, Try.results37, go_sem, textV, c0, c1, c2, hlt]) rfl ⟨rfl, ?_⟩
    refine Below.drew ?_
    refine Below.alloc ?_ (by simp; omega) _
    exact ((HB.out.setCell (Nat.le_refl _) _).setCell (Nat.le_refl _) _).setCell (Nat.le_refl _) _

theorem specText (s : ByteArray) (k : Int) (w : World) (hs : s.size ≤ 1048576) (hk : k ≤ 9223372036854775807) :
    Calls Try.prog 37 #[.string s, .int .i64 k] w fun e w' => e = .returned (textV (textOf s (numR s k))) ∧ Below w.heap.size w w' :=
  specText_of s k w _ _ _ (fun w => specNum s k w hs hk) (numR_place s k)

end Go.Proofs.Ytpglcbidfghfkaa
