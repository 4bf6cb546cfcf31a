/-
  What the laws do with ranges ahead of a call and behind it.
-/
import Derived.Test.YtchlopmmhcobdafDoorRangeV
import Derived.Test.YtchlopmmhcobdafDoorTextArg
namespace Go.Proofs.YtchlopmmhcobdafDoor
open Go.RowKit Go.Lib
set_option linter.unusedVariables false

/-- A struct of two cells. -/
theorem arr2 {cs : Array Value} {a b : Value} (h : cs.size = 2) (h0 : ((Value.agg cs).cells.toList.drop 0).take 1 = [a]) (h1 : ((Value.agg cs).cells.toList.drop 1).take 1 = [b]) : cs = #[a, b] := by
  have e : (Value.agg cs).cells = cs := rfl
  rw [e] at h0 h1
  obtain ⟨l⟩ := cs
  match l, h with
  | [x, y], _ => simp at h0 h1; rw [h0, h1]
set_option maxHeartbeats 400000 in
theorem szRange_any (size : Int) (v : Value) (l : List ByteArray) (w : World) (h : Texts w w.heap.size v l) (hl : l.length ≤ 9223372036854775807) (hz : ∀ j (h : j < l.length), l[j].size ≤ 9223372036854775807) :
    Calls Tryd.prog 19 #[.agg #[.int .i64 size, v], .int .i64 1048576] w fun e w' => SzAns l e ∧ Below w.heap.size w w' := by
  have hal : Below w.heap.size w (w.alloc (.cells #[.int .i64 size, v] 31)) := (Below.refl _ _).alloc (Nat.le_refl _) _
  have HAL : Hid (Below w.heap.size w (w.alloc (.cells #[.int .i64 size, v] 31))) := hal
  have E0 : Hid (Calls Tryd.prog 8 #[v, .int .i64 1048576] (w.alloc (.cells #[.int .i64 size, v] 31)) fun e w' => SzAns l e ∧ w' = w.alloc (.cells #[.int .i64 size, v] 31)) := sz_any v l 1048576 _ w.heap.size (h.below hal) hl hz (by omega) (by omega)
  obtain ⟨a, cap, rfl, hx, hy⟩ := h
  clear hx hy hal hl hz
  go_enter Tryd.func19, Tryd.ntmps19
  go_wp2_with fail
  refine E0.out.mono ?_
  rintro e w1 ⟨⟨r, rfl, hr0, hr1, hr⟩, hw1⟩
  have H1 : Hid (Below w.heap.size w w1 ∧ (r < 0 ∨ (l.length ≤ 1048576 ∧ ∀ j (h : j < l.length), l[j].size ≤ 1048576))) := ⟨by rw [hw1]; exact HAL.out, hr⟩
  clear hr hw1 E0 HAL
  by_cases hneg : r < 0
  · go_wp2
    go_ret
    exact ⟨⟨-1, rfl, by omega, by omega, .inl (by omega)⟩, H1.out.1⟩
  · go_wp2
    go_ret
    exact ⟨⟨r, rfl, hr0, hr1, H1.out.2⟩, H1.out.1⟩

theorem OwnS.setOther {w : World} {g : Nat} {v : Value} {l : List ByteArray} (h : OwnS w g v l) {p : Addr} (hp : ¬ g = p.block) (u : Value) : OwnS (w.setCell p u) g v l := ⟨h.1, (heap_setCell_other w p g u hp).trans h.2⟩
set_option maxHeartbeats 1000000 in
theorem toRange_any (size : Int) (v : Value) (l : List ByteArray) (w : World) (h : Texts w w.heap.size v l) (hl : l.length ≤ 1048576) :
    Calls Tryd.prog 21 #[.agg #[.int .i64 size, v]] w fun e w' => ∃ v' g, e = .returned (.agg #[.int .i64 size, v']) ∧ OwnS w' g v' l ∧ w.heap.size ≤ g ∧ Below w.heap.size w w' := by
  obtain ⟨W, hW⟩ : ∃ W, W = ((w.alloc (.cells #[.int .i64 size, v] 31)).alloc (.cells #[.int .i64 0, .slice none 0 0] 33)).alloc (.cells #[.int .i64 size, .slice none 0 0] 33) := ⟨_, rfl⟩
  have HW : Hid (W.heap[w.heap.size + 1]? = some (.cells #[.int .i64 0, .slice none 0 0] 33 (0, 0)) ∧ W.heap[w.heap.size + 2]? = some (.cells #[.int .i64 size, .slice none 0 0] 33 (0, 0)) ∧ Below w.heap.size w W ∧ w.heap.size + 2 < W.heap.size) := by
    subst hW
    have s1 : (w.alloc (.cells #[.int .i64 size, v] 31)).heap.size = w.heap.size + 1 := by simp
    have s2 : ((w.alloc (.cells #[.int .i64 size, v] 31)).alloc (.cells #[.int .i64 0, .slice none 0 0] 33)).heap.size = w.heap.size + 2 := by simp
    have h1 := heap_alloc_new (w.alloc (.cells #[.int .i64 size, v] 31)) (.cells #[.int .i64 0, .slice none 0 0] 33)
    have h2 := heap_alloc_new ((w.alloc (.cells #[.int .i64 size, v] 31)).alloc (.cells #[.int .i64 0, .slice none 0 0] 33)) (.cells #[.int .i64 size, .slice none 0 0] 33)
    rw [s1] at h1
    rw [s2] at h2
    exact ⟨(heap_alloc_old _ _ (by rw [s2]; omega)).trans h1, h2, (((Below.refl _ _).alloc (Nat.le_refl _) _).alloc (by rw [s1]; omega) _).alloc (by rw [s2]; omega) _, by simp⟩
  have E : Hid (Calls Tryd.prog 10 #[v] W fun e w' => ∃ v', e = .returned v' ∧ OwnS w' W.heap.size v' l ∧ Below W.heap.size W w') := toTexts_any v l W ((h.below HW.out.2.2.1).up HW.out.2.2.1.size) hl
  have HWE : Hid (W = ((w.alloc (.cells #[.int .i64 size, v] 31)).alloc (.cells #[.int .i64 0, .slice none 0 0] 33)).alloc (.cells #[.int .i64 size, .slice none 0 0] 33)) := hW
  obtain ⟨a, cap, rfl, hx, hy⟩ := h
  clear hx hy hW
  generalize l.length = L at *
  go_enter Tryd.func21, Tryd.ntmps21
  go_wp2_with fail
  rw [← HWE.out]
  clear HWE
  refine E.out.mono ?_
  rintro e w1 ⟨v', rfl, ho, hb1⟩
  obtain ⟨⟨c0, c1⟩, f0, f1⟩ := two_cells' hb1 (by have := HW.out.2.2.2; omega) HW.out.1
  obtain ⟨⟨d0, d1⟩, g0, g1⟩ := two_cells' hb1 HW.out.2.2.2 HW.out.2.1
  have H1 : Hid (Below w.heap.size w w1 ∧ OwnS w1 W.heap.size v' l ∧ w.heap.size + 2 < W.heap.size) := ⟨HW.out.2.2.1.trans (hb1.mono HW.out.2.2.1.size), ho, HW.out.2.2.2⟩
  obtain ⟨hv', hg'⟩ := ho
  subst hv'
  clear hb1 E HW hg'
  go_wp2
  refine bodyPost_ret (v := .agg #[.int .i64 size, .slice (some ⟨W.heap.size, 0, none⟩) l.length l.length]) (by simp [results, Tryd.results21, go_sem, c0, c1]) rfl ⟨_, W.heap.size, rfl, ?_, by have := H1.out.2.2; omega, ?_⟩
  · exact ((H1.out.2.1.setOther (show ¬ W.heap.size = w.heap.size + 1 + 1 by have := H1.out.2.2; omega) _).setOther (show ¬ W.heap.size = w.heap.size + 1 by have := H1.out.2.2; omega) _).setOther (show ¬ W.heap.size = w.heap.size + 1 by have := H1.out.2.2; omega) _
  · exact (((H1.out.1.setCell (by show w.heap.size ≤ w.heap.size + 1 + 1; omega) _).setCell (by show w.heap.size ≤ w.heap.size + 1; omega) _).setCell (by show w.heap.size ≤ w.heap.size + 1; omega) _)

set_option maxHeartbeats 1000000 in
theorem eqRange_any (size : Int) (v1 v2 : Value) (l : List ByteArray) (w : World) (h1 : Texts w w.heap.size v1 l) (h2 : Texts w w.heap.size v2 l) (hl : l.length ≤ 1048577) :
    Calls Tryd.prog 23 #[.agg #[.int .i64 size, v1], .agg #[.int .i64 size, v2]] w fun e w' => e = .returned (.bool true) ∧ Below w.heap.size w w' := by
  obtain ⟨W, hW⟩ : ∃ W, W = (w.alloc (.cells #[.int .i64 size, v1] 33)).alloc (.cells #[.int .i64 size, v2] 33) := ⟨_, rfl⟩
  have HW : Hid (Below w.heap.size w W) := by
    subst hW
    exact ((Below.refl _ _).alloc (Nat.le_refl _) _).alloc (by simp) _
  have E : Hid (∀ m, Calls Tryd.prog 12 #[v1, v2] (W.drewN m) fun e w' => e = .returned (.bool true) ∧ Below W.heap.size W w') := fun m => by
    have hb : Below w.heap.size w (W.drewN m) := ⟨HW.out.os, HW.out.tape, HW.out.output, HW.out.size, HW.out.block⟩
    refine (eqTexts_any v1 v2 l (W.drewN m) _ ((h1.below hb).up hb.size) ((h2.below hb).up hb.size) hl).mono ?_
    rintro e w' ⟨rfl, hb2⟩
    exact ⟨rfl, ⟨hb2.os, hb2.tape, hb2.output, hb2.size, hb2.block⟩⟩
  have E' : Hid (Calls Tryd.prog 12 #[v1, v2] W fun e w' => e = .returned (.bool true) ∧ Below W.heap.size W w') := E.out 0
  have HWE : Hid (W = (w.alloc (.cells #[.int .i64 size, v1] 33)).alloc (.cells #[.int .i64 size, v2] 33)) := hW
  obtain ⟨a1, cap1, rfl, hx1, hy1⟩ := h1
  obtain ⟨a2, cap2, rfl, hx2, hy2⟩ := h2
  clear hx1 hy1 hx2 hy2 hW
  generalize l.length = L at *
  go_enter Tryd.func23, Tryd.ntmps23
  go_wp2_with fail
  rw [← HWE.out]
  clear HWE
  refine E'.out.mono ?_
  rintro e w1 ⟨rfl, hb1⟩
  have H1 : Hid (Below w.heap.size w w1) := HW.out.trans (hb1.mono HW.out.size)
  clear hb1 E E'
  go_wp2
  go_ret
  exact ⟨rfl, H1.out⟩
end Go.Proofs.YtchlopmmhcobdafDoor
