/-
  The draws of chapter 5: a seed.
-/
import Derived.Test.YtollfcjbcfnfdaaDoorPkDrawSome
import Derived.Deep.RegionWith
namespace Go.Proofs.YtollfcjbcfnfdaaDoor
open Go.RowKit Go.Lib
set_option linter.unusedVariables false
set_option linter.unusedSimpArgs false

/-- A text of at most m bytes; the source stays one, and nothing else has turned. -/
def ShortAns (m : Nat) (q : Nat) (w : World) (e : Ending) (w' : World) : Prop := ∃ t : ByteArray, e = .returned (.string t) ∧ t.size ≤ m ∧ Src w' q ∧ w.grownBy w' (some q)
theorem ShortAns.after {m q : Nat} {w w1 w' : World} {e : Ending} (h : ShortAns m q w1 e w') (hg : w.grownBy w1 (some q)) : ShortAns m q w e w' := by
  obtain ⟨t, h1, h2, h3, h4⟩ := h
  exact ⟨t, h1, h2, h3, grown_trans hg h4⟩
theorem three_texts (w : World) (a b c : ByteArray) : ∀ j (hj : j < [a, b, c].length), (w.alloc (.cells #[.string a, .string b, .string c] 9)).cell? ⟨w.heap.size, j, none⟩ = some (.string [a, b, c][j]) := fun j hj => by
  rw [cell_of_row _ _ j _ _ _ (heap_alloc_new w _)]
  have : j = 0 ∨ j = 1 ∨ j = 2 := by simp at hj; omega
  rcases this with rfl | rfl | rfl <;> rfl
/-- A row of zeros is made and turned to a text, in whatever world. -/
theorem zeros_row (n : Nat) (hn : n ≤ 1073741824) : ∃ Z : Obj, (∀ w : World, (Instr.makeSlice 22 (.int .i64 (n : Int)) (.int .i64 (n : Int))).run Tryd.prog w = .ok (.slice (some ⟨w.heap.size, 0, none⟩) n n) (w.alloc Z)) ∧
    ∀ (w : World) (b : Nat), w.heap[b]? = some Z → (convert 22 9 (.slice (some ⟨b, 0, none⟩) n n)).run Tryd.prog w = .ok (.string ⟨(List.replicate n 0).toArray⟩) w := by
  obtain ⟨i0, hi, hz0, hz1, hz2⟩ := info_parts infoByte
  refine ⟨.cells (madeCells (Value.int IntKind.u8 0).cells (n * i0.size)) 5, fun w => ?_, fun w b hb => ?_⟩
  · have h := run_make (P := Tryd.prog) w 22 5 i0 (.int .u8 0) Tryd.underlying22 hi hz0 .i64 .i64 n n (by omega) (by omega) (by rw [hz2]; omega) (by omega)
    simp only [Int.toNat_natCast] at h
    exact h
  · refine conv_text _ b n n (List.replicate n 0) (madeCells (Value.int IntKind.u8 0).cells (n * i0.size)) _ _ hb ?_ (by simp)
    have e : (madeCells (Value.int IntKind.u8 0).cells (n * i0.size)).toList = List.replicate n (.int .u8 0) := by
      rw [hz1, Nat.mul_one]; exact toList_madeCells_one _ _
    rw [e, List.take_of_length_le (by simp)]
    simp [byteCells]

set_option maxHeartbeats 2000000 in
set_option maxRecDepth 10000 in
theorem seed_any (q : Nat) (w : World) (h : Src w q) :
    Calls Tryd.prog 61 #[.pointer (some ⟨q, 0, none⟩)] w fun e w' => ShortAns 65 q w e w' := by
  have EO : Hid (∀ w', Src w' q → Calls Tryd.prog 51 #[.pointer (some ⟨q, 0, none⟩), .int .i64 12] w' fun e w'' => BoolAns q w' e w'') := fun w' h => one_any q 12 w' h (by omega)
  have EP : Hid (∀ (a b c : ByteArray) w', Src w' q → a.size ≤ 65 → b.size ≤ 65 → c.size ≤ 65 → Calls Tryd.prog 78 #[.pointer (some ⟨q, 0, none⟩), .slice (some ⟨w'.heap.size, 0, none⟩) 3 3] (w'.alloc (.cells #[.string a, .string b, .string c] 9)) fun e w'' => ShortAns 65 q w' e w'') := fun a b c w' h ha hb hc =>
    (pick_any q w'.heap.size [a, b, c] _ (h.below ((Below.refl _ _).alloc (Nat.le_refl _) _) h.lt) (by simp) (by simp) h.lt (three_texts w' a b c)).mono fun e w'' ⟨t, h1, h2, h3, h4⟩ => ⟨t, h1, by
      simp at h2
      rcases h2 with rfl | rfl | rfl <;> assumption, h3, grown_trans (World.grownBy_alloc w' _ _) h4⟩
  have HS : Hid (Src w q) := h
  clear h
  go_enter Tryd.func61, Tryd.ntmps61
  go_wp2_with fail
  refine (EO.out _ HS.out).mono ?_
  rintro e w1 ⟨b, rfl, hs1, hg1⟩
  have H1 : Hid (Src w1 q ∧ w.grownBy w1 (some q)) := ⟨hs1, hg1⟩
  clear hs1 hg1
  cases b with
  | false =>
    go_wp2_with fail
    refine (EP.out _ _ _ _ H1.out.1 (by decide) (by decide) (by decide)).mono ?_
    intro e w2 hA
    have HA : Hid (ShortAns 65 q w e w2) := hA.after H1.out.2
    obtain ⟨t, rfl, _⟩ := hA
    go_wp2
    go_ret
    exact HA.out
  | true =>
    obtain ⟨Z1, mk1, cv1⟩ := zeros_row 64 (by omega)
    obtain ⟨Z2, mk2, cv2⟩ := zeros_row 65 (by omega)
    have n64 : (⟨(List.replicate 64 0).toArray⟩ : ByteArray).size ≤ 65 := by simp [ByteArray.size]
    have n65 : (⟨(List.replicate 65 0).toArray⟩ : ByteArray).size ≤ 65 := by simp [ByteArray.size]
    have x1 := cv1 (w1.alloc Z1).drew w1.heap.size (heap_alloc_new w1 Z1)
    have x2 := cv2 (w1.alloc Z2).drew w1.heap.size (heap_alloc_new w1 Z2)
    have x3 := cv1 ((w1.alloc Z1).alloc Z2).drew w1.heap.size ((heap_alloc_old (w1.alloc Z1) Z2 (by simp)).trans (heap_alloc_new w1 Z1))
    have x4 := cv2 ((w1.alloc Z2).alloc Z1).drew w1.heap.size ((heap_alloc_old (w1.alloc Z2) Z1 (by simp)).trans (heap_alloc_new w1 Z2))
    have y5 := heap_alloc_new (w1.alloc Z1) Z2
    have y6 := heap_alloc_new (w1.alloc Z2) Z1
    rw [show (w1.alloc Z1).heap.size = w1.heap.size + 1 by simp] at y5
    rw [show (w1.alloc Z2).heap.size = w1.heap.size + 1 by simp] at y6
    have x5 := cv2 ((w1.alloc Z1).alloc Z2).drew (w1.heap.size + 1) y5
    have x6 := cv1 ((w1.alloc Z2).alloc Z1).drew (w1.heap.size + 1) y6
    clear y5 y6
    have hgr : ∀ A B : Obj, Src ((w1.alloc A).alloc B).drew q ∧ w.grownBy ((w1.alloc A).alloc B).drew (some q) := fun A B => by
      have hb : Below w1.heap.size w1 ((w1.alloc A).alloc B).drew := below_drew' (((Below.refl _ _).alloc (Nat.le_refl _) _).alloc (by simp) _)
      exact ⟨H1.out.1.below hb H1.out.1.lt, grown_below H1.out.2 (hb.mono H1.out.2.size)⟩
    have G12 := hgr Z1 Z2
    have G21 := hgr Z2 Z1
    generalize (⟨(List.replicate 64 0).toArray⟩ : ByteArray) = T1 at *
    generalize (⟨(List.replicate 65 0).toArray⟩ : ByteArray) = T2 at *
    have P12 := EP.out ⟨#[]⟩ T1 T2 _ G12.1 (by decide) n64 n65
    have P21 := EP.out ⟨#[]⟩ T1 T2 _ G21.1 (by decide) n64 n65
    have hz12 : ((w1.alloc Z1).alloc Z2).drew.heap.size = w1.heap.size + 1 + 1 := by simp
    have hz21 : ((w1.alloc Z2).alloc Z1).drew.heap.size = w1.heap.size + 1 + 1 := by simp
    rw [hz12] at P12
    rw [hz21] at P21
    have HP12 : Hid (Calls Tryd.prog 78 #[.pointer (some ⟨q, 0, none⟩), .slice (some ⟨w1.heap.size + 1 + 1, 0, none⟩) 3 3] (((w1.alloc Z1).alloc Z2).alloc (.cells #[.string ⟨#[]⟩, .string T1, .string T2] 9)).drew fun e w'' => ShortAns 65 q w e w'') := P12.mono fun e w' h => h.after G12.2
    have HP21 : Hid (Calls Tryd.prog 78 #[.pointer (some ⟨q, 0, none⟩), .slice (some ⟨w1.heap.size + 1 + 1, 0, none⟩) 3 3] (((w1.alloc Z2).alloc Z1).alloc (.cells #[.string ⟨#[]⟩, .string T1, .string T2] 9)).drew fun e w'' => ShortAns 65 q w e w'') := P21.mono fun e w' h => h.after G21.2
    have mk1' : ∀ w : World, (Instr.makeSlice 22 (.int .i64 64) (.int .i64 64)).run Tryd.prog w = .ok (.slice (some ⟨w.heap.size, 0, none⟩) 64 64) (w.alloc Z1) := mk1
    have mk2' : ∀ w : World, (Instr.makeSlice 22 (.int .i64 65) (.int .i64 65)).run Tryd.prog w = .ok (.slice (some ⟨w.heap.size, 0, none⟩) 65 65) (w.alloc Z2) := mk2
    clear cv1 cv2 hgr G12 G21 P12 P21 hz12 hz21 mk1 mk2 n64 n65
    go_wp2_with fail
    go_region_with (first
      | (go_at_call 78; (with_reducible refine HP12.out.mono ?_); intro e w2 hA; have HA : Hid (ShortAns 65 q w e w2) := hA; obtain ⟨t, rfl, _⟩ := hA)
      | (go_at_call 78; (with_reducible refine HP21.out.mono ?_); intro e w2 hA; have HA : Hid (ShortAns 65 q w e w2) := hA; obtain ⟨t, rfl, _⟩ := hA))
    all_goals
      go_wp2
      go_ret
      exact HA.out

end Go.Proofs.YtollfcjbcfnfdaaDoor
