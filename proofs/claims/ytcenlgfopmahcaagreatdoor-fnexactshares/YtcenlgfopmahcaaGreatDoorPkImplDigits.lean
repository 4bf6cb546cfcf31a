/-
  The program's digits of a text.
-/
import Derived.Test.YtcenlgfopmahcaaGreatDoorPkAgrees
import Derived.Test.YtcenlgfopmahcaaGreatDoorPkMix
import Derived.BigRegion
import Derived.RegionTactic
namespace Go.Proofs.YtcenlgfopmahcaaGreatDoor
open Go.RowKit Go.Lib
set_option linter.unusedVariables false
set_option linter.unusedSimpArgs false

/-- A block of six cells that was laid ahead of a call lies there behind it. -/
theorem six_cells {B g : Nat} {W w1 : World} {a b c d e f : Value} {t : TypeId} (hb : Below B W w1) (hB : g < B) (hW : W.heap[g]? = some (.cells #[a, b, c, d, e, f] t (0, 0))) :
    (w1.cell? ⟨g, 0, none⟩ = some a ∧ w1.cell? ⟨g, 1, none⟩ = some b ∧ w1.cell? ⟨g, 2, none⟩ = some c ∧ w1.cell? ⟨g, 3, none⟩ = some d ∧ w1.cell? ⟨g, 4, none⟩ = some e ∧ w1.cell? ⟨g, 5, none⟩ = some f) ∧
    w1.frozen? ⟨g, 0, none⟩ = false ∧ w1.frozen? ⟨g, 1, none⟩ = false ∧ w1.frozen? ⟨g, 2, none⟩ = false ∧ w1.frozen? ⟨g, 3, none⟩ = false ∧ w1.frozen? ⟨g, 4, none⟩ = false ∧ w1.frozen? ⟨g, 5, none⟩ = false := by
  have h := (hb.block g hB).trans hW
  simp [World.cell?, World.frozen?, h]
theorem infoDigits : (Tryz.prog.info? 147).map (·.size) = some 6 := by kernel_rfl
/-- A block of six cells is laid behind the answer's block. -/
theorem laid6 (w1 : World) (g : Nat) (a b c d e f : Value) (t : TypeId) (z : Value) (hg : w1.heap[g]? = some (.cells #[z, z, z, z, z, z] t (0, 0))) :
    ∃ W n, w1.alloc (.cells #[a, b, c, d, e, f] t) = W ∧ n = w1.heap.size ∧ W.heap.size = n + 1 ∧ g < n ∧ W.heap[n]? = some (.cells #[a, b, c, d, e, f] t (0, 0)) ∧ W.heap[g]? = some (.cells #[z, z, z, z, z, z] t (0, 0)) ∧ Below w1.heap.size w1 W :=
  have hl := (Array.getElem?_eq_some_iff.1 hg).1
  ⟨_, _, rfl, rfl, by simp, hl, heap_alloc_new w1 _, (heap_alloc_old w1 _ hl).trans hg, (Below.refl _ _).alloc (Nat.le_refl _) _⟩
theorem six_of {w1 : World} {g : Nat} {a b c d e f : Value} {t : TypeId} (h : w1.heap[g]? = some (.cells #[a, b, c, d, e, f] t (0, 0))) :
    (w1.cell? ⟨g, 0, none⟩ = some a ∧ w1.cell? ⟨g, 1, none⟩ = some b ∧ w1.cell? ⟨g, 2, none⟩ = some c ∧ w1.cell? ⟨g, 3, none⟩ = some d ∧ w1.cell? ⟨g, 4, none⟩ = some e ∧ w1.cell? ⟨g, 5, none⟩ = some f) ∧
    w1.frozen? ⟨g, 0, none⟩ = false ∧ w1.frozen? ⟨g, 1, none⟩ = false ∧ w1.frozen? ⟨g, 2, none⟩ = false ∧ w1.frozen? ⟨g, 3, none⟩ = false ∧ w1.frozen? ⟨g, 4, none⟩ = false ∧ w1.frozen? ⟨g, 5, none⟩ = false := by
  simp [World.cell?, World.frozen?, h]
theorem set45 {w : World} {g h : Nat} {t : TypeId} {a b c d e f y4 y5 z : Value} (hg : w.heap[g]? = some (.cells #[a, b, c, d, e, f] t (0, 0))) (hh : w.heap[h]? = some (.cells #[z, z, z, z, z, z] t (0, 0))) (hne : g ≠ h) :
    ((w.setCell ⟨g, 4, none⟩ y4).setCell ⟨g, 5, none⟩ y5).heap[g]? = some (.cells #[a, b, c, d, y4, y5] t (0, 0)) ∧ ((w.setCell ⟨g, 4, none⟩ y4).setCell ⟨g, 5, none⟩ y5).heap[h]? = some (.cells #[z, z, z, z, z, z] t (0, 0)) := by
  have h0 := heap_setCell_same w g 4 _ t y4 hg
  have h1 := heap_setCell_same _ g 5 _ t y5 h0
  refine ⟨by rw [h1]; simp, ?_⟩
  rw [heap_setCell_other _ _ _ _ (by simpa using fun e => hne e.symm), heap_setCell_other _ _ _ _ (by simpa using fun e => hne e.symm)]
  exact hh
def digCells (t : ByteArray) : Array Value := #[.int .i64 (digI t 0), .int .i64 (digI t 1), .int .i64 (digI t 2), .int .i64 (digI t 3), .int .i64 (digI t 4), .int .i64 (digI t 5)]

set_option maxHeartbeats 1000000 in
set_option maxRecDepth 10000 in
theorem digitsOf_any (t : ByteArray) (w : World) (ht : t.size ≤ 20000) (hK : Keys w) :
    Calls Tryz.prog 114 #[.string t] w fun e w' => e = .returned (.agg (digCells t)) ∧ Below w.heap.size w w' := by
  have E := fun w hK => implDigest_any t w (by omega) hK
  have ed : digV t = shaB t := by unfold digV; rw [if_neg (by omega)]
  rw [ed] at E
  unfold digCells digI
  have hz := shaB_size t
  obtain ⟨hx0, hx1⟩ := byteL_bd (shaB t).data.toList 0
  obtain ⟨hy0, hy1⟩ := byteL_bd (shaB t).data.toList 1
  have hi0 := fun w => index_text (shaB t) 0 0 rfl (by omega) w
  have hi1 := fun w => index_text (shaB t) 1 1 rfl (by omega) w
  generalize byteL (shaB t).data.toList 0 = x at *
  generalize byteL (shaB t).data.toList 1 = y at *
  have HE : Hid (∀ w, Keys w → Calls Tryz.prog 126 #[.string t] w fun e w' => e = .returned (.string (shaB t)) ∧ Below w.heap.size w w') := E
  generalize shaB t = D at *
  have HK : Hid (Keys (w.alloc (.cells #[.int .i64 0, .int .i64 0, .int .i64 0, .int .i64 0, .int .i64 0, .int .i64 0] 147))) := hK.below ((Below.refl w.heap.size w).alloc (Nat.le_refl _) _) hK.lt
  clear E ed hK hz
  go_enter Tryz.func114, Tryz.ntmps114
  go_wp2_with fail
  refine (HE.out _ HK.out).mono ?_
  rintro e w1 ⟨rfl, hb1⟩
  have hg0 : w1.heap[w.heap.size]? = some (.cells #[.int .i64 0, .int .i64 0, .int .i64 0, .int .i64 0, .int .i64 0, .int .i64 0] 147 (0, 0)) := (hb1.block _ (by simp)).trans (heap_alloc_new w _)
  have HG0 : Hid (w1.heap[w.heap.size]? = some (.cells #[.int .i64 0, .int .i64 0, .int .i64 0, .int .i64 0, .int .i64 0, .int .i64 0] 147 (0, 0)) ∧ Below w.heap.size w w1) := ⟨hg0, below_after hb1⟩
  clear hb1 hg0 HE HK
  go_wp2
  go_quiet (fail)
  have HG2 : Hid ((w1.drewN nq).heap[w.heap.size]? = some (.cells #[.int .i64 0, .int .i64 0, .int .i64 0, .int .i64 0, .int .i64 0, .int .i64 0] 147 (0, 0)) ∧ Below w.heap.size w (w1.drewN nq)) := ⟨HG0.out.1, below_drewN nq HG0.out.2⟩
  generalize w1.drewN nq = w2 at *
  clear HG0
  obtain ⟨⟨c0, c1, c2, c3, c4, c5⟩, f0, f1, f2, f3, f4, f5⟩ := six_of HG2.out.1
  have hsz : w.heap.size < w2.heap.size := (Array.getElem?_eq_some_iff.1 HG2.out.1).1
  go_wp2
  refine bodyPost_ret (v := .agg #[.int .i64 (x / 16), .int .i64 (x % 16), .int .i64 (y / 16), .int .i64 (y % 16), .int .i64 ((60 - x / 16 - x % 16 - y / 16 - y % 16) / 16), .int .i64 ((60 - x / 16 - x % 16 - y / 16 - y) % 16)]) (by simp [results, Tryz.results114, go_sem, c0, c1, c2, c3, c4, c5, f0, f1, f2, f3, f4, f5, hsz]) rfl ⟨ret_agg ?_, ?_⟩
  · have e5 : (60 - x / 16 - x % 16 - y / 16 - y) % 16 = (60 - x / 16 - x % 16 - y / 16 - y % 16) % 16 := by omega
    rw [e5]
    rfl
  · have hb := HG2.out.2
    exact ((((((hb.setCell (Nat.le_refl _) _).setCell (Nat.le_refl _) _).setCell (Nat.le_refl _) _).setCell (Nat.le_refl _) _).setCell (Nat.le_refl _) _).setCell (Nat.le_refl _) _).alloc (by simp [World.setCell]; omega) _
end Go.Proofs.YtcenlgfopmahcaaGreatDoor

/-
  The digits of a text in a block of their own.
-/
namespace Go.Proofs.YtcenlgfopmahcaaGreatDoor
open Go.RowKit Go.Lib
set_option linter.unusedVariables false
set_option linter.unusedSimpArgs false

/-- The digits lie in block d. -/
def DigAt (w : World) (d : Nat) (t : ByteArray) : Prop := w.heap[d]? = some (.cells (digCells t) 147 (0, 0))
theorem DigAt.cell {w : World} {d : Nat} {t : ByteArray} (h : DigAt w d t) (j : Nat) (hj : j < 6) : w.cell? ⟨d, j, none⟩ = some (.int .i64 ((digB t j : Nat) : Int)) := by
  unfold DigAt at h
  rw [cell_of_row w d j _ _ _ h, digB_cast]
  have : j = 0 ∨ j = 1 ∨ j = 2 ∨ j = 3 ∨ j = 4 ∨ j = 5 := by omega
  rcases this with rfl | rfl | rfl | rfl | rfl | rfl <;> rfl
theorem DigAt.below {w w' : World} {B d : Nat} {t : ByteArray} (h : DigAt w d t) (hb : Below B w w') (hd : d < B) : DigAt w' d t := (hb.block d hd).trans h
theorem DigAt.lt {w : World} {d : Nat} {t : ByteArray} (h : DigAt w d t) : d < w.heap.size := (Array.getElem?_eq_some_iff.1 h).1
end Go.Proofs.YtcenlgfopmahcaaGreatDoor
