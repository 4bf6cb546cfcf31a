/-
  What was read, and its head: is there one, how many, do they begin so? The program's.
-/
import Derived.Test.YtcenlgfopmahcaaGreatDoorPkHdV
import Derived.Test.YtcenlgfopmahcaaGreatDoorPkImplTree
namespace Go.Proofs.YtcenlgfopmahcaaGreatDoor
open Go.RowKit Go.Lib
set_option linter.unusedVariables false
set_option linter.unusedSimpArgs false


set_option maxHeartbeats 4000000 in
set_option maxRecDepth 10000 in
theorem headless_any (x : Hd) (a a1 a2 : Option Addr) (n c m1 c1 m2 c2 : Nat) (w : World) :
    Calls Tryz.prog 47 #[.agg #[.slice a n c, .string x.log, .int .i64 x.size, .string x.root, .int .i64 x.time, .int .i64 x.k, .slice a1 m1 c1, .slice a2 m2 c2]] w fun e w' => e = .returned (.bool (zeroX x m1 m2)) ∧ Below w.heap.size w w' := by
  have E0 : Hid (∀ X, Calls Tryz.prog 65 #[.agg #[.string x.log, .int .i64 x.size, .string x.root, .int .i64 x.time, .int .i64 x.k, .slice a1 m1 c1, .slice a2 m2 c2]] X fun e w' => e = .returned (.bool (zeroX x m1 m2)) ∧ Below X.heap.size X w') := fun X => implZero_any _ _ _ _ _ _ _ _ _ _ _ X
  have H0 : Hid (Below w.heap.size w (w.alloc (.cells #[.slice a n c, .string x.log, .int .i64 x.size, .string x.root, .int .i64 x.time, .int .i64 x.k, .slice a1 m1 c1, .slice a2 m2 c2] 82))) := (Below.refl _ _).alloc (Nat.le_refl _) _
  generalize zeroX x m1 m2 = z at *
  go_enter Tryz.func47, Tryz.ntmps47
  go_wp2_with fail
  refine (E0.out _).mono ?_
  rintro e w1 ⟨rfl, hb⟩
  have H1 : Hid (Below w.heap.size w w1) := H0.out.trans (hb.mono H0.out.size)
  clear hb H0 E0
  go_wp2
  go_ret
  exact ⟨rfl, H1.out⟩
set_option maxHeartbeats 2000000 in
theorem many_any (x : Hd) (a a1 a2 : Option Addr) (n c m1 c1 m2 c2 : Nat) (w : World) :
    Calls Tryz.prog 77 #[.agg #[.slice a n c, .string x.log, .int .i64 x.size, .string x.root, .int .i64 x.time, .int .i64 x.k, .slice a1 m1 c1, .slice a2 m2 c2]] w fun e w' => e = .returned (.int .i64 (n : Int)) ∧ Below w.heap.size w w' := by
  have H0 : Hid (Below w.heap.size w (w.alloc (.cells #[.slice a n c, .string x.log, .int .i64 x.size, .string x.root, .int .i64 x.time, .int .i64 x.k, .slice a1 m1 c1, .slice a2 m2 c2] 82))) := (Below.refl _ _).alloc (Nat.le_refl _) _
  go_enter Tryz.func77, Tryz.ntmps77
  go_wp2
  go_ret
  exact ⟨rfl, H0.out⟩
set_option maxHeartbeats 4000000 in
set_option maxRecDepth 10000 in
theorem begins_any (x : Hd) (v : Value) (en : List ByteArray) (a1 a2 : Option Addr) (m1 c1 m2 c2 : Nat) (k : Nat) (root : ByteArray) (w : World) (h : Texts w w.heap.size v en) (hk : k ≤ en.length) (hl : en.length ≤ 1048576) (hz : ∀ j (hj : j < en.length), en[j].size ≤ 100) (hK : Keys w) :
    Calls Tryz.prog 78 #[.agg #[v, .string x.log, .int .i64 x.size, .string x.root, .int .i64 x.time, .int .i64 x.k, .slice a1 m1 c1, .slice a2 m2 c2], .int .i64 (k : Int), .string root] w fun e w' => e = .returned (.bool ((treeB (en.take k)).toList == root.toList)) ∧ Below w.heap.size w w' := by
  obtain ⟨v1, hsl, ht⟩ := slice_h h k hk (k : Int) rfl
  obtain ⟨a, c, rfl, hq0⟩ := id h
  have hbW : Below w.heap.size w (w.alloc (.cells #[.slice a en.length c, .string x.log, .int .i64 x.size, .string x.root, .int .i64 x.time, .int .i64 x.k, .slice a1 m1 c1, .slice a2 m2 c2] 82)) := (Below.refl _ _).alloc (Nat.le_refl _) _
  have E0 : Hid (Calls Tryz.prog 95 #[v1] (w.alloc (.cells #[.slice a en.length c, .string x.log, .int .i64 x.size, .string x.root, .int .i64 x.time, .int .i64 x.k, .slice a1 m1 c1, .slice a2 m2 c2] 82)) fun e w' => e = .returned (.string (treeB (en.take k))) ∧ Below (w.alloc (.cells #[.slice a en.length c, .string x.log, .int .i64 x.size, .string x.root, .int .i64 x.time, .int .i64 x.k, .slice a1 m1 c1, .slice a2 m2 c2] 82)).heap.size (w.alloc (.cells #[.slice a en.length c, .string x.log, .int .i64 x.size, .string x.root, .int .i64 x.time, .int .i64 x.k, .slice a1 m1 c1, .slice a2 m2 c2] 82)) w') := treeOf_any v1 (en.take k) _ (ht.on hbW) (by rw [List.length_take]; omega) (fun j hj => by rw [List.getElem_take]; exact hz _ _) (hK.below hbW hK.lt)
  have H0 : Hid (Below w.heap.size w (w.alloc (.cells #[.slice a en.length c, .string x.log, .int .i64 x.size, .string x.root, .int .i64 x.time, .int .i64 x.k, .slice a1 m1 c1, .slice a2 m2 c2] 82))) := hbW
  clear hq0 h ht hz hK hbW hk hl
  generalize treeB (en.take k) = T at *
  generalize en.length = n at *
  go_enter Tryz.func78, Tryz.ntmps78
  go_wp2_with fail
  refine E0.out.mono ?_
  rintro e w1 ⟨rfl, hb⟩
  have H1 : Hid (Below w.heap.size w w1) := H0.out.trans (hb.mono H0.out.size)
  clear hb H0 E0
  go_wp2
  go_ret
  exact ⟨rfl, H1.out⟩
end Go.Proofs.YtcenlgfopmahcaaGreatDoor
