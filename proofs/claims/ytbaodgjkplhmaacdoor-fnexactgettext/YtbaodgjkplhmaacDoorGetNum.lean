/-
  The law FnExactGetNum's walk: both GetNum's answer alike. Condition: package errors' own variable holds the handle of the type error.
-/
import Derived.Test.YtbaodgjkplhmaacDoorReadNum
namespace Go.Proofs.YtbaodgjkplhmaacDoor
open Go.RowKit
set_option linter.unusedVariables false

theorem eqNum_same (n a c : Int) (w : World) :
    Calls Tryd.prog 7 #[.agg #[.int .i64 n, .int .i64 a, .int .i64 c], .agg #[.int .i64 n, .int .i64 a, .int .i64 c]] w fun e w' => e = .returned (.bool true) ∧ Below w.heap.size w w' := by
  go_enter Tryd.func7, Tryd.ntmps7
  go_wp2
  go_ret
  exact ⟨rfl, ((Below.refl _ _).alloc (Nat.le_refl _) _).alloc (by simp) _⟩

theorem below_after {w w1 : World} {o : Obj} (hb : Below (w.alloc o).heap.size (w.alloc o) w1) : Below w.heap.size w w1 :=
  ((Below.refl w.heap.size w).alloc (Nat.le_refl _) o).trans (hb.mono (by simp))

set_option maxHeartbeats 1000000 in
theorem lawGetNum_any (s : ByteArray) (k : Int) (w : World) (hs : s.size ≤ maxLen) (hk : (Lit.int .i64 k).wf = true) (hg : Handle w) :
    Calls Tryd.prog 3 #[.string s, .int .i64 k] w fun e w' => e = .returned (.bool true) ∧ Below w.heap.size w w' := by
  unfold maxLen at hs
  have hbd : -9223372036854775808 ≤ k ∧ k ≤ 9223372036854775807 := by simpa [Lit.wf, IntKind.min, IntKind.max, IntKind.bits, IntKind.signed] using hk
  by_cases h1 : (1048576 : Int) < s.size
  · clear hg hk hbd
    go_enter Tryd.func3, Tryd.ntmps3
    go_wp2
    go_ret
    exact ⟨rfl, Below.refl _ _⟩
  have hs' : s.size ≤ 1048576 := by omega
  have E1 := fun w => specNum s k w hs' hbd.2
  have E2 := fun w hg => implNum s k w hs' hbd.2 hg
  unfold numV at E1 E2
  generalize (numR s k).1 = n at *
  generalize (numR s k).2.1 = a at *
  generalize (numR s k).2.2 = c at *
  have HE1 : Hid (∀ w, Calls Tryd.prog 5 #[.string s, .int .i64 k] w fun e w' => e = .returned (.agg #[.int .i64 n, .int .i64 a, .int .i64 c]) ∧ Below w.heap.size w w') := E1
  have HE2 : Hid (∀ w, Handle w → Calls Tryd.prog 6 #[.string s, .int .i64 k] w fun e w' => e = .returned (.agg #[.int .i64 n, .int .i64 a, .int .i64 c]) ∧ Below w.heap.size w w') := E2
  have HG : Hid (Handle w) := hg
  clear E1 E2 hg hk hbd
  go_enter Tryd.func3, Tryd.ntmps3
  go_wp2_with fail
  refine (HE1.out _).mono ?_
  rintro e w1 ⟨rfl, hb⟩
  have HB : Hid (Below w.heap.size w w1) := hb
  have HG1 : Hid (Handle (w1.alloc (.cells #[.int .i64 n, .int .i64 a, .int .i64 c] 23))) := (HG.out.below hb HG.out.lt).alloc _
  clear hb HG
  go_wp2_with fail
  refine (HE2.out _ HG1.out).mono ?_
  rintro e w2 ⟨rfl, hb2⟩
  have h := (hb2.block w1.heap.size (by simp)).trans (MapKept.heap_alloc w1 _).1
  have q : (w2.cell? ⟨w1.heap.size, 0, none⟩ = some (.int .i64 n) ∧ w2.cell? ⟨w1.heap.size, 1, none⟩ = some (.int .i64 a) ∧ w2.cell? ⟨w1.heap.size, 2, none⟩ = some (.int .i64 c)) := by
    simp [World.cell?, h]
  obtain ⟨c0, c1, c2⟩ := q
  have HB2 : Hid (Below w.heap.size w w2) := HB.out.trans ((below_after hb2).mono HB.out.size)
  have hlt : w1.heap.size < w2.heap.size := by have := hb2.size; simp at this; omega
  clear h hb2 HB HG1
  go_wp2_with fail
  refine (eqNum_same n a c _).mono ?_
  rintro e w3 ⟨rfl, hb3⟩
  go_wp2
  go_ret
  exact ⟨rfl, (HB2.out.alloc HB2.out.size _).trans (hb3.mono (by have := HB2.out.size; simp; omega))⟩
end Go.Proofs.YtbaodgjkplhmaacDoor
