/-
  The document's HeadText.
-/
import Derived.Test.YtpglcbidfghfkabGreatDoorPkPutNum
import Derived.Test.YtpglcbidfghfkabGreatDoorPkHeadV
import Derived.Test.YtpglcbidfghfkabGreatDoorPkTextRows
import Derived.Deep.RegionWith
import Derived.Deep.RegionHeld3
namespace Go.Proofs.YtpglcbidfghfkabGreatDoor
open Go.RowKit Go.Lib
set_option linter.unusedVariables false
set_option linter.unusedSimpArgs false

set_option maxHeartbeats 4000000 in
set_option maxRecDepth 10000 in
theorem l05Text_any (log root : ByteArray) (size time k : Int) (a1 a2 : Option Addr) (n1 c1 n2 c2 : Nat) (w : World) (hlog : log.size ≤ 1048576) (hroot : root.size ≤ 1048576) (hs : -9223372036854775808 ≤ size ∧ size ≤ 9223372036854775807) (ht : -9223372036854775808 ≤ time ∧ time ≤ 9223372036854775807) :
    Calls Tryz.prog 95 #[.agg #[.string log, .int .i64 size, .string root, .int .i64 time, .int .i64 k, .slice a1 n1 c1, .slice a2 n2 c2]] w fun e w' => e = .returned (.string (headT log size root time)) ∧ Below w.heap.size w w' := by
  have E0 : Hid (∀ w, Calls Tryz.prog 119 #[.string log] w fun e w' => e = .returned (.string (putText log)) ∧ Below w.heap.size w w') := fun w => specPutText_any log w hlog
  have E1 : Hid (∀ w, Calls Tryz.prog 120 #[.int .i64 size] w fun e w' => e = .returned (.string (numT size)) ∧ Below w.heap.size w w') := fun w => specPutNum_any size w hs.1 hs.2
  have E2 : Hid (∀ w, Calls Tryz.prog 119 #[.string root] w fun e w' => e = .returned (.string (putText root)) ∧ Below w.heap.size w w') := fun w => specPutText_any root w hroot
  have E3 : Hid (∀ w, Calls Tryz.prog 120 #[.int .i64 time] w fun e w' => e = .returned (.string (numT time)) ∧ Below w.heap.size w w') := fun w => specPutNum_any time w ht.1 ht.2
  have z0 := putText_size log
  have z1 := putNum_size size
  have z2 := putText_size root
  have z3 := putNum_size time
  unfold headT
  unfold numT at *
  generalize putText log = t0 at *
  generalize (⟨(putNum size).toArray⟩ : ByteArray) = t1 at *
  generalize putText root = t2 at *
  generalize (⟨(putNum time).toArray⟩ : ByteArray) = t3 at *
  have q1 : ¬ 9223372036854775807 < t0.size + t1.size := by omega
  have q2 : ¬ 9223372036854775807 < t0.size + t1.size + t2.size := by omega
  have q3 : ¬ 9223372036854775807 < t0.size + t1.size + t2.size + t3.size := by omega
  have q4 : ¬ 9223372036854775807 < (t0 ++ t1).size + t2.size := by rw [ba_size]; omega
  have q5 : ¬ 9223372036854775807 < (t0 ++ t1 ++ t2).size + t3.size := by rw [ba_size, ba_size]; omega
  clear hlog hroot hs ht z0 z1 z2 z3
  obtain ⟨W, hW⟩ : ∃ W, W = w.alloc (.cells #[.string log, .int .i64 size, .string root, .int .i64 time, .int .i64 k, .slice a1 n1 c1, .slice a2 n2 c2] 36) := ⟨_, rfl⟩
  have H0 : Hid (Below w.heap.size w W ∧ W.heap[w.heap.size]? = some (.cells #[.string log, .int .i64 size, .string root, .int .i64 time, .int .i64 k, .slice a1 n1 c1, .slice a2 n2 c2] 36 (0, 0)) ∧ w.heap.size < W.heap.size) := by
    rw [hW]
    exact ⟨(Below.refl _ _).alloc (Nat.le_refl _) _, heap_alloc_new w _, by simp⟩
  have HW : Hid (W = w.alloc (.cells #[.string log, .int .i64 size, .string root, .int .i64 time, .int .i64 k, .slice a1 n1 c1, .slice a2 n2 c2] 36)) := hW
  clear hW
  have HC : Hid (∀ W', Below W.heap.size W W' → (W'.cell? ⟨w.heap.size, 0, none⟩ = some (.string log) ∧ W'.cell? ⟨w.heap.size, 1, none⟩ = some (.int .i64 size) ∧ W'.cell? ⟨w.heap.size, 2, none⟩ = some (.string root) ∧ W'.cell? ⟨w.heap.size, 3, none⟩ = some (.int .i64 time)) ∧ (W'.drew.cell? ⟨w.heap.size, 0, none⟩ = some (.string log) ∧ W'.drew.cell? ⟨w.heap.size, 1, none⟩ = some (.int .i64 size) ∧ W'.drew.cell? ⟨w.heap.size, 2, none⟩ = some (.string root) ∧ W'.drew.cell? ⟨w.heap.size, 3, none⟩ = some (.int .i64 time))) := fun W' hb => by
    obtain ⟨⟨c0, c1, c2, c3, _, _, _⟩, _⟩ := seven_cells hb H0.out.2.2 H0.out.2.1
    exact ⟨⟨c0, c1, c2, c3⟩, c0, c1, c2, c3⟩
  have G0 : Hid (∀ W', Below W.heap.size W W' → Calls Tryz.prog 119 #[.string log] W' fun e w'' => e = .returned (.string t0) ∧ Below W.heap.size W w'') := fun W' hb => (E0.out W').mono fun e w'' h => ⟨h.1, hb.trans (h.2.mono hb.size)⟩
  have G1 : Hid (∀ W', Below W.heap.size W W' → Calls Tryz.prog 120 #[.int .i64 size] W' fun e w'' => e = .returned (.string t1) ∧ Below W.heap.size W w'') := fun W' hb => (E1.out W').mono fun e w'' h => ⟨h.1, hb.trans (h.2.mono hb.size)⟩
  have G2 : Hid (∀ W', Below W.heap.size W W' → Calls Tryz.prog 119 #[.string root] W' fun e w'' => e = .returned (.string t2) ∧ Below W.heap.size W w'') := fun W' hb => (E2.out W').mono fun e w'' h => ⟨h.1, hb.trans (h.2.mono hb.size)⟩
  have G3 : Hid (∀ W', Below W.heap.size W W' → Calls Tryz.prog 120 #[.int .i64 time] W' fun e w'' => e = .returned (.string t3) ∧ Below W.heap.size W w'') := fun W' hb => (E3.out W').mono fun e w'' h => ⟨h.1, hb.trans (h.2.mono hb.size)⟩
  have HB0 : Hid (Below W.heap.size W W) := Below.refl _ _
  have HD0 : Hid (Below W.heap.size W W.drew) := below_drew' (Below.refl _ _)
  obtain ⟨⟨c0, c1', c2', c3⟩, d0, d1, d2, d3⟩ := HC.out W (Below.refl _ _)
  clear E0 E1 E2 E3
  go_enter Tryz.func95, Tryz.ntmps95
  go_wp2_with fail
  rw [← HW.out]
  clear HW
  go_region_held3 (fun w' => w'.cell? ⟨w.heap.size, 0, none⟩ = some (.string log) ∧ w'.cell? ⟨w.heap.size, 1, none⟩ = some (.int .i64 size) ∧ w'.cell? ⟨w.heap.size, 2, none⟩ = some (.string root) ∧ w'.cell? ⟨w.heap.size, 3, none⟩ = some (.int .i64 time)) (go_keep)
    (first
      | (go_at_call 119; (with_reducible refine (G0.out _ ?_).mono ?_); (first | exact HB0.out | exact HD0.out); rintro e wa ⟨rfl, hia⟩; have HA1 : Hid (Below W.heap.size W wa) := hia; obtain ⟨⟨x0, x1, x2, x3⟩, _⟩ := HC.out _ hia; clear hia)
      | (go_at_call 120; (with_reducible refine (G1.out _ ?_).mono ?_); exact HA1.out; rintro e wb ⟨rfl, hia⟩; have HA2 : Hid (Below W.heap.size W wb) := hia; obtain ⟨⟨y0, y1, y2, y3⟩, _⟩ := HC.out _ hia; clear hia)
      | (go_at_call 119; (with_reducible refine (G2.out _ ?_).mono ?_); exact HA2.out; rintro e wc ⟨rfl, hia⟩; have HA3 : Hid (Below W.heap.size W wc) := hia; obtain ⟨⟨z0, z1, z2, z3⟩, _⟩ := HC.out _ hia; clear hia)
      | (go_at_call 120; (with_reducible refine (G3.out _ ?_).mono ?_); exact HA3.out; rintro e wd ⟨rfl, hia⟩; have HA4 : Hid (Below W.heap.size W wd) := hia; obtain ⟨⟨u0, u1, u2, u3⟩, _⟩ := HC.out _ hia; clear hia))
  all_goals
    go_wp2
    go_ret
    exact ⟨rfl, H0.out.1.trans (HA4.out.mono H0.out.1.size)⟩
end Go.Proofs.YtpglcbidfghfkabGreatDoor
