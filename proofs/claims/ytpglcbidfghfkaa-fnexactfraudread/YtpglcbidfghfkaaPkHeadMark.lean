/-
  Heads marked, and held to their marks.
-/
import Derived.Test.YtpglcbidfghfkaaPkSigLaws
import Derived.Test.YtpglcbidfghfkaaPkHeadV
namespace Go.Proofs.Ytpglcbidfghfkaa
open Go.RowKit Go.Lib
set_option linter.unusedVariables false
set_option linter.unusedSimpArgs false

set_option maxHeartbeats 2000000 in
set_option maxRecDepth 10000 in
theorem markHead_any (log root : ByteArray) (size time k : Int) (ve vp : Value) (el pl : List ByteArray) (j : Nat) (w : World) (B n : Nat) (h1 : OwnT w B ve el) (h2 : OwnT w n vp pl) (hlt : ∀ g, ve.ownBlock = some g → g < n) (hj0 : 1 ≤ j) (hj1 : j ≤ 10000000) (hl1 : el.length ≤ 10000000) (hl2 : pl.length ≤ 10000000) :
    Calls Try.prog 31 #[.agg #[.string log, .int .i64 size, .string root, .int .i64 time, .int .i64 k, ve, vp], .int .i64 j] w fun e w' => e = .returned (.int .i64 ((j + el.length + pl.length : Nat) : Int)) ∧ OwnT w' B ve (marks j el.length) ∧ OwnT w' n vp (marks (j + el.length) pl.length) ∧ Spared w w' ve vp := by
  obtain ⟨a1, c1, rfl⟩ := h1.len
  obtain ⟨a2, c2, rfl⟩ := h2.len
  obtain ⟨W, hW⟩ : ∃ W, W = w.alloc (.cells #[.string log, .int .i64 size, .string root, .int .i64 time, .int .i64 k, .slice a1 el.length c1, .slice a2 pl.length c2] 26) := ⟨_, rfl⟩
  have hbW : Below w.heap.size w W := by rw [hW]; exact (Below.refl _ _).alloc (Nat.le_refl _) _
  have E0 : Hid (Calls Try.prog 61 #[.agg #[.int .i64 k, .slice a1 el.length c1, .slice a2 pl.length c2], .int .i64 j] W fun e w' => e = .returned (.int .i64 ((j + el.length + pl.length : Nat) : Int)) ∧ OwnT w' B (.slice a1 el.length c1) (marks j el.length) ∧ OwnT w' n (.slice a2 pl.length c2) (marks (j + el.length) pl.length) ∧ Spared w w' (.slice a1 el.length c1) (.slice a2 pl.length c2)) :=
    (markSig_any k _ _ el pl j W B n (h1.below hbW (Nat.le_refl _)) (h2.below hbW (Nat.le_refl _)) hlt hj0 hj1 hl1 hl2).mono fun e w' h => ⟨h.1, h.2.1, h.2.2.1, h.2.2.2.1.trans hbW.os, h.2.2.2.2.1.trans hbW.tape, h.2.2.2.2.2.1.trans hbW.output, Nat.le_trans hbW.size h.2.2.2.2.2.2.1, fun b hb hv hu => (h.2.2.2.2.2.2.2 b (Nat.lt_of_lt_of_le hb hbW.size) hv hu).trans (hbW.block b hb)⟩
  have HW : Hid (W = w.alloc (.cells #[.string log, .int .i64 size, .string root, .int .i64 time, .int .i64 k, .slice a1 el.length c1, .slice a2 pl.length c2] 26)) := hW
  clear h1 h2 hlt hW hbW
  go_enter Try.func31, Try.ntmps31
  go_wp2_with fail
  rw [← HW.out]
  refine E0.out.mono ?_
  rintro e w1 ⟨rfl, hp⟩
  have HP : Hid (_ ∧ _) := hp
  clear hp
  go_wp2
  go_ret
  exact ⟨rfl, HP.out⟩

set_option maxHeartbeats 2000000 in
set_option maxRecDepth 10000 in
theorem heldHead_any (log root : ByteArray) (size time k : Int) (ve vp : Value) (a b j : Nat) (w : World) (B n : Nat) (h1 : OwnT w B ve (marks j a)) (h2 : OwnT w n vp (marks (j + a) b)) (hj0 : 1 ≤ j) (hj1 : j ≤ 10000000) (hl1 : a ≤ 10000000) (hl2 : b ≤ 10000000) :
    Calls Try.prog 34 #[.agg #[.string log, .int .i64 size, .string root, .int .i64 time, .int .i64 k, ve, vp], .int .i64 j] w fun e w' => e = .returned (.int .i64 ((j + a + b : Nat) : Int)) ∧ Below w.heap.size w w' := by
  obtain ⟨a1, c1, e1⟩ := h1.len
  obtain ⟨a2, c2, e2⟩ := h2.len
  obtain ⟨n1, hn1⟩ : ∃ n1, n1 = (marks j a).length := ⟨_, rfl⟩
  obtain ⟨n2, hn2⟩ : ∃ n2, n2 = (marks (j + a) b).length := ⟨_, rfl⟩
  rw [← hn1] at e1
  rw [← hn2] at e2
  subst e1 e2
  clear hn1 hn2
  obtain ⟨W, hW⟩ : ∃ W, W = w.alloc (.cells #[.string log, .int .i64 size, .string root, .int .i64 time, .int .i64 k, .slice a1 n1 c1, .slice a2 n2 c2] 26) := ⟨_, rfl⟩
  have hbW : Below w.heap.size w W := by rw [hW]; exact (Below.refl _ _).alloc (Nat.le_refl _) _
  have E0 : Hid (Calls Try.prog 62 #[.agg #[.int .i64 k, .slice a1 n1 c1, .slice a2 n2 c2], .int .i64 j] W fun e w' => e = .returned (.int .i64 ((j + a + b : Nat) : Int)) ∧ Below w.heap.size w w') :=
    (heldSig_any k _ _ a b j W B n (h1.below hbW (Nat.le_refl _)) (h2.below hbW (Nat.le_refl _)) hj0 hj1 hl1 hl2).mono fun e w' h => ⟨h.1, hbW.trans (h.2.mono hbW.size)⟩
  have HW : Hid (W = w.alloc (.cells #[.string log, .int .i64 size, .string root, .int .i64 time, .int .i64 k, .slice a1 n1 c1, .slice a2 n2 c2] 26)) := hW
  have hm : ¬ ((j + a + b : Nat) : Int) < 0 := by omega
  obtain ⟨mm, hmm⟩ : ∃ mm : Int, mm = ((j + a + b : Nat) : Int) := ⟨_, rfl⟩
  rw [← hmm] at hm E0 ⊢
  clear h1 h2 hW hbW hmm
  go_enter Try.func34, Try.ntmps34
  go_wp2_with fail
  rw [← HW.out]
  refine E0.out.mono ?_
  rintro e w1 ⟨rfl, hb1⟩
  have HB : Hid (Below w.heap.size w w1) := hb1
  clear hb1
  go_wp2
  go_ret
  exact ⟨rfl, HB.out⟩
end Go.Proofs.Ytpglcbidfghfkaa
