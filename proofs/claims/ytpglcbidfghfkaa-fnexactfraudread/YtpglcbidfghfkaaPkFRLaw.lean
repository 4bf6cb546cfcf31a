/-
  The walk of the exact law of FraudRead.
-/
import Derived.Test.YtpglcbidfghfkaaPkRdStrs
import Derived.Test.YtpglcbidfghfkaaPkSpBadI
import Derived.Test.YtpglcbidfghfkaaPkFrNoneI
namespace Go.Proofs.Ytpglcbidfghfkaa
open Go.RowKit Go.Lib
set_option linter.unusedVariables false
set_option linter.unusedSimpArgs false

/-- Behind the calls: the document's answer in block b3, the program's in block b4, its rows its own. -/
def FlMid (w : World) (b3 b4 n0 n1 n2 n3 n4 n5 : Nat) (x y : Hd) (l : List ByteArray) (c : Int) (a1 b1 e1 g1 i1 : Option Addr) (c1 d1 f1 o1 j1 : Nat) (a2 b2 e2 g2 i2 : Option Addr) (c2 d2 f2 o2 j2 : Nat) (l0 l1 l2 l3 l4 : List ByteArray) (wX : World) : Prop :=
  (Below w.heap.size w wX ∧ w.heap.size ≤ b3 ∧ b3 < n0 ∧ n4 ≤ n5 ∧ n5 ≤ b4 ∧ b4 < wX.heap.size) ∧ (wX.heap[b3]? = some (.cells #[.string x.log, .int .i64 x.size, .string x.root, .int .i64 x.time, .int .i64 x.k, .slice a1 x.el.length c1, .slice b1 x.pl.length d1, .string y.log, .int .i64 y.size, .string y.root, .int .i64 y.time, .int .i64 y.k, .slice e1 y.el.length f1, .slice g1 y.pl.length o1, .slice i1 l.length j1, .int .i64 c] 30 (0, 0)) ∧ wX.heap[b4]? = some (.cells #[.string x.log, .int .i64 x.size, .string x.root, .int .i64 x.time, .int .i64 x.k, .slice a2 x.el.length c2, .slice b2 x.pl.length d2, .string y.log, .int .i64 y.size, .string y.root, .int .i64 y.time, .int .i64 y.k, .slice e2 y.el.length f2, .slice g2 y.pl.length o2, .slice i2 l.length j2, .int .i64 c] 30 (0, 0))) ∧ (x.In (.slice a1 x.el.length c1) (.slice b1 x.pl.length d1) wX b3 ∧ y.In (.slice e1 y.el.length f1) (.slice g1 y.pl.length o1) wX b3 ∧ Texts wX b3 (.slice i1 l.length j1) l) ∧ Owns5 wX n0 n1 n2 n3 n4 (.slice a2 x.el.length c2) (.slice b2 x.pl.length d2) (.slice e2 y.el.length f2) (.slice g2 y.pl.length o2) (.slice i2 l.length j2) l0 l1 l2 l3 l4 ∧ ∀ g, (Value.slice i2 l.length j2).ownBlock = some g → g < n5
theorem FlMid.below {w : World} {b3 b4 n0 n1 n2 n3 n4 n5 : Nat} {x y : Hd} {l : List ByteArray} {c : Int} {a1 b1 e1 g1 i1 : Option Addr} {c1 d1 f1 o1 j1 : Nat} {a2 b2 e2 g2 i2 : Option Addr} {c2 d2 f2 o2 j2 : Nat} {l0 l1 l2 l3 l4 : List ByteArray} {wX wY : World} (h : FlMid w b3 b4 n0 n1 n2 n3 n4 n5 x y l c a1 b1 e1 g1 i1 c1 d1 f1 o1 j1 a2 b2 e2 g2 i2 c2 d2 f2 o2 j2 l0 l1 l2 l3 l4 wX) (hb : Below wX.heap.size wX wY) : FlMid w b3 b4 n0 n1 n2 n3 n4 n5 x y l c a1 b1 e1 g1 i1 c1 d1 f1 o1 j1 a2 b2 e2 g2 i2 c2 d2 f2 o2 j2 l0 l1 l2 l3 l4 wY := by
  obtain ⟨⟨k1, k2, k3, k4, k5, k6⟩, ⟨r1, r2⟩, ⟨t1, t2, t3⟩, o, q⟩ := h
  have hn := o.2.2
  exact ⟨⟨k1.trans (hb.mono k1.size), k2, k3, k4, k5, Nat.lt_of_lt_of_le k6 hb.size⟩, ⟨(hb.block _ (by omega)).trans r1, (hb.block _ k6).trans r2⟩, ⟨t1.below (hb.mono (by omega)), t2.below (hb.mono (by omega)), t3.below (hb.mono (by omega))⟩, o.below hb (Nat.le_refl _), q⟩
theorem FlMid.mark {w : World} {b3 b4 n0 n1 n2 n3 n4 n5 : Nat} {x y : Hd} {l : List ByteArray} {c : Int} {a1 b1 e1 g1 i1 : Option Addr} {c1 d1 f1 o1 j1 : Nat} {a2 b2 e2 g2 i2 : Option Addr} {c2 d2 f2 o2 j2 : Nat} {l0 l1 l2 l3 l4 m0 m1 m2 m3 m4 : List ByteArray} {wX wY : World} (h : FlMid w b3 b4 n0 n1 n2 n3 n4 n5 x y l c a1 b1 e1 g1 i1 c1 d1 f1 o1 j1 a2 b2 e2 g2 i2 c2 d2 f2 o2 j2 l0 l1 l2 l3 l4 wX) (hi : Inside wX wY n0 n5) (ho : Owns5 wY n0 n1 n2 n3 n4 (.slice a2 x.el.length c2) (.slice b2 x.pl.length d2) (.slice e2 y.el.length f2) (.slice g2 y.pl.length o2) (.slice i2 l.length j2) m0 m1 m2 m3 m4) : FlMid w b3 b4 n0 n1 n2 n3 n4 n5 x y l c a1 b1 e1 g1 i1 c1 d1 f1 o1 j1 a2 b2 e2 g2 i2 c2 d2 f2 o2 j2 m0 m1 m2 m3 m4 wY := by
  obtain ⟨⟨k1, k2, k3, k4, k5, k6⟩, ⟨r1, r2⟩, ⟨t1, t2, t3⟩, o, q⟩ := h
  have hn := o.2.2
  have hb := hi.below (by omega)
  exact ⟨⟨k1.trans (hb.mono (by omega)), k2, k3, k4, k5, Nat.lt_of_lt_of_le k6 hi.2.2.2.1⟩, ⟨(hb.block _ (by omega)).trans r1, (hi.2.2.2.2 _ k6 (.inr k5)).trans r2⟩, ⟨t1.below (hb.mono (by omega)), t2.below (hb.mono (by omega)), t3.below (hb.mono (by omega))⟩, ho, q⟩
theorem FlMid.b3 {w : World} {b3 b4 n0 n1 n2 n3 n4 n5 : Nat} {x y : Hd} {l : List ByteArray} {c : Int} {a1 b1 e1 g1 i1 : Option Addr} {c1 d1 f1 o1 j1 : Nat} {a2 b2 e2 g2 i2 : Option Addr} {c2 d2 f2 o2 j2 : Nat} {l0 l1 l2 l3 l4 : List ByteArray} {wX : World} (h : FlMid w b3 b4 n0 n1 n2 n3 n4 n5 x y l c a1 b1 e1 g1 i1 c1 d1 f1 o1 j1 a2 b2 e2 g2 i2 c2 d2 f2 o2 j2 l0 l1 l2 l3 l4 wX) : wX.cell? ⟨b3, 0, none⟩ = some (.string x.log) ∧ wX.cell? ⟨b3, 1, none⟩ = some (.int .i64 x.size) ∧ wX.cell? ⟨b3, 2, none⟩ = some (.string x.root) ∧ wX.cell? ⟨b3, 3, none⟩ = some (.int .i64 x.time) ∧ wX.cell? ⟨b3, 4, none⟩ = some (.int .i64 x.k) ∧ wX.cell? ⟨b3, 5, none⟩ = some (.slice a1 x.el.length c1) ∧ wX.cell? ⟨b3, 6, none⟩ = some (.slice b1 x.pl.length d1) ∧ wX.cell? ⟨b3, 7, none⟩ = some (.string y.log) ∧ wX.cell? ⟨b3, 8, none⟩ = some (.int .i64 y.size) ∧ wX.cell? ⟨b3, 9, none⟩ = some (.string y.root) ∧ wX.cell? ⟨b3, 10, none⟩ = some (.int .i64 y.time) ∧ wX.cell? ⟨b3, 11, none⟩ = some (.int .i64 y.k) ∧ wX.cell? ⟨b3, 12, none⟩ = some (.slice e1 y.el.length f1) ∧ wX.cell? ⟨b3, 13, none⟩ = some (.slice g1 y.pl.length o1) ∧ wX.cell? ⟨b3, 14, none⟩ = some (.slice i1 l.length j1) ∧ wX.cell? ⟨b3, 15, none⟩ = some (.int .i64 c) := by
  have r := row_here h.2.1.1
  exact ⟨r 0 _ rfl, r 1 _ rfl, r 2 _ rfl, r 3 _ rfl, r 4 _ rfl, r 5 _ rfl, r 6 _ rfl, r 7 _ rfl, r 8 _ rfl, r 9 _ rfl, r 10 _ rfl, r 11 _ rfl, r 12 _ rfl, r 13 _ rfl, r 14 _ rfl, r 15 _ rfl⟩
theorem FlMid.b4 {w : World} {b3 b4 n0 n1 n2 n3 n4 n5 : Nat} {x y : Hd} {l : List ByteArray} {c : Int} {a1 b1 e1 g1 i1 : Option Addr} {c1 d1 f1 o1 j1 : Nat} {a2 b2 e2 g2 i2 : Option Addr} {c2 d2 f2 o2 j2 : Nat} {l0 l1 l2 l3 l4 : List ByteArray} {wX : World} (h : FlMid w b3 b4 n0 n1 n2 n3 n4 n5 x y l c a1 b1 e1 g1 i1 c1 d1 f1 o1 j1 a2 b2 e2 g2 i2 c2 d2 f2 o2 j2 l0 l1 l2 l3 l4 wX) : wX.cell? ⟨b4, 0, none⟩ = some (.string x.log) ∧ wX.cell? ⟨b4, 1, none⟩ = some (.int .i64 x.size) ∧ wX.cell? ⟨b4, 2, none⟩ = some (.string x.root) ∧ wX.cell? ⟨b4, 3, none⟩ = some (.int .i64 x.time) ∧ wX.cell? ⟨b4, 4, none⟩ = some (.int .i64 x.k) ∧ wX.cell? ⟨b4, 5, none⟩ = some (.slice a2 x.el.length c2) ∧ wX.cell? ⟨b4, 6, none⟩ = some (.slice b2 x.pl.length d2) ∧ wX.cell? ⟨b4, 7, none⟩ = some (.string y.log) ∧ wX.cell? ⟨b4, 8, none⟩ = some (.int .i64 y.size) ∧ wX.cell? ⟨b4, 9, none⟩ = some (.string y.root) ∧ wX.cell? ⟨b4, 10, none⟩ = some (.int .i64 y.time) ∧ wX.cell? ⟨b4, 11, none⟩ = some (.int .i64 y.k) ∧ wX.cell? ⟨b4, 12, none⟩ = some (.slice e2 y.el.length f2) ∧ wX.cell? ⟨b4, 13, none⟩ = some (.slice g2 y.pl.length o2) ∧ wX.cell? ⟨b4, 14, none⟩ = some (.slice i2 l.length j2) ∧ wX.cell? ⟨b4, 15, none⟩ = some (.int .i64 c) := by
  have r := row_here h.2.1.2
  exact ⟨r 0 _ rfl, r 1 _ rfl, r 2 _ rfl, r 3 _ rfl, r 4 _ rfl, r 5 _ rfl, r 6 _ rfl, r 7 _ rfl, r 8 _ rfl, r 9 _ rfl, r 10 _ rfl, r 11 _ rfl, r 12 _ rfl, r 13 _ rfl, r 14 _ rfl, r 15 _ rfl⟩
theorem FlMid.spec {w : World} {b3 b4 n0 n1 n2 n3 n4 n5 : Nat} {x y : Hd} {l : List ByteArray} {c : Int} {a1 b1 e1 g1 i1 : Option Addr} {c1 d1 f1 o1 j1 : Nat} {a2 b2 e2 g2 i2 : Option Addr} {c2 d2 f2 o2 j2 : Nat} {l0 l1 l2 l3 l4 : List ByteArray} {wX : World} (h : FlMid w b3 b4 n0 n1 n2 n3 n4 n5 x y l c a1 b1 e1 g1 i1 c1 d1 f1 o1 j1 a2 b2 e2 g2 i2 c2 d2 f2 o2 j2 l0 l1 l2 l3 l4 wX) : x.In (.slice a1 x.el.length c1) (.slice b1 x.pl.length d1) wX wX.heap.size ∧ y.In (.slice e1 y.el.length f1) (.slice g1 y.pl.length o1) wX wX.heap.size ∧ Texts wX wX.heap.size (.slice i1 l.length j1) l := by
  obtain ⟨⟨k1, k2, k3, k4, k5, k6⟩, _, ⟨t1, t2, t3⟩, o, q⟩ := h
  have hn := o.2.2
  exact ⟨t1.up (by omega), t2.up (by omega), t3.up (by omega)⟩
theorem Owns5.ins {w : World} {n0 n1 n2 n3 n4 : Nat} {v0 v1 v2 v3 v4 : Value} {x y : Hd} {l : List ByteArray} (h : Owns5 w n0 n1 n2 n3 n4 v0 v1 v2 v3 v4 x.el x.pl y.el y.pl l) : x.In v0 v1 w w.heap.size ∧ y.In v2 v3 w w.heap.size ∧ Texts w w.heap.size v4 l := ⟨⟨h.1.1.texts, h.1.2.1.texts⟩, ⟨h.1.2.2.1.texts, h.1.2.2.2.1.texts⟩, h.1.2.2.2.2.texts⟩
theorem frR_lens {s : ByteArray} {x y : Hd} {l : List ByteArray} {c : Int} (h : (x, y, l, c) = frR s) : x.Lim ∧ y.Lim ∧ (x.el.length ≤ 6 ∧ x.pl.length ≤ 6) ∧ (y.el.length ≤ 6 ∧ y.pl.length ≤ 6) ∧ l.length ≤ 64 := by
  have hz : hd0.Lim ∧ hd0.el.length ≤ 6 ∧ hd0.pl.length ≤ 6 := ⟨⟨by decide, by decide, by decide, by decide⟩, by decide, by decide⟩
  have hlen : ∀ st, (headAt s st).1.el.length ≤ 6 ∧ (headAt s st).1.pl.length ≤ 6 := fun st => by
    refine ⟨?_, ?_⟩
    · show (rdTexts s (rdNum s (rdText s st).2).2 6).1.length ≤ _
      rw [rdTexts_length]; decide
    · show (rdTexts s (rdTexts s (rdNum s (rdText s st).2).2 6).2 2).1.length ≤ _
      rw [rdTexts_length]; decide
  by_cases hs : 20000 < (s.size : Int)
  · rw [frR_big hs] at h
    simp only [Prod.mk.injEq] at h
    obtain ⟨rfl, rfl, rfl, rfl⟩ := h
    exact ⟨hz.1, hz.1, hz.2, hz.2, by decide⟩
  by_cases ho : fraudOk s = true
  · rw [frR_yes hs ho] at h
    simp only [Prod.mk.injEq] at h
    obtain ⟨rfl, rfl, rfl, rfl⟩ := h
    refine ⟨headAt_lim hs _, headAt_lim hs _, hlen _, hlen _, ?_⟩
    obtain ⟨_, h2⟩ := (fraudOk_iff s).1 ho
    have hne := (fraudOk_inner hs ho).2.2
    unfold fraudT at h2
    split at h2
    · rename_i hc
      rw [Bool.and_eq_true_iff] at hc
      exact rightB_len hc.2
    · exact absurd h2.symm hne
  · rw [frR_no hs ho] at h
    simp only [Prod.mk.injEq] at h
    obtain ⟨rfl, rfl, rfl, rfl⟩ := h
    exact ⟨hz.1, hz.1, hz.2, hz.2, by decide⟩

set_option maxHeartbeats 4000000 in
set_option maxRecDepth 10000 in
theorem lawFraudRead_any (s : ByteArray) (w : World) (hs : s.size ≤ maxLen) :
    Calls Try.prog 3 #[.string s] w fun e w' => e = .returned (.bool true) ∧ Below w.heap.size w w' := by
  unfold maxLen at hs
  by_cases h1 : (1048576 : Int) < s.size
  · go_enter Try.func3, Try.ntmps3
    go_wp2
    go_ret
    exact ⟨rfl, Below.refl _ _⟩
  have hs' : s.size ≤ 1048576 := by omega
  have ES : Hid (∀ w, Calls Try.prog 5 #[.string s] w fun e w' => SpOut s w e w') := fun w => specFraudRead_any s w hs'
  have EI : Hid (∀ w, Calls Try.prog 6 #[.string s] w fun e w' => FrOut s w e w') := fun w => implFraudRead_any s w hs'
  clear hs hs'
  go_enter Try.func3, Try.ntmps3
  go_wp2_with fail
  refine (ES.out _).mono ?_
  rintro e w1 ⟨x, y, l, c, v0, v1, v2, v3, v4, rfl, hfr, ⟨hx, hy, hl⟩, hb⟩
  obtain ⟨a1, c1, b1, d1, rfl, rfl⟩ := hx.parts
  obtain ⟨e1, f1, g1, o1, rfl, rfl⟩ := hy.parts
  obtain ⟨i1, j1, rfl, _⟩ := id hl
  obtain ⟨W1, hW1⟩ : ∃ W1, W1 = w1.alloc (.cells #[.string x.log, .int .i64 x.size, .string x.root, .int .i64 x.time, .int .i64 x.k, .slice a1 x.el.length c1, .slice b1 x.pl.length d1, .string y.log, .int .i64 y.size, .string y.root, .int .i64 y.time, .int .i64 y.k, .slice e1 y.el.length f1, .slice g1 y.pl.length o1, .slice i1 l.length j1, .int .i64 c] 30) := ⟨_, rfl⟩
  have hal : Below w1.heap.size w1 W1 := by rw [hW1]; exact (Below.refl _ _).alloc (Nat.le_refl _) _
  obtain ⟨b3, hb3⟩ : ∃ b3, b3 = w1.heap.size := ⟨_, rfl⟩
  have HFR : Hid ((x, y, l, c) = frR s) := hfr
  have H1 : Hid (Below w.heap.size w W1 ∧ w.heap.size ≤ b3 ∧ b3 < W1.heap.size ∧ W1.heap[b3]? = some (.cells #[.string x.log, .int .i64 x.size, .string x.root, .int .i64 x.time, .int .i64 x.k, .slice a1 x.el.length c1, .slice b1 x.pl.length d1, .string y.log, .int .i64 y.size, .string y.root, .int .i64 y.time, .int .i64 y.k, .slice e1 y.el.length f1, .slice g1 y.pl.length o1, .slice i1 l.length j1, .int .i64 c] 30 (0, 0)) ∧ x.In (.slice a1 x.el.length c1) (.slice b1 x.pl.length d1) W1 b3 ∧ y.In (.slice e1 y.el.length f1) (.slice g1 y.pl.length o1) W1 b3 ∧ Texts W1 b3 (.slice i1 l.length j1) l) := ⟨hb.trans (hal.mono hb.size), by rw [hb3]; exact hb.size, by rw [hb3, hW1]; simp, by rw [hb3, hW1]; exact heap_alloc_new w1 _, by rw [hb3]; exact hx.below hal, by rw [hb3]; exact hy.below hal, by rw [hb3]; exact hl.below hal⟩
  have HW1 : Hid (W1 = w1.alloc (.cells #[.string x.log, .int .i64 x.size, .string x.root, .int .i64 x.time, .int .i64 x.k, .slice a1 x.el.length c1, .slice b1 x.pl.length d1, .string y.log, .int .i64 y.size, .string y.root, .int .i64 y.time, .int .i64 y.k, .slice e1 y.el.length f1, .slice g1 y.pl.length o1, .slice i1 l.length j1, .int .i64 c] 30)) := hW1
  have HB3 : Hid (b3 = w1.heap.size) := hb3
  clear hx hy hl hb hal hW1 hb3 hfr
  go_wp2_with fail
  rw [← HW1.out, ← HB3.out]
  clear HW1 HB3
  refine (EI.out _).mono ?_
  rintro e w2 ⟨x', y', l', c', v0, v1, v2, v3, v4, n1, n2, n3, n4, rfl, hfr', ho, hb⟩
  have heq := HFR.out.trans hfr'.symm
  simp only [Prod.mk.injEq] at heq
  obtain ⟨rfl, rfl, rfl, rfl⟩ := heq
  clear hfr'
  obtain ⟨a2, c2, hv⟩ := ho.1.1.len
  subst hv
  obtain ⟨b2, d2, hv⟩ := ho.1.2.1.len
  subst hv
  obtain ⟨e2, f2, hv⟩ := ho.1.2.2.1.len
  subst hv
  obtain ⟨g2, o2, hv⟩ := ho.1.2.2.2.1.len
  subst hv
  obtain ⟨i2, j2, hv⟩ := ho.1.2.2.2.2.len
  subst hv
  have HLN : Hid (x.Lim ∧ y.Lim ∧ (x.el.length ≤ 1000000 ∧ x.pl.length ≤ 1000000) ∧ (y.el.length ≤ 1000000 ∧ y.pl.length ≤ 1000000) ∧ l.length ≤ 1000000) := by
    obtain ⟨z1, z2, z3, z4, z5⟩ := frR_lens HFR.out
    exact ⟨z1, z2, ⟨by omega, by omega⟩, ⟨by omega, by omega⟩, by omega⟩
  obtain ⟨W2, hW2⟩ : ∃ W2, W2 = w2.alloc (.cells #[.string x.log, .int .i64 x.size, .string x.root, .int .i64 x.time, .int .i64 x.k, .slice a2 x.el.length c2, .slice b2 x.pl.length d2, .string y.log, .int .i64 y.size, .string y.root, .int .i64 y.time, .int .i64 y.k, .slice e2 y.el.length f2, .slice g2 y.pl.length o2, .slice i2 l.length j2, .int .i64 c] 30) := ⟨_, rfl⟩
  have hal : Below w2.heap.size w2 W2 := by rw [hW2]; exact (Below.refl _ _).alloc (Nat.le_refl _) _
  obtain ⟨b4, hb4⟩ : ∃ b4, b4 = w2.heap.size := ⟨_, rfl⟩
  obtain ⟨n0, hn0⟩ : ∃ n0, n0 = W1.heap.size := ⟨_, rfl⟩
  rw [← hn0] at ho
  have M2 : Hid (FlMid w b3 b4 n0 n1 n2 n3 n4 b4 x y l c a1 b1 e1 g1 i1 c1 d1 f1 o1 j1 a2 b2 e2 g2 i2 c2 d2 f2 o2 j2 x.el x.pl y.el y.pl l W2) := by
    obtain ⟨k1, k2, k3, k4, k5, k6, k7⟩ := H1.out
    have hbb := hb.trans (hal.mono hb.size)
    refine ⟨⟨k1.trans (hbb.mono k1.size), k2, by omega, by rw [hb4]; exact ho.2.2.2.2.2.2, Nat.le_refl _, by rw [hb4, hW2]; simp⟩, ⟨(hbb.block _ k3).trans k4, by rw [hb4, hW2]; exact heap_alloc_new w2 _⟩, ⟨k5.below (hbb.mono (by omega)), k6.below (hbb.mono (by omega)), k7.below (hbb.mono (by omega))⟩, ho.below hal (Nat.le_refl _), fun g hg => by rw [hb4]; exact (ho.1.2.2.2.2.block_lt g hg).2⟩
  obtain ⟨z0, z1, z2, z3, z4, z5, z6, z7, z8, z9, z10, z11, z12, z13, z14, z15⟩ : w2.cell? ⟨b3, 0, none⟩ = some (.string x.log) ∧ w2.cell? ⟨b3, 1, none⟩ = some (.int .i64 x.size) ∧ w2.cell? ⟨b3, 2, none⟩ = some (.string x.root) ∧ w2.cell? ⟨b3, 3, none⟩ = some (.int .i64 x.time) ∧ w2.cell? ⟨b3, 4, none⟩ = some (.int .i64 x.k) ∧ w2.cell? ⟨b3, 5, none⟩ = some (.slice a1 x.el.length c1) ∧ w2.cell? ⟨b3, 6, none⟩ = some (.slice b1 x.pl.length d1) ∧ w2.cell? ⟨b3, 7, none⟩ = some (.string y.log) ∧ w2.cell? ⟨b3, 8, none⟩ = some (.int .i64 y.size) ∧ w2.cell? ⟨b3, 9, none⟩ = some (.string y.root) ∧ w2.cell? ⟨b3, 10, none⟩ = some (.int .i64 y.time) ∧ w2.cell? ⟨b3, 11, none⟩ = some (.int .i64 y.k) ∧ w2.cell? ⟨b3, 12, none⟩ = some (.slice e1 y.el.length f1) ∧ w2.cell? ⟨b3, 13, none⟩ = some (.slice g1 y.pl.length o1) ∧ w2.cell? ⟨b3, 14, none⟩ = some (.slice i1 l.length j1) ∧ w2.cell? ⟨b3, 15, none⟩ = some (.int .i64 c) := by
    have r := row_here ((hb.block _ H1.out.2.2.1).trans H1.out.2.2.2.1)
    exact ⟨r 0 _ rfl, r 1 _ rfl, r 2 _ rfl, r 3 _ rfl, r 4 _ rfl, r 5 _ rfl, r 6 _ rfl, r 7 _ rfl, r 8 _ rfl, r 9 _ rfl, r 10 _ rfl, r 11 _ rfl, r 12 _ rfl, r 13 _ rfl, r 14 _ rfl, r 15 _ rfl⟩
  have hlt2 : b3 < w2.heap.size := Nat.lt_of_lt_of_le H1.out.2.2.1 hb.size
  have HW2 : Hid (W2 = w2.alloc (.cells #[.string x.log, .int .i64 x.size, .string x.root, .int .i64 x.time, .int .i64 x.k, .slice a2 x.el.length c2, .slice b2 x.pl.length d2, .string y.log, .int .i64 y.size, .string y.root, .int .i64 y.time, .int .i64 y.k, .slice e2 y.el.length f2, .slice g2 y.pl.length o2, .slice i2 l.length j2, .int .i64 c] 30)) := hW2
  have HB4 : Hid (b4 = w2.heap.size) := hb4
  clear ho hb hal hW2 hb4 hn0 H1
  have EQ : Hid (∀ W, FlMid w b3 b4 n0 n1 n2 n3 n4 b4 x y l c a1 b1 e1 g1 i1 c1 d1 f1 o1 j1 a2 b2 e2 g2 i2 c2 d2 f2 o2 j2 x.el x.pl y.el y.pl l W → Calls Try.prog 7 #[.agg #[.string x.log, .int .i64 x.size, .string x.root, .int .i64 x.time, .int .i64 x.k, .slice a2 x.el.length c2, .slice b2 x.pl.length d2, .string y.log, .int .i64 y.size, .string y.root, .int .i64 y.time, .int .i64 y.k, .slice e2 y.el.length f2, .slice g2 y.pl.length o2, .slice i2 l.length j2, .int .i64 c], .agg #[.string x.log, .int .i64 x.size, .string x.root, .int .i64 x.time, .int .i64 x.k, .slice a1 x.el.length c1, .slice b1 x.pl.length d1, .string y.log, .int .i64 y.size, .string y.root, .int .i64 y.time, .int .i64 y.k, .slice e1 y.el.length f1, .slice g1 y.pl.length o1, .slice i1 l.length j1, .int .i64 c]] W fun e w' => e = .returned (.bool true) ∧ Below W.heap.size W w') := fun W h => eqFraudOut_any W h.2.2.2.1.ins h.spec HLN.out.1 HLN.out.2.1 (by have := HLN.out.2.2.2.2; omega)
  go_wp2_with fail
  rw [← HW2.out, ← HB4.out]
  clear HW2 HB4 z0 z1 z2 z3 z4 z5 z6 z7 z8 z9 z10 z11 z12 z13 z14 z15 hlt2
  refine (EQ.out _ M2.out).mono ?_
  rintro e w3 ⟨rfl, hb⟩
  have M3 : Hid (FlMid w b3 b4 n0 n1 n2 n3 n4 b4 x y l c a1 b1 e1 g1 i1 c1 d1 f1 o1 j1 a2 b2 e2 g2 i2 c2 d2 f2 o2 j2 x.el x.pl y.el y.pl l w3) := M2.out.below hb
  clear hb M2
  as_aux_lemma =>
    obtain ⟨q0, q1, q2, q3, q4, q5, q6, q7, q8, q9, q10, q11, q12, q13, q14, q15⟩ := M3.out.b4
    have EM : Hid (Calls Try.prog 8 #[.agg #[.string x.log, .int .i64 x.size, .string x.root, .int .i64 x.time, .int .i64 x.k, .slice a2 x.el.length c2, .slice b2 x.pl.length d2, .string y.log, .int .i64 y.size, .string y.root, .int .i64 y.time, .int .i64 y.k, .slice e2 y.el.length f2, .slice g2 y.pl.length o2, .slice i2 l.length j2, .int .i64 c], .int .i64 1] w3 fun e w' => e = .returned (.int .i64 ((1 + x.el.length + x.pl.length + y.el.length + y.pl.length + l.length : Nat) : Int)) ∧ Owns5 w' n0 n1 n2 n3 n4 (.slice a2 x.el.length c2) (.slice b2 x.pl.length d2) (.slice e2 y.el.length f2) (.slice g2 y.pl.length o2) (.slice i2 l.length j2) (marks (1) x.el.length) (marks (1 + x.el.length) x.pl.length) (marks (1 + x.el.length + x.pl.length) y.el.length) (marks (1 + x.el.length + x.pl.length + y.el.length) y.pl.length) (marks (1 + x.el.length + x.pl.length + y.el.length + y.pl.length) l.length) ∧ Inside w3 w' n0 b4) := markFraudOut_any w3 n0 n1 n2 n3 n4 b4 M3.out.2.2.2.1 M3.out.2.2.2.2 ⟨M3.out.1.2.2.2.1, Nat.le_of_lt M3.out.1.2.2.2.2.2⟩ HLN.out.2.2.1 HLN.out.2.2.2.1 HLN.out.2.2.2.2
    have EHD : Hid (∀ W, Owns5 W n0 n1 n2 n3 n4 (.slice a2 x.el.length c2) (.slice b2 x.pl.length d2) (.slice e2 y.el.length f2) (.slice g2 y.pl.length o2) (.slice i2 l.length j2) (marks (1) x.el.length) (marks (1 + x.el.length) x.pl.length) (marks (1 + x.el.length + x.pl.length) y.el.length) (marks (1 + x.el.length + x.pl.length + y.el.length) y.pl.length) (marks (1 + x.el.length + x.pl.length + y.el.length + y.pl.length) l.length) → Calls Try.prog 9 #[.agg #[.string x.log, .int .i64 x.size, .string x.root, .int .i64 x.time, .int .i64 x.k, .slice a2 x.el.length c2, .slice b2 x.pl.length d2, .string y.log, .int .i64 y.size, .string y.root, .int .i64 y.time, .int .i64 y.k, .slice e2 y.el.length f2, .slice g2 y.pl.length o2, .slice i2 l.length j2, .int .i64 c], .int .i64 1] W fun e w' => e = .returned (.int .i64 ((1 + x.el.length + x.pl.length + y.el.length + y.pl.length + l.length : Nat) : Int)) ∧ Below W.heap.size W w') := fun W h => heldFraudOut_any W n0 n1 n2 n3 n4 h HLN.out.2.2.1 HLN.out.2.2.2.1 HLN.out.2.2.2.2
    have hm : ¬ ((1 + x.el.length + x.pl.length + y.el.length + y.pl.length + l.length : Nat) : Int) < 0 := by omega
    generalize ((1 + x.el.length + x.pl.length + y.el.length + y.pl.length + l.length : Nat) : Int) = k5 at *
    go_wp2_with fail
    refine EM.out.mono ?_
    rintro e w4 ⟨rfl, ho, hi⟩
    have M4 : Hid (FlMid w b3 b4 n0 n1 n2 n3 n4 b4 x y l c a1 b1 e1 g1 i1 c1 d1 f1 o1 j1 a2 b2 e2 g2 i2 c2 d2 f2 o2 j2 (marks (1) x.el.length) (marks (1 + x.el.length) x.pl.length) (marks (1 + x.el.length + x.pl.length) y.el.length) (marks (1 + x.el.length + x.pl.length + y.el.length) y.pl.length) (marks (1 + x.el.length + x.pl.length + y.el.length + y.pl.length) l.length) w4) := M3.out.mark hi ho
    clear ho hi M3 EM q0 q1 q2 q3 q4 q5 q6 q7 q8 q9 q10 q11 q12 q13 q14 q15
    obtain ⟨q0, q1, q2, q3, q4, q5, q6, q7, q8, q9, q10, q11, q12, q13, q14, q15⟩ := M4.out.b4
    go_wp2_with fail
    refine (EHD.out _ M4.out.2.2.2.1).mono ?_
    rintro e w5 ⟨rfl, hb⟩
    have M5 : Hid (FlMid w b3 b4 n0 n1 n2 n3 n4 b4 x y l c a1 b1 e1 g1 i1 c1 d1 f1 o1 j1 a2 b2 e2 g2 i2 c2 d2 f2 o2 j2 (marks (1) x.el.length) (marks (1 + x.el.length) x.pl.length) (marks (1 + x.el.length + x.pl.length) y.el.length) (marks (1 + x.el.length + x.pl.length + y.el.length) y.pl.length) (marks (1 + x.el.length + x.pl.length + y.el.length + y.pl.length) l.length) w5) := M4.out.below hb
    clear hb M4 q0 q1 q2 q3 q4 q5 q6 q7 q8 q9 q10 q11 q12 q13 q14 q15
    as_aux_lemma =>
      go_wp2_with fail
      refine (EI.out _).mono ?_
      rintro e w6 ⟨x', y', l', c', v0, v1, v2, v3, v4, q1, q2, q3, q4, rfl, hfr', ho, hb⟩
      have heq := HFR.out.trans hfr'.symm
      simp only [Prod.mk.injEq] at heq
      obtain ⟨rfl, rfl, rfl, rfl⟩ := heq
      clear hfr'
      obtain ⟨a7, c7, hv⟩ := ho.1.1.len
      subst hv
      obtain ⟨b7, d7, hv⟩ := ho.1.2.1.len
      subst hv
      obtain ⟨e7, f7, hv⟩ := ho.1.2.2.1.len
      subst hv
      obtain ⟨g7, o7, hv⟩ := ho.1.2.2.2.1.len
      subst hv
      obtain ⟨i7, j7, hv⟩ := ho.1.2.2.2.2.len
      subst hv
      obtain ⟨W6, hW6⟩ : ∃ W6, W6 = w6.alloc (.cells #[.string x.log, .int .i64 x.size, .string x.root, .int .i64 x.time, .int .i64 x.k, .slice a7 x.el.length c7, .slice b7 x.pl.length d7, .string y.log, .int .i64 y.size, .string y.root, .int .i64 y.time, .int .i64 y.k, .slice e7 y.el.length f7, .slice g7 y.pl.length o7, .slice i7 l.length j7, .int .i64 c] 30) := ⟨_, rfl⟩
      have hal : Below w6.heap.size w6 W6 := by rw [hW6]; exact (Below.refl _ _).alloc (Nat.le_refl _) _
      have M6 : Hid (FlMid w b3 b4 n0 n1 n2 n3 n4 b4 x y l c a1 b1 e1 g1 i1 c1 d1 f1 o1 j1 a2 b2 e2 g2 i2 c2 d2 f2 o2 j2 (marks (1) x.el.length) (marks (1 + x.el.length) x.pl.length) (marks (1 + x.el.length + x.pl.length) y.el.length) (marks (1 + x.el.length + x.pl.length + y.el.length) y.pl.length) (marks (1 + x.el.length + x.pl.length + y.el.length + y.pl.length) l.length) W6 ∧ (x.In (.slice a7 x.el.length c7) (.slice b7 x.pl.length d7) W6 W6.heap.size ∧ y.In (.slice e7 y.el.length f7) (.slice g7 y.pl.length o7) W6 W6.heap.size ∧ Texts W6 W6.heap.size (.slice i7 l.length j7) l)) := by
        have i6 := (ho.below hal (Nat.le_refl _)).ins
        exact ⟨M5.out.below (hb.trans (hal.mono hb.size)), i6⟩
      obtain ⟨p0, p1, p2, p3, p4, p5, p6, p7, p8, p9, p10, p11, p12, p13, p14, p15⟩ : w6.cell? ⟨b3, 0, none⟩ = some (.string x.log) ∧ w6.cell? ⟨b3, 1, none⟩ = some (.int .i64 x.size) ∧ w6.cell? ⟨b3, 2, none⟩ = some (.string x.root) ∧ w6.cell? ⟨b3, 3, none⟩ = some (.int .i64 x.time) ∧ w6.cell? ⟨b3, 4, none⟩ = some (.int .i64 x.k) ∧ w6.cell? ⟨b3, 5, none⟩ = some (.slice a1 x.el.length c1) ∧ w6.cell? ⟨b3, 6, none⟩ = some (.slice b1 x.pl.length d1) ∧ w6.cell? ⟨b3, 7, none⟩ = some (.string y.log) ∧ w6.cell? ⟨b3, 8, none⟩ = some (.int .i64 y.size) ∧ w6.cell? ⟨b3, 9, none⟩ = some (.string y.root) ∧ w6.cell? ⟨b3, 10, none⟩ = some (.int .i64 y.time) ∧ w6.cell? ⟨b3, 11, none⟩ = some (.int .i64 y.k) ∧ w6.cell? ⟨b3, 12, none⟩ = some (.slice e1 y.el.length f1) ∧ w6.cell? ⟨b3, 13, none⟩ = some (.slice g1 y.pl.length o1) ∧ w6.cell? ⟨b3, 14, none⟩ = some (.slice i1 l.length j1) ∧ w6.cell? ⟨b3, 15, none⟩ = some (.int .i64 c) := by
        have r := row_here ((hb.block _ (by have h := M5.out; have := h.2.2.2.1.2.2; have := h.1; omega)).trans M5.out.2.1.1)
        exact ⟨r 0 _ rfl, r 1 _ rfl, r 2 _ rfl, r 3 _ rfl, r 4 _ rfl, r 5 _ rfl, r 6 _ rfl, r 7 _ rfl, r 8 _ rfl, r 9 _ rfl, r 10 _ rfl, r 11 _ rfl, r 12 _ rfl, r 13 _ rfl, r 14 _ rfl, r 15 _ rfl⟩
      have hlt6 : b3 < w6.heap.size := Nat.lt_of_lt_of_le (by have h := M5.out; have := h.2.2.2.1.2.2; have := h.1; omega) hb.size
      have HW6 : Hid (W6 = w6.alloc (.cells #[.string x.log, .int .i64 x.size, .string x.root, .int .i64 x.time, .int .i64 x.k, .slice a7 x.el.length c7, .slice b7 x.pl.length d7, .string y.log, .int .i64 y.size, .string y.root, .int .i64 y.time, .int .i64 y.k, .slice e7 y.el.length f7, .slice g7 y.pl.length o7, .slice i7 l.length j7, .int .i64 c] 30)) := hW6
      have E6 : Hid (Calls Try.prog 7 #[.agg #[.string x.log, .int .i64 x.size, .string x.root, .int .i64 x.time, .int .i64 x.k, .slice a7 x.el.length c7, .slice b7 x.pl.length d7, .string y.log, .int .i64 y.size, .string y.root, .int .i64 y.time, .int .i64 y.k, .slice e7 y.el.length f7, .slice g7 y.pl.length o7, .slice i7 l.length j7, .int .i64 c], .agg #[.string x.log, .int .i64 x.size, .string x.root, .int .i64 x.time, .int .i64 x.k, .slice a1 x.el.length c1, .slice b1 x.pl.length d1, .string y.log, .int .i64 y.size, .string y.root, .int .i64 y.time, .int .i64 y.k, .slice e1 y.el.length f1, .slice g1 y.pl.length o1, .slice i1 l.length j1, .int .i64 c]] W6 fun e w' => e = .returned (.bool true) ∧ Below W6.heap.size W6 w') := eqFraudOut_any W6 M6.out.2 M6.out.1.spec HLN.out.1 HLN.out.2.1 (by have := HLN.out.2.2.2.2; omega)
      clear ho hb hal hW6 M5
      go_wp2_with fail
      rw [← HW6.out]
      clear HW6 p0 p1 p2 p3 p4 p5 p6 p7 p8 p9 p10 p11 p12 p13 p14 p15 hlt6
      refine E6.out.mono ?_
      rintro e w7 ⟨rfl, hb⟩
      have M7 : Hid (FlMid w b3 b4 n0 n1 n2 n3 n4 b4 x y l c a1 b1 e1 g1 i1 c1 d1 f1 o1 j1 a2 b2 e2 g2 i2 c2 d2 f2 o2 j2 (marks (1) x.el.length) (marks (1 + x.el.length) x.pl.length) (marks (1 + x.el.length + x.pl.length) y.el.length) (marks (1 + x.el.length + x.pl.length + y.el.length) y.pl.length) (marks (1 + x.el.length + x.pl.length + y.el.length + y.pl.length) l.length) w7) := M6.out.1.below hb
      clear hb M6 E6
      obtain ⟨q0, q1, q2, q3, q4, q5, q6, q7, q8, q9, q10, q11, q12, q13, q14, q15⟩ := M7.out.b4
      go_wp2_with fail
      refine (EHD.out _ M7.out.2.2.2.1).mono ?_
      rintro e w8 ⟨rfl, hb⟩
      have M8 : Hid (FlMid w b3 b4 n0 n1 n2 n3 n4 b4 x y l c a1 b1 e1 g1 i1 c1 d1 f1 o1 j1 a2 b2 e2 g2 i2 c2 d2 f2 o2 j2 (marks (1) x.el.length) (marks (1 + x.el.length) x.pl.length) (marks (1 + x.el.length + x.pl.length) y.el.length) (marks (1 + x.el.length + x.pl.length + y.el.length) y.pl.length) (marks (1 + x.el.length + x.pl.length + y.el.length + y.pl.length) l.length) w8) := M7.out.below hb
      clear hb M7 q0 q1 q2 q3 q4 q5 q6 q7 q8 q9 q10 q11 q12 q13 q14 q15
      go_wp2
      go_ret
      exact ⟨rfl, M8.out.1.1⟩
end Go.Proofs.Ytpglcbidfghfkaa
