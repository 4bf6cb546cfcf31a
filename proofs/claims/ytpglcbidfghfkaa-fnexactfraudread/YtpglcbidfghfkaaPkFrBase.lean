/-
  The program's FraudRead.
-/
import Derived.Test.YtpglcbidfghfkaaPkRdStrs
import Derived.Test.YtpglcbidfghfkaaPkReadBack
import Derived.Test.YtpglcbidfghfkaaPkImplFB
import Derived.Test.YtpglcbidfghfkaaPkSdHead
namespace Go.Proofs.Ytpglcbidfghfkaa
open Go.RowKit Go.Lib
set_option linter.unusedVariables false
set_option linter.unusedSimpArgs false

theorem below_own {w W W' : World} {r : Nat} (h : Below w.heap.size w W) (hg : W.grownBy W' (some r)) (hr : w.heap.size ≤ r) : Below w.heap.size w W' :=
  ⟨hg.os.trans h.os, hg.tape.trans h.tape, hg.output.trans h.output, Nat.le_trans h.size hg.size, fun k hk => (hg.block k (Nat.lt_of_lt_of_le hk h.size) (by simp; omega)).trans (h.block k hk)⟩
end Go.Proofs.Ytpglcbidfghfkaa

/-
  What the document's FraudRead reads.
-/
namespace Go.Proofs.Ytpglcbidfghfkaa
open Go.RowKit Go.Lib
set_option linter.unusedVariables false
set_option linter.unusedSimpArgs false

/-- What the document reads: the heads, the entries, where it stands then. -/
def spNum (s : ByteArray) : Int × Option Int := rdNum s (sdEnd s (sdEnd s (some 0)))
def spAt (s : ByteArray) : List ByteArray × Option Int := rdTexts s (spNum s).2 (spNum s).1.toNat
theorem sdEnd_some {s : ByteArray} {st : Option Int} (h : sdEnd s st ≠ none) : sdEnd s st = (headAt s st).2.2 ∧ (headAt s st).2.1 ≠ none := by
  unfold sdEnd at h ⊢
  split at h
  · exact absurd rfl h
  · rename_i hc
    rw [if_neg hc]
    exact ⟨rfl, hc⟩
theorem sdEnd_stuck (s : ByteArray) : sdEnd s none = none := by
  unfold sdEnd
  split
  · rfl
  · exact headAt_stuck s
theorem spAt_some {s : ByteArray} (h : (spAt s).2 ≠ none) : (headAt s (sdEnd s (some 0))).1 = (headsAt s).2.1 ∧ spAt s = fraudAt s := by
  have h1 : sdEnd s (sdEnd s (some 0)) ≠ none := by
    intro e
    apply h
    show (rdTexts s (spNum s).2 (spNum s).1.toNat).2 = none
    unfold spNum
    rw [e]
    exact rdTexts_stuck s _
  have h0 : sdEnd s (some 0) ≠ none := by
    intro e
    rw [e, sdEnd_stuck] at h1
    exact h1 rfl
  obtain ⟨e0, _⟩ := sdEnd_some h0
  obtain ⟨e1, _⟩ := sdEnd_some h1
  refine ⟨by rw [e0]; rfl, ?_⟩
  show rdTexts s (rdNum s (sdEnd s (sdEnd s (some 0)))).2 (rdNum s (sdEnd s (sdEnd s (some 0)))).1.toNat = _
  rw [e1, e0]
  rfl
theorem spAt_ok {s : ByteArray} (hs : ¬ 20000 < (s.size : Int)) (h : fraudOk s = true) : (spAt s).2 ≠ none ∧ s ≠ ⟨#[]⟩ := by
  obtain ⟨i1, i2, i3⟩ := fraudOk_inner hs h
  obtain ⟨f1, _⟩ := (fraudOk_iff s).1 h
  have e0 : sdEnd s (some 0) = (headsAt s).1.2.2 := by unfold sdEnd; exact if_neg (show ¬ (headAt s (some 0)).2.1 = none from i1)
  have e1 : sdEnd s (sdEnd s (some 0)) = (headsAt s).2.2.2 := by
    rw [e0]
    unfold sdEnd
    have i2' : ¬ (headAt s (headsAt s).1.2.2).2.1 = none := i2
    exact if_neg i2'
  refine ⟨?_, i3⟩
  show (rdTexts s (rdNum s (sdEnd s (sdEnd s (some 0)))).2 (rdNum s (sdEnd s (sdEnd s (some 0)))).1.toNat).2 ≠ none
  rw [e1]
  exact f1
theorem spAt_end {s : ByteArray} {j : Nat} (hj : j ≤ (spNum s).1.toNat) (h : j = (spNum s).1.toNat ∨ (rdTexts s (spNum s).2 j).2 = none) : (spAt s).2 = (rdTexts s (spNum s).2 j).2 := rdTexts_end hj h
theorem spAt_list {s : ByteArray} {j : Nat} (hj : j ≤ (spNum s).1.toNat) (h : j = (spNum s).1.toNat ∨ (rdTexts s (spNum s).2 j).2 = none) (hn : (rdTexts s (spNum s).2 j).2 ≠ none) : (rdTexts s (spNum s).2 j).1 = (spAt s).1 := by
  rcases h with h | h
  · rw [h]; rfl
  · exact absurd h hn
theorem headAt_lim {s : ByteArray} (hs : ¬ 20000 < (s.size : Int)) (st : Option Int) : (headAt s st).1.Lim := by
  have h1 := rdText_size s st
  refine ⟨Nat.le_trans (rdText_size _ _) (by omega), Nat.le_trans (rdText_size _ _) (by omega), ?_, ?_⟩
  · show (rdTexts s (rdNum s (rdText s st).2).2 6).1.length ≤ _
    rw [rdTexts_length]; decide
  · show (rdTexts s (rdTexts s (rdNum s (rdText s st).2).2 6).2 2).1.length ≤ _
    rw [rdTexts_length]; decide
/-- A fraud and a code as the document answers them. -/
def SpOut (s : ByteArray) (w : World) (e : Ending) (w' : World) : Prop :=
  ∃ (x y : Hd) (l : List ByteArray) (c : Int) (vex vpx vey vpy vl : Value), e = .returned (.agg #[.string x.log, .int .i64 x.size, .string x.root, .int .i64 x.time, .int .i64 x.k, vex, vpx, .string y.log, .int .i64 y.size, .string y.root, .int .i64 y.time, .int .i64 y.k, vey, vpy, vl, .int .i64 c]) ∧ (x, y, l, c) = frR s ∧ (x.In vex vpx w' w'.heap.size ∧ y.In vey vpy w' w'.heap.size ∧ Texts w' w'.heap.size vl l) ∧ Below w.heap.size w w'
theorem Texts.none (w : World) (B : Nat) : Texts w B (.slice none 0 0) [] := ⟨Option.none, 0, rfl, .inl rfl, Nat.le_refl _⟩
theorem SpOut.zero {s : ByteArray} {w w' : World} {c : Int} (h : frR s = (hd0, hd0, [], c)) (hb : Below w.heap.size w w') : SpOut s w (.returned (.agg #[.string ⟨#[]⟩, .int .i64 0, .string ⟨#[]⟩, .int .i64 0, .int .i64 0, .slice none 0 0, .slice none 0 0, .string ⟨#[]⟩, .int .i64 0, .string ⟨#[]⟩, .int .i64 0, .int .i64 0, .slice none 0 0, .slice none 0 0, .slice none 0 0, .int .i64 c])) w' :=
  ⟨hd0, hd0, [], c, _, _, _, _, _, rfl, h.symm, ⟨⟨Texts.none _ _, Texts.none _ _⟩, ⟨Texts.none _ _, Texts.none _ _⟩, Texts.none _ _⟩, hb⟩
/-- The rows of both heads, which the call has made. -/
def Rows4 (W : World) (B : Nat) (v1 v2 v3 v4 : Value) (l1 l2 l3 l4 : List ByteArray) : Prop := OwnT W B v1 l1 ∧ OwnT W B v2 l2 ∧ OwnT W B v3 l3 ∧ OwnT W B v4 l4
def Under4 (C : Nat) (v1 v2 v3 v4 : Value) : Prop := (∀ g, v1.ownBlock = some g → g < C) ∧ (∀ g, v2.ownBlock = some g → g < C) ∧ (∀ g, v3.ownBlock = some g → g < C) ∧ (∀ g, v4.ownBlock = some g → g < C)
theorem Rows4.grown {W W' : World} {B g : Nat} {v1 v2 v3 v4 : Value} {l1 l2 l3 l4 : List ByteArray} (h : Rows4 W B v1 v2 v3 v4 l1 l2 l3 l4) (hg : W.grownBy W' (some g)) (hB : g < B) : Rows4 W' B v1 v2 v3 v4 l1 l2 l3 l4 := ⟨h.1.grown hg hB, h.2.1.grown hg hB, h.2.2.1.grown hg hB, h.2.2.2.grown hg hB⟩
theorem Rows4.past {W W' : World} {B b : Nat} {v1 v2 v3 v4 : Value} {l1 l2 l3 l4 : List ByteArray} {cs : Array Value} {t : TypeId} {fz : Nat × Nat} (h : Rows4 W B v1 v2 v3 v4 l1 l2 l3 l4) (hg : W.grownBy W' (some b)) (hp : W.heap[b]? = some (.cells cs t fz)) (ht : t ≠ 9) : Rows4 W' B v1 v2 v3 v4 l1 l2 l3 l4 := ⟨h.1.past hg hp ht, h.2.1.past hg hp ht, h.2.2.1.past hg hp ht, h.2.2.2.past hg hp ht⟩
theorem Rows4.under {W W' : World} {B C : Nat} {v1 v2 v3 v4 : Value} {l1 l2 l3 l4 : List ByteArray} (h : Rows4 W B v1 v2 v3 v4 l1 l2 l3 l4) (hb : Below C W W') (hu : Under4 C v1 v2 v3 v4) : Rows4 W' B v1 v2 v3 v4 l1 l2 l3 l4 := ⟨h.1.under hb hu.1, h.2.1.under hb hu.2.1, h.2.2.1.under hb hu.2.2.1, h.2.2.2.under hb hu.2.2.2⟩
theorem Rows4.lt {W : World} {B : Nat} {v1 v2 v3 v4 : Value} {l1 l2 l3 l4 : List ByteArray} (h : Rows4 W B v1 v2 v3 v4 l1 l2 l3 l4) : Under4 W.heap.size v1 v2 v3 v4 := ⟨fun g e => (h.1.block_lt g e).2, fun g e => (h.2.1.block_lt g e).2, fun g e => (h.2.2.1.block_lt g e).2, fun g e => (h.2.2.2.block_lt g e).2⟩
/-- In between: the reader at p; the answer's block as it was made; the fraud's cells are cs (at h). -/
def SfMid (s : ByteArray) (p h : Nat) (w : World) (st : Option Int) (cs : Array Value) (W : World) : Prop :=
  Sd s p st W ∧ (W.heap[w.heap.size]? = some (.cells #[.string ⟨#[]⟩, .int .i64 0, .string ⟨#[]⟩, .int .i64 0, .int .i64 0, .slice none 0 0, .slice none 0 0, .string ⟨#[]⟩, .int .i64 0, .string ⟨#[]⟩, .int .i64 0, .int .i64 0, .slice none 0 0, .slice none 0 0, .slice none 0 0, .int .i64 0] 30 (0, 0)) ∧ W.heap[h]? = some (.cells cs 28 (0, 0))) ∧ Below w.heap.size w W ∧ w.heap.size < p ∧ p < h
theorem SfMid.outer {s : ByteArray} {p h : Nat} {w : World} {st st' : Option Int} {cs : Array Value} {W W' : World} (hh : SfMid s p h w st cs W) (hr : Sd s p st' W') (hg : W.grownBy W' (some p)) : SfMid s p h w st' cs W' := by
  obtain ⟨h1, ⟨h3, h4⟩, h5, h6, h7⟩ := hh
  have l3 := (Array.getElem?_eq_some_iff.1 h3).1
  have l4 := (Array.getElem?_eq_some_iff.1 h4).1
  exact ⟨hr, ⟨(hg.block _ l3 (by simp; omega)).trans h3, (hg.block _ l4 (by simp; omega)).trans h4⟩, below_own h5 hg (by omega), h6, h7⟩
theorem SfMid.below {s : ByteArray} {p h : Nat} {w : World} {st : Option Int} {cs : Array Value} {W W' : World} (hh : SfMid s p h w st cs W) (hb : Below (h + 1) W W') : SfMid s p h w st cs W' := by
  obtain ⟨h1, ⟨h3, h4⟩, h5, h6, h7⟩ := hh
  exact ⟨h1.block (hb.block _ (by omega)), ⟨(hb.block _ (by omega)).trans h3, (hb.block _ (by omega)).trans h4⟩, h5.trans (hb.mono (by omega)), h6, h7⟩
theorem SfMid.put {s : ByteArray} {p h : Nat} {w : World} {st : Option Int} {cs : Array Value} {W : World} (hh : SfMid s p h w st cs W) (i : Nat) (v : Value) (cs' : Array Value) (e : cs.setIfInBounds i v = cs') : SfMid s p h w st cs' (W.setCell ⟨h, i, none⟩ v) := by
  obtain ⟨h1, ⟨h3, h4⟩, h5, h6, h7⟩ := hh
  exact ⟨h1.block (heap_pass (by omega) rfl), ⟨heap_pass (by omega) h3, heap_put2 _ h4 e⟩, below_own h5 (grown_cell (rd_refl _ _) _ _) (by omega), h6, h7⟩
theorem SfMid.cells {s : ByteArray} {p h : Nat} {w : World} {st : Option Int} {v0 v1 v2 v3 v4 v5 v6 v7 v8 v9 v10 v11 v12 v13 v14 : Value} {W : World} (hh : SfMid s p h w st #[v0, v1, v2, v3, v4, v5, v6, v7, v8, v9, v10, v11, v12, v13, v14] W) : (W.cell? ⟨h, 0, none⟩ = some (v0) ∧ W.cell? ⟨h, 1, none⟩ = some (v1) ∧ W.cell? ⟨h, 2, none⟩ = some (v2) ∧ W.cell? ⟨h, 3, none⟩ = some (v3) ∧ W.cell? ⟨h, 4, none⟩ = some (v4) ∧ W.cell? ⟨h, 5, none⟩ = some (v5) ∧ W.cell? ⟨h, 6, none⟩ = some (v6) ∧ W.cell? ⟨h, 7, none⟩ = some (v7) ∧ W.cell? ⟨h, 8, none⟩ = some (v8) ∧ W.cell? ⟨h, 9, none⟩ = some (v9) ∧ W.cell? ⟨h, 10, none⟩ = some (v10) ∧ W.cell? ⟨h, 11, none⟩ = some (v11) ∧ W.cell? ⟨h, 12, none⟩ = some (v12) ∧ W.cell? ⟨h, 13, none⟩ = some (v13) ∧ W.cell? ⟨h, 14, none⟩ = some (v14)) ∧ (W.frozen? ⟨h, 0, none⟩ = false ∧ W.frozen? ⟨h, 1, none⟩ = false ∧ W.frozen? ⟨h, 2, none⟩ = false ∧ W.frozen? ⟨h, 3, none⟩ = false ∧ W.frozen? ⟨h, 4, none⟩ = false ∧ W.frozen? ⟨h, 5, none⟩ = false ∧ W.frozen? ⟨h, 6, none⟩ = false ∧ W.frozen? ⟨h, 7, none⟩ = false ∧ W.frozen? ⟨h, 8, none⟩ = false ∧ W.frozen? ⟨h, 9, none⟩ = false ∧ W.frozen? ⟨h, 10, none⟩ = false ∧ W.frozen? ⟨h, 11, none⟩ = false ∧ W.frozen? ⟨h, 12, none⟩ = false ∧ W.frozen? ⟨h, 13, none⟩ = false ∧ W.frozen? ⟨h, 14, none⟩ = false) := by
  obtain ⟨_, ⟨_, h4⟩, _⟩ := hh
  have r := row_here h4
  have q := row_free h4
  exact ⟨⟨r 0 _ rfl, r 1 _ rfl, r 2 _ rfl, r 3 _ rfl, r 4 _ rfl, r 5 _ rfl, r 6 _ rfl, r 7 _ rfl, r 8 _ rfl, r 9 _ rfl, r 10 _ rfl, r 11 _ rfl, r 12 _ rfl, r 13 _ rfl, r 14 _ rfl⟩, q 0, q 1, q 2, q 3, q 4, q 5, q 6, q 7, q 8, q 9, q 10, q 11, q 12, q 13, q 14⟩
theorem SfMid.out {s : ByteArray} {p h : Nat} {w : World} {st : Option Int} {cs : Array Value} {W : World} (hh : SfMid s p h w st cs W) : (W.cell? ⟨w.heap.size, 0, none⟩ = some (.string ⟨#[]⟩) ∧ W.cell? ⟨w.heap.size, 1, none⟩ = some (.int .i64 0) ∧ W.cell? ⟨w.heap.size, 2, none⟩ = some (.string ⟨#[]⟩) ∧ W.cell? ⟨w.heap.size, 3, none⟩ = some (.int .i64 0) ∧ W.cell? ⟨w.heap.size, 4, none⟩ = some (.int .i64 0) ∧ W.cell? ⟨w.heap.size, 5, none⟩ = some (.slice none 0 0) ∧ W.cell? ⟨w.heap.size, 6, none⟩ = some (.slice none 0 0) ∧ W.cell? ⟨w.heap.size, 7, none⟩ = some (.string ⟨#[]⟩) ∧ W.cell? ⟨w.heap.size, 8, none⟩ = some (.int .i64 0) ∧ W.cell? ⟨w.heap.size, 9, none⟩ = some (.string ⟨#[]⟩) ∧ W.cell? ⟨w.heap.size, 10, none⟩ = some (.int .i64 0) ∧ W.cell? ⟨w.heap.size, 11, none⟩ = some (.int .i64 0) ∧ W.cell? ⟨w.heap.size, 12, none⟩ = some (.slice none 0 0) ∧ W.cell? ⟨w.heap.size, 13, none⟩ = some (.slice none 0 0) ∧ W.cell? ⟨w.heap.size, 14, none⟩ = some (.slice none 0 0) ∧ W.cell? ⟨w.heap.size, 15, none⟩ = some (.int .i64 0)) ∧ (W.frozen? ⟨w.heap.size, 0, none⟩ = false ∧ W.frozen? ⟨w.heap.size, 1, none⟩ = false ∧ W.frozen? ⟨w.heap.size, 2, none⟩ = false ∧ W.frozen? ⟨w.heap.size, 3, none⟩ = false ∧ W.frozen? ⟨w.heap.size, 4, none⟩ = false ∧ W.frozen? ⟨w.heap.size, 5, none⟩ = false ∧ W.frozen? ⟨w.heap.size, 6, none⟩ = false ∧ W.frozen? ⟨w.heap.size, 7, none⟩ = false ∧ W.frozen? ⟨w.heap.size, 8, none⟩ = false ∧ W.frozen? ⟨w.heap.size, 9, none⟩ = false ∧ W.frozen? ⟨w.heap.size, 10, none⟩ = false ∧ W.frozen? ⟨w.heap.size, 11, none⟩ = false ∧ W.frozen? ⟨w.heap.size, 12, none⟩ = false ∧ W.frozen? ⟨w.heap.size, 13, none⟩ = false ∧ W.frozen? ⟨w.heap.size, 14, none⟩ = false ∧ W.frozen? ⟨w.heap.size, 15, none⟩ = false) := by
  obtain ⟨_, ⟨h4, _⟩, _⟩ := hh
  have r := row_here h4
  have q := row_free h4
  exact ⟨⟨r 0 _ rfl, r 1 _ rfl, r 2 _ rfl, r 3 _ rfl, r 4 _ rfl, r 5 _ rfl, r 6 _ rfl, r 7 _ rfl, r 8 _ rfl, r 9 _ rfl, r 10 _ rfl, r 11 _ rfl, r 12 _ rfl, r 13 _ rfl, r 14 _ rfl, r 15 _ rfl⟩, q 0, q 1, q 2, q 3, q 4, q 5, q 6, q 7, q 8, q 9, q 10, q 11, q 12, q 13, q 14, q 15⟩
end Go.Proofs.Ytpglcbidfghfkaa

/-
  The program's FraudRead.
-/
namespace Go.Proofs.Ytpglcbidfghfkaa
open Go.RowKit Go.Lib
set_option linter.unusedVariables false
set_option linter.unusedSimpArgs false

set_option maxHeartbeats 4000000 in
set_option maxRecDepth 10000 in
theorem implFR_ok (s : ByteArray) (w : World) (hz : s.size ≤ 1048576) (hs : ¬ 20000 < (s.size : Int)) (HOK : Hid (fraudOk s = true)) :
    Calls Try.prog 6 #[.string s] w fun e w' => FrOut s w e w' := by
  have HNN : Hid ((fraudAt s).2 ≠ none) := ((fraudOk_iff s).1 HOK.out).1
  obtain ⟨W, hW⟩ : ∃ W, W = (w.alloc (.cells #[.string ⟨#[]⟩, .int .i64 0, .string ⟨#[]⟩, .int .i64 0, .int .i64 0, .slice none 0 0, .slice none 0 0, .string ⟨#[]⟩, .int .i64 0, .string ⟨#[]⟩, .int .i64 0, .int .i64 0, .slice none 0 0, .slice none 0 0, .slice none 0 0, .int .i64 0] 30)).alloc (.cells #[.string s, .int .i64 0, .nilIface] 52) := ⟨_, rfl⟩
  have hbW : Below w.heap.size w W := by rw [hW]; exact ((Below.refl _ _).alloc (Nat.le_refl _) _).alloc (by simp) _
  have H0 : Hid (Rd s (w.heap.size + 1) (some 0) W ∧ W.heap[w.heap.size]? = some (.cells #[.string ⟨#[]⟩, .int .i64 0, .string ⟨#[]⟩, .int .i64 0, .int .i64 0, .slice none 0 0, .slice none 0 0, .string ⟨#[]⟩, .int .i64 0, .string ⟨#[]⟩, .int .i64 0, .int .i64 0, .slice none 0 0, .slice none 0 0, .slice none 0 0, .int .i64 0] 30 (0, 0)) ∧ Below w.heap.size w W ∧ W.heap.size = w.heap.size + 2) := ⟨⟨0, .nilIface, by rw [hW]; exact heap_alloc2_new w _ _, .inl ⟨rfl, rfl, Int.le_refl _, Int.natCast_nonneg _⟩⟩, by rw [hW]; exact heap_alloc2_old w _ _, hbW, by rw [hW]; simp⟩
  have HW : Hid (W = (w.alloc (.cells #[.string ⟨#[]⟩, .int .i64 0, .string ⟨#[]⟩, .int .i64 0, .int .i64 0, .slice none 0 0, .slice none 0 0, .string ⟨#[]⟩, .int .i64 0, .string ⟨#[]⟩, .int .i64 0, .int .i64 0, .slice none 0 0, .slice none 0 0, .slice none 0 0, .int .i64 0] 30)).alloc (.cells #[.string s, .int .i64 0, .nilIface] 52)) := hW
  have E0 : Hid (Calls Try.prog 19 #[.pointer (some ⟨w.heap.size + 1, 0, none⟩)] W fun e w' => FraudRd s (w.heap.size + 1) W e w') := rdFraud_any s hs _ W H0.out.1
  have HS : Hid (¬ 20000 < (s.size : Int)) := hs
  clear hbW hW hz
  go_enter Try.func6, Try.ntmps6
  go_wp2_with fail
  rw [← HW.out]
  clear HW
  refine E0.out.mono ?_
  rintro e w1 ⟨x, y, l, vex, vpx, vey, vpy, vl, n1, n2, n3, n4, rfl, ho, hr, hgr, heq, hlx, hly, hll⟩
  obtain ⟨ax, cx, hv⟩ := ho.1.1.len
  subst hv
  obtain ⟨bx, dx, hv⟩ := ho.1.2.1.len
  subst hv
  obtain ⟨ay, cy, hv⟩ := ho.1.2.2.1.len
  subst hv
  obtain ⟨by', dy, hv⟩ := ho.1.2.2.2.1.len
  subst hv
  obtain ⟨al, cl, hv⟩ := ho.1.2.2.2.2.len
  subst hv
  obtain ⟨W4, hW4⟩ : ∃ W4, W4 = w1.alloc (.cells #[.string x.log, .int .i64 x.size, .string x.root, .int .i64 x.time, .int .i64 x.k, .slice ax x.el.length cx, .slice bx x.pl.length dx, .string y.log, .int .i64 y.size, .string y.root, .int .i64 y.time, .int .i64 y.k, .slice ay y.el.length cy, .slice by' y.pl.length dy, .slice al l.length cl] 28) := ⟨_, rfl⟩
  have hb4 : Below w1.heap.size w1 W4 := by rw [hW4]; exact (Below.refl _ _).alloc (Nat.le_refl _) _
  have HW4 : Hid (W4 = w1.alloc (.cells #[.string x.log, .int .i64 x.size, .string x.root, .int .i64 x.time, .int .i64 x.k, .slice ax x.el.length cx, .slice bx x.pl.length dx, .string y.log, .int .i64 y.size, .string y.root, .int .i64 y.time, .int .i64 y.k, .slice ay y.el.length cy, .slice by' y.pl.length dy, .slice al l.length cl] 28)) := hW4
  have H4 : Hid (Rd s (w.heap.size + 1) (fraudAt s).2 W4 ∧ W4.heap[w.heap.size]? = some (.cells #[.string ⟨#[]⟩, .int .i64 0, .string ⟨#[]⟩, .int .i64 0, .int .i64 0, .slice none 0 0, .slice none 0 0, .string ⟨#[]⟩, .int .i64 0, .string ⟨#[]⟩, .int .i64 0, .int .i64 0, .slice none 0 0, .slice none 0 0, .slice none 0 0, .int .i64 0] 30 (0, 0)) ∧ W4.heap[w1.heap.size]? = some (.cells #[.string x.log, .int .i64 x.size, .string x.root, .int .i64 x.time, .int .i64 x.k, .slice ax x.el.length cx, .slice bx x.pl.length dx, .string y.log, .int .i64 y.size, .string y.root, .int .i64 y.time, .int .i64 y.k, .slice ay y.el.length cy, .slice by' y.pl.length dy, .slice al l.length cl] 28 (0, 0)) ∧ Below w.heap.size w W4 ∧ Owns5 W4 w.heap.size n1 n2 n3 n4 (.slice ax x.el.length cx) (.slice bx x.pl.length dx) (.slice ay y.el.length cy) (.slice by' y.pl.length dy) (.slice al l.length cl) x.el x.pl y.el y.pl l ∧ w.heap.size + 2 ≤ w1.heap.size) := by
    obtain ⟨p1, p2, p3, p4⟩ := H0.out
    have hz := hgr.size
    have l2 := (Array.getElem?_eq_some_iff.1 p2).1
    refine ⟨hr.block (hb4.block _ hr.lt), (hb4.block _ (by omega)).trans ((hgr.block _ l2 (by simp)).trans p2), by rw [hW4]; exact heap_alloc_new w1 _, ?_, (ho.lower (by omega)).below hb4 (Nat.le_refl _), by omega⟩
    exact (p3.trans ⟨hgr.os, hgr.tape, hgr.output, hgr.size, fun k hk => hgr.block k (by omega) (by simp; omega)⟩).trans (hb4.mono (by omega))
  have HR1 : Hid (Rd s (w.heap.size + 1) (fraudAt s).2 w1) := hr
  have HQ : Hid (((fraudAt s).2 ≠ none → x = (headsAt s).1.1 ∧ y = (headsAt s).2.1 ∧ l = (fraudAt s).1) ∧ x.Lim ∧ y.Lim ∧ l.length ≤ 1048576) := ⟨heq, ⟨by omega, by omega, by omega, by omega⟩, ⟨by omega, by omega, by omega, by omega⟩, by omega⟩
  clear ho hr hgr heq hlx hly hll hb4 hW4 H0 E0
  obtain ⟨ha, hv, hrow, hcase⟩ := HR1.out
  obtain ⟨⟨c0, c1, c2⟩, f1, f2⟩ := Rd.cells hrow
  have hlt1 : w.heap.size + 1 < w1.heap.size := by have := H4.out.2.2.2.2.2; omega
  clear hrow
  rcases hcase with ⟨e1, rfl, h0, h1⟩ | ⟨e1, c, rfl⟩
  rotate_left
  · exact absurd e1 HNN.out
  · have hx := H4.out.2.2.2.2.1
    have HB : Hid (Calls Try.prog 20 #[.agg #[.string x.log, .int .i64 x.size, .string x.root, .int .i64 x.time, .int .i64 x.k, .slice ax x.el.length cx, .slice bx x.pl.length dx, .string y.log, .int .i64 y.size, .string y.root, .int .i64 y.time, .int .i64 y.k, .slice ay y.el.length cy, .slice by' y.pl.length dy, .slice al l.length cl]] W4 fun e w' => e = .returned (.string (fraudT x.right y.right x.bytes y.bytes l)) ∧ Below W4.heap.size W4 w') :=
      implFraudBytes_any x y _ _ _ _ _ l W4 ⟨hx.1.1.texts, hx.1.2.1.texts⟩ ⟨hx.1.2.2.1.texts, hx.1.2.2.2.1.texts⟩ hx.1.2.2.2.2.texts HQ.out.2.1 HQ.out.2.2.1 HQ.out.2.2.2
    have HE1 : Hid ((fraudAt s).2 ≠ none) := fun e => by rw [e1] at e; exact absurd e (by simp)
    clear hx e1
    have ht : fraudT x.right y.right x.bytes y.bytes l = s := by
      obtain ⟨e1, e2, e3⟩ := HQ.out.1 HE1.out
      rw [e1, e2, e3]
      exact ((fraudOk_iff s).1 HOK.out).2
    rw [ht] at HB
    have HT : Hid (frR s = (x, y, l, 0)) := by
      obtain ⟨e1, e2, e3⟩ := HQ.out.1 HE1.out
      show _ = _
      rw [frR_yes (by have := HS.out; omega) ((fraudOk_iff s).2 ⟨HE1.out, by rw [← e1, ← e2, ← e3]; exact ht⟩), ← e1, ← e2, ← e3]
    clear ht HE1 HQ HR1
    go_wp2_with fail
    rw [← HW4.out]
    clear HW4
    refine HB.out.mono ?_
    rintro e w5 ⟨rfl, hb5⟩
    have hlt4 : w1.heap.size < W4.heap.size := (Array.getElem?_eq_some_iff.1 H4.out.2.2.1).1
    have r4 := row_here ((hb5.block _ hlt4).trans H4.out.2.2.1)
    have r2 := row_here ((hb5.block _ (by omega)).trans H4.out.2.1)
    have q2 := row_free ((hb5.block _ (by omega)).trans H4.out.2.1)
    obtain ⟨p0, p1, p2, p3, p4, p5, p6, p7, p8, p9, p10, p11, p12, p13, p14⟩ : w5.cell? ⟨w1.heap.size, 0, none⟩ = some (.string x.log) ∧ w5.cell? ⟨w1.heap.size, 1, none⟩ = some (.int .i64 x.size) ∧ w5.cell? ⟨w1.heap.size, 2, none⟩ = some (.string x.root) ∧ w5.cell? ⟨w1.heap.size, 3, none⟩ = some (.int .i64 x.time) ∧ w5.cell? ⟨w1.heap.size, 4, none⟩ = some (.int .i64 x.k) ∧ w5.cell? ⟨w1.heap.size, 5, none⟩ = some (.slice ax x.el.length cx) ∧ w5.cell? ⟨w1.heap.size, 6, none⟩ = some (.slice bx x.pl.length dx) ∧ w5.cell? ⟨w1.heap.size, 7, none⟩ = some (.string y.log) ∧ w5.cell? ⟨w1.heap.size, 8, none⟩ = some (.int .i64 y.size) ∧ w5.cell? ⟨w1.heap.size, 9, none⟩ = some (.string y.root) ∧ w5.cell? ⟨w1.heap.size, 10, none⟩ = some (.int .i64 y.time) ∧ w5.cell? ⟨w1.heap.size, 11, none⟩ = some (.int .i64 y.k) ∧ w5.cell? ⟨w1.heap.size, 12, none⟩ = some (.slice ay y.el.length cy) ∧ w5.cell? ⟨w1.heap.size, 13, none⟩ = some (.slice by' y.pl.length dy) ∧ w5.cell? ⟨w1.heap.size, 14, none⟩ = some (.slice al l.length cl) := ⟨r4 0 _ rfl, r4 1 _ rfl, r4 2 _ rfl, r4 3 _ rfl, r4 4 _ rfl, r4 5 _ rfl, r4 6 _ rfl, r4 7 _ rfl, r4 8 _ rfl, r4 9 _ rfl, r4 10 _ rfl, r4 11 _ rfl, r4 12 _ rfl, r4 13 _ rfl, r4 14 _ rfl⟩
    obtain ⟨s0, s1, s2, s3, s4, s5, s6, s7, s8, s9, s10, s11, s12, s13, s14, s15⟩ : w5.cell? ⟨w.heap.size, 0, none⟩ = some (.string ⟨#[]⟩) ∧ w5.cell? ⟨w.heap.size, 1, none⟩ = some (.int .i64 0) ∧ w5.cell? ⟨w.heap.size, 2, none⟩ = some (.string ⟨#[]⟩) ∧ w5.cell? ⟨w.heap.size, 3, none⟩ = some (.int .i64 0) ∧ w5.cell? ⟨w.heap.size, 4, none⟩ = some (.int .i64 0) ∧ w5.cell? ⟨w.heap.size, 5, none⟩ = some (.slice none 0 0) ∧ w5.cell? ⟨w.heap.size, 6, none⟩ = some (.slice none 0 0) ∧ w5.cell? ⟨w.heap.size, 7, none⟩ = some (.string ⟨#[]⟩) ∧ w5.cell? ⟨w.heap.size, 8, none⟩ = some (.int .i64 0) ∧ w5.cell? ⟨w.heap.size, 9, none⟩ = some (.string ⟨#[]⟩) ∧ w5.cell? ⟨w.heap.size, 10, none⟩ = some (.int .i64 0) ∧ w5.cell? ⟨w.heap.size, 11, none⟩ = some (.int .i64 0) ∧ w5.cell? ⟨w.heap.size, 12, none⟩ = some (.slice none 0 0) ∧ w5.cell? ⟨w.heap.size, 13, none⟩ = some (.slice none 0 0) ∧ w5.cell? ⟨w.heap.size, 14, none⟩ = some (.slice none 0 0) ∧ w5.cell? ⟨w.heap.size, 15, none⟩ = some (.int .i64 0) := ⟨r2 0 _ rfl, r2 1 _ rfl, r2 2 _ rfl, r2 3 _ rfl, r2 4 _ rfl, r2 5 _ rfl, r2 6 _ rfl, r2 7 _ rfl, r2 8 _ rfl, r2 9 _ rfl, r2 10 _ rfl, r2 11 _ rfl, r2 12 _ rfl, r2 13 _ rfl, r2 14 _ rfl, r2 15 _ rfl⟩
    obtain ⟨g0, g1, g2, g3, g4, g5, g6, g7, g8, g9, g10, g11, g12, g13, g14, g15⟩ : w5.frozen? ⟨w.heap.size, 0, none⟩ = false ∧ w5.frozen? ⟨w.heap.size, 1, none⟩ = false ∧ w5.frozen? ⟨w.heap.size, 2, none⟩ = false ∧ w5.frozen? ⟨w.heap.size, 3, none⟩ = false ∧ w5.frozen? ⟨w.heap.size, 4, none⟩ = false ∧ w5.frozen? ⟨w.heap.size, 5, none⟩ = false ∧ w5.frozen? ⟨w.heap.size, 6, none⟩ = false ∧ w5.frozen? ⟨w.heap.size, 7, none⟩ = false ∧ w5.frozen? ⟨w.heap.size, 8, none⟩ = false ∧ w5.frozen? ⟨w.heap.size, 9, none⟩ = false ∧ w5.frozen? ⟨w.heap.size, 10, none⟩ = false ∧ w5.frozen? ⟨w.heap.size, 11, none⟩ = false ∧ w5.frozen? ⟨w.heap.size, 12, none⟩ = false ∧ w5.frozen? ⟨w.heap.size, 13, none⟩ = false ∧ w5.frozen? ⟨w.heap.size, 14, none⟩ = false ∧ w5.frozen? ⟨w.heap.size, 15, none⟩ = false := ⟨q2 0, q2 1, q2 2, q2 3, q2 4, q2 5, q2 6, q2 7, q2 8, q2 9, q2 10, q2 11, q2 12, q2 13, q2 14, q2 15⟩
    obtain ⟨WF, HWF, HANS, HRW⟩ : ∃ WF, Hid (WF = ((((((((((((((((w5.setCell ⟨w.heap.size, 0, none⟩ (.string x.log)).setCell ⟨w.heap.size, 1, none⟩ (.int .i64 x.size)).setCell ⟨w.heap.size, 2, none⟩ (.string x.root)).setCell ⟨w.heap.size, 3, none⟩ (.int .i64 x.time)).setCell ⟨w.heap.size, 4, none⟩ (.int .i64 x.k)).setCell ⟨w.heap.size, 5, none⟩ (.slice ax x.el.length cx)).setCell ⟨w.heap.size, 6, none⟩ (.slice bx x.pl.length dx)).setCell ⟨w.heap.size, 7, none⟩ (.string y.log)).setCell ⟨w.heap.size, 8, none⟩ (.int .i64 y.size)).setCell ⟨w.heap.size, 9, none⟩ (.string y.root)).setCell ⟨w.heap.size, 10, none⟩ (.int .i64 y.time)).setCell ⟨w.heap.size, 11, none⟩ (.int .i64 y.k)).setCell ⟨w.heap.size, 12, none⟩ (.slice ay y.el.length cy)).setCell ⟨w.heap.size, 13, none⟩ (.slice by' y.pl.length dy)).setCell ⟨w.heap.size, 14, none⟩ (.slice al l.length cl)).setCell ⟨w.heap.size, 15, none⟩ (.int .i64 0))) ∧ Hid (FrOut s w (.returned (.agg #[.string x.log, .int .i64 x.size, .string x.root, .int .i64 x.time, .int .i64 x.k, .slice ax x.el.length cx, .slice bx x.pl.length dx, .string y.log, .int .i64 y.size, .string y.root, .int .i64 y.time, .int .i64 y.k, .slice ay y.el.length cy, .slice by' y.pl.length dy, .slice al l.length cl, .int .i64 0])) WF) ∧ Hid (WF.heap[w.heap.size]? = some (.cells #[.string x.log, .int .i64 x.size, .string x.root, .int .i64 x.time, .int .i64 x.k, .slice ax x.el.length cx, .slice bx x.pl.length dx, .string y.log, .int .i64 y.size, .string y.root, .int .i64 y.time, .int .i64 y.k, .slice ay y.el.length cy, .slice by' y.pl.length dy, .slice al l.length cl, .int .i64 0] 30 (0, 0))) := by
      have hb2 := (hb5.block _ (by omega)).trans H4.out.2.1
      have hgf : w5.grownBy ((((((((((((((((w5.setCell ⟨w.heap.size, 0, none⟩ (.string x.log)).setCell ⟨w.heap.size, 1, none⟩ (.int .i64 x.size)).setCell ⟨w.heap.size, 2, none⟩ (.string x.root)).setCell ⟨w.heap.size, 3, none⟩ (.int .i64 x.time)).setCell ⟨w.heap.size, 4, none⟩ (.int .i64 x.k)).setCell ⟨w.heap.size, 5, none⟩ (.slice ax x.el.length cx)).setCell ⟨w.heap.size, 6, none⟩ (.slice bx x.pl.length dx)).setCell ⟨w.heap.size, 7, none⟩ (.string y.log)).setCell ⟨w.heap.size, 8, none⟩ (.int .i64 y.size)).setCell ⟨w.heap.size, 9, none⟩ (.string y.root)).setCell ⟨w.heap.size, 10, none⟩ (.int .i64 y.time)).setCell ⟨w.heap.size, 11, none⟩ (.int .i64 y.k)).setCell ⟨w.heap.size, 12, none⟩ (.slice ay y.el.length cy)).setCell ⟨w.heap.size, 13, none⟩ (.slice by' y.pl.length dy)).setCell ⟨w.heap.size, 14, none⟩ (.slice al l.length cl)).setCell ⟨w.heap.size, 15, none⟩ (.int .i64 0)) (some w.heap.size) := by
        iterate 16 (refine grown_cell ?_ _ _)
        exact rd_refl _ _
      have z0 : (w5.setCell ⟨w.heap.size, 0, none⟩ (.string x.log)).heap[w.heap.size]? = some (Obj.cells #[.string x.log, .int .i64 0, .string ⟨#[]⟩, .int .i64 0, .int .i64 0, .slice none 0 0, .slice none 0 0, .string ⟨#[]⟩, .int .i64 0, .string ⟨#[]⟩, .int .i64 0, .int .i64 0, .slice none 0 0, .slice none 0 0, .slice none 0 0, .int .i64 0] 30 (0, 0)) := heap_put2 _ hb2 rfl
      have z1 : ((w5.setCell ⟨w.heap.size, 0, none⟩ (.string x.log)).setCell ⟨w.heap.size, 1, none⟩ (.int .i64 x.size)).heap[w.heap.size]? = some (Obj.cells #[.string x.log, .int .i64 x.size, .string ⟨#[]⟩, .int .i64 0, .int .i64 0, .slice none 0 0, .slice none 0 0, .string ⟨#[]⟩, .int .i64 0, .string ⟨#[]⟩, .int .i64 0, .int .i64 0, .slice none 0 0, .slice none 0 0, .slice none 0 0, .int .i64 0] 30 (0, 0)) := heap_put2 _ z0 rfl
      have z2 : (((w5.setCell ⟨w.heap.size, 0, none⟩ (.string x.log)).setCell ⟨w.heap.size, 1, none⟩ (.int .i64 x.size)).setCell ⟨w.heap.size, 2, none⟩ (.string x.root)).heap[w.heap.size]? = some (Obj.cells #[.string x.log, .int .i64 x.size, .string x.root, .int .i64 0, .int .i64 0, .slice none 0 0, .slice none 0 0, .string ⟨#[]⟩, .int .i64 0, .string ⟨#[]⟩, .int .i64 0, .int .i64 0, .slice none 0 0, .slice none 0 0, .slice none 0 0, .int .i64 0] 30 (0, 0)) := heap_put2 _ z1 rfl
      have z3 : ((((w5.setCell ⟨w.heap.size, 0, none⟩ (.string x.log)).setCell ⟨w.heap.size, 1, none⟩ (.int .i64 x.size)).setCell ⟨w.heap.size, 2, none⟩ (.string x.root)).setCell ⟨w.heap.size, 3, none⟩ (.int .i64 x.time)).heap[w.heap.size]? = some (Obj.cells #[.string x.log, .int .i64 x.size, .string x.root, .int .i64 x.time, .int .i64 0, .slice none 0 0, .slice none 0 0, .string ⟨#[]⟩, .int .i64 0, .string ⟨#[]⟩, .int .i64 0, .int .i64 0, .slice none 0 0, .slice none 0 0, .slice none 0 0, .int .i64 0] 30 (0, 0)) := heap_put2 _ z2 rfl
      have z4 : (((((w5.setCell ⟨w.heap.size, 0, none⟩ (.string x.log)).setCell ⟨w.heap.size, 1, none⟩ (.int .i64 x.size)).setCell ⟨w.heap.size, 2, none⟩ (.string x.root)).setCell ⟨w.heap.size, 3, none⟩ (.int .i64 x.time)).setCell ⟨w.heap.size, 4, none⟩ (.int .i64 x.k)).heap[w.heap.size]? = some (Obj.cells #[.string x.log, .int .i64 x.size, .string x.root, .int .i64 x.time, .int .i64 x.k, .slice none 0 0, .slice none 0 0, .string ⟨#[]⟩, .int .i64 0, .string ⟨#[]⟩, .int .i64 0, .int .i64 0, .slice none 0 0, .slice none 0 0, .slice none 0 0, .int .i64 0] 30 (0, 0)) := heap_put2 _ z3 rfl
      have z5 : ((((((w5.setCell ⟨w.heap.size, 0, none⟩ (.string x.log)).setCell ⟨w.heap.size, 1, none⟩ (.int .i64 x.size)).setCell ⟨w.heap.size, 2, none⟩ (.string x.root)).setCell ⟨w.heap.size, 3, none⟩ (.int .i64 x.time)).setCell ⟨w.heap.size, 4, none⟩ (.int .i64 x.k)).setCell ⟨w.heap.size, 5, none⟩ (.slice ax x.el.length cx)).heap[w.heap.size]? = some (Obj.cells #[.string x.log, .int .i64 x.size, .string x.root, .int .i64 x.time, .int .i64 x.k, .slice ax x.el.length cx, .slice none 0 0, .string ⟨#[]⟩, .int .i64 0, .string ⟨#[]⟩, .int .i64 0, .int .i64 0, .slice none 0 0, .slice none 0 0, .slice none 0 0, .int .i64 0] 30 (0, 0)) := heap_put2 _ z4 rfl
      have z6 : (((((((w5.setCell ⟨w.heap.size, 0, none⟩ (.string x.log)).setCell ⟨w.heap.size, 1, none⟩ (.int .i64 x.size)).setCell ⟨w.heap.size, 2, none⟩ (.string x.root)).setCell ⟨w.heap.size, 3, none⟩ (.int .i64 x.time)).setCell ⟨w.heap.size, 4, none⟩ (.int .i64 x.k)).setCell ⟨w.heap.size, 5, none⟩ (.slice ax x.el.length cx)).setCell ⟨w.heap.size, 6, none⟩ (.slice bx x.pl.length dx)).heap[w.heap.size]? = some (Obj.cells #[.string x.log, .int .i64 x.size, .string x.root, .int .i64 x.time, .int .i64 x.k, .slice ax x.el.length cx, .slice bx x.pl.length dx, .string ⟨#[]⟩, .int .i64 0, .string ⟨#[]⟩, .int .i64 0, .int .i64 0, .slice none 0 0, .slice none 0 0, .slice none 0 0, .int .i64 0] 30 (0, 0)) := heap_put2 _ z5 rfl
      have z7 : ((((((((w5.setCell ⟨w.heap.size, 0, none⟩ (.string x.log)).setCell ⟨w.heap.size, 1, none⟩ (.int .i64 x.size)).setCell ⟨w.heap.size, 2, none⟩ (.string x.root)).setCell ⟨w.heap.size, 3, none⟩ (.int .i64 x.time)).setCell ⟨w.heap.size, 4, none⟩ (.int .i64 x.k)).setCell ⟨w.heap.size, 5, none⟩ (.slice ax x.el.length cx)).setCell ⟨w.heap.size, 6, none⟩ (.slice bx x.pl.length dx)).setCell ⟨w.heap.size, 7, none⟩ (.string y.log)).heap[w.heap.size]? = some (Obj.cells #[.string x.log, .int .i64 x.size, .string x.root, .int .i64 x.time, .int .i64 x.k, .slice ax x.el.length cx, .slice bx x.pl.length dx, .string y.log, .int .i64 0, .string ⟨#[]⟩, .int .i64 0, .int .i64 0, .slice none 0 0, .slice none 0 0, .slice none 0 0, .int .i64 0] 30 (0, 0)) := heap_put2 _ z6 rfl
      have z8 : (((((((((w5.setCell ⟨w.heap.size, 0, none⟩ (.string x.log)).setCell ⟨w.heap.size, 1, none⟩ (.int .i64 x.size)).setCell ⟨w.heap.size, 2, none⟩ (.string x.root)).setCell ⟨w.heap.size, 3, none⟩ (.int .i64 x.time)).setCell ⟨w.heap.size, 4, none⟩ (.int .i64 x.k)).setCell ⟨w.heap.size, 5, none⟩ (.slice ax x.el.length cx)).setCell ⟨w.heap.size, 6, none⟩ (.slice bx x.pl.length dx)).setCell ⟨w.heap.size, 7, none⟩ (.string y.log)).setCell ⟨w.heap.size, 8, none⟩ (.int .i64 y.size)).heap[w.heap.size]? = some (Obj.cells #[.string x.log, .int .i64 x.size, .string x.root, .int .i64 x.time, .int .i64 x.k, .slice ax x.el.length cx, .slice bx x.pl.length dx, .string y.log, .int .i64 y.size, .string ⟨#[]⟩, .int .i64 0, .int .i64 0, .slice none 0 0, .slice none 0 0, .slice none 0 0, .int .i64 0] 30 (0, 0)) := heap_put2 _ z7 rfl
      have z9 : ((((((((((w5.setCell ⟨w.heap.size, 0, none⟩ (.string x.log)).setCell ⟨w.heap.size, 1, none⟩ (.int .i64 x.size)).setCell ⟨w.heap.size, 2, none⟩ (.string x.root)).setCell ⟨w.heap.size, 3, none⟩ (.int .i64 x.time)).setCell ⟨w.heap.size, 4, none⟩ (.int .i64 x.k)).setCell ⟨w.heap.size, 5, none⟩ (.slice ax x.el.length cx)).setCell ⟨w.heap.size, 6, none⟩ (.slice bx x.pl.length dx)).setCell ⟨w.heap.size, 7, none⟩ (.string y.log)).setCell ⟨w.heap.size, 8, none⟩ (.int .i64 y.size)).setCell ⟨w.heap.size, 9, none⟩ (.string y.root)).heap[w.heap.size]? = some (Obj.cells #[.string x.log, .int .i64 x.size, .string x.root, .int .i64 x.time, .int .i64 x.k, .slice ax x.el.length cx, .slice bx x.pl.length dx, .string y.log, .int .i64 y.size, .string y.root, .int .i64 0, .int .i64 0, .slice none 0 0, .slice none 0 0, .slice none 0 0, .int .i64 0] 30 (0, 0)) := heap_put2 _ z8 rfl
      have z10 : (((((((((((w5.setCell ⟨w.heap.size, 0, none⟩ (.string x.log)).setCell ⟨w.heap.size, 1, none⟩ (.int .i64 x.size)).setCell ⟨w.heap.size, 2, none⟩ (.string x.root)).setCell ⟨w.heap.size, 3, none⟩ (.int .i64 x.time)).setCell ⟨w.heap.size, 4, none⟩ (.int .i64 x.k)).setCell ⟨w.heap.size, 5, none⟩ (.slice ax x.el.length cx)).setCell ⟨w.heap.size, 6, none⟩ (.slice bx x.pl.length dx)).setCell ⟨w.heap.size, 7, none⟩ (.string y.log)).setCell ⟨w.heap.size, 8, none⟩ (.int .i64 y.size)).setCell ⟨w.heap.size, 9, none⟩ (.string y.root)).setCell ⟨w.heap.size, 10, none⟩ (.int .i64 y.time)).heap[w.heap.size]? = some (Obj.cells #[.string x.log, .int .i64 x.size, .string x.root, .int .i64 x.time, .int .i64 x.k, .slice ax x.el.length cx, .slice bx x.pl.length dx, .string y.log, .int .i64 y.size, .string y.root, .int .i64 y.time, .int .i64 0, .slice none 0 0, .slice none 0 0, .slice none 0 0, .int .i64 0] 30 (0, 0)) := heap_put2 _ z9 rfl
      have z11 : ((((((((((((w5.setCell ⟨w.heap.size, 0, none⟩ (.string x.log)).setCell ⟨w.heap.size, 1, none⟩ (.int .i64 x.size)).setCell ⟨w.heap.size, 2, none⟩ (.string x.root)).setCell ⟨w.heap.size, 3, none⟩ (.int .i64 x.time)).setCell ⟨w.heap.size, 4, none⟩ (.int .i64 x.k)).setCell ⟨w.heap.size, 5, none⟩ (.slice ax x.el.length cx)).setCell ⟨w.heap.size, 6, none⟩ (.slice bx x.pl.length dx)).setCell ⟨w.heap.size, 7, none⟩ (.string y.log)).setCell ⟨w.heap.size, 8, none⟩ (.int .i64 y.size)).setCell ⟨w.heap.size, 9, none⟩ (.string y.root)).setCell ⟨w.heap.size, 10, none⟩ (.int .i64 y.time)).setCell ⟨w.heap.size, 11, none⟩ (.int .i64 y.k)).heap[w.heap.size]? = some (Obj.cells #[.string x.log, .int .i64 x.size, .string x.root, .int .i64 x.time, .int .i64 x.k, .slice ax x.el.length cx, .slice bx x.pl.length dx, .string y.log, .int .i64 y.size, .string y.root, .int .i64 y.time, .int .i64 y.k, .slice none 0 0, .slice none 0 0, .slice none 0 0, .int .i64 0] 30 (0, 0)) := heap_put2 _ z10 rfl
      have z12 : (((((((((((((w5.setCell ⟨w.heap.size, 0, none⟩ (.string x.log)).setCell ⟨w.heap.size, 1, none⟩ (.int .i64 x.size)).setCell ⟨w.heap.size, 2, none⟩ (.string x.root)).setCell ⟨w.heap.size, 3, none⟩ (.int .i64 x.time)).setCell ⟨w.heap.size, 4, none⟩ (.int .i64 x.k)).setCell ⟨w.heap.size, 5, none⟩ (.slice ax x.el.length cx)).setCell ⟨w.heap.size, 6, none⟩ (.slice bx x.pl.length dx)).setCell ⟨w.heap.size, 7, none⟩ (.string y.log)).setCell ⟨w.heap.size, 8, none⟩ (.int .i64 y.size)).setCell ⟨w.heap.size, 9, none⟩ (.string y.root)).setCell ⟨w.heap.size, 10, none⟩ (.int .i64 y.time)).setCell ⟨w.heap.size, 11, none⟩ (.int .i64 y.k)).setCell ⟨w.heap.size, 12, none⟩ (.slice ay y.el.length cy)).heap[w.heap.size]? = some (Obj.cells #[.string x.log, .int .i64 x.size, .string x.root, .int .i64 x.time, .int .i64 x.k, .slice ax x.el.length cx, .slice bx x.pl.length dx, .string y.log, .int .i64 y.size, .string y.root, .int .i64 y.time, .int .i64 y.k, .slice ay y.el.length cy, .slice none 0 0, .slice none 0 0, .int .i64 0] 30 (0, 0)) := heap_put2 _ z11 rfl
      have z13 : ((((((((((((((w5.setCell ⟨w.heap.size, 0, none⟩ (.string x.log)).setCell ⟨w.heap.size, 1, none⟩ (.int .i64 x.size)).setCell ⟨w.heap.size, 2, none⟩ (.string x.root)).setCell ⟨w.heap.size, 3, none⟩ (.int .i64 x.time)).setCell ⟨w.heap.size, 4, none⟩ (.int .i64 x.k)).setCell ⟨w.heap.size, 5, none⟩ (.slice ax x.el.length cx)).setCell ⟨w.heap.size, 6, none⟩ (.slice bx x.pl.length dx)).setCell ⟨w.heap.size, 7, none⟩ (.string y.log)).setCell ⟨w.heap.size, 8, none⟩ (.int .i64 y.size)).setCell ⟨w.heap.size, 9, none⟩ (.string y.root)).setCell ⟨w.heap.size, 10, none⟩ (.int .i64 y.time)).setCell ⟨w.heap.size, 11, none⟩ (.int .i64 y.k)).setCell ⟨w.heap.size, 12, none⟩ (.slice ay y.el.length cy)).setCell ⟨w.heap.size, 13, none⟩ (.slice by' y.pl.length dy)).heap[w.heap.size]? = some (Obj.cells #[.string x.log, .int .i64 x.size, .string x.root, .int .i64 x.time, .int .i64 x.k, .slice ax x.el.length cx, .slice bx x.pl.length dx, .string y.log, .int .i64 y.size, .string y.root, .int .i64 y.time, .int .i64 y.k, .slice ay y.el.length cy, .slice by' y.pl.length dy, .slice none 0 0, .int .i64 0] 30 (0, 0)) := heap_put2 _ z12 rfl
      have z14 : (((((((((((((((w5.setCell ⟨w.heap.size, 0, none⟩ (.string x.log)).setCell ⟨w.heap.size, 1, none⟩ (.int .i64 x.size)).setCell ⟨w.heap.size, 2, none⟩ (.string x.root)).setCell ⟨w.heap.size, 3, none⟩ (.int .i64 x.time)).setCell ⟨w.heap.size, 4, none⟩ (.int .i64 x.k)).setCell ⟨w.heap.size, 5, none⟩ (.slice ax x.el.length cx)).setCell ⟨w.heap.size, 6, none⟩ (.slice bx x.pl.length dx)).setCell ⟨w.heap.size, 7, none⟩ (.string y.log)).setCell ⟨w.heap.size, 8, none⟩ (.int .i64 y.size)).setCell ⟨w.heap.size, 9, none⟩ (.string y.root)).setCell ⟨w.heap.size, 10, none⟩ (.int .i64 y.time)).setCell ⟨w.heap.size, 11, none⟩ (.int .i64 y.k)).setCell ⟨w.heap.size, 12, none⟩ (.slice ay y.el.length cy)).setCell ⟨w.heap.size, 13, none⟩ (.slice by' y.pl.length dy)).setCell ⟨w.heap.size, 14, none⟩ (.slice al l.length cl)).heap[w.heap.size]? = some (Obj.cells #[.string x.log, .int .i64 x.size, .string x.root, .int .i64 x.time, .int .i64 x.k, .slice ax x.el.length cx, .slice bx x.pl.length dx, .string y.log, .int .i64 y.size, .string y.root, .int .i64 y.time, .int .i64 y.k, .slice ay y.el.length cy, .slice by' y.pl.length dy, .slice al l.length cl, .int .i64 0] 30 (0, 0)) := heap_put2 _ z13 rfl
      have z15 : ((((((((((((((((w5.setCell ⟨w.heap.size, 0, none⟩ (.string x.log)).setCell ⟨w.heap.size, 1, none⟩ (.int .i64 x.size)).setCell ⟨w.heap.size, 2, none⟩ (.string x.root)).setCell ⟨w.heap.size, 3, none⟩ (.int .i64 x.time)).setCell ⟨w.heap.size, 4, none⟩ (.int .i64 x.k)).setCell ⟨w.heap.size, 5, none⟩ (.slice ax x.el.length cx)).setCell ⟨w.heap.size, 6, none⟩ (.slice bx x.pl.length dx)).setCell ⟨w.heap.size, 7, none⟩ (.string y.log)).setCell ⟨w.heap.size, 8, none⟩ (.int .i64 y.size)).setCell ⟨w.heap.size, 9, none⟩ (.string y.root)).setCell ⟨w.heap.size, 10, none⟩ (.int .i64 y.time)).setCell ⟨w.heap.size, 11, none⟩ (.int .i64 y.k)).setCell ⟨w.heap.size, 12, none⟩ (.slice ay y.el.length cy)).setCell ⟨w.heap.size, 13, none⟩ (.slice by' y.pl.length dy)).setCell ⟨w.heap.size, 14, none⟩ (.slice al l.length cl)).setCell ⟨w.heap.size, 15, none⟩ (.int .i64 0)).heap[w.heap.size]? = some (Obj.cells #[.string x.log, .int .i64 x.size, .string x.root, .int .i64 x.time, .int .i64 x.k, .slice ax x.el.length cx, .slice bx x.pl.length dx, .string y.log, .int .i64 y.size, .string y.root, .int .i64 y.time, .int .i64 y.k, .slice ay y.el.length cy, .slice by' y.pl.length dy, .slice al l.length cl, .int .i64 0] 30 (0, 0)) := heap_put2 _ z14 rfl
      obtain ⟨⟨o1, o2, o3, o4, o5⟩, q, b1, b2, b3, b4, b5⟩ := H4.out.2.2.2.2.1.below hb5 (Nat.le_refl _)
      refine ⟨_, rfl, ⟨x, y, l, 0, _, _, _, _, _, n1, n2, n3, n4, rfl, HT.out.symm, ⟨⟨o1.past hgf hb2 (by decide), o2.past hgf hb2 (by decide), o3.past hgf hb2 (by decide), o4.past hgf hb2 (by decide), o5.past hgf hb2 (by decide)⟩, q, b1, b2, b3, b4, Nat.le_trans b5 hgf.size⟩, ?_⟩, z15⟩
      exact below_own (H4.out.2.2.2.1.trans (hb5.mono H4.out.2.2.2.1.size)) hgf (Nat.le_refl _)
    clear r4 r2 q2 hb5 H4 HT
    go_wp2
    rw [← HWF.out]
    have v := row_here HRW.out
    obtain ⟨v0, v1, v2, v3, v4, v5, v6, v7, v8, v9, v10, v11, v12, v13, v14, v15⟩ : WF.cell? ⟨w.heap.size, 0, none⟩ = some (.string x.log) ∧ WF.cell? ⟨w.heap.size, 1, none⟩ = some (.int .i64 x.size) ∧ WF.cell? ⟨w.heap.size, 2, none⟩ = some (.string x.root) ∧ WF.cell? ⟨w.heap.size, 3, none⟩ = some (.int .i64 x.time) ∧ WF.cell? ⟨w.heap.size, 4, none⟩ = some (.int .i64 x.k) ∧ WF.cell? ⟨w.heap.size, 5, none⟩ = some (.slice ax x.el.length cx) ∧ WF.cell? ⟨w.heap.size, 6, none⟩ = some (.slice bx x.pl.length dx) ∧ WF.cell? ⟨w.heap.size, 7, none⟩ = some (.string y.log) ∧ WF.cell? ⟨w.heap.size, 8, none⟩ = some (.int .i64 y.size) ∧ WF.cell? ⟨w.heap.size, 9, none⟩ = some (.string y.root) ∧ WF.cell? ⟨w.heap.size, 10, none⟩ = some (.int .i64 y.time) ∧ WF.cell? ⟨w.heap.size, 11, none⟩ = some (.int .i64 y.k) ∧ WF.cell? ⟨w.heap.size, 12, none⟩ = some (.slice ay y.el.length cy) ∧ WF.cell? ⟨w.heap.size, 13, none⟩ = some (.slice by' y.pl.length dy) ∧ WF.cell? ⟨w.heap.size, 14, none⟩ = some (.slice al l.length cl) ∧ WF.cell? ⟨w.heap.size, 15, none⟩ = some (.int .i64 0) := ⟨v 0 _ rfl, v 1 _ rfl, v 2 _ rfl, v 3 _ rfl, v 4 _ rfl, v 5 _ rfl, v 6 _ rfl, v 7 _ rfl, v 8 _ rfl, v 9 _ rfl, v 10 _ rfl, v 11 _ rfl, v 12 _ rfl, v 13 _ rfl, v 14 _ rfl, v 15 _ rfl⟩
    exact bodyPost_ret (v := .agg #[.string x.log, .int .i64 x.size, .string x.root, .int .i64 x.time, .int .i64 x.k, .slice ax x.el.length cx, .slice bx x.pl.length dx, .string y.log, .int .i64 y.size, .string y.root, .int .i64 y.time, .int .i64 y.k, .slice ay y.el.length cy, .slice by' y.pl.length dy, .slice al l.length cl, .int .i64 0]) (by simp [results, Try.results6, go_sem, v0, v1, v2, v3, v4, v5, v6, v7, v8, v9, v10, v11, v12, v13, v14, v15]) rfl HANS.out
end Go.Proofs.Ytpglcbidfghfkaa

/-
  The program's FraudRead.
-/
namespace Go.Proofs.Ytpglcbidfghfkaa
open Go.RowKit Go.Lib
set_option linter.unusedVariables false
set_option linter.unusedSimpArgs false

set_option maxHeartbeats 4000000 in
set_option maxRecDepth 10000 in
theorem implFR_bad (s : ByteArray) (w : World) (hz : s.size ≤ 1048576) (hs : ¬ 20000 < (s.size : Int)) (HNN : Hid ((fraudAt s).2 ≠ none)) (HNO : Hid (¬ fraudOk s = true)) :
    Calls Try.prog 6 #[.string s] w fun e w' => FrOut s w e w' := by
  obtain ⟨W, hW⟩ : ∃ W, W = (w.alloc (.cells #[.string ⟨#[]⟩, .int .i64 0, .string ⟨#[]⟩, .int .i64 0, .int .i64 0, .slice none 0 0, .slice none 0 0, .string ⟨#[]⟩, .int .i64 0, .string ⟨#[]⟩, .int .i64 0, .int .i64 0, .slice none 0 0, .slice none 0 0, .slice none 0 0, .int .i64 0] 30)).alloc (.cells #[.string s, .int .i64 0, .nilIface] 52) := ⟨_, rfl⟩
  have hbW : Below w.heap.size w W := by rw [hW]; exact ((Below.refl _ _).alloc (Nat.le_refl _) _).alloc (by simp) _
  have H0 : Hid (Rd s (w.heap.size + 1) (some 0) W ∧ W.heap[w.heap.size]? = some (.cells #[.string ⟨#[]⟩, .int .i64 0, .string ⟨#[]⟩, .int .i64 0, .int .i64 0, .slice none 0 0, .slice none 0 0, .string ⟨#[]⟩, .int .i64 0, .string ⟨#[]⟩, .int .i64 0, .int .i64 0, .slice none 0 0, .slice none 0 0, .slice none 0 0, .int .i64 0] 30 (0, 0)) ∧ Below w.heap.size w W ∧ W.heap.size = w.heap.size + 2) := ⟨⟨0, .nilIface, by rw [hW]; exact heap_alloc2_new w _ _, .inl ⟨rfl, rfl, Int.le_refl _, Int.natCast_nonneg _⟩⟩, by rw [hW]; exact heap_alloc2_old w _ _, hbW, by rw [hW]; simp⟩
  have HW : Hid (W = (w.alloc (.cells #[.string ⟨#[]⟩, .int .i64 0, .string ⟨#[]⟩, .int .i64 0, .int .i64 0, .slice none 0 0, .slice none 0 0, .string ⟨#[]⟩, .int .i64 0, .string ⟨#[]⟩, .int .i64 0, .int .i64 0, .slice none 0 0, .slice none 0 0, .slice none 0 0, .int .i64 0] 30)).alloc (.cells #[.string s, .int .i64 0, .nilIface] 52)) := hW
  have E0 : Hid (Calls Try.prog 19 #[.pointer (some ⟨w.heap.size + 1, 0, none⟩)] W fun e w' => FraudRd s (w.heap.size + 1) W e w') := rdFraud_any s hs _ W H0.out.1
  have HS : Hid (¬ 20000 < (s.size : Int)) := hs
  clear hbW hW hz
  go_enter Try.func6, Try.ntmps6
  go_wp2_with fail
  rw [← HW.out]
  clear HW
  refine E0.out.mono ?_
  rintro e w1 ⟨x, y, l, vex, vpx, vey, vpy, vl, n1, n2, n3, n4, rfl, ho, hr, hgr, heq, hlx, hly, hll⟩
  obtain ⟨ax, cx, hv⟩ := ho.1.1.len
  subst hv
  obtain ⟨bx, dx, hv⟩ := ho.1.2.1.len
  subst hv
  obtain ⟨ay, cy, hv⟩ := ho.1.2.2.1.len
  subst hv
  obtain ⟨by', dy, hv⟩ := ho.1.2.2.2.1.len
  subst hv
  obtain ⟨al, cl, hv⟩ := ho.1.2.2.2.2.len
  subst hv
  obtain ⟨W4, hW4⟩ : ∃ W4, W4 = w1.alloc (.cells #[.string x.log, .int .i64 x.size, .string x.root, .int .i64 x.time, .int .i64 x.k, .slice ax x.el.length cx, .slice bx x.pl.length dx, .string y.log, .int .i64 y.size, .string y.root, .int .i64 y.time, .int .i64 y.k, .slice ay y.el.length cy, .slice by' y.pl.length dy, .slice al l.length cl] 28) := ⟨_, rfl⟩
  have hb4 : Below w1.heap.size w1 W4 := by rw [hW4]; exact (Below.refl _ _).alloc (Nat.le_refl _) _
  have HW4 : Hid (W4 = w1.alloc (.cells #[.string x.log, .int .i64 x.size, .string x.root, .int .i64 x.time, .int .i64 x.k, .slice ax x.el.length cx, .slice bx x.pl.length dx, .string y.log, .int .i64 y.size, .string y.root, .int .i64 y.time, .int .i64 y.k, .slice ay y.el.length cy, .slice by' y.pl.length dy, .slice al l.length cl] 28)) := hW4
  have H4 : Hid (Rd s (w.heap.size + 1) (fraudAt s).2 W4 ∧ W4.heap[w.heap.size]? = some (.cells #[.string ⟨#[]⟩, .int .i64 0, .string ⟨#[]⟩, .int .i64 0, .int .i64 0, .slice none 0 0, .slice none 0 0, .string ⟨#[]⟩, .int .i64 0, .string ⟨#[]⟩, .int .i64 0, .int .i64 0, .slice none 0 0, .slice none 0 0, .slice none 0 0, .int .i64 0] 30 (0, 0)) ∧ W4.heap[w1.heap.size]? = some (.cells #[.string x.log, .int .i64 x.size, .string x.root, .int .i64 x.time, .int .i64 x.k, .slice ax x.el.length cx, .slice bx x.pl.length dx, .string y.log, .int .i64 y.size, .string y.root, .int .i64 y.time, .int .i64 y.k, .slice ay y.el.length cy, .slice by' y.pl.length dy, .slice al l.length cl] 28 (0, 0)) ∧ Below w.heap.size w W4 ∧ Owns5 W4 w.heap.size n1 n2 n3 n4 (.slice ax x.el.length cx) (.slice bx x.pl.length dx) (.slice ay y.el.length cy) (.slice by' y.pl.length dy) (.slice al l.length cl) x.el x.pl y.el y.pl l ∧ w.heap.size + 2 ≤ w1.heap.size) := by
    obtain ⟨p1, p2, p3, p4⟩ := H0.out
    have hz := hgr.size
    have l2 := (Array.getElem?_eq_some_iff.1 p2).1
    refine ⟨hr.block (hb4.block _ hr.lt), (hb4.block _ (by omega)).trans ((hgr.block _ l2 (by simp)).trans p2), by rw [hW4]; exact heap_alloc_new w1 _, ?_, (ho.lower (by omega)).below hb4 (Nat.le_refl _), by omega⟩
    exact (p3.trans ⟨hgr.os, hgr.tape, hgr.output, hgr.size, fun k hk => hgr.block k (by omega) (by simp; omega)⟩).trans (hb4.mono (by omega))
  have HR1 : Hid (Rd s (w.heap.size + 1) (fraudAt s).2 w1) := hr
  have HQ : Hid (((fraudAt s).2 ≠ none → x = (headsAt s).1.1 ∧ y = (headsAt s).2.1 ∧ l = (fraudAt s).1) ∧ x.Lim ∧ y.Lim ∧ l.length ≤ 1048576) := ⟨heq, ⟨by omega, by omega, by omega, by omega⟩, ⟨by omega, by omega, by omega, by omega⟩, by omega⟩
  clear ho hr hgr heq hlx hly hll hb4 hW4 H0 E0
  obtain ⟨ha, hv, hrow, hcase⟩ := HR1.out
  obtain ⟨⟨c0, c1, c2⟩, f1, f2⟩ := Rd.cells hrow
  have hlt1 : w.heap.size + 1 < w1.heap.size := by have := H4.out.2.2.2.2.2; omega
  clear hrow
  rcases hcase with ⟨e1, rfl, h0, h1⟩ | ⟨e1, c, rfl⟩
  rotate_left
  · exact absurd e1 HNN.out
  · have hx := H4.out.2.2.2.2.1
    have HB : Hid (Calls Try.prog 20 #[.agg #[.string x.log, .int .i64 x.size, .string x.root, .int .i64 x.time, .int .i64 x.k, .slice ax x.el.length cx, .slice bx x.pl.length dx, .string y.log, .int .i64 y.size, .string y.root, .int .i64 y.time, .int .i64 y.k, .slice ay y.el.length cy, .slice by' y.pl.length dy, .slice al l.length cl]] W4 fun e w' => e = .returned (.string (fraudT x.right y.right x.bytes y.bytes l)) ∧ Below W4.heap.size W4 w') :=
      implFraudBytes_any x y _ _ _ _ _ l W4 ⟨hx.1.1.texts, hx.1.2.1.texts⟩ ⟨hx.1.2.2.1.texts, hx.1.2.2.2.1.texts⟩ hx.1.2.2.2.2.texts HQ.out.2.1 HQ.out.2.2.1 HQ.out.2.2.2
    have HE1 : Hid ((fraudAt s).2 ≠ none) := fun e => by rw [e1] at e; exact absurd e (by simp)
    clear hx e1
    have ht : ¬ fraudT x.right y.right x.bytes y.bytes l = s := fun h => by
      obtain ⟨e1, e2, e3⟩ := HQ.out.1 HE1.out
      rw [e1, e2, e3] at h
      exact HNO.out ((fraudOk_iff s).2 ⟨HE1.out, h⟩)
    have hF := ba_ne ht
    have HA : Hid (∀ w', Below w.heap.size w w' → FrOut s w (.returned (.agg #[.string ⟨#[]⟩, .int .i64 0, .string ⟨#[]⟩, .int .i64 0, .int .i64 0, .slice none 0 0, .slice none 0 0, .string ⟨#[]⟩, .int .i64 0, .string ⟨#[]⟩, .int .i64 0, .int .i64 0, .slice none 0 0, .slice none 0 0, .slice none 0 0, .int .i64 3])) w') := fun w' hb => FrOut.zero (frR_no (by have := HS.out; omega) (fun h => by
      obtain ⟨_, h2⟩ := (fraudOk_iff s).1 h
      obtain ⟨e1, e2, e3⟩ := HQ.out.1 HE1.out
      rw [← e1, ← e2, ← e3] at h2
      exact ht h2)) hb
    clear ht HE1 HQ HR1
    generalize fraudT x.right y.right x.bytes y.bytes l = F at *
    go_wp2_with fail
    rw [← HW4.out]
    clear HW4
    refine HB.out.mono ?_
    rintro e w5 ⟨rfl, hb5⟩
    have r2 := row_here ((hb5.block _ (by have := (Array.getElem?_eq_some_iff.1 H4.out.2.1).1; omega)).trans H4.out.2.1)
    have q2 := row_free ((hb5.block _ (by have := (Array.getElem?_eq_some_iff.1 H4.out.2.1).1; omega)).trans H4.out.2.1)
    obtain ⟨s0, s1, s2, s3, s4, s5, s6, s7, s8, s9, s10, s11, s12, s13, s14, s15⟩ : w5.cell? ⟨w.heap.size, 0, none⟩ = some (.string ⟨#[]⟩) ∧ w5.cell? ⟨w.heap.size, 1, none⟩ = some (.int .i64 0) ∧ w5.cell? ⟨w.heap.size, 2, none⟩ = some (.string ⟨#[]⟩) ∧ w5.cell? ⟨w.heap.size, 3, none⟩ = some (.int .i64 0) ∧ w5.cell? ⟨w.heap.size, 4, none⟩ = some (.int .i64 0) ∧ w5.cell? ⟨w.heap.size, 5, none⟩ = some (.slice none 0 0) ∧ w5.cell? ⟨w.heap.size, 6, none⟩ = some (.slice none 0 0) ∧ w5.cell? ⟨w.heap.size, 7, none⟩ = some (.string ⟨#[]⟩) ∧ w5.cell? ⟨w.heap.size, 8, none⟩ = some (.int .i64 0) ∧ w5.cell? ⟨w.heap.size, 9, none⟩ = some (.string ⟨#[]⟩) ∧ w5.cell? ⟨w.heap.size, 10, none⟩ = some (.int .i64 0) ∧ w5.cell? ⟨w.heap.size, 11, none⟩ = some (.int .i64 0) ∧ w5.cell? ⟨w.heap.size, 12, none⟩ = some (.slice none 0 0) ∧ w5.cell? ⟨w.heap.size, 13, none⟩ = some (.slice none 0 0) ∧ w5.cell? ⟨w.heap.size, 14, none⟩ = some (.slice none 0 0) ∧ w5.cell? ⟨w.heap.size, 15, none⟩ = some (.int .i64 0) := ⟨r2 0 _ rfl, r2 1 _ rfl, r2 2 _ rfl, r2 3 _ rfl, r2 4 _ rfl, r2 5 _ rfl, r2 6 _ rfl, r2 7 _ rfl, r2 8 _ rfl, r2 9 _ rfl, r2 10 _ rfl, r2 11 _ rfl, r2 12 _ rfl, r2 13 _ rfl, r2 14 _ rfl, r2 15 _ rfl⟩
    obtain ⟨g0, g1, g2, g3, g4, g5, g6, g7, g8, g9, g10, g11, g12, g13, g14, g15⟩ : w5.frozen? ⟨w.heap.size, 0, none⟩ = false ∧ w5.frozen? ⟨w.heap.size, 1, none⟩ = false ∧ w5.frozen? ⟨w.heap.size, 2, none⟩ = false ∧ w5.frozen? ⟨w.heap.size, 3, none⟩ = false ∧ w5.frozen? ⟨w.heap.size, 4, none⟩ = false ∧ w5.frozen? ⟨w.heap.size, 5, none⟩ = false ∧ w5.frozen? ⟨w.heap.size, 6, none⟩ = false ∧ w5.frozen? ⟨w.heap.size, 7, none⟩ = false ∧ w5.frozen? ⟨w.heap.size, 8, none⟩ = false ∧ w5.frozen? ⟨w.heap.size, 9, none⟩ = false ∧ w5.frozen? ⟨w.heap.size, 10, none⟩ = false ∧ w5.frozen? ⟨w.heap.size, 11, none⟩ = false ∧ w5.frozen? ⟨w.heap.size, 12, none⟩ = false ∧ w5.frozen? ⟨w.heap.size, 13, none⟩ = false ∧ w5.frozen? ⟨w.heap.size, 14, none⟩ = false ∧ w5.frozen? ⟨w.heap.size, 15, none⟩ = false := ⟨q2 0, q2 1, q2 2, q2 3, q2 4, q2 5, q2 6, q2 7, q2 8, q2 9, q2 10, q2 11, q2 12, q2 13, q2 14, q2 15⟩
    have HBL : Hid (Below w.heap.size w w5) := H4.out.2.2.2.1.trans (hb5.mono H4.out.2.2.2.1.size)
    clear r2 q2 hb5 H4
    go_wp2
    refine bodyPost_ret (v := .agg #[.string ⟨#[]⟩, .int .i64 0, .string ⟨#[]⟩, .int .i64 0, .int .i64 0, .slice none 0 0, .slice none 0 0, .string ⟨#[]⟩, .int .i64 0, .string ⟨#[]⟩, .int .i64 0, .int .i64 0, .slice none 0 0, .slice none 0 0, .slice none 0 0, .int .i64 3]) (by simp [results, Try.results6, go_sem, s0, s1, s2, s3, s4, s5, s6, s7, s8, s9, s10, s11, s12, s13, s14, s15, g0, g1, g2, g3, g4, g5, g6, g7, g8, g9, g10, g11, g12, g13, g14, g15]) rfl (HA.out _ (below_own HBL.out (r := w.heap.size) ?_ (Nat.le_refl _)))
    iterate 16 (refine grown_cell ?_ _ _)
    exact rd_refl _ _
end Go.Proofs.Ytpglcbidfghfkaa
