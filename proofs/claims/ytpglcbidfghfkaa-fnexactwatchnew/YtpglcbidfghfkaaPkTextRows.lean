/-
  Rows of texts of a call's own that are appended to; a row of texts cut in two.
-/
import Derived.Test.YtpglcbidfghfkaaPkTexts
import Derived.Test.YtpglcbidfghfkaaPkMem
import Derived.Laws.Slices
namespace Go.Proofs.Ytpglcbidfghfkaa
open Go.RowKit Go.Lib
set_option linter.unusedVariables false

theorem below_drew' {B : Nat} {a w : World} (h : Below B a w) : Below B a w.drew := ⟨h.os, h.tape, h.output, h.size, h.block⟩
/-- The slice v owns the texts l, in a row of the call's own. -/
def OwnT (w : World) (B : Nat) (v : Value) (l : List ByteArray) : Prop := w.ownsRow B 9 1 v l.length (l.map .string)
theorem OwnT.nil (w : World) (B : Nat) : OwnT w B (.slice none 0 0) [] := World.ownsRow_nil w B _ _
theorem OwnT.made (w : World) (B : Nat) (hB : B ≤ w.heap.size) : OwnT (w.alloc (.cells #[] 9)) B (.slice (some ⟨w.heap.size, 0, none⟩) 0 0) [] := World.ownsRow_made w #[] 0 hB (Nat.zero_le _) rfl
theorem OwnT.texts {w : World} {B : Nat} {v : Value} {l : List ByteArray} (h : OwnT w B v l) : Texts w w.heap.size v l := by
  rcases id h with ⟨h1, ⟨rfl, h2⟩ | ⟨g, cap, cur, rfl, hB, hg, hnc, _, hcs, ht⟩⟩
  · exact ⟨none, 0, by rw [h2], .inl h2, by omega⟩
  · refine ⟨_, cap, rfl, .inr ⟨g, 0, rfl, (Array.getElem?_eq_some_iff.1 hg).1, fun j hj => ?_⟩, hnc⟩
    have := World.ownsRow.cellAt h j (by omega)
    rw [Nat.zero_add, this]
    simp [hj]
theorem OwnT.below {w w' : World} {B C : Nat} {v : Value} {l : List ByteArray} (h : OwnT w B v l) (hb : Below C w w') (hC : w.heap.size ≤ C) : OwnT w' B v l := by
  rcases h with ⟨h1, ⟨rfl, h2⟩ | ⟨g, cap, cur, rfl, hB, hg, hnc, hcc, hcs, ht⟩⟩
  · exact ⟨h1, .inl ⟨rfl, h2⟩⟩
  · have hgl := (Array.getElem?_eq_some_iff.1 hg).1
    exact ⟨h1, .inr ⟨g, cap, cur, rfl, hB, (hb.block g (Nat.lt_of_lt_of_le hgl hC)).trans hg, hnc, hcc, hcs, ht⟩⟩
theorem OwnT.lower {w : World} {B C : Nat} {v : Value} {l : List ByteArray} (h : OwnT w B v l) (hC : C ≤ B) : OwnT w C v l := by
  rcases h with ⟨h1, ⟨rfl, h2⟩ | ⟨g, cap, cur, rfl, hB, hg, hnc, hcc, hcs, ht⟩⟩
  · exact ⟨h1, .inl ⟨rfl, h2⟩⟩
  · exact ⟨h1, .inr ⟨g, cap, cur, rfl, Nat.le_trans hC hB, hg, hnc, hcc, hcs, ht⟩⟩
theorem OwnT.grown {w w' : World} {B g : Nat} {v : Value} {l : List ByteArray} (h : OwnT w B v l) (hg : w.grownBy w' (some g)) (hB : g < B) : OwnT w' B v l := by
  rcases h with ⟨h1, ⟨rfl, h2⟩ | ⟨g', cap, cur, rfl, hB', hg', hnc, hcc, hcs, ht⟩⟩
  · exact ⟨h1, .inl ⟨rfl, h2⟩⟩
  · exact ⟨h1, .inr ⟨g', cap, cur, rfl, hB', (hg.block g' (Array.getElem?_eq_some_iff.1 hg').1 (by simp; omega)).trans hg', hnc, hcc, hcs, ht⟩⟩
theorem OwnT.store {w : World} {B g cap n : Nat} {l : List ByteArray} (h : OwnT w B (.slice (some ⟨g, 0, none⟩) n cap) l) (hn : l.length = n) (j : Nat) (t : ByteArray) :
    OwnT (w.setCell ⟨g, j, none⟩ (.string t)) B (.slice (some ⟨g, 0, none⟩) n cap) (l.set j t) ∧ w.grownBy (w.setCell ⟨g, j, none⟩ (.string t)) (some g) := by
  subst hn
  obtain ⟨h1, h2⟩ := World.ownsRow.stored h j (.string t)
  refine ⟨?_, h2⟩
  unfold OwnT
  rw [List.length_set, List.map_set]
  exact h1
theorem OwnT.cell {w : World} {B g cap n : Nat} {l : List ByteArray} (h : OwnT w B (.slice (some ⟨g, 0, none⟩) n cap) l) (hn : l.length = n) (j : Nat) (hj : j < l.length) :
    w.cell? ⟨g, j, none⟩ = some (.string l[j]) ∧ w.frozen? ⟨g, j, none⟩ = false := by
  subst hn
  have h1 := World.ownsRow.cellAt h j (by omega)
  exact ⟨by rw [h1]; simp [hj], World.ownsRow.frozenAt h j⟩
theorem OwnT.len {w : World} {B : Nat} {v : Value} {l : List ByteArray} (h : OwnT w B v l) : ∃ a cap, v = .slice a l.length cap := by
  rcases h with ⟨h1, ⟨rfl, h2⟩ | ⟨g, cap, cur, rfl, hB, hg, hnc, hcc, hcs, ht⟩⟩
  · exact ⟨none, 0, by rw [h2]⟩
  · exact ⟨_, cap, rfl⟩

/-- 'append(row, t)', row the call's own: it owns one text more; of what lies below B nothing turns. -/
theorem wp_app_text {w : World} {ops : Array Oper} {rest : List Oper} {o : Oper} {a : Act} {Q : Exit → Act → World → Prop} (hgd : o.guard = none) (s x : Operand)
    (ho : o.op = .call { callee := .builtin .append, args := #[s, x], argTypes := #[22, 22] }) (B : Nat) (v : Value) (l : List ByteArray) (hs : a.eval s = v) (hown : OwnT w B v l) (t : ByteArray)
    (hx : a.eval x = .slice (some ⟨w.heap.size, 0, none⟩) 1 1) (hl : l.length ≤ 1048576) (hB : B ≤ w.heap.size)
    (h : ∀ v' w', OwnT w' B v' (l ++ [t]) → Below B w w' → wpList Try.prog ops Q rest (a.put o.dst v') w') : wpList Try.prog ops Q (o :: rest) a (w.alloc (.cells #[.string t] 9)) := by
  obtain ⟨i0, hi, hz0, hz1, hz2⟩ := info_parts infoText
  refine wpList_append_own _ hgd s x 22 ho B 9 i0 (.string ByteArray.empty) 1 16 Try.underlying22 hi hz0 hz1 hz2 rfl (by decide) v l.length (l.map .string) hs (World.ownsRow.alloc hown _) ⟨w.heap.size, 0, none⟩ 1 1 [.string t] hx rfl
    (cell_one_new _ _ _) (by intro u hu; simp at hu; subst hu; rfl) (by unfold maxLen; omega) (by omega) (by simp; omega) ?_
  intro v' w' h1 h2 _
  refine h v' w' ?_ ?_
  · unfold OwnT
    simpa using h1
  · refine ((Below.refl B w).alloc hB _).grown h2 (by simp; omega) fun k hk => ?_
    exact (World.ownsRow.lt hown k hk).1

theorem sizeText (w : World) : (sizeOf (Try.prog.elem 22)).run Try.prog w = .ok 1 w := by
  have hel : Try.prog.elem 22 = 9 := by kernel_rfl
  obtain ⟨i0, hi, hz0, hz1, hz2⟩ := info_parts infoText
  simp [sizeOf, typeInfo, hel, hi, hz1]
theorem underText : Try.prog.underlying 22 = some (.slice (Try.prog.elem 22)) := by
  have hel : Try.prog.elem 22 = 9 := by kernel_rfl
  rw [hel]; exact Try.underlying22

/-- A part of a row of texts, of capacity m behind its beginning. -/
theorem Texts.cut {w : World} {B : Nat} {a : Option Addr} {l : List ByteArray} {cap : Nat} (h : Texts w B (.slice a l.length cap) l) (i j m : Nat) (hij : i ≤ j) (hj : j ≤ l.length) (hm : j ≤ m) :
    Texts w B (sliced a i j m 1) ((l.take j).drop i) := by
  obtain ⟨a', cap', e, hc, hcap⟩ := h
  obtain ⟨rfl, rfl⟩ : a' = a ∧ cap' = cap := by simp at e; exact ⟨e.1.symm, e.2.symm⟩
  have hlen : ((l.take j).drop i).length = j - i := by rw [List.length_drop, List.length_take]; omega
  unfold sliced
  by_cases h0 : j - i = 0
  · exact ⟨_, m - i, by rw [hlen], .inl (by rw [hlen]; exact h0), by rw [hlen]; omega⟩
  · rw [if_neg (by omega)]
    rcases hc with hc | ⟨b, off, rfl, hb, hcell⟩
    · omega
    · refine ⟨some ⟨b, off + i, none⟩, m - i, by rw [hlen]; simp [Addr.add], .inr ⟨b, off + i, rfl, hb, fun k hk => ?_⟩, by rw [hlen]; omega⟩
      have hk' : i + k < l.length := by omega
      rw [show off + i + k = off + (i + k) by omega, hcell (i + k) hk']
      simp

theorem slice_lh {w : World} {B : Nat} {v : Value} {l : List ByteArray} (h : Texts w B v l) (i j : Nat) (hij : i ≤ j) (hj : j ≤ l.length) (x y : Int) (hx : x = (i : Int)) (hy : y = (j : Int)) :
    ∃ v1, (∀ w1, (Instr.slice 22 v (some (.int .i64 x)) (some (.int .i64 y)) none).run Try.prog w1 = .ok v1 w1) ∧ Texts w B v1 ((l.take j).drop i) := by
  obtain ⟨a, cap, rfl, hc, hcap⟩ := id h
  subst hx hy
  refine ⟨_, fun w1 => ?_, h.cut i j cap hij hj (by omega)⟩
  have hsl := run_slice_lh (P := Try.prog) w1 22 a l.length cap underText .i64 .i64 (i : Int) (j : Int) (by omega) (by omega) (by omega)
  rw [sizeText w1] at hsl
  simpa [Result.andThen] using hsl
theorem slice_h {w : World} {B : Nat} {v : Value} {l : List ByteArray} (h : Texts w B v l) (j : Nat) (hj : j ≤ l.length) (y : Int) (hy : y = (j : Int)) :
    ∃ v1, (∀ w1, (Instr.slice 22 v none (some (.int .i64 y)) none).run Try.prog w1 = .ok v1 w1) ∧ Texts w B v1 (l.take j) := by
  obtain ⟨a, cap, rfl, hc, hcap⟩ := id h
  subst hy
  refine ⟨_, fun w1 => ?_, by simpa using h.cut 0 j cap (by omega) hj (by omega)⟩
  have hsl := run_slice_h (P := Try.prog) w1 22 a l.length cap underText .i64 (j : Int) (by omega) (by omega)
  rw [sizeText w1] at hsl
  simpa [Result.andThen] using hsl
theorem slice_l {w : World} {B : Nat} {v : Value} {l : List ByteArray} (h : Texts w B v l) (i : Nat) (hi : i ≤ l.length) (x : Int) (hx : x = (i : Int)) :
    ∃ v1, (∀ w1, (Instr.slice 22 v (some (.int .i64 x)) none none).run Try.prog w1 = .ok v1 w1) ∧ Texts w B v1 (l.drop i) := by
  obtain ⟨a, cap, rfl, hc, hcap⟩ := id h
  subst hx
  refine ⟨_, fun w1 => ?_, by simpa using h.cut i l.length cap hi (by omega) (by omega)⟩
  have hsl := run_slice_l (P := Try.prog) w1 22 a l.length cap underText .i64 (i : Int) (by omega) (by omega)
  rw [sizeText w1] at hsl
  simpa [Result.andThen] using hsl
theorem slice_lhm {w : World} {B : Nat} {v : Value} {l : List ByteArray} (h : Texts w B v l) (i j : Nat) (hij : i ≤ j) (hj : j ≤ l.length) (x y : Int) (hx : x = (i : Int)) (hy : y = (j : Int)) :
    ∃ v1, (∀ w1, (Instr.slice 22 v (some (.int .i64 x)) (some (.int .i64 y)) (some (.int .i64 y))).run Try.prog w1 = .ok v1 w1) ∧ Texts w B v1 ((l.take j).drop i) := by
  obtain ⟨a, cap, rfl, hc, hcap⟩ := id h
  subst hx hy
  refine ⟨_, fun w1 => ?_, h.cut i j j hij hj (by omega)⟩
  have hsl := run_slice_lhm (P := Try.prog) w1 22 a l.length cap underText .i64 .i64 .i64 (i : Int) (j : Int) (j : Int) (by omega) (by omega) (by omega) (by omega)
  rw [sizeText w1] at hsl
  simpa [Result.andThen] using hsl
theorem Texts.at {w : World} {B : Nat} {v : Value} {l : List ByteArray} (h : Texts w B v l) : ∃ a cap, v = .slice a l.length cap ∧ l.length ≤ cap ∧ ∀ j (hj : j < l.length), ∃ b off, a = some ⟨b, off, none⟩ ∧ b < B ∧ w.cell? ⟨b, off + j, none⟩ = some (.string l[j]) := by
  obtain ⟨a, cap, rfl, hc, hcap⟩ := h
  refine ⟨a, cap, rfl, hcap, fun j hj => ?_⟩
  rcases hc with h0 | ⟨b, off, rfl, hB, hcell⟩
  · omega
  · exact ⟨b, off, rfl, hB, hcell j hj⟩
end Go.Proofs.Ytpglcbidfghfkaa

/-
  The program's copy of a row of texts.
-/
namespace Go.Proofs.Ytpglcbidfghfkaa
open Go.RowKit Go.Lib
set_option linter.unusedVariables false
set_option linter.unusedSimpArgs false

set_option maxHeartbeats 1000000 in
set_option maxRecDepth 10000 in
theorem copied_any (v : Value) (l : List ByteArray) (w : World) (h : Texts w w.heap.size v l) (hl : l.length ≤ 1048576) (hz : ∀ j (hj : j < l.length), l[j].size ≤ 1048576) :
    Calls Try.prog 55 #[v] w fun e w' => ∃ v', e = .returned v' ∧ OwnT w' w.heap.size v' l ∧ Below w.heap.size w w' := by
  obtain ⟨a, cap, rfl, hcap, hc⟩ := h.at
  have HC : Hid (∀ j (hj : j < l.length), ∃ b off, a = some ⟨b, off, none⟩ ∧ b < w.heap.size ∧ w.cell? ⟨b, off + j, none⟩ = some (.string l[j])) := hc
  have EJ : Hid (∀ t w, t.size ≤ 1048576 → Calls Try.prog 48 #[.string t, .string ⟨#[]⟩] w fun e w' => e = .returned (.string t) ∧ Below w.heap.size w w') := fun t w ht => by
    have := joined_any t ByteArray.empty w ht (by simp)
    rw [ByteArray.append_empty] at this
    exact this
  have HZ : Hid (∀ j (hj : j < l.length), l[j].size ≤ 1048576) := hz
  clear hc hcap h hz
  obtain ⟨n, hn⟩ : ∃ n, n = l.length := ⟨_, rfl⟩
  have HN : Hid (n = l.length) := hn
  rw [← hn] at hl ⊢
  clear hn
  go_enter Try.func55, Try.ntmps55
  go_wp2
  go_loopw [3, 8] (fun o x wr => ∃ k : Nat, k ≤ n ∧ x = .int .i64 k ∧ OwnT wr w.heap.size o (l.take k) ∧ Below w.heap.size w wr) (fun _ x _ => n - (intOf x).toNat)
  case atStart => exact ⟨0, by omega, rfl, OwnT.nil _ _, Below.refl _ _⟩
  case round =>
    obtain ⟨k, hk, rfl, hown, hb⟩ := hrel
    by_cases hlt : k < n
    · have hkl : k < l.length := by rw [← HN.out]; exact hlt
      obtain ⟨b, off, rfl, hB, hcell⟩ := HC.out k hkl
      have hc1 : wr.cell? ⟨b, off + k, none⟩ = some (.string l[k]) := (hb.cell (p := ⟨b, off + k, none⟩) hB).trans hcell
      have F := fun W => EJ.out l[k] W (HZ.out k hkl)
      have HF : Hid (∀ W, Calls Try.prog 48 #[.string l[k], .string ⟨#[]⟩] W fun e w' => e = .returned (.string l[k]) ∧ Below W.heap.size W w') := F
      have HS : Hid (l.take k ++ [l[k]] = l.take (k + 1)) := by show _ = _; rw [List.take_succ_eq_append_getElem hkl]
      have hll : (l.take k).length ≤ 1048576 := by rw [List.length_take]; omega
      have HO : Hid (OwnT wr w.heap.size u3 (l.take k) ∧ Below w.heap.size w wr) := ⟨hown, hb⟩
      generalize l.take k = lk at *
      generalize l[k] = t at *
      have hkI : (k : Int) < (n : Int) := by omega
      have hk0 : (0 : Int) ≤ (k : Int) := by omega
      clear F hown hb hcell HC EJ HZ
      go_wp2_with fail
      refine (HF.out _).mono ?_
      rintro e w1 ⟨rfl, hb1⟩
      have HO1 : Hid (OwnT w1 w.heap.size u3 lk ∧ Below w.heap.size w w1) := ⟨HO.out.1.below hb1 (Nat.le_refl _), HO.out.2.trans (hb1.mono HO.out.2.size)⟩
      have hown1 := HO1.out.1
      have hszw := HO1.out.2.size
      clear hb1 HO HF hc1
      go_wp2_with (at_builtin; go_must (refine wp_app_text rfl (.tmp 12) (.tmp 15) rfl w.heap.size _ _ rfl hown1 t rfl hll hszw ?_); intro v2 w2 hown2 hb2)
      have HO2 : Hid (OwnT w2 w.heap.size v2 (l.take (k + 1)) ∧ Below w.heap.size w w2) := ⟨by rw [← HS.out]; exact hown2, HO1.out.2.trans hb2⟩
      clear hown2 hb2
      go_roundw
      case rel => exact ⟨k + 1, by omega, by go_num, HO2.out.1, HO2.out.2⟩
      case measure => simp [intOf]; omega
    · have e : k = n := by omega
      rw [e, HN.out, List.take_of_length_le (Nat.le_refl _)] at hown
      have HO : Hid (OwnT wr w.heap.size u3 l ∧ Below w.heap.size w wr) := ⟨hown, hb⟩
      have hkI : ¬ (k : Int) < (n : Int) := by omega
      clear hown hb e HC EJ HZ
      go_wp2
      go_ret
      exact ⟨_, rfl, HO.out.1, HO.out.2⟩
end Go.Proofs.Ytpglcbidfghfkaa

/-
  A row of texts that was copied is the call's own.
-/
namespace Go.Proofs.Ytpglcbidfghfkaa
open Go.RowKit Go.Lib
set_option linter.unusedVariables false

theorem OwnS.own {w : World} {g : Nat} {v : Value} {l : List ByteArray} (h : OwnS w g v l) (hl : l.length ≤ 1048576) : OwnT w g v l ∧ v.ownBlock = some g := by
  obtain ⟨rfl, hg⟩ := h
  refine ⟨⟨by simp, .inr ⟨g, l.length, _, rfl, Nat.le_refl _, hg, Nat.le_refl _, by unfold maxLen; omega, by rw [cellsT_size, Nat.mul_one], ?_⟩⟩, rfl⟩
  apply List.ext_getElem?
  intro j
  rw [List.getElem?_take]
  by_cases hj : j < l.length
  · rw [if_pos (by omega), Array.getElem?_toList, cellsT_get _ hj, firstT, if_pos hj]
    simp [List.getD, hj]
  · rw [if_neg (by omega), List.getElem?_eq_none (by rw [List.length_map]; omega)]
end Go.Proofs.Ytpglcbidfghfkaa

/-
  Rows of texts that lie between two bounds; stores that are far from a row.
-/
namespace Go.Proofs.Ytpglcbidfghfkaa
open Go.RowKit Go.Lib
set_option linter.unusedVariables false
set_option linter.unusedSimpArgs false

theorem OwnT.far {w : World} {B g i : Nat} {v u : Value} {l : List ByteArray} (h : OwnT w B v l) (hg : g < B) : OwnT (w.setCell ⟨g, i, none⟩ u) B v l :=
  h.grown ⟨rfl, rfl, rfl, by simp [World.setCell], fun k _ hne => Below.heap_setCell _ _ _ _ (by intro e; exact hne (by simp [e]))⟩ hg
/-- The slice v holds the texts l, in a row that lies behind A and ahead of B. -/
def TextsIn (w : World) (A B : Nat) (v : Value) (l : List ByteArray) : Prop :=
  ∃ a cap, v = .slice a l.length cap ∧ (l.length = 0 ∨ ∃ b off, a = some ⟨b, off, none⟩ ∧ A ≤ b ∧ b < B ∧ ∀ j (h : j < l.length), w.cell? ⟨b, off + j, none⟩ = some (.string l[j])) ∧ l.length ≤ cap
theorem OwnT.inside {w : World} {B : Nat} {v : Value} {l : List ByteArray} (h : OwnT w B v l) : TextsIn w B w.heap.size v l := by
  rcases id h with ⟨h1, ⟨rfl, h2⟩ | ⟨g, cap, cur, rfl, hB, hg, hnc, _, hcs, ht⟩⟩
  · exact ⟨none, 0, by rw [h2], .inl h2, by omega⟩
  · refine ⟨_, cap, rfl, .inr ⟨g, 0, rfl, hB, (Array.getElem?_eq_some_iff.1 hg).1, fun j hj => ?_⟩, hnc⟩
    have := World.ownsRow.cellAt h j (by omega)
    rw [Nat.zero_add, this]
    simp [hj]
theorem TextsIn.texts {w : World} {A B : Nat} {v : Value} {l : List ByteArray} (h : TextsIn w A B v l) : Texts w B v l := by
  obtain ⟨a, cap, hv, h | ⟨b, off, ha, hA, hB, hc⟩, hcap⟩ := h
  · exact ⟨a, cap, hv, .inl h, hcap⟩
  · exact ⟨a, cap, hv, .inr ⟨b, off, ha, hB, hc⟩, hcap⟩
theorem TextsIn.below {w w' : World} {A B : Nat} {v : Value} {l : List ByteArray} (h : TextsIn w A B v l) (hb : Below B w w') : TextsIn w' A B v l := by
  obtain ⟨a, cap, hv, h | ⟨b, off, ha, hA, hB, hc⟩, hcap⟩ := h
  · exact ⟨a, cap, hv, .inl h, hcap⟩
  · exact ⟨a, cap, hv, .inr ⟨b, off, ha, hA, hB, fun j hj => (hb.cell (p := ⟨b, off + j, none⟩) hB).trans (hc j hj)⟩, hcap⟩
theorem TextsIn.wide {w : World} {A B A' B' : Nat} {v : Value} {l : List ByteArray} (h : TextsIn w A B v l) (hA' : A' ≤ A) (hB' : B ≤ B') : TextsIn w A' B' v l := by
  obtain ⟨a, cap, hv, h | ⟨b, off, ha, hA, hB, hc⟩, hcap⟩ := h
  · exact ⟨a, cap, hv, .inl h, hcap⟩
  · exact ⟨a, cap, hv, .inr ⟨b, off, ha, by omega, by omega, hc⟩, hcap⟩
theorem TextsIn.far {w : World} {A B g i : Nat} {v u : Value} {l : List ByteArray} (h : TextsIn w A B v l) (hg : g < A) : TextsIn (w.setCell ⟨g, i, none⟩ u) A B v l := by
  obtain ⟨a, cap, hv, h | ⟨b, off, ha, hA, hB, hc⟩, hcap⟩ := h
  · exact ⟨a, cap, hv, .inl h, hcap⟩
  · refine ⟨a, cap, hv, .inr ⟨b, off, ha, hA, hB, fun j hj => ?_⟩, hcap⟩
    rw [← hc j hj]
    simp only [World.cell?]
    rw [heap_setCell_other _ _ _ _ (by simp; omega)]
end Go.Proofs.Ytpglcbidfghfkaa

/-
  A signature that came in: its size, its copy.
-/
namespace Go.Proofs.Ytpglcbidfghfkaa
open Go.RowKit Go.Lib
set_option linter.unusedVariables false
set_option linter.unusedSimpArgs false

theorem arr3 {cs : Array Value} {a b c : Value} (h : cs.size = 3) (h0 : ((Value.agg cs).cells.toList.drop 0).take 1 = [a]) (h1 : ((Value.agg cs).cells.toList.drop 1).take 1 = [b]) (h2 : ((Value.agg cs).cells.toList.drop 2).take 1 = [c]) : cs = #[a, b, c] := by
  have e : (Value.agg cs).cells = cs := rfl
  rw [e] at h0 h1 h2
  obtain ⟨l⟩ := cs
  match l, h with
  | [x, y, z], _ => simp at h0 h1 h2; rw [h0, h1, h2]


/-- A signature whose rows are the call's own: the Ends ahead of n, the Path behind it. -/
def SigOwn (w : World) (k : Int) (el pl : List ByteArray) (e : Ending) (w' : World) : Prop :=
  ∃ ve vp n, e = .returned (.agg #[.int .i64 k, ve, vp]) ∧ OwnT w' w.heap.size ve el ∧ OwnT w' n vp pl ∧ (∀ g, ve.ownBlock = some g → g < n) ∧ w.heap.size ≤ n ∧ n ≤ w'.heap.size ∧ Below w.heap.size w w'

end Go.Proofs.Ytpglcbidfghfkaa

/-
  What the call's own rows keep where others are written to.
-/
namespace Go.Proofs.Ytpglcbidfghfkaa
open Go.RowKit Go.Lib
set_option linter.unusedVariables false
set_option linter.unusedSimpArgs false

/-- A block of another type is no row's own. -/
theorem OwnT.other {w : World} {B p : Nat} {v : Value} {l : List ByteArray} {cs : Array Value} {t : TypeId} {fz : Nat × Nat} (h : OwnT w B v l) (hp : w.heap[p]? = some (.cells cs t fz)) (ht : t ≠ 9) : some p ≠ v.ownBlock := by
  intro e
  rcases h with ⟨_, ⟨rfl, _⟩ | ⟨g, cap, cur, rfl, _, hg, _⟩⟩
  · simp [Value.ownBlock] at e
  · have e' : p = g := by simpa [Value.ownBlock] using e
    rw [e', hg] at hp
    simp at hp
    exact ht hp.2.1.symm
theorem grown_cell {w w' : World} {b : Nat} (h : w.grownBy w' (some b)) (i : Nat) (v : Value) : w.grownBy (w'.setCell ⟨b, i, none⟩ v) (some b) :=
  ⟨h.os, h.tape, h.output, by simpa [World.setCell] using h.size, fun k hk hne => (heap_setCell_other w' ⟨b, i, none⟩ k v (fun e => hne (by rw [e]))).trans (h.block k hk hne)⟩
/-- A block that the call itself has made may be written to. -/
theorem grown_own {w W W' : World} {p b : Nat} (h : w.grownBy W (some p)) (hg : W.grownBy W' (some b)) (hb : w.heap.size ≤ b) : w.grownBy W' (some p) :=
  ⟨hg.os.trans h.os, hg.tape.trans h.tape, hg.output.trans h.output, Nat.le_trans h.size hg.size, fun k hk hne => (hg.block k (Nat.lt_of_lt_of_le hk h.size) (by simp; omega)).trans (h.block k hk hne)⟩
/-- Rows of texts are not touched by what is written into a block of another type. -/
theorem OwnT.past {w w' : World} {B b : Nat} {v : Value} {l : List ByteArray} {cs : Array Value} {t : TypeId} {fz : Nat × Nat} (h : OwnT w B v l) (hg : w.grownBy w' (some b)) (hp : w.heap[b]? = some (.cells cs t fz)) (ht : t ≠ 9) : OwnT w' B v l := by
  have hne := h.other hp ht
  rcases h with ⟨h1, ⟨rfl, h2⟩ | ⟨g', cap, cur, rfl, hB', hg', hnc, hcc, hcs, ht⟩⟩
  · exact ⟨h1, .inl ⟨rfl, h2⟩⟩
  · exact ⟨h1, .inr ⟨g', cap, cur, rfl, hB', (hg.block g' (Array.getElem?_eq_some_iff.1 hg').1 (fun e => hne e.symm)).trans hg', hnc, hcc, hcs, ht⟩⟩
theorem OwnT.under {w w' : World} {B C : Nat} {v : Value} {l : List ByteArray} (h : OwnT w B v l) (hb : Below C w w') (hlt : ∀ g, v.ownBlock = some g → g < C) : OwnT w' B v l := by
  rcases h with ⟨h1, ⟨rfl, h2⟩ | ⟨g', cap, cur, rfl, hB', hg', hnc, hcc, hcs, ht⟩⟩
  · exact ⟨h1, .inl ⟨rfl, h2⟩⟩
  · exact ⟨h1, .inr ⟨g', cap, cur, rfl, hB', (hb.block g' (hlt g' rfl)).trans hg', hnc, hcc, hcs, ht⟩⟩
theorem OwnT.block_lt {w : World} {B : Nat} {v : Value} {l : List ByteArray} (h : OwnT w B v l) : ∀ g, v.ownBlock = some g → B ≤ g ∧ g < w.heap.size := by
  intro g hg
  rcases h with ⟨h1, ⟨rfl, h2⟩ | ⟨g', cap, cur, rfl, hB', hg', hnc, hcc, hcs, ht⟩⟩
  · exact absurd hg (by simp [Value.ownBlock])
  · have e : g' = g := by simpa [Value.ownBlock] using hg
    subst e
    exact ⟨hB', (Array.getElem?_eq_some_iff.1 hg').1⟩
theorem rd_refl (w : World) (r : Option Nat) : w.grownBy w r := ⟨rfl, rfl, rfl, Nat.le_refl _, fun _ _ _ => rfl⟩
theorem grown_then {a b c : World} {r : Option Nat} (h : a.grownBy b r) (k : Below a.heap.size b c) : a.grownBy c r :=
  ⟨k.os.trans h.os, k.tape.trans h.tape, k.output.trans h.output, Nat.le_trans h.size k.size, fun i hi hne => (k.block i hi).trans (h.block i hi hne)⟩
theorem below_own {w W W' : World} {r : Nat} (h : Below w.heap.size w W) (hg : W.grownBy W' (some r)) (hr : w.heap.size ≤ r) : Below w.heap.size w W' :=
  ⟨hg.os.trans h.os, hg.tape.trans h.tape, hg.output.trans h.output, Nat.le_trans h.size hg.size, fun k hk => (hg.block k (Nat.lt_of_lt_of_le hk h.size) (by simp; omega)).trans (h.block k hk)⟩
/-- Of what was there only blocks from B to below C have turned. -/
def Inside (w w' : World) (B C : Nat) : Prop := w'.os = w.os ∧ w'.tape = w.tape ∧ w'.output = w.output ∧ w.heap.size ≤ w'.heap.size ∧ ∀ b, b < w.heap.size → (b < B ∨ C ≤ b) → w'.heap[b]? = w.heap[b]?
theorem Inside.refl (w : World) (B C : Nat) : Inside w w B C := ⟨rfl, rfl, rfl, Nat.le_refl _, fun _ _ _ => rfl⟩
theorem Inside.wide {w w' : World} {B C B' C' : Nat} (h : Inside w w' B C) (h1 : B' ≤ B) (h2 : C ≤ C') : Inside w w' B' C' := ⟨h.1, h.2.1, h.2.2.1, h.2.2.2.1, fun b hb ho => h.2.2.2.2 b hb (by omega)⟩
theorem Inside.trans {a b c : World} {B C : Nat} (h : Inside a b B C) (k : Inside b c B C) : Inside a c B C := ⟨k.1.trans h.1, k.2.1.trans h.2.1, k.2.2.1.trans h.2.2.1, Nat.le_trans h.2.2.2.1 k.2.2.2.1, fun i hi ho => (k.2.2.2.2 i (Nat.lt_of_lt_of_le hi h.2.2.2.1) ho).trans (h.2.2.2.2 i hi ho)⟩
theorem Inside.of_below {w w' : World} {B C : Nat} (h : Below w.heap.size w w') : Inside w w' B C := ⟨h.os, h.tape, h.output, h.size, fun b hb _ => h.block b hb⟩
theorem Inside.below {w w' : World} {B C : Nat} (h : Inside w w' B C) (hB : B ≤ w.heap.size) : Below B w w' := ⟨h.1, h.2.1, h.2.2.1, h.2.2.2.1, fun b hb => h.2.2.2.2 b (by omega) (.inl hb)⟩
theorem Inside.on {w w1 w' : World} {B C : Nat} (hb : Below w.heap.size w w1) (h : Inside w1 w' B C) : Inside w w' B C := (Inside.of_below hb).trans h
theorem inside_row {w w' : World} {v : Value} {B C : Nat} (h : w.grownBy w' v.ownBlock) (hv : ∀ g, v.ownBlock = some g → B ≤ g ∧ g < C) : Inside w w' B C :=
  ⟨h.os, h.tape, h.output, h.size, fun b hb ho => h.block b hb (fun e => by have := hv b e.symm; omega)⟩
theorem OwnT.aside {w w' : World} {A B C : Nat} {v : Value} {l : List ByteArray} (h : OwnT w A v l) (hi : Inside w w' B C) (hne : ∀ g, v.ownBlock = some g → g < B ∨ C ≤ g) : OwnT w' A v l := by
  rcases h with ⟨h1, ⟨rfl, h2⟩ | ⟨g', cap, cur, rfl, hB', hg', hnc, hcc, hcs, ht⟩⟩
  · exact ⟨h1, .inl ⟨rfl, h2⟩⟩
  · exact ⟨h1, .inr ⟨g', cap, cur, rfl, hB', (hi.2.2.2.2 g' (Array.getElem?_eq_some_iff.1 hg').1 (hne g' rfl)).trans hg', hnc, hcc, hcs, ht⟩⟩
end Go.Proofs.Ytpglcbidfghfkaa

/-
  Are all texts of 32 bytes? The program's test.
-/
namespace Go.Proofs.Ytpglcbidfghfkaa
open Go.RowKit Go.Lib
set_option linter.unusedVariables false

set_option maxHeartbeats 400000 in
theorem digests_any (v : Value) (l : List ByteArray) (w : World) (B : Nat) (h : Texts w B v l) (hl : l.length ≤ 1048576) :
    Calls Try.prog 54 #[v] w fun e w' => e = .returned (.bool (wideB l)) ∧ w' = w := by
  obtain ⟨a, cap, rfl, hcap, hc⟩ := h.at
  have HC : Hid (∀ j (hj : j < l.length), ∃ b off, a = some ⟨b, off, none⟩ ∧ b < B ∧ w.cell? ⟨b, off + j, none⟩ = some (.string l[j])) := hc
  clear hc h hcap
  obtain ⟨n, hn⟩ : ∃ n, n = l.length := ⟨_, rfl⟩
  have HN : Hid (n = l.length) := hn
  rw [← hn] at hl ⊢
  clear hn
  obtain ⟨W, hW⟩ : ∃ W, W = wideB l := ⟨_, rfl⟩
  rw [← hW]
  have HW : Hid (W = wideB l) := hW
  clear hW
  go_enter Try.func54, Try.ntmps54
  go_wp2
  go_loop [7] (fun i => ∃ k : Nat, k ≤ n ∧ i = .int .i64 k ∧ ∀ j (h : j < l.length), j < k → (l[j].size : Int) = 32) (fun i => n - (intOf i).toNat)
  case atStart => exact ⟨0, Nat.zero_le _, rfl, fun j _ h => by omega⟩
  case round =>
    obtain ⟨k, hk, rfl, hall⟩ := hrel
    have HA : Hid (∀ j (h : j < l.length), j < k → (l[j].size : Int) = 32) := hall
    clear hall
    by_cases hkn : k < n
    · have hkl : k < l.length := by rw [← HN.out]; exact hkn
      obtain ⟨b, off, rfl, hB, hc⟩ := HC.out k hkl
      have HA2 : Hid ((l[k].size : Int) = 32 → ∀ j (h : j < l.length), j < k + 1 → (l[j].size : Int) = 32) := fun hr j h hj => by
        by_cases e : j = k
        · subst e; exact hr
        · exact HA.out j h (by omega)
      have HB : Hid (¬ (l[k].size : Int) = 32 → W = false) := fun h => by rw [HW.out]; exact wideB_no hkl h
      have hknI : (k : Int) < (n : Int) := by omega
      clear HC HA HN HW
      generalize l[k] = t at *
      by_cases h32 : (t.size : Int) = 32
      · go_wp2
        go_round
        case rel => exact ⟨k + 1, by omega, by go_num, HA2.out h32⟩
        case measure => simp [intOf]; omega
      · have HF : Hid (W = false) := HB.out h32
        clear HA2 HB
        go_wp2
        go_ret
        exact ⟨ret_bool HF.out.symm, rfl⟩
    · have HF : Hid (W = true) := by
        show _ = _
        rw [HW.out]
        exact wideB_yes fun j hj => HA.out j hj (by have := HN.out; omega)
      clear HC HA HN HW
      go_wp2
      go_ret
      exact ⟨ret_bool HF.out.symm, rfl⟩
end Go.Proofs.Ytpglcbidfghfkaa
