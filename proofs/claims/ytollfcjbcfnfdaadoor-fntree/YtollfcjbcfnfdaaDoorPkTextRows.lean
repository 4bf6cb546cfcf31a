/-
  Rows of texts of a call's own that are appended to; a row of texts cut in two.
-/
import Derived.Test.YtollfcjbcfnfdaaDoorPkTexts
import Derived.Test.YtollfcjbcfnfdaaDoorPkMem
import Derived.Laws.Slices
namespace Go.Proofs.YtollfcjbcfnfdaaDoor
open Go.RowKit Go.Lib
set_option linter.unusedVariables false

theorem below_drew' {B : Nat} {a w : World} (h : Below B a w) : Below B a w.drew := ⟨h.os, h.tape, h.output, h.size, h.block⟩
/-- The slice v owns the texts l, in a row of the call's own. -/
def OwnT (w : World) (B : Nat) (v : Value) (l : List ByteArray) : Prop := w.ownsRow B 9 1 v l.length (l.map .string)
theorem OwnT.nil (w : World) (B : Nat) : OwnT w B (.slice none 0 0) [] := World.ownsRow_nil w B _ _
theorem OwnT.made (w : World) (B : Nat) (hB : B ≤ w.heap.size) : OwnT (w.alloc (.cells #[] 9)) B (.slice (some ⟨w.heap.size, 0, none⟩) 0 0) [] := World.ownsRow_made w #[] 0 hB (Nat.zero_le _) rfl
theorem OwnT.texts {w : World} {B : Nat} {v : Value} {l : List ByteArray} (h : OwnT w B v l) : Texts w w.heap.size v l := by
  rcases id h with ⟨h1, ⟨rfl, h2⟩ | ⟨g, cap, cur, rfl, hB, hg, hnc, _, hcs, ht⟩⟩
  · exact ⟨none, 0, by rw [h2], .inl h2, by omega⟩
  · refine ⟨_, cap, rfl, .inr ⟨g, 0, rfl, (Array.getElem?_eq_some_iff.1 hg).1, fun j hj => ?_⟩, hnc⟩
    have := World.ownsRow.cellAt h j (by omega)
    rw [Nat.zero_add, this]
    simp [hj]
theorem OwnT.below {w w' : World} {B C : Nat} {v : Value} {l : List ByteArray} (h : OwnT w B v l) (hb : Below C w w') (hC : w.heap.size ≤ C) : OwnT w' B v l := by
  rcases h with ⟨h1, ⟨rfl, h2⟩ | ⟨g, cap, cur, rfl, hB, hg, hnc, hcc, hcs, ht⟩⟩
  · exact ⟨h1, .inl ⟨rfl, h2⟩⟩
  · have hgl := (Array.getElem?_eq_some_iff.1 hg).1
    exact ⟨h1, .inr ⟨g, cap, cur, rfl, hB, (hb.block g (Nat.lt_of_lt_of_le hgl hC)).trans hg, hnc, hcc, hcs, ht⟩⟩
theorem OwnT.lower {w : World} {B C : Nat} {v : Value} {l : List ByteArray} (h : OwnT w B v l) (hC : C ≤ B) : OwnT w C v l := by
  rcases h with ⟨h1, ⟨rfl, h2⟩ | ⟨g, cap, cur, rfl, hB, hg, hnc, hcc, hcs, ht⟩⟩
  · exact ⟨h1, .inl ⟨rfl, h2⟩⟩
  · exact ⟨h1, .inr ⟨g, cap, cur, rfl, Nat.le_trans hC hB, hg, hnc, hcc, hcs, ht⟩⟩
theorem OwnT.grown {w w' : World} {B g : Nat} {v : Value} {l : List ByteArray} (h : OwnT w B v l) (hg : w.grownBy w' (some g)) (hB : g < B) : OwnT w' B v l := by
  rcases h with ⟨h1, ⟨rfl, h2⟩ | ⟨g', cap, cur, rfl, hB', hg', hnc, hcc, hcs, ht⟩⟩
  · exact ⟨h1, .inl ⟨rfl, h2⟩⟩
  · exact ⟨h1, .inr ⟨g', cap, cur, rfl, hB', (hg.block g' (Array.getElem?_eq_some_iff.1 hg').1 (by simp; omega)).trans hg', hnc, hcc, hcs, ht⟩⟩
theorem OwnT.store {w : World} {B g cap n : Nat} {l : List ByteArray} (h : OwnT w B (.slice (some ⟨g, 0, none⟩) n cap) l) (hn : l.length = n) (j : Nat) (t : ByteArray) :
    OwnT (w.setCell ⟨g, j, none⟩ (.string t)) B (.slice (some ⟨g, 0, none⟩) n cap) (l.set j t) ∧ w.grownBy (w.setCell ⟨g, j, none⟩ (.string t)) (some g) := by
  subst hn
  obtain ⟨h1, h2⟩ := World.ownsRow.stored h j (.string t)
  refine ⟨?_, h2⟩
  unfold OwnT
  rw [List.length_set, List.map_set]
  exact h1
theorem OwnT.cell {w : World} {B g cap n : Nat} {l : List ByteArray} (h : OwnT w B (.slice (some ⟨g, 0, none⟩) n cap) l) (hn : l.length = n) (j : Nat) (hj : j < l.length) :
    w.cell? ⟨g, j, none⟩ = some (.string l[j]) ∧ w.frozen? ⟨g, j, none⟩ = false := by
  subst hn
  have h1 := World.ownsRow.cellAt h j (by omega)
  exact ⟨by rw [h1]; simp [hj], World.ownsRow.frozenAt h j⟩
theorem OwnT.len {w : World} {B : Nat} {v : Value} {l : List ByteArray} (h : OwnT w B v l) : ∃ a cap, v = .slice a l.length cap := by
  rcases h with ⟨h1, ⟨rfl, h2⟩ | ⟨g, cap, cur, rfl, hB, hg, hnc, hcc, hcs, ht⟩⟩
  · exact ⟨none, 0, by rw [h2]⟩
  · exact ⟨_, cap, rfl⟩

/-- 'append(row, t)', row the call's own: it owns one text more; of what lies below B nothing turns. -/
theorem wp_app_text {w : World} {ops : Array Oper} {rest : List Oper} {o : Oper} {a : Act} {Q : Exit → Act → World → Prop} (hgd : o.guard = none) (s x : Operand)
    (ho : o.op = .call { callee := .builtin .append, args := #[s, x], argTypes := #[23, 23] }) (B : Nat) (v : Value) (l : List ByteArray) (hs : a.eval s = v) (hown : OwnT w B v l) (t : ByteArray)
    (hx : a.eval x = .slice (some ⟨w.heap.size, 0, none⟩) 1 1) (hl : l.length ≤ 1048576) (hB : B ≤ w.heap.size)
    (h : ∀ v' w', OwnT w' B v' (l ++ [t]) → Below B w w' → wpList Tryd.prog ops Q rest (a.put o.dst v') w') : wpList Tryd.prog ops Q (o :: rest) a (w.alloc (.cells #[.string t] 9)) := by
  obtain ⟨i0, hi, hz0, hz1, hz2⟩ := info_parts infoText
  refine wpList_append_own _ hgd s x 23 ho B 9 i0 (.string ByteArray.empty) 1 16 Tryd.underlying23 hi hz0 hz1 hz2 rfl (by decide) v l.length (l.map .string) hs (World.ownsRow.alloc hown _) ⟨w.heap.size, 0, none⟩ 1 1 [.string t] hx rfl
    (cell_one_new _ _ _) (by intro u hu; simp at hu; subst hu; rfl) (by unfold maxLen; omega) (by omega) (by simp; omega) ?_
  intro v' w' h1 h2 _
  refine h v' w' ?_ ?_
  · unfold OwnT
    simpa using h1
  · refine ((Below.refl B w).alloc hB _).grown h2 (by simp; omega) fun k hk => ?_
    exact (World.ownsRow.lt hown k hk).1

theorem sizeText (w : World) : (sizeOf (Tryd.prog.elem 23)).run Tryd.prog w = .ok 1 w := by
  have hel : Tryd.prog.elem 23 = 9 := by kernel_rfl
  obtain ⟨i0, hi, hz0, hz1, hz2⟩ := info_parts infoText
  simp [sizeOf, typeInfo, hel, hi, hz1]
theorem underText : Tryd.prog.underlying 23 = some (.slice (Tryd.prog.elem 23)) := by
  have hel : Tryd.prog.elem 23 = 9 := by kernel_rfl
  rw [hel]; exact Tryd.underlying23

/-- A part of a row of texts, of capacity m behind its beginning. -/
theorem Texts.cut {w : World} {B : Nat} {a : Option Addr} {l : List ByteArray} {cap : Nat} (h : Texts w B (.slice a l.length cap) l) (i j m : Nat) (hij : i ≤ j) (hj : j ≤ l.length) (hm : j ≤ m) :
    Texts w B (sliced a i j m 1) ((l.take j).drop i) := by
  obtain ⟨a', cap', e, hc, hcap⟩ := h
  obtain ⟨rfl, rfl⟩ : a' = a ∧ cap' = cap := by simp at e; exact ⟨e.1.symm, e.2.symm⟩
  have hlen : ((l.take j).drop i).length = j - i := by rw [List.length_drop, List.length_take]; omega
  unfold sliced
  by_cases h0 : j - i = 0
  · exact ⟨_, m - i, by rw [hlen], .inl (by rw [hlen]; exact h0), by rw [hlen]; omega⟩
  · rw [if_neg (by omega)]
    rcases hc with hc | ⟨b, off, rfl, hb, hcell⟩
    · omega
    · refine ⟨some ⟨b, off + i, none⟩, m - i, by rw [hlen]; simp [Addr.add], .inr ⟨b, off + i, rfl, hb, fun k hk => ?_⟩, by rw [hlen]; omega⟩
      have hk' : i + k < l.length := by omega
      rw [show off + i + k = off + (i + k) by omega, hcell (i + k) hk']
      simp

theorem slice_lh {w : World} {B : Nat} {v : Value} {l : List ByteArray} (h : Texts w B v l) (i j : Nat) (hij : i ≤ j) (hj : j ≤ l.length) (x y : Int) (hx : x = (i : Int)) (hy : y = (j : Int)) :
    ∃ v1, (∀ w1, (Instr.slice 23 v (some (.int .i64 x)) (some (.int .i64 y)) none).run Tryd.prog w1 = .ok v1 w1) ∧ Texts w B v1 ((l.take j).drop i) := by
  obtain ⟨a, cap, rfl, hc, hcap⟩ := id h
  subst hx hy
  refine ⟨_, fun w1 => ?_, h.cut i j cap hij hj (by omega)⟩
  have hsl := run_slice_lh (P := Tryd.prog) w1 23 a l.length cap underText .i64 .i64 (i : Int) (j : Int) (by omega) (by omega) (by omega)
  rw [sizeText w1] at hsl
  simpa [Result.andThen] using hsl
theorem slice_h {w : World} {B : Nat} {v : Value} {l : List ByteArray} (h : Texts w B v l) (j : Nat) (hj : j ≤ l.length) (y : Int) (hy : y = (j : Int)) :
    ∃ v1, (∀ w1, (Instr.slice 23 v none (some (.int .i64 y)) none).run Tryd.prog w1 = .ok v1 w1) ∧ Texts w B v1 (l.take j) := by
  obtain ⟨a, cap, rfl, hc, hcap⟩ := id h
  subst hy
  refine ⟨_, fun w1 => ?_, by simpa using h.cut 0 j cap (by omega) hj (by omega)⟩
  have hsl := run_slice_h (P := Tryd.prog) w1 23 a l.length cap underText .i64 (j : Int) (by omega) (by omega)
  rw [sizeText w1] at hsl
  simpa [Result.andThen] using hsl
theorem slice_l {w : World} {B : Nat} {v : Value} {l : List ByteArray} (h : Texts w B v l) (i : Nat) (hi : i ≤ l.length) (x : Int) (hx : x = (i : Int)) :
    ∃ v1, (∀ w1, (Instr.slice 23 v (some (.int .i64 x)) none none).run Tryd.prog w1 = .ok v1 w1) ∧ Texts w B v1 (l.drop i) := by
  obtain ⟨a, cap, rfl, hc, hcap⟩ := id h
  subst hx
  refine ⟨_, fun w1 => ?_, by simpa using h.cut i l.length cap hi (by omega) (by omega)⟩
  have hsl := run_slice_l (P := Tryd.prog) w1 23 a l.length cap underText .i64 (i : Int) (by omega) (by omega)
  rw [sizeText w1] at hsl
  simpa [Result.andThen] using hsl
theorem slice_lhm {w : World} {B : Nat} {v : Value} {l : List ByteArray} (h : Texts w B v l) (i j : Nat) (hij : i ≤ j) (hj : j ≤ l.length) (x y : Int) (hx : x = (i : Int)) (hy : y = (j : Int)) :
    ∃ v1, (∀ w1, (Instr.slice 23 v (some (.int .i64 x)) (some (.int .i64 y)) (some (.int .i64 y))).run Tryd.prog w1 = .ok v1 w1) ∧ Texts w B v1 ((l.take j).drop i) := by
  obtain ⟨a, cap, rfl, hc, hcap⟩ := id h
  subst hx hy
  refine ⟨_, fun w1 => ?_, h.cut i j j hij hj (by omega)⟩
  have hsl := run_slice_lhm (P := Tryd.prog) w1 23 a l.length cap underText .i64 .i64 .i64 (i : Int) (j : Int) (j : Int) (by omega) (by omega) (by omega) (by omega)
  rw [sizeText w1] at hsl
  simpa [Result.andThen] using hsl
theorem Texts.at {w : World} {B : Nat} {v : Value} {l : List ByteArray} (h : Texts w B v l) : ∃ a cap, v = .slice a l.length cap ∧ l.length ≤ cap ∧ ∀ j (hj : j < l.length), ∃ b off, a = some ⟨b, off, none⟩ ∧ b < B ∧ w.cell? ⟨b, off + j, none⟩ = some (.string l[j]) := by
  obtain ⟨a, cap, rfl, hc, hcap⟩ := h
  refine ⟨a, cap, rfl, hcap, fun j hj => ?_⟩
  rcases hc with h0 | ⟨b, off, rfl, hB, hcell⟩
  · omega
  · exact ⟨b, off, rfl, hB, hcell j hj⟩
end Go.Proofs.YtollfcjbcfnfdaaDoor

/-
  A row of texts put behind another one.
-/
namespace Go.Proofs.YtollfcjbcfnfdaaDoor
open Go.RowKit Go.Lib
set_option linter.unusedVariables false

theorem app_none {w : World} {B c : Nat} {ty : TypeId} {v : Value} {l : List ByteArray} (hown : OwnT w B v l) : (Builtin.append_ #[23, 23] ty #[v, .slice none 0 c]).run Tryd.prog w = .ok v w := by
  obtain ⟨i0, hi, hz0, hz1, hz2⟩ := info_parts infoText
  rcases hown with ⟨_, ⟨rfl, _⟩ | ⟨g, cap, cur, rfl, _, _, hnc, _⟩⟩
  · simp [Builtin.append_, run_underlying Tryd.underlying23, sizeOf, typeInfo, hi, Builtin.lenOf, Builtin.firstCells]
  · simp [Builtin.append_, run_underlying Tryd.underlying23, sizeOf, typeInfo, hi, Builtin.lenOf, Builtin.firstCells, hnc, storeCells]
/-- 'append(row, more...)', row the call's own: it owns what both held. -/
theorem wp_app_texts {w : World} {ops : Array Oper} {rest : List Oper} {o : Oper} {a : Act} {Q : Exit → Act → World → Prop} (hgd : o.guard = none) (s x : Operand)
    (ho : o.op = .call { callee := .builtin .append, args := #[s, x], argTypes := #[23, 23] }) (B : Nat) (v vx : Value) (l more : List ByteArray) (hs : a.eval s = v) (hown : OwnT w B v l)
    (hx : a.eval x = vx) (hm : Texts w w.heap.size vx more) (hl : l.length ≤ 1048576) (hml : more.length ≤ 1048577) (hB : B ≤ w.heap.size)
    (h : ∀ v' w', OwnT w' B v' (l ++ more) → Below B w w' → wpList Tryd.prog ops Q rest (a.put o.dst v') w') : wpList Tryd.prog ops Q (o :: rest) a w := by
  obtain ⟨ax, capx, rfl, hc, hcap⟩ := hm
  obtain ⟨i0, hi, hz0, hz1, hz2⟩ := info_parts infoText
  cases ax with
  | none =>
    have h0 : more.length = 0 := by
      rcases hc with h0 | ⟨b, off, h1, _⟩
      · exact h0
      · cases h1
    obtain rfl := List.eq_nil_of_length_eq_zero h0
    refine wpList_plain hgd fun K hK => ?_
    have hrun := app_none (c := capx) (ty := o.type) hown
    unfold Oper.wp
    rw [List.length_nil] at hx
    simp [execOp, ho, resolve, invoke, builtin, hs, hx, hrun, Result.andThen]
    exact hK _ _ (h _ _ (by rw [List.append_nil]; exact hown) (Below.refl _ _))
  | some ad =>
    refine wpList_append_own _ hgd s x 23 ho B 9 i0 (.string ByteArray.empty) 1 16 Tryd.underlying23 hi hz0 hz1 hz2 rfl (by decide) v l.length (l.map .string) hs hown ad more.length capx (more.map .string) hx (by simp)
      ?_ (by intro u hu; obtain ⟨t, _, rfl⟩ := List.mem_map.1 hu; rfl) (by unfold maxLen; omega) (by omega) hB ?_
    · intro j u hu
      rw [List.getElem?_map] at hu
      obtain ⟨t, ht, rfl⟩ := Option.map_eq_some_iff.1 hu
      obtain ⟨hj, rfl⟩ := List.getElem?_eq_some_iff.1 ht
      rcases hc with h0 | ⟨b, off, h1, hbB, hcell⟩
      · omega
      · obtain rfl := Option.some.inj h1
        have hadd : (⟨b, off, none⟩ : Addr).add j = ⟨b, off + j, none⟩ := by unfold Addr.add; split <;> simp_all
        rw [hadd]
        exact hcell j hj
    · intro v' w' h1 h2 _
      refine h v' w' ?_ ?_
      · unfold OwnT
        simpa using h1
      · refine (Below.refl B w).grown h2 hB fun k hk => ?_
        exact (World.ownsRow.lt hown k hk).1
end Go.Proofs.YtollfcjbcfnfdaaDoor

/-
  Rows of texts that lie between two bounds; stores that are far from a row.
-/
namespace Go.Proofs.YtollfcjbcfnfdaaDoor
open Go.RowKit Go.Lib
set_option linter.unusedVariables false
set_option linter.unusedSimpArgs false

theorem OwnT.far {w : World} {B g i : Nat} {v u : Value} {l : List ByteArray} (h : OwnT w B v l) (hg : g < B) : OwnT (w.setCell ⟨g, i, none⟩ u) B v l :=
  h.grown ⟨rfl, rfl, rfl, by simp [World.setCell], fun k _ hne => Below.heap_setCell _ _ _ _ (by intro e; exact hne (by simp [e]))⟩ hg
/-- The slice v holds the texts l, in a row that lies behind A and ahead of B. -/
def TextsIn (w : World) (A B : Nat) (v : Value) (l : List ByteArray) : Prop :=
  ∃ a cap, v = .slice a l.length cap ∧ (l.length = 0 ∨ ∃ b off, a = some ⟨b, off, none⟩ ∧ A ≤ b ∧ b < B ∧ ∀ j (h : j < l.length), w.cell? ⟨b, off + j, none⟩ = some (.string l[j])) ∧ l.length ≤ cap
theorem OwnT.inside {w : World} {B : Nat} {v : Value} {l : List ByteArray} (h : OwnT w B v l) : TextsIn w B w.heap.size v l := by
  rcases id h with ⟨h1, ⟨rfl, h2⟩ | ⟨g, cap, cur, rfl, hB, hg, hnc, _, hcs, ht⟩⟩
  · exact ⟨none, 0, by rw [h2], .inl h2, by omega⟩
  · refine ⟨_, cap, rfl, .inr ⟨g, 0, rfl, hB, (Array.getElem?_eq_some_iff.1 hg).1, fun j hj => ?_⟩, hnc⟩
    have := World.ownsRow.cellAt h j (by omega)
    rw [Nat.zero_add, this]
    simp [hj]
theorem TextsIn.texts {w : World} {A B : Nat} {v : Value} {l : List ByteArray} (h : TextsIn w A B v l) : Texts w B v l := by
  obtain ⟨a, cap, hv, h | ⟨b, off, ha, hA, hB, hc⟩, hcap⟩ := h
  · exact ⟨a, cap, hv, .inl h, hcap⟩
  · exact ⟨a, cap, hv, .inr ⟨b, off, ha, hB, hc⟩, hcap⟩
theorem TextsIn.below {w w' : World} {A B : Nat} {v : Value} {l : List ByteArray} (h : TextsIn w A B v l) (hb : Below B w w') : TextsIn w' A B v l := by
  obtain ⟨a, cap, hv, h | ⟨b, off, ha, hA, hB, hc⟩, hcap⟩ := h
  · exact ⟨a, cap, hv, .inl h, hcap⟩
  · exact ⟨a, cap, hv, .inr ⟨b, off, ha, hA, hB, fun j hj => (hb.cell (p := ⟨b, off + j, none⟩) hB).trans (hc j hj)⟩, hcap⟩
theorem TextsIn.wide {w : World} {A B A' B' : Nat} {v : Value} {l : List ByteArray} (h : TextsIn w A B v l) (hA' : A' ≤ A) (hB' : B ≤ B') : TextsIn w A' B' v l := by
  obtain ⟨a, cap, hv, h | ⟨b, off, ha, hA, hB, hc⟩, hcap⟩ := h
  · exact ⟨a, cap, hv, .inl h, hcap⟩
  · exact ⟨a, cap, hv, .inr ⟨b, off, ha, by omega, by omega, hc⟩, hcap⟩
theorem TextsIn.far {w : World} {A B g i : Nat} {v u : Value} {l : List ByteArray} (h : TextsIn w A B v l) (hg : g < A) : TextsIn (w.setCell ⟨g, i, none⟩ u) A B v l := by
  obtain ⟨a, cap, hv, h | ⟨b, off, ha, hA, hB, hc⟩, hcap⟩ := h
  · exact ⟨a, cap, hv, .inl h, hcap⟩
  · refine ⟨a, cap, hv, .inr ⟨b, off, ha, hA, hB, fun j hj => ?_⟩, hcap⟩
    rw [← hc j hj]
    simp only [World.cell?]
    rw [heap_setCell_other _ _ _ _ (by simp; omega)]
end Go.Proofs.YtollfcjbcfnfdaaDoor

/-
  The program's copy of a row of texts.
-/
namespace Go.Proofs.YtollfcjbcfnfdaaDoor
open Go.RowKit Go.Lib
set_option linter.unusedVariables false
set_option linter.unusedSimpArgs false

set_option maxHeartbeats 1000000 in
set_option maxRecDepth 10000 in
theorem copied_any (v : Value) (l : List ByteArray) (w : World) (h : Texts w w.heap.size v l) (hl : l.length ≤ 1048576) (hz : ∀ j (hj : j < l.length), l[j].size ≤ 1048576) :
    Calls Tryd.prog 42 #[v] w fun e w' => ∃ v', e = .returned v' ∧ OwnT w' w.heap.size v' l ∧ Below w.heap.size w w' := by
  obtain ⟨a, cap, rfl, hcap, hc⟩ := h.at
  have HC : Hid (∀ j (hj : j < l.length), ∃ b off, a = some ⟨b, off, none⟩ ∧ b < w.heap.size ∧ w.cell? ⟨b, off + j, none⟩ = some (.string l[j])) := hc
  have EJ : Hid (∀ t w, t.size ≤ 1048576 → Calls Tryd.prog 49 #[.string t, .string ⟨#[]⟩] w fun e w' => e = .returned (.string t) ∧ Below w.heap.size w w') := fun t w ht => by
    have := joined_any t ByteArray.empty w ht (by simp)
    rw [ByteArray.append_empty] at this
    exact this
  have HZ : Hid (∀ j (hj : j < l.length), l[j].size ≤ 1048576) := hz
  clear hc hcap h hz
  obtain ⟨n, hn⟩ : ∃ n, n = l.length := ⟨_, rfl⟩
  have HN : Hid (n = l.length) := hn
  rw [← hn] at hl ⊢
  clear hn
  go_enter Tryd.func42, Tryd.ntmps42
  go_wp2
  go_loopw [3, 8] (fun o x wr => ∃ k : Nat, k ≤ n ∧ x = .int .i64 k ∧ OwnT wr w.heap.size o (l.take k) ∧ Below w.heap.size w wr) (fun _ x _ => n - (intOf x).toNat)
  case atStart => exact ⟨0, by omega, rfl, OwnT.nil _ _, Below.refl _ _⟩
  case round =>
    obtain ⟨k, hk, rfl, hown, hb⟩ := hrel
    by_cases hlt : k < n
    · have hkl : k < l.length := by rw [← HN.out]; exact hlt
      obtain ⟨b, off, rfl, hB, hcell⟩ := HC.out k hkl
      have hc1 : wr.cell? ⟨b, off + k, none⟩ = some (.string l[k]) := (hb.cell (p := ⟨b, off + k, none⟩) hB).trans hcell
      have F := fun W => EJ.out l[k] W (HZ.out k hkl)
      have HF : Hid (∀ W, Calls Tryd.prog 49 #[.string l[k], .string ⟨#[]⟩] W fun e w' => e = .returned (.string l[k]) ∧ Below W.heap.size W w') := F
      have HS : Hid (l.take k ++ [l[k]] = l.take (k + 1)) := by show _ = _; rw [List.take_succ_eq_append_getElem hkl]
      have hll : (l.take k).length ≤ 1048576 := by rw [List.length_take]; omega
      have HO : Hid (OwnT wr w.heap.size u3 (l.take k) ∧ Below w.heap.size w wr) := ⟨hown, hb⟩
      generalize l.take k = lk at *
      generalize l[k] = t at *
      have hkI : (k : Int) < (n : Int) := by omega
      have hk0 : (0 : Int) ≤ (k : Int) := by omega
      clear F hown hb hcell HC EJ HZ
      go_wp2_with fail
      refine (HF.out _).mono ?_
      rintro e w1 ⟨rfl, hb1⟩
      have HO1 : Hid (OwnT w1 w.heap.size u3 lk ∧ Below w.heap.size w w1) := ⟨HO.out.1.below hb1 (Nat.le_refl _), HO.out.2.trans (hb1.mono HO.out.2.size)⟩
      have hown1 := HO1.out.1
      have hszw := HO1.out.2.size
      clear hb1 HO HF hc1
      go_wp2_with (at_builtin; go_must (refine wp_app_text rfl (.tmp 12) (.tmp 15) rfl w.heap.size _ _ rfl hown1 t rfl hll hszw ?_); intro v2 w2 hown2 hb2)
      have HO2 : Hid (OwnT w2 w.heap.size v2 (l.take (k + 1)) ∧ Below w.heap.size w w2) := ⟨by rw [← HS.out]; exact hown2, HO1.out.2.trans hb2⟩
      clear hown2 hb2
      go_roundw
      case rel => exact ⟨k + 1, by omega, by go_num, HO2.out.1, HO2.out.2⟩
      case measure => simp [intOf]; omega
    · have e : k = n := by omega
      rw [e, HN.out, List.take_of_length_le (Nat.le_refl _)] at hown
      have HO : Hid (OwnT wr w.heap.size u3 l ∧ Below w.heap.size w wr) := ⟨hown, hb⟩
      have hkI : ¬ (k : Int) < (n : Int) := by omega
      clear hown hb e HC EJ HZ
      go_wp2
      go_ret
      exact ⟨_, rfl, HO.out.1, HO.out.2⟩
end Go.Proofs.YtollfcjbcfnfdaaDoor
