/-
  Rows of texts of a call's own that are appended to; a row of texts cut in two.
-/
import Derived.Test.YtpglcbidfghfkaaGreatDoorPkTexts
import Derived.Test.YtpglcbidfghfkaaGreatDoorPkMem
import Derived.Laws.Slices
namespace Go.Proofs.YtpglcbidfghfkaaGreatDoor
open Go.RowKit Go.Lib
set_option linter.unusedVariables false

theorem below_drew' {B : Nat} {a w : World} (h : Below B a w) : Below B a w.drew := ⟨h.os, h.tape, h.output, h.size, h.block⟩
/-- The slice v owns the texts l, in a row of the call's own. -/
def OwnT (w : World) (B : Nat) (v : Value) (l : List ByteArray) : Prop := w.ownsRow B 9 1 v l.length (l.map .string)
theorem OwnT.nil (w : World) (B : Nat) : OwnT w B (.slice none 0 0) [] := World.ownsRow_nil w B _ _
theorem OwnT.made (w : World) (B : Nat) (hB : B ≤ w.heap.size) : OwnT (w.alloc (.cells #[] 9)) B (.slice (some ⟨w.heap.size, 0, none⟩) 0 0) [] := World.ownsRow_made w #[] 0 hB (Nat.zero_le _) rfl
theorem OwnT.texts {w : World} {B : Nat} {v : Value} {l : List ByteArray} (h : OwnT w B v l) : Texts w w.heap.size v l := by
  rcases id h with ⟨h1, ⟨rfl, h2⟩ | ⟨g, cap, cur, rfl, hB, hg, hnc, _, hcs, ht⟩⟩
  · exact ⟨none, 0, by rw [h2], .inl h2, by omega⟩
  · refine ⟨_, cap, rfl, .inr ⟨g, 0, rfl, (Array.getElem?_eq_some_iff.1 hg).1, fun j hj => ?_⟩, hnc⟩
    have := World.ownsRow.cellAt h j (by omega)
    rw [Nat.zero_add, this]
    simp [hj]
theorem OwnT.below {w w' : World} {B C : Nat} {v : Value} {l : List ByteArray} (h : OwnT w B v l) (hb : Below C w w') (hC : w.heap.size ≤ C) : OwnT w' B v l := by
  rcases h with ⟨h1, ⟨rfl, h2⟩ | ⟨g, cap, cur, rfl, hB, hg, hnc, hcc, hcs, ht⟩⟩
  · exact ⟨h1, .inl ⟨rfl, h2⟩⟩
  · have hgl := (Array.getElem?_eq_some_iff.1 hg).1
    exact ⟨h1, .inr ⟨g, cap, cur, rfl, hB, (hb.block g (Nat.lt_of_lt_of_le hgl hC)).trans hg, hnc, hcc, hcs, ht⟩⟩
theorem OwnT.lower {w : World} {B C : Nat} {v : Value} {l : List ByteArray} (h : OwnT w B v l) (hC : C ≤ B) : OwnT w C v l := by
  rcases h with ⟨h1, ⟨rfl, h2⟩ | ⟨g, cap, cur, rfl, hB, hg, hnc, hcc, hcs, ht⟩⟩
  · exact ⟨h1, .inl ⟨rfl, h2⟩⟩
  · exact ⟨h1, .inr ⟨g, cap, cur, rfl, Nat.le_trans hC hB, hg, hnc, hcc, hcs, ht⟩⟩
theorem OwnT.grown {w w' : World} {B g : Nat} {v : Value} {l : List ByteArray} (h : OwnT w B v l) (hg : w.grownBy w' (some g)) (hB : g < B) : OwnT w' B v l := by
  rcases h with ⟨h1, ⟨rfl, h2⟩ | ⟨g', cap, cur, rfl, hB', hg', hnc, hcc, hcs, ht⟩⟩
  · exact ⟨h1, .inl ⟨rfl, h2⟩⟩
  · exact ⟨h1, .inr ⟨g', cap, cur, rfl, hB', (hg.block g' (Array.getElem?_eq_some_iff.1 hg').1 (by simp; omega)).trans hg', hnc, hcc, hcs, ht⟩⟩
theorem OwnT.store {w : World} {B g cap n : Nat} {l : List ByteArray} (h : OwnT w B (.slice (some ⟨g, 0, none⟩) n cap) l) (hn : l.length = n) (j : Nat) (t : ByteArray) :
    OwnT (w.setCell ⟨g, j, none⟩ (.string t)) B (.slice (some ⟨g, 0, none⟩) n cap) (l.set j t) ∧ w.grownBy (w.setCell ⟨g, j, none⟩ (.string t)) (some g) := by
  subst hn
  obtain ⟨h1, h2⟩ := World.ownsRow.stored h j (.string t)
  refine ⟨?_, h2⟩
  unfold OwnT
  rw [List.length_set, List.map_set]
  exact h1
theorem OwnT.cell {w : World} {B g cap n : Nat} {l : List ByteArray} (h : OwnT w B (.slice (some ⟨g, 0, none⟩) n cap) l) (hn : l.length = n) (j : Nat) (hj : j < l.length) :
    w.cell? ⟨g, j, none⟩ = some (.string l[j]) ∧ w.frozen? ⟨g, j, none⟩ = false := by
  subst hn
  have h1 := World.ownsRow.cellAt h j (by omega)
  exact ⟨by rw [h1]; simp [hj], World.ownsRow.frozenAt h j⟩
theorem OwnT.len {w : World} {B : Nat} {v : Value} {l : List ByteArray} (h : OwnT w B v l) : ∃ a cap, v = .slice a l.length cap := by
  rcases h with ⟨h1, ⟨rfl, h2⟩ | ⟨g, cap, cur, rfl, hB, hg, hnc, hcc, hcs, ht⟩⟩
  · exact ⟨none, 0, by rw [h2]⟩
  · exact ⟨_, cap, rfl⟩

/-- 'append(row, t)', row the call's own: it owns one text more; of what lies below B nothing turns. -/
theorem wp_app_text {w : World} {ops : Array Oper} {rest : List Oper} {o : Oper} {a : Act} {Q : Exit → Act → World → Prop} (hgd : o.guard = none) (s x : Operand)
    (ho : o.op = .call { callee := .builtin .append, args := #[s, x], argTypes := #[23, 23] }) (B : Nat) (v : Value) (l : List ByteArray) (hs : a.eval s = v) (hown : OwnT w B v l) (t : ByteArray)
    (hx : a.eval x = .slice (some ⟨w.heap.size, 0, none⟩) 1 1) (hl : l.length ≤ 1048576) (hB : B ≤ w.heap.size)
    (h : ∀ v' w', OwnT w' B v' (l ++ [t]) → Below B w w' → wpList Tryz.prog ops Q rest (a.put o.dst v') w') : wpList Tryz.prog ops Q (o :: rest) a (w.alloc (.cells #[.string t] 9)) := by
  obtain ⟨i0, hi, hz0, hz1, hz2⟩ := info_parts infoText
  refine wpList_append_own _ hgd s x 23 ho B 9 i0 (.string ByteArray.empty) 1 16 Tryz.underlying23 hi hz0 hz1 hz2 rfl (by decide) v l.length (l.map .string) hs (World.ownsRow.alloc hown _) ⟨w.heap.size, 0, none⟩ 1 1 [.string t] hx rfl
    (cell_one_new _ _ _) (by intro u hu; simp at hu; subst hu; rfl) (by unfold maxLen; omega) (by omega) (by simp; omega) ?_
  intro v' w' h1 h2 _
  refine h v' w' ?_ ?_
  · unfold OwnT
    simpa using h1
  · refine ((Below.refl B w).alloc hB _).grown h2 (by simp; omega) fun k hk => ?_
    exact (World.ownsRow.lt hown k hk).1

theorem sizeText (w : World) : (sizeOf (Tryz.prog.elem 23)).run Tryz.prog w = .ok 1 w := by
  have hel : Tryz.prog.elem 23 = 9 := by kernel_rfl
  obtain ⟨i0, hi, hz0, hz1, hz2⟩ := info_parts infoText
  simp [sizeOf, typeInfo, hel, hi, hz1]
theorem underText : Tryz.prog.underlying 23 = some (.slice (Tryz.prog.elem 23)) := by
  have hel : Tryz.prog.elem 23 = 9 := by kernel_rfl
  rw [hel]; exact Tryz.underlying23

/-- A part of a row of texts, of capacity m behind its beginning. -/
theorem Texts.cut {w : World} {B : Nat} {a : Option Addr} {l : List ByteArray} {cap : Nat} (h : Texts w B (.slice a l.length cap) l) (i j m : Nat) (hij : i ≤ j) (hj : j ≤ l.length) (hm : j ≤ m) :
    Texts w B (sliced a i j m 1) ((l.take j).drop i) := by
  obtain ⟨a', cap', e, hc, hcap⟩ := h
  obtain ⟨rfl, rfl⟩ : a' = a ∧ cap' = cap := by simp at e; exact ⟨e.1.symm, e.2.symm⟩
  have hlen : ((l.take j).drop i).length = j - i := by rw [List.length_drop, List.length_take]; omega
  unfold sliced
  by_cases h0 : j - i = 0
  · exact ⟨_, m - i, by rw [hlen], .inl (by rw [hlen]; exact h0), by rw [hlen]; omega⟩
  · rw [if_neg (by omega)]
    rcases hc with hc | ⟨b, off, rfl, hb, hcell⟩
    · omega
    · refine ⟨some ⟨b, off + i, none⟩, m - i, by rw [hlen]; simp [Addr.add], .inr ⟨b, off + i, rfl, hb, fun k hk => ?_⟩, by rw [hlen]; omega⟩
      have hk' : i + k < l.length := by omega
      rw [show off + i + k = off + (i + k) by omega, hcell (i + k) hk']
      simp

theorem slice_lh {w : World} {B : Nat} {v : Value} {l : List ByteArray} (h : Texts w B v l) (i j : Nat) (hij : i ≤ j) (hj : j ≤ l.length) (x y : Int) (hx : x = (i : Int)) (hy : y = (j : Int)) :
    ∃ v1, (∀ w1, (Instr.slice 23 v (some (.int .i64 x)) (some (.int .i64 y)) none).run Tryz.prog w1 = .ok v1 w1) ∧ Texts w B v1 ((l.take j).drop i) := by
  obtain ⟨a, cap, rfl, hc, hcap⟩ := id h
  subst hx hy
  refine ⟨_, fun w1 => ?_, h.cut i j cap hij hj (by omega)⟩
  have hsl := run_slice_lh (P := Tryz.prog) w1 23 a l.length cap underText .i64 .i64 (i : Int) (j : Int) (by omega) (by omega) (by omega)
  rw [sizeText w1] at hsl
  simpa [Result.andThen] using hsl
theorem slice_h {w : World} {B : Nat} {v : Value} {l : List ByteArray} (h : Texts w B v l) (j : Nat) (hj : j ≤ l.length) (y : Int) (hy : y = (j : Int)) :
    ∃ v1, (∀ w1, (Instr.slice 23 v none (some (.int .i64 y)) none).run Tryz.prog w1 = .ok v1 w1) ∧ Texts w B v1 (l.take j) := by
  obtain ⟨a, cap, rfl, hc, hcap⟩ := id h
  subst hy
  refine ⟨_, fun w1 => ?_, by simpa using h.cut 0 j cap (by omega) hj (by omega)⟩
  have hsl := run_slice_h (P := Tryz.prog) w1 23 a l.length cap underText .i64 (j : Int) (by omega) (by omega)
  rw [sizeText w1] at hsl
  simpa [Result.andThen] using hsl
theorem slice_l {w : World} {B : Nat} {v : Value} {l : List ByteArray} (h : Texts w B v l) (i : Nat) (hi : i ≤ l.length) (x : Int) (hx : x = (i : Int)) :
    ∃ v1, (∀ w1, (Instr.slice 23 v (some (.int .i64 x)) none none).run Tryz.prog w1 = .ok v1 w1) ∧ Texts w B v1 (l.drop i) := by
  obtain ⟨a, cap, rfl, hc, hcap⟩ := id h
  subst hx
  refine ⟨_, fun w1 => ?_, by simpa using h.cut i l.length cap hi (by omega) (by omega)⟩
  have hsl := run_slice_l (P := Tryz.prog) w1 23 a l.length cap underText .i64 (i : Int) (by omega) (by omega)
  rw [sizeText w1] at hsl
  simpa [Result.andThen] using hsl
theorem slice_lhm {w : World} {B : Nat} {v : Value} {l : List ByteArray} (h : Texts w B v l) (i j : Nat) (hij : i ≤ j) (hj : j ≤ l.length) (x y : Int) (hx : x = (i : Int)) (hy : y = (j : Int)) :
    ∃ v1, (∀ w1, (Instr.slice 23 v (some (.int .i64 x)) (some (.int .i64 y)) (some (.int .i64 y))).run Tryz.prog w1 = .ok v1 w1) ∧ Texts w B v1 ((l.take j).drop i) := by
  obtain ⟨a, cap, rfl, hc, hcap⟩ := id h
  subst hx hy
  refine ⟨_, fun w1 => ?_, h.cut i j j hij hj (by omega)⟩
  have hsl := run_slice_lhm (P := Tryz.prog) w1 23 a l.length cap underText .i64 .i64 .i64 (i : Int) (j : Int) (j : Int) (by omega) (by omega) (by omega) (by omega)
  rw [sizeText w1] at hsl
  simpa [Result.andThen] using hsl
theorem Texts.at {w : World} {B : Nat} {v : Value} {l : List ByteArray} (h : Texts w B v l) : ∃ a cap, v = .slice a l.length cap ∧ l.length ≤ cap ∧ ∀ j (hj : j < l.length), ∃ b off, a = some ⟨b, off, none⟩ ∧ b < B ∧ w.cell? ⟨b, off + j, none⟩ = some (.string l[j]) := by
  obtain ⟨a, cap, rfl, hc, hcap⟩ := h
  refine ⟨a, cap, rfl, hcap, fun j hj => ?_⟩
  rcases hc with h0 | ⟨b, off, rfl, hB, hcell⟩
  · omega
  · exact ⟨b, off, rfl, hB, hcell j hj⟩
end Go.Proofs.YtpglcbidfghfkaaGreatDoor

/-
  A row of texts that was copied is the call's own.
-/
namespace Go.Proofs.YtpglcbidfghfkaaGreatDoor
open Go.RowKit Go.Lib
set_option linter.unusedVariables false

theorem OwnS.own {w : World} {g : Nat} {v : Value} {l : List ByteArray} (h : OwnS w g v l) (hl : l.length ≤ 1048576) : OwnT w g v l ∧ v.ownBlock = some g := by
  obtain ⟨rfl, hg⟩ := h
  refine ⟨⟨by simp, .inr ⟨g, l.length, _, rfl, Nat.le_refl _, hg, Nat.le_refl _, by unfold maxLen; omega, by rw [cellsT_size, Nat.mul_one], ?_⟩⟩, rfl⟩
  apply List.ext_getElem?
  intro j
  rw [List.getElem?_take]
  by_cases hj : j < l.length
  · rw [if_pos (by omega), Array.getElem?_toList, cellsT_get _ hj, firstT, if_pos hj]
    simp [List.getD, hj]
  · rw [if_neg (by omega), List.getElem?_eq_none (by rw [List.length_map]; omega)]
end Go.Proofs.YtpglcbidfghfkaaGreatDoor

/-
  Rows of texts that lie between two bounds; stores that are far from a row.
-/
namespace Go.Proofs.YtpglcbidfghfkaaGreatDoor
open Go.RowKit Go.Lib
set_option linter.unusedVariables false
set_option linter.unusedSimpArgs false

theorem OwnT.far {w : World} {B g i : Nat} {v u : Value} {l : List ByteArray} (h : OwnT w B v l) (hg : g < B) : OwnT (w.setCell ⟨g, i, none⟩ u) B v l :=
  h.grown ⟨rfl, rfl, rfl, by simp [World.setCell], fun k _ hne => Below.heap_setCell _ _ _ _ (by intro e; exact hne (by simp [e]))⟩ hg
/-- The slice v holds the texts l, in a row that lies behind A and ahead of B. -/
def TextsIn (w : World) (A B : Nat) (v : Value) (l : List ByteArray) : Prop :=
  ∃ a cap, v = .slice a l.length cap ∧ (l.length = 0 ∨ ∃ b off, a = some ⟨b, off, none⟩ ∧ A ≤ b ∧ b < B ∧ ∀ j (h : j < l.length), w.cell? ⟨b, off + j, none⟩ = some (.string l[j])) ∧ l.length ≤ cap
theorem OwnT.inside {w : World} {B : Nat} {v : Value} {l : List ByteArray} (h : OwnT w B v l) : TextsIn w B w.heap.size v l := by
  rcases id h with ⟨h1, ⟨rfl, h2⟩ | ⟨g, cap, cur, rfl, hB, hg, hnc, _, hcs, ht⟩⟩
  · exact ⟨none, 0, by rw [h2], .inl h2, by omega⟩
  · refine ⟨_, cap, rfl, .inr ⟨g, 0, rfl, hB, (Array.getElem?_eq_some_iff.1 hg).1, fun j hj => ?_⟩, hnc⟩
    have := World.ownsRow.cellAt h j (by omega)
    rw [Nat.zero_add, this]
    simp [hj]
theorem TextsIn.texts {w : World} {A B : Nat} {v : Value} {l : List ByteArray} (h : TextsIn w A B v l) : Texts w B v l := by
  obtain ⟨a, cap, hv, h | ⟨b, off, ha, hA, hB, hc⟩, hcap⟩ := h
  · exact ⟨a, cap, hv, .inl h, hcap⟩
  · exact ⟨a, cap, hv, .inr ⟨b, off, ha, hB, hc⟩, hcap⟩
theorem TextsIn.below {w w' : World} {A B : Nat} {v : Value} {l : List ByteArray} (h : TextsIn w A B v l) (hb : Below B w w') : TextsIn w' A B v l := by
  obtain ⟨a, cap, hv, h | ⟨b, off, ha, hA, hB, hc⟩, hcap⟩ := h
  · exact ⟨a, cap, hv, .inl h, hcap⟩
  · exact ⟨a, cap, hv, .inr ⟨b, off, ha, hA, hB, fun j hj => (hb.cell (p := ⟨b, off + j, none⟩) hB).trans (hc j hj)⟩, hcap⟩
theorem TextsIn.wide {w : World} {A B A' B' : Nat} {v : Value} {l : List ByteArray} (h : TextsIn w A B v l) (hA' : A' ≤ A) (hB' : B ≤ B') : TextsIn w A' B' v l := by
  obtain ⟨a, cap, hv, h | ⟨b, off, ha, hA, hB, hc⟩, hcap⟩ := h
  · exact ⟨a, cap, hv, .inl h, hcap⟩
  · exact ⟨a, cap, hv, .inr ⟨b, off, ha, by omega, by omega, hc⟩, hcap⟩
theorem TextsIn.far {w : World} {A B g i : Nat} {v u : Value} {l : List ByteArray} (h : TextsIn w A B v l) (hg : g < A) : TextsIn (w.setCell ⟨g, i, none⟩ u) A B v l := by
  obtain ⟨a, cap, hv, h | ⟨b, off, ha, hA, hB, hc⟩, hcap⟩ := h
  · exact ⟨a, cap, hv, .inl h, hcap⟩
  · refine ⟨a, cap, hv, .inr ⟨b, off, ha, hA, hB, fun j hj => ?_⟩, hcap⟩
    rw [← hc j hj]
    simp only [World.cell?]
    rw [heap_setCell_other _ _ _ _ (by simp; omega)]
end Go.Proofs.YtpglcbidfghfkaaGreatDoor

/-
  A signature that came in: its size, its copy.
-/
namespace Go.Proofs.YtpglcbidfghfkaaGreatDoor
open Go.RowKit Go.Lib
set_option linter.unusedVariables false
set_option linter.unusedSimpArgs false

theorem arr3 {cs : Array Value} {a b c : Value} (h : cs.size = 3) (h0 : ((Value.agg cs).cells.toList.drop 0).take 1 = [a]) (h1 : ((Value.agg cs).cells.toList.drop 1).take 1 = [b]) (h2 : ((Value.agg cs).cells.toList.drop 2).take 1 = [c]) : cs = #[a, b, c] := by
  have e : (Value.agg cs).cells = cs := rfl
  rw [e] at h0 h1 h2
  obtain ⟨l⟩ := cs
  match l, h with
  | [x, y, z], _ => simp at h0 h1 h2; rw [h0, h1, h2]

set_option maxHeartbeats 1000000 in
set_option maxRecDepth 10000 in
theorem szSig_any (k : Int) (ve vp : Value) (el pl : List ByteArray) (left : Int) (w : World) (h1 : TextsArg w ve el) (h2 : TextsArg w vp pl) (h0 : 0 ≤ left) (hle : left ≤ 1048576) :
    Calls Tryz.prog 193 #[.agg #[.int .i64 k, ve, vp], .int .i64 left] w fun e w' => ∃ r : Int, e = .returned (.int .i64 r) ∧ -1048577 ≤ r ∧ r ≤ 1048576 ∧ (r < 0 ∨ (el.length ≤ 1048576 ∧ pl.length ≤ 1048576)) ∧ Below w.heap.size w w' := by
  obtain ⟨W, hW⟩ : ∃ W, W = w.alloc (.cells #[.int .i64 k, ve, vp] 74) := ⟨_, rfl⟩
  have hbW : Below w.heap.size w W := by rw [hW]; exact (Below.refl _ _).alloc (Nat.le_refl _) _
  have E1 : Hid (Calls Tryz.prog 124 #[ve, .int .i64 left] W fun e w' => SzAns el e ∧ w' = W) := sz_any ve el left W _ (h1.1.below hbW) h1.2.1 h1.2.2 h0 hle
  have E2 : Hid (∀ r : Int, 0 ≤ r → r ≤ 1048576 → Calls Tryz.prog 124 #[vp, .int .i64 r] W fun e w' => SzAns pl e ∧ w' = W) := fun r a b => sz_any vp pl r W _ (h2.1.below hbW) h2.2.1 h2.2.2 a b
  have HB : Hid (Below w.heap.size w W) := hbW
  rw [hW] at E1 E2 HB
  clear h1 h2 hW hbW W
  go_enter Tryz.func193, Tryz.ntmps193
  go_wp2_with fail
  refine E1.out.mono ?_
  rintro e w1 ⟨⟨r, rfl, hr0, hr1, hr⟩, rfl⟩
  have HR : Hid (r < 0 ∨ (el.length ≤ 1048576 ∧ ∀ j (h : j < el.length), el[j].size ≤ 1048576)) := hr
  clear hr E1
  by_cases hneg : r < 0
  · go_wp2
    go_ret
    exact ⟨-1, rfl, by omega, by omega, .inl (by omega), HB.out⟩
  · go_wp2_with fail
    refine (E2.out r (by omega) hr1).mono ?_
    rintro e w2 ⟨⟨r2, rfl, hs0, hs1, hs⟩, rfl⟩
    have HR2 : Hid (r2 < 0 ∨ (pl.length ≤ 1048576 ∧ ∀ j (h : j < pl.length), pl[j].size ≤ 1048576)) := hs
    clear hs E2
    by_cases hneg2 : r2 < 0
    · go_wp2
      go_ret
      exact ⟨-1, rfl, by omega, by omega, .inl (by omega), HB.out⟩
    · go_wp2
      go_ret
      refine ⟨r2, rfl, hs0, hs1, .inr ⟨?_, ?_⟩, HB.out⟩
      · rcases HR.out with h | h
        · omega
        · exact h.1
      · rcases HR2.out with h | h
        · omega
        · exact h.1

/-- A signature whose rows are the call's own: the Ends ahead of n, the Path behind it. -/
def SigOwn (w : World) (k : Int) (el pl : List ByteArray) (e : Ending) (w' : World) : Prop :=
  ∃ ve vp n, e = .returned (.agg #[.int .i64 k, ve, vp]) ∧ OwnT w' w.heap.size ve el ∧ OwnT w' n vp pl ∧ (∀ g, ve.ownBlock = some g → g < n) ∧ w.heap.size ≤ n ∧ n ≤ w'.heap.size ∧ Below w.heap.size w w'

set_option maxHeartbeats 2000000 in
set_option maxRecDepth 10000 in
theorem toSig_any (k : Int) (ve vp : Value) (el pl : List ByteArray) (w : World) (h1 : Texts w w.heap.size ve el) (h2 : Texts w w.heap.size vp pl) (hl1 : el.length ≤ 1048576) (hl2 : pl.length ≤ 1048576) :
    Calls Tryz.prog 194 #[.agg #[.int .i64 k, ve, vp]] w fun e w' => SigOwn w k el pl e w' := by
  obtain ⟨W, hW⟩ : ∃ W, W = ((w.alloc (.cells #[.int .i64 k, ve, vp] 74)).alloc (.cells #[.int .i64 0, .slice none 0 0, .slice none 0 0] 27)).alloc (.cells #[.int .i64 k, .slice none 0 0, .slice none 0 0] 27) := ⟨_, rfl⟩
  have b1 : Below w.heap.size w (w.alloc (.cells #[.int .i64 k, ve, vp] 74)) := (Below.refl _ _).alloc (Nat.le_refl _) _
  have hbW : Below w.heap.size w W := by rw [hW]; exact (b1.alloc (by simp) _).alloc (by simp; omega) _
  have hzW : W.heap.size = w.heap.size + 3 := by rw [hW]; simp
  have g0 : W.heap[w.heap.size]? = some (.cells #[.int .i64 k, ve, vp] 74 (0, 0)) := by
    rw [hW]
    exact (heap_alloc_old _ _ (by simp; omega)).trans (heap_alloc2_old w _ _)
  have g1 : W.heap[w.heap.size + 1]? = some (.cells #[.int .i64 0, .slice none 0 0, .slice none 0 0] 27 (0, 0)) := by
    rw [hW]
    exact (heap_alloc_old _ _ (by simp)).trans (heap_alloc2_new w _ _)
  have g2 : W.heap[w.heap.size + 2]? = some (.cells #[.int .i64 k, .slice none 0 0, .slice none 0 0] 27 (0, 0)) := by
    rw [hW]
    have := heap_alloc_new ((w.alloc (.cells #[.int .i64 k, ve, vp] 74)).alloc (.cells #[.int .i64 0, .slice none 0 0, .slice none 0 0] 27)) (.cells #[.int .i64 k, .slice none 0 0, .slice none 0 0] 27)
    simpa using this
  have E1 : Hid (Calls Tryz.prog 128 #[ve] W fun e w' => ∃ v', e = .returned v' ∧ OwnS w' W.heap.size v' el ∧ Below W.heap.size W w') := toTexts_any ve el W ((h1.below hbW).up hbW.size) hl1
  have E2 : Hid (∀ w', Below w.heap.size w w' → Calls Tryz.prog 128 #[vp] w' fun e w'' => ∃ v', e = .returned v' ∧ OwnS w'' w'.heap.size v' pl ∧ Below w'.heap.size w' w'') := fun w' hb => toTexts_any vp pl w' ((h2.below hb).up hb.size) hl2
  have H0 : Hid (Below w.heap.size w W ∧ W.heap.size = w.heap.size + 3 ∧ W.heap[w.heap.size]? = some (.cells #[.int .i64 k, ve, vp] 74 (0, 0)) ∧ W.heap[w.heap.size + 1]? = some (.cells #[.int .i64 0, .slice none 0 0, .slice none 0 0] 27 (0, 0)) ∧ W.heap[w.heap.size + 2]? = some (.cells #[.int .i64 k, .slice none 0 0, .slice none 0 0] 27 (0, 0))) := ⟨hbW, hzW, g0, g1, g2⟩
  have HW : Hid (W = ((w.alloc (.cells #[.int .i64 k, ve, vp] 74)).alloc (.cells #[.int .i64 0, .slice none 0 0, .slice none 0 0] 27)).alloc (.cells #[.int .i64 k, .slice none 0 0, .slice none 0 0] 27)) := hW
  clear h1 h2 b1 hW hbW hzW g0 g1 g2
  go_enter Tryz.func194, Tryz.ntmps194
  go_wp2_with fail
  rw [← HW.out]
  refine E1.out.mono ?_
  rintro e w1 ⟨v1, rfl, ho1, hb1⟩
  obtain ⟨rfl, hr1⟩ := id ho1
  have hz := H0.out.2.1
  have k0 := (hb1.block _ (show w.heap.size < W.heap.size by omega)).trans H0.out.2.2.1
  have k1 := (hb1.block _ (show w.heap.size + 1 < W.heap.size by omega)).trans H0.out.2.2.2.1
  have k2 := (hb1.block _ (show w.heap.size + 1 + 1 < W.heap.size by omega)).trans H0.out.2.2.2.2
  obtain ⟨⟨c0, c1, c2⟩, f0, f1, f2⟩ := three_cells (Below.refl w1.heap.size w1) (Array.getElem?_eq_some_iff.1 k0).1 k0
  obtain ⟨⟨d0, d1, d2⟩, g0, g1, g2⟩ := three_cells (Below.refl w1.heap.size w1) (Array.getElem?_eq_some_iff.1 k2).1 k2
  have hn01 : ¬ w.heap.size = w.heap.size + 1 + 1 := by omega
  have hn12 : ¬ w.heap.size + 1 = w.heap.size + 1 + 1 := by omega
  have H1 : Hid (Below w.heap.size w w1 ∧ OwnT w1 W.heap.size (.slice (some ⟨W.heap.size, 0, none⟩) el.length el.length) el ∧ W.heap.size < w1.heap.size ∧ w1.heap[w.heap.size + 1]? = some (.cells #[.int .i64 0, .slice none 0 0, .slice none 0 0] 27 (0, 0)) ∧ w1.heap[w.heap.size + 1 + 1]? = some (.cells #[.int .i64 k, .slice none 0 0, .slice none 0 0] 27 (0, 0)) ∧ W.heap.size = w.heap.size + 3) :=
    ⟨H0.out.1.trans (hb1.mono H0.out.1.size), (ho1.own hl1).1, ho1.lt, k1, k2, hz⟩
  clear ho1 hr1 hb1 k0 k1 k2 hz E1 H0 HW
  generalize W.heap.size = B1 at *
  have H2 : Hid (Below w.heap.size w (w1.setCell ⟨w.heap.size + 1 + 1, 1, none⟩ (.slice (some ⟨B1, 0, none⟩) el.length el.length)) ∧ OwnT (w1.setCell ⟨w.heap.size + 1 + 1, 1, none⟩ (.slice (some ⟨B1, 0, none⟩) el.length el.length)) B1 (.slice (some ⟨B1, 0, none⟩) el.length el.length) el ∧ B1 < (w1.setCell ⟨w.heap.size + 1 + 1, 1, none⟩ (.slice (some ⟨B1, 0, none⟩) el.length el.length)).heap.size ∧ (w1.setCell ⟨w.heap.size + 1 + 1, 1, none⟩ (.slice (some ⟨B1, 0, none⟩) el.length el.length)).heap[w.heap.size + 1]? = some (.cells #[.int .i64 0, .slice none 0 0, .slice none 0 0] 27 (0, 0)) ∧ (w1.setCell ⟨w.heap.size + 1 + 1, 1, none⟩ (.slice (some ⟨B1, 0, none⟩) el.length el.length)).heap[w.heap.size + 1 + 1]? = some (.cells #[.int .i64 k, .slice (some ⟨B1, 0, none⟩) el.length el.length, .slice none 0 0] 27 (0, 0)) ∧ B1 = w.heap.size + 3) := by
    obtain ⟨a1, a2, a3, a4, a5, a6⟩ := H1.out
    refine ⟨a1.setCell (by simp; omega) _, a2.far (by omega), by simpa [World.setCell] using a3, ?_, ?_, a6⟩
    · rw [heap_setCell_other _ _ _ _ (by simp)]; exact a4
    · rw [heap_setCell_same w1 _ 1 _ _ _ a5]; rfl
  go_wp2_with fail
  generalize w1.setCell ⟨w.heap.size + 1 + 1, 1, none⟩ (.slice (some ⟨B1, 0, none⟩) el.length el.length) = w2 at *
  clear H1 c0 c1 c2 f0 f1 f2 d0 d1 d2 g0 g1 g2
  refine (E2.out _ H2.out.1).mono ?_
  rintro e w3 ⟨v2, rfl, ho3, hb3⟩
  obtain ⟨rfl, hr3⟩ := id ho3
  have hz2 : w.heap.size + 1 + 1 < w2.heap.size := (Array.getElem?_eq_some_iff.1 H2.out.2.2.2.2.1).1
  have k1 := (hb3.block _ (show w.heap.size + 1 < w2.heap.size by omega)).trans H2.out.2.2.2.1
  have k2 := (hb3.block _ hz2).trans H2.out.2.2.2.2.1
  obtain ⟨⟨c0, c1, c2⟩, f0, f1, f2⟩ := three_cells (Below.refl w3.heap.size w3) (Array.getElem?_eq_some_iff.1 k1).1 k1
  obtain ⟨⟨d0, d1, d2⟩, g0, g1, g2⟩ := three_cells (Below.refl w3.heap.size w3) (Array.getElem?_eq_some_iff.1 k2).1 k2
  have H3 : Hid (Below w.heap.size w w3 ∧ OwnT w3 (w.heap.size + 3) (.slice (some ⟨B1, 0, none⟩) el.length el.length) el ∧ OwnT w3 w2.heap.size (.slice (some ⟨w2.heap.size, 0, none⟩) pl.length pl.length) pl ∧ B1 < w2.heap.size ∧ w2.heap.size < w3.heap.size ∧ w.heap.size + 3 ≤ w2.heap.size) :=
    ⟨H2.out.1.trans (hb3.mono H2.out.1.size), (H2.out.2.1.below hb3 (Nat.le_refl _)).lower (by have := H2.out.2.2.2.2.2; omega), (ho3.own hl2).1, H2.out.2.2.1, ho3.lt, by omega⟩
  clear ho3 hr3 hb3 k1 k2 E2 H2
  generalize w2.heap.size = B2 at *
  go_wp2
  refine bodyPost_ret (v := .agg #[.int .i64 k, .slice (some ⟨B1, 0, none⟩) el.length el.length, .slice (some ⟨B2, 0, none⟩) pl.length pl.length]) (by simp [results, Tryz.results194, go_sem, c0, c1, c2, f0, f1, f2, d0, d1, d2]) rfl ⟨_, _, B2, rfl, ?_, ?_, ?_, ?_, ?_, ?_⟩
  · obtain ⟨a1, a2, a3, a4, a5, a6⟩ := H3.out
    exact ((((a2.far (by omega)).far (by omega)).far (by omega)).far (by omega)).lower (by omega)
  · obtain ⟨a1, a2, a3, a4, a5, a6⟩ := H3.out
    exact (((a3.far (by omega)).far (by omega)).far (by omega)).far (by omega)
  · intro g hg
    obtain ⟨a1, a2, a3, a4, a5, a6⟩ := H3.out
    simp [Value.ownBlock] at hg
    omega
  · obtain ⟨a1, a2, a3, a4, a5, a6⟩ := H3.out
    omega
  · obtain ⟨a1, a2, a3, a4, a5, a6⟩ := H3.out
    simp [World.setCell]
    omega
  · obtain ⟨a1, a2, a3, a4, a5, a6⟩ := H3.out
    exact (((a1.setCell (by simp; omega) _).setCell (by simp) _).setCell (by simp) _).setCell (by simp) _
end Go.Proofs.YtpglcbidfghfkaaGreatDoor

/-
  A row of texts put behind another one.
-/
namespace Go.Proofs.YtpglcbidfghfkaaGreatDoor
open Go.RowKit Go.Lib
set_option linter.unusedVariables false

theorem app_none {w : World} {B c : Nat} {ty : TypeId} {v : Value} {l : List ByteArray} (hown : OwnT w B v l) : (Builtin.append_ #[23, 23] ty #[v, .slice none 0 c]).run Tryz.prog w = .ok v w := by
  obtain ⟨i0, hi, hz0, hz1, hz2⟩ := info_parts infoText
  rcases hown with ⟨_, ⟨rfl, _⟩ | ⟨g, cap, cur, rfl, _, _, hnc, _⟩⟩
  · simp [Builtin.append_, run_underlying Tryz.underlying23, sizeOf, typeInfo, hi, Builtin.lenOf, Builtin.firstCells]
  · simp [Builtin.append_, run_underlying Tryz.underlying23, sizeOf, typeInfo, hi, Builtin.lenOf, Builtin.firstCells, hnc, storeCells]
/-- 'append(row, more...)', row the call's own: it owns what both held. -/
theorem wp_app_texts {w : World} {ops : Array Oper} {rest : List Oper} {o : Oper} {a : Act} {Q : Exit → Act → World → Prop} (hgd : o.guard = none) (s x : Operand)
    (ho : o.op = .call { callee := .builtin .append, args := #[s, x], argTypes := #[23, 23] }) (B : Nat) (v vx : Value) (l more : List ByteArray) (hs : a.eval s = v) (hown : OwnT w B v l)
    (hx : a.eval x = vx) (hm : Texts w w.heap.size vx more) (hl : l.length ≤ 1048576) (hml : more.length ≤ 1048577) (hB : B ≤ w.heap.size)
    (h : ∀ v' w', OwnT w' B v' (l ++ more) → Below B w w' → wpList Tryz.prog ops Q rest (a.put o.dst v') w') : wpList Tryz.prog ops Q (o :: rest) a w := by
  obtain ⟨ax, capx, rfl, hc, hcap⟩ := hm
  obtain ⟨i0, hi, hz0, hz1, hz2⟩ := info_parts infoText
  cases ax with
  | none =>
    have h0 : more.length = 0 := by
      rcases hc with h0 | ⟨b, off, h1, _⟩
      · exact h0
      · cases h1
    obtain rfl := List.eq_nil_of_length_eq_zero h0
    refine wpList_plain hgd fun K hK => ?_
    have hrun := app_none (c := capx) (ty := o.type) hown
    unfold Oper.wp
    rw [List.length_nil] at hx
    simp [execOp, ho, resolve, invoke, builtin, hs, hx, hrun, Result.andThen]
    exact hK _ _ (h _ _ (by rw [List.append_nil]; exact hown) (Below.refl _ _))
  | some ad =>
    refine wpList_append_own _ hgd s x 23 ho B 9 i0 (.string ByteArray.empty) 1 16 Tryz.underlying23 hi hz0 hz1 hz2 rfl (by decide) v l.length (l.map .string) hs hown ad more.length capx (more.map .string) hx (by simp)
      ?_ (by intro u hu; obtain ⟨t, _, rfl⟩ := List.mem_map.1 hu; rfl) (by unfold maxLen; omega) (by omega) hB ?_
    · intro j u hu
      rw [List.getElem?_map] at hu
      obtain ⟨t, ht, rfl⟩ := Option.map_eq_some_iff.1 hu
      obtain ⟨hj, rfl⟩ := List.getElem?_eq_some_iff.1 ht
      rcases hc with h0 | ⟨b, off, h1, hbB, hcell⟩
      · omega
      · obtain rfl := Option.some.inj h1
        have hadd : (⟨b, off, none⟩ : Addr).add j = ⟨b, off + j, none⟩ := by unfold Addr.add; split <;> simp_all
        rw [hadd]
        exact hcell j hj
    · intro v' w' h1 h2 _
      refine h v' w' ?_ ?_
      · unfold OwnT
        simpa using h1
      · refine (Below.refl B w).grown h2 hB fun k hk => ?_
        exact (World.ownsRow.lt hown k hk).1
end Go.Proofs.YtpglcbidfghfkaaGreatDoor

/-
  The promises' own way to hold two signatures against each other.
-/
namespace Go.Proofs.YtpglcbidfghfkaaGreatDoor
open Go.RowKit Go.Lib
set_option linter.unusedVariables false
set_option linter.unusedSimpArgs false

set_option maxHeartbeats 1000000 in
set_option maxRecDepth 10000 in
theorem lwSig_any (k : Int) (ve vp ue up : Value) (el pl : List ByteArray) (w : World) (h1 : Texts w w.heap.size ve el) (h2 : Texts w w.heap.size vp pl) (h3 : Texts w w.heap.size ue el) (h4 : Texts w w.heap.size up pl) (hl1 : el.length ≤ 1048577) (hl2 : pl.length ≤ 1048577) :
    Calls Tryz.prog 69 #[.agg #[.int .i64 k, ve, vp], .agg #[.int .i64 k, ue, up]] w fun e w' => e = .returned (.bool true) ∧ Below w.heap.size w w' := by
  have EQ : Hid (∀ a b m w', Texts w' w'.heap.size a m → Texts w' w'.heap.size b m → m.length ≤ 1048577 → Calls Tryz.prog 97 #[a, b] w' fun e w'' => e = .returned (.bool true) ∧ Below w'.heap.size w' w'') := fun a b m w' h1 h2 h3 => lwTexts_any a b m w' w'.heap.size h1 h2 h3
  obtain ⟨W, hW⟩ : ∃ W, W = (w.alloc (.cells #[.int .i64 k, ve, vp] 27)).alloc (.cells #[.int .i64 k, ue, up] 27) := ⟨_, rfl⟩
  have hbW : Below w.heap.size w W := by rw [hW]; exact ((Below.refl _ _).alloc (Nat.le_refl _) _).alloc (by simp) _
  have hzW : W.heap.size = w.heap.size + 2 := by rw [hW]; simp
  have hg1 : W.heap[w.heap.size]? = some (.cells #[.int .i64 k, ve, vp] 27 (0, 0)) := by rw [hW]; exact heap_alloc2_old w _ _
  have hg2 : W.heap[w.heap.size + 1]? = some (.cells #[.int .i64 k, ue, up] 27 (0, 0)) := by rw [hW]; exact heap_alloc2_new w _ _
  have H0 : Hid (Below w.heap.size w W ∧ W.heap.size = w.heap.size + 2 ∧ W.heap[w.heap.size]? = some (.cells #[.int .i64 k, ve, vp] 27 (0, 0)) ∧ W.heap[w.heap.size + 1]? = some (.cells #[.int .i64 k, ue, up] 27 (0, 0))) := ⟨hbW, hzW, hg1, hg2⟩
  have HT : Hid (Texts w w.heap.size ve el ∧ Texts w w.heap.size vp pl ∧ Texts w w.heap.size ue el ∧ Texts w w.heap.size up pl) := ⟨h1, h2, h3, h4⟩
  have HW : Hid (W = (w.alloc (.cells #[.int .i64 k, ve, vp] 27)).alloc (.cells #[.int .i64 k, ue, up] 27)) := hW
  obtain ⟨⟨c0, c1, c2⟩, f0, f1, f2⟩ := three_cells (Below.refl W.heap.size W) (show w.heap.size < W.heap.size by omega) hg1
  obtain ⟨⟨d0, d1, d2⟩, g0, g1, g2⟩ := three_cells (Below.refl W.heap.size W) (show w.heap.size + 1 < W.heap.size by omega) hg2
  clear h1 h2 h3 h4 hW hbW hzW hg1 hg2 f0 f1 f2 g0 g1 g2
  have hkk : (k == k) = true := by simp
  go_enter Tryz.func69, Tryz.ntmps69
  go_wp2_with fail
  rw [← HW.out]
  refine (EQ.out _ _ el _ ((HT.out.1.below H0.out.1).up H0.out.1.size) ((HT.out.2.2.1.below H0.out.1).up H0.out.1.size) hl1).mono ?_
  rintro e w1 ⟨rfl, hb1⟩
  have H1 : Hid (Below w.heap.size w w1) := H0.out.1.trans (hb1.mono H0.out.1.size)
  clear c0 c1 c2 d0 d1 d2
  obtain ⟨⟨c0, c1, c2⟩, f0, f1, f2⟩ := three_cells hb1 (show w.heap.size < W.heap.size by have := H0.out.2.1; omega) H0.out.2.2.1
  obtain ⟨⟨d0, d1, d2⟩, g0, g1, g2⟩ := three_cells hb1 (show w.heap.size + 1 < W.heap.size by have := H0.out.2.1; omega) H0.out.2.2.2
  clear hb1
  go_wp2_with fail
  refine (EQ.out _ _ pl _ ((HT.out.2.1.below H1.out).up H1.out.size) ((HT.out.2.2.2.below H1.out).up H1.out.size) hl2).mono ?_
  rintro e w2 ⟨rfl, hb2⟩
  have H2 : Hid (Below w.heap.size w w2) := H1.out.trans (hb2.mono H1.out.size)
  clear hb2
  go_wp2
  go_ret
  exact ⟨rfl, H2.out⟩
end Go.Proofs.YtpglcbidfghfkaaGreatDoor

/-
  Are all texts of 32 bytes? The program's test.
-/
namespace Go.Proofs.YtpglcbidfghfkaaGreatDoor
open Go.RowKit Go.Lib
set_option linter.unusedVariables false

set_option maxHeartbeats 400000 in
theorem digests_any (v : Value) (l : List ByteArray) (w : World) (B : Nat) (h : Texts w B v l) (hl : l.length ≤ 1048576) :
    Calls Tryz.prog 142 #[v] w fun e w' => e = .returned (.bool (wideB l)) ∧ w' = w := by
  obtain ⟨a, cap, rfl, hcap, hc⟩ := h.at
  have HC : Hid (∀ j (hj : j < l.length), ∃ b off, a = some ⟨b, off, none⟩ ∧ b < B ∧ w.cell? ⟨b, off + j, none⟩ = some (.string l[j])) := hc
  clear hc h hcap
  obtain ⟨n, hn⟩ : ∃ n, n = l.length := ⟨_, rfl⟩
  have HN : Hid (n = l.length) := hn
  rw [← hn] at hl ⊢
  clear hn
  obtain ⟨W, hW⟩ : ∃ W, W = wideB l := ⟨_, rfl⟩
  rw [← hW]
  have HW : Hid (W = wideB l) := hW
  clear hW
  go_enter Tryz.func142, Tryz.ntmps142
  go_wp2
  go_loop [7] (fun i => ∃ k : Nat, k ≤ n ∧ i = .int .i64 k ∧ ∀ j (h : j < l.length), j < k → (l[j].size : Int) = 32) (fun i => n - (intOf i).toNat)
  case atStart => exact ⟨0, Nat.zero_le _, rfl, fun j _ h => by omega⟩
  case round =>
    obtain ⟨k, hk, rfl, hall⟩ := hrel
    have HA : Hid (∀ j (h : j < l.length), j < k → (l[j].size : Int) = 32) := hall
    clear hall
    by_cases hkn : k < n
    · have hkl : k < l.length := by rw [← HN.out]; exact hkn
      obtain ⟨b, off, rfl, hB, hc⟩ := HC.out k hkl
      have HA2 : Hid ((l[k].size : Int) = 32 → ∀ j (h : j < l.length), j < k + 1 → (l[j].size : Int) = 32) := fun hr j h hj => by
        by_cases e : j = k
        · subst e; exact hr
        · exact HA.out j h (by omega)
      have HB : Hid (¬ (l[k].size : Int) = 32 → W = false) := fun h => by rw [HW.out]; exact wideB_no hkl h
      have hknI : (k : Int) < (n : Int) := by omega
      clear HC HA HN HW
      generalize l[k] = t at *
      by_cases h32 : (t.size : Int) = 32
      · go_wp2
        go_round
        case rel => exact ⟨k + 1, by omega, by go_num, HA2.out h32⟩
        case measure => simp [intOf]; omega
      · have HF : Hid (W = false) := HB.out h32
        clear HA2 HB
        go_wp2
        go_ret
        exact ⟨ret_bool HF.out.symm, rfl⟩
    · have HF : Hid (W = true) := by
        show _ = _
        rw [HW.out]
        exact wideB_yes fun j hj => HA.out j hj (by have := HN.out; omega)
      clear HC HA HN HW
      go_wp2
      go_ret
      exact ⟨ret_bool HF.out.symm, rfl⟩
end Go.Proofs.YtpglcbidfghfkaaGreatDoor

/-
  The program's SigRight.
-/
namespace Go.Proofs.YtpglcbidfghfkaaGreatDoor
open Go.RowKit Go.Lib
set_option linter.unusedVariables false
set_option linter.unusedSimpArgs false

set_option maxHeartbeats 1000000 in
set_option maxRecDepth 10000 in
theorem implSigRight_any (k : Int) (ve vp : Value) (el pl : List ByteArray) (w : World) (h1 : Texts w w.heap.size ve el) (h2 : Texts w w.heap.size vp pl) (hl1 : el.length ≤ 1048576) (hl2 : pl.length ≤ 1048576) :
    Calls Tryz.prog 82 #[.agg #[.int .i64 k, ve, vp]] w fun e w' => e = .returned (.bool (sigRB k el pl)) ∧ Below w.heap.size w w' := by
  have E0 : Hid (∀ w, Calls Tryz.prog 62 #[.int .i64 k] w fun e w' => e = .returned (.bool (decide (0 ≤ k ∧ k ≤ 3))) ∧ w' = w) := fun w => keyRight_any k w
  obtain ⟨W, hW⟩ : ∃ W, W = w.alloc (.cells #[.int .i64 k, ve, vp] 27) := ⟨_, rfl⟩
  have hbW : Below w.heap.size w W := by rw [hW]; exact (Below.refl _ _).alloc (Nat.le_refl _) _
  have E1 : Hid (Calls Tryz.prog 142 #[ve] W fun e w' => e = .returned (.bool (wideB el)) ∧ w' = W) := digests_any ve el W w.heap.size (h1.below hbW) hl1
  have E2 : Hid (Calls Tryz.prog 142 #[vp] W fun e w' => e = .returned (.bool (wideB pl)) ∧ w' = W) := digests_any vp pl W w.heap.size (h2.below hbW) hl2
  have HB : Hid (Below w.heap.size w W) := hbW
  obtain ⟨a1, c1, rfl, _⟩ := h1
  obtain ⟨a2, c2, rfl, _⟩ := h2
  have HW : Hid (w.alloc (.cells #[.int .i64 k, .slice a1 el.length c1, .slice a2 pl.length c2] 27) = W) := hW.symm
  rw [hW] at E1 E2 HB
  clear hW hbW W HW
  by_cases hk : 0 ≤ k ∧ k ≤ 3
  · rw [decide_eq_true hk] at E0
    by_cases h6 : (el.length : Int) = 6
    · by_cases hp2 : (pl.length : Int) = 2
      · rw [sigRB_rest hk h6 hp2]
        have q1 : ((el.length : Int) != 6) = false := by simpa using h6
        have q2 : ((pl.length : Int) != 2) = false := by simpa using hp2
        clear hk h6 hp2
        cases hwe : wideB el with
        | false =>
          rw [hwe] at E1
          clear hwe
          go_enter Tryz.func82, Tryz.ntmps82
          go_wp2_with fail
          refine (E0.out _).mono ?_
          rintro e w0 ⟨rfl, rfl⟩
          clear E0
          go_wp2_with fail
          refine E1.out.mono ?_
          rintro e w1 ⟨rfl, rfl⟩
          go_wp2
          go_ret
          exact ⟨rfl, HB.out⟩
        | true =>
          rw [hwe] at E1
          clear hwe
          go_enter Tryz.func82, Tryz.ntmps82
          go_wp2_with fail
          refine (E0.out _).mono ?_
          rintro e w0 ⟨rfl, rfl⟩
          clear E0
          go_wp2_with fail
          refine E1.out.mono ?_
          rintro e w1 ⟨rfl, rfl⟩
          go_wp2_with fail
          refine E2.out.mono ?_
          rintro e w2 ⟨rfl, rfl⟩
          go_wp2
          go_ret
          exact ⟨rfl, HB.out⟩
      · rw [sigRB_path hk h6 hp2]
        have q1 : ((el.length : Int) != 6) = false := by simpa using h6
        have q2 : ((pl.length : Int) != 2) = true := by simpa using hp2
        clear hk h6 hp2
        go_enter Tryz.func82, Tryz.ntmps82
        go_wp2_with fail
        refine (E0.out _).mono ?_
        rintro e w0 ⟨rfl, rfl⟩
        clear E0
        go_wp2
        go_ret
        exact ⟨rfl, HB.out⟩
    · rw [sigRB_ends hk h6]
      have q1 : ((el.length : Int) != 6) = true := by simpa using h6
      clear hk h6
      go_enter Tryz.func82, Tryz.ntmps82
      go_wp2_with fail
      refine (E0.out _).mono ?_
      rintro e w0 ⟨rfl, rfl⟩
      clear E0
      go_wp2
      go_ret
      exact ⟨rfl, HB.out⟩
  · rw [decide_eq_false hk] at E0
    rw [sigRB_key hk]
    clear hk
    go_enter Tryz.func82, Tryz.ntmps82
    go_wp2_with fail
    refine (E0.out _).mono ?_
    rintro e w0 ⟨rfl, rfl⟩
    clear E0
    go_wp2
    go_ret
    exact ⟨rfl, HB.out⟩
end Go.Proofs.YtpglcbidfghfkaaGreatDoor
