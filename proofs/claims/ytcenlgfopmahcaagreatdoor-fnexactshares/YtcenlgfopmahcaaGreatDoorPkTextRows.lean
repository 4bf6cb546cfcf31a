/-
  Rows of texts of a call's own that are appended to; a row of texts cut in two.
-/
import Derived.Test.YtcenlgfopmahcaaGreatDoorPkTexts
import Derived.Test.YtcenlgfopmahcaaGreatDoorPkMem
import Derived.Laws.Slices
import Derived.Test.YtcenlgfopmahcaaGreatDoorRows
import Derived.WalkKit
import Derived.WalkSpells
namespace Go.Proofs.YtcenlgfopmahcaaGreatDoor
open Go.RowKit Go.Lib
set_option linter.unusedVariables false

theorem below_drew' {B : Nat} {a w : World} (h : Below B a w) : Below B a w.drew := ⟨h.os, h.tape, h.output, h.size, h.block⟩
/-- The slice v owns the texts l, in a row of the call's own. -/
def OwnT (w : World) (B : Nat) (v : Value) (l : List ByteArray) : Prop := w.ownsRow B 9 1 v l.length (l.map .string)
theorem OwnT.nil (w : World) (B : Nat) : OwnT w B (.slice none 0 0) [] := World.ownsRow_nil w B _ _
theorem OwnT.made (w : World) (B : Nat) (hB : B ≤ w.heap.size) : OwnT (w.alloc (.cells #[] 9)) B (.slice (some ⟨w.heap.size, 0, none⟩) 0 0) [] := World.ownsRow_made w #[] 0 hB (Nat.zero_le _) rfl
theorem OwnT.texts {w : World} {B : Nat} {v : Value} {l : List ByteArray} (h : OwnT w B v l) : Texts w w.heap.size v l := by
  rcases id h with ⟨h1, ⟨rfl, h2⟩ | ⟨g, cap, cur, rfl, hB, hg, hnc, _, hcs, ht⟩⟩
  · exact ⟨none, 0, by rw [h2], .inl h2, by omega⟩
  · refine ⟨_, cap, rfl, .inr ⟨g, 0, rfl, (Array.getElem?_eq_some_iff.1 hg).1, fun j hj => ?_⟩, hnc⟩
    have := World.ownsRow.cellAt h j (by omega)
    rw [Nat.zero_add, this]
    simp [hj]
theorem OwnT.below {w w' : World} {B C : Nat} {v : Value} {l : List ByteArray} (h : OwnT w B v l) (hb : Below C w w') (hC : w.heap.size ≤ C) : OwnT w' B v l := by
  rcases h with ⟨h1, ⟨rfl, h2⟩ | ⟨g, cap, cur, rfl, hB, hg, hnc, hcc, hcs, ht⟩⟩
  · exact ⟨h1, .inl ⟨rfl, h2⟩⟩
  · have hgl := (Array.getElem?_eq_some_iff.1 hg).1
    exact ⟨h1, .inr ⟨g, cap, cur, rfl, hB, (hb.block g (Nat.lt_of_lt_of_le hgl hC)).trans hg, hnc, hcc, hcs, ht⟩⟩
theorem OwnT.lower {w : World} {B C : Nat} {v : Value} {l : List ByteArray} (h : OwnT w B v l) (hC : C ≤ B) : OwnT w C v l := by
  rcases h with ⟨h1, ⟨rfl, h2⟩ | ⟨g, cap, cur, rfl, hB, hg, hnc, hcc, hcs, ht⟩⟩
  · exact ⟨h1, .inl ⟨rfl, h2⟩⟩
  · exact ⟨h1, .inr ⟨g, cap, cur, rfl, Nat.le_trans hC hB, hg, hnc, hcc, hcs, ht⟩⟩
theorem OwnT.grown {w w' : World} {B g : Nat} {v : Value} {l : List ByteArray} (h : OwnT w B v l) (hg : w.grownBy w' (some g)) (hB : g < B) : OwnT w' B v l := by
  rcases h with ⟨h1, ⟨rfl, h2⟩ | ⟨g', cap, cur, rfl, hB', hg', hnc, hcc, hcs, ht⟩⟩
  · exact ⟨h1, .inl ⟨rfl, h2⟩⟩
  · exact ⟨h1, .inr ⟨g', cap, cur, rfl, hB', (hg.block g' (Array.getElem?_eq_some_iff.1 hg').1 (by simp; omega)).trans hg', hnc, hcc, hcs, ht⟩⟩
theorem OwnT.store {w : World} {B g cap n : Nat} {l : List ByteArray} (h : OwnT w B (.slice (some ⟨g, 0, none⟩) n cap) l) (hn : l.length = n) (j : Nat) (t : ByteArray) :
    OwnT (w.setCell ⟨g, j, none⟩ (.string t)) B (.slice (some ⟨g, 0, none⟩) n cap) (l.set j t) ∧ w.grownBy (w.setCell ⟨g, j, none⟩ (.string t)) (some g) := by
  subst hn
  obtain ⟨h1, h2⟩ := World.ownsRow.stored h j (.string t)
  refine ⟨?_, h2⟩
  unfold OwnT
  rw [List.length_set, List.map_set]
  exact h1
theorem OwnT.cell {w : World} {B g cap n : Nat} {l : List ByteArray} (h : OwnT w B (.slice (some ⟨g, 0, none⟩) n cap) l) (hn : l.length = n) (j : Nat) (hj : j < l.length) :
    w.cell? ⟨g, j, none⟩ = some (.string l[j]) ∧ w.frozen? ⟨g, j, none⟩ = false := by
  subst hn
  have h1 := World.ownsRow.cellAt h j (by omega)
  exact ⟨by rw [h1]; simp [hj], World.ownsRow.frozenAt h j⟩
theorem OwnT.len {w : World} {B : Nat} {v : Value} {l : List ByteArray} (h : OwnT w B v l) : ∃ a cap, v = .slice a l.length cap := by
  rcases h with ⟨h1, ⟨rfl, h2⟩ | ⟨g, cap, cur, rfl, hB, hg, hnc, hcc, hcs, ht⟩⟩
  · exact ⟨none, 0, by rw [h2]⟩
  · exact ⟨_, cap, rfl⟩

/-- 'append(row, t)', row the call's own: it owns one text more; of what lies below B nothing turns. -/
theorem wp_app_text {w : World} {ops : Array Oper} {rest : List Oper} {o : Oper} {a : Act} {Q : Exit → Act → World → Prop} (hgd : o.guard = none) (s x : Operand)
    (ho : o.op = .call { callee := .builtin .append, args := #[s, x], argTypes := #[22, 22] }) (B : Nat) (v : Value) (l : List ByteArray) (hs : a.eval s = v) (hown : OwnT w B v l) (t : ByteArray)
    (hx : a.eval x = .slice (some ⟨w.heap.size, 0, none⟩) 1 1) (hl : l.length ≤ 1048576) (hB : B ≤ w.heap.size)
    (h : ∀ v' w', OwnT w' B v' (l ++ [t]) → Below B w w' → wpList Tryz.prog ops Q rest (a.put o.dst v') w') : wpList Tryz.prog ops Q (o :: rest) a (w.alloc (.cells #[.string t] 9)) := by
  obtain ⟨i0, hi, hz0, hz1, hz2⟩ := info_parts infoText
  refine wpList_append_own _ hgd s x 22 ho B 9 i0 (.string ByteArray.empty) 1 16 Tryz.underlying22 hi hz0 hz1 hz2 rfl (by decide) v l.length (l.map .string) hs (World.ownsRow.alloc hown _) ⟨w.heap.size, 0, none⟩ 1 1 [.string t] hx rfl
    (cell_one_new _ _ _) (by intro u hu; simp at hu; subst hu; rfl) (by unfold maxLen; omega) (by omega) (by simp; omega) ?_
  intro v' w' h1 h2 _
  refine h v' w' ?_ ?_
  · unfold OwnT
    simpa using h1
  · refine ((Below.refl B w).alloc hB _).grown h2 (by simp; omega) fun k hk => ?_
    exact (World.ownsRow.lt hown k hk).1

theorem sizeText (w : World) : (sizeOf (Tryz.prog.elem 22)).run Tryz.prog w = .ok 1 w := by
  have hel : Tryz.prog.elem 22 = 9 := by kernel_rfl
  obtain ⟨i0, hi, hz0, hz1, hz2⟩ := info_parts infoText
  simp [sizeOf, typeInfo, hel, hi, hz1]
theorem underText : Tryz.prog.underlying 22 = some (.slice (Tryz.prog.elem 22)) := by
  have hel : Tryz.prog.elem 22 = 9 := by kernel_rfl
  rw [hel]; exact Tryz.underlying22

/-- A part of a row of texts, of capacity m behind its beginning. -/
theorem Texts.cut {w : World} {B : Nat} {a : Option Addr} {l : List ByteArray} {cap : Nat} (h : Texts w B (.slice a l.length cap) l) (i j m : Nat) (hij : i ≤ j) (hj : j ≤ l.length) (hm : j ≤ m) :
    Texts w B (sliced a i j m 1) ((l.take j).drop i) := by
  obtain ⟨a', cap', e, hc, hcap⟩ := h
  obtain ⟨rfl, rfl⟩ : a' = a ∧ cap' = cap := by simp at e; exact ⟨e.1.symm, e.2.symm⟩
  have hlen : ((l.take j).drop i).length = j - i := by rw [List.length_drop, List.length_take]; omega
  unfold sliced
  by_cases h0 : j - i = 0
  · exact ⟨_, m - i, by rw [hlen], .inl (by rw [hlen]; exact h0), by rw [hlen]; omega⟩
  · rw [if_neg (by omega)]
    rcases hc with hc | ⟨b, off, rfl, hb, hcell⟩
    · omega
    · refine ⟨some ⟨b, off + i, none⟩, m - i, by rw [hlen]; simp [Addr.add], .inr ⟨b, off + i, rfl, hb, fun k hk => ?_⟩, by rw [hlen]; omega⟩
      have hk' : i + k < l.length := by omega
      rw [show off + i + k = off + (i + k) by omega, hcell (i + k) hk']
      simp

theorem slice_lh {w : World} {B : Nat} {v : Value} {l : List ByteArray} (h : Texts w B v l) (i j : Nat) (hij : i ≤ j) (hj : j ≤ l.length) (x y : Int) (hx : x = (i : Int)) (hy : y = (j : Int)) :
    ∃ v1, (∀ w1, (Instr.slice 22 v (some (.int .i64 x)) (some (.int .i64 y)) none).run Tryz.prog w1 = .ok v1 w1) ∧ Texts w B v1 ((l.take j).drop i) := by
  obtain ⟨a, cap, rfl, hc, hcap⟩ := id h
  subst hx hy
  refine ⟨_, fun w1 => ?_, h.cut i j cap hij hj (by omega)⟩
  have hsl := run_slice_lh (P := Tryz.prog) w1 22 a l.length cap underText .i64 .i64 (i : Int) (j : Int) (by omega) (by omega) (by omega)
  rw [sizeText w1] at hsl
  simpa [Result.andThen] using hsl
theorem slice_h {w : World} {B : Nat} {v : Value} {l : List ByteArray} (h : Texts w B v l) (j : Nat) (hj : j ≤ l.length) (y : Int) (hy : y = (j : Int)) :
    ∃ v1, (∀ w1, (Instr.slice 22 v none (some (.int .i64 y)) none).run Tryz.prog w1 = .ok v1 w1) ∧ Texts w B v1 (l.take j) := by
  obtain ⟨a, cap, rfl, hc, hcap⟩ := id h
  subst hy
  refine ⟨_, fun w1 => ?_, by simpa using h.cut 0 j cap (by omega) hj (by omega)⟩
  have hsl := run_slice_h (P := Tryz.prog) w1 22 a l.length cap underText .i64 (j : Int) (by omega) (by omega)
  rw [sizeText w1] at hsl
  simpa [Result.andThen] using hsl
theorem slice_l {w : World} {B : Nat} {v : Value} {l : List ByteArray} (h : Texts w B v l) (i : Nat) (hi : i ≤ l.length) (x : Int) (hx : x = (i : Int)) :
    ∃ v1, (∀ w1, (Instr.slice 22 v (some (.int .i64 x)) none none).run Tryz.prog w1 = .ok v1 w1) ∧ Texts w B v1 (l.drop i) := by
  obtain ⟨a, cap, rfl, hc, hcap⟩ := id h
  subst hx
  refine ⟨_, fun w1 => ?_, by simpa using h.cut i l.length cap hi (by omega) (by omega)⟩
  have hsl := run_slice_l (P := Tryz.prog) w1 22 a l.length cap underText .i64 (i : Int) (by omega) (by omega)
  rw [sizeText w1] at hsl
  simpa [Result.andThen] using hsl
theorem slice_lhm {w : World} {B : Nat} {v : Value} {l : List ByteArray} (h : Texts w B v l) (i j : Nat) (hij : i ≤ j) (hj : j ≤ l.length) (x y : Int) (hx : x = (i : Int)) (hy : y = (j : Int)) :
    ∃ v1, (∀ w1, (Instr.slice 22 v (some (.int .i64 x)) (some (.int .i64 y)) (some (.int .i64 y))).run Tryz.prog w1 = .ok v1 w1) ∧ Texts w B v1 ((l.take j).drop i) := by
  obtain ⟨a, cap, rfl, hc, hcap⟩ := id h
  subst hx hy
  refine ⟨_, fun w1 => ?_, h.cut i j j hij hj (by omega)⟩
  have hsl := run_slice_lhm (P := Tryz.prog) w1 22 a l.length cap underText .i64 .i64 .i64 (i : Int) (j : Int) (j : Int) (by omega) (by omega) (by omega) (by omega)
  rw [sizeText w1] at hsl
  simpa [Result.andThen] using hsl
theorem Texts.at {w : World} {B : Nat} {v : Value} {l : List ByteArray} (h : Texts w B v l) : ∃ a cap, v = .slice a l.length cap ∧ l.length ≤ cap ∧ ∀ j (hj : j < l.length), ∃ b off, a = some ⟨b, off, none⟩ ∧ b < B ∧ w.cell? ⟨b, off + j, none⟩ = some (.string l[j]) := by
  obtain ⟨a, cap, rfl, hc, hcap⟩ := h
  refine ⟨a, cap, rfl, hcap, fun j hj => ?_⟩
  rcases hc with h0 | ⟨b, off, rfl, hB, hcell⟩
  · omega
  · exact ⟨b, off, rfl, hB, hcell j hj⟩
end Go.Proofs.YtcenlgfopmahcaaGreatDoor

/-
  A row of texts put behind another one.
-/
namespace Go.Proofs.YtcenlgfopmahcaaGreatDoor
open Go.RowKit Go.Lib
set_option linter.unusedVariables false

theorem app_none {w : World} {B c : Nat} {ty : TypeId} {v : Value} {l : List ByteArray} (hown : OwnT w B v l) : (Builtin.append_ #[22, 22] ty #[v, .slice none 0 c]).run Tryz.prog w = .ok v w := by
  obtain ⟨i0, hi, hz0, hz1, hz2⟩ := info_parts infoText
  rcases hown with ⟨_, ⟨rfl, _⟩ | ⟨g, cap, cur, rfl, _, _, hnc, _⟩⟩
  · simp [Builtin.append_, run_underlying Tryz.underlying22, sizeOf, typeInfo, hi, Builtin.lenOf, Builtin.firstCells]
  · simp [Builtin.append_, run_underlying Tryz.underlying22, sizeOf, typeInfo, hi, Builtin.lenOf, Builtin.firstCells, hnc, storeCells]
/-- 'append(row, more...)', row the call's own: it owns what both held. -/
theorem wp_app_texts {w : World} {ops : Array Oper} {rest : List Oper} {o : Oper} {a : Act} {Q : Exit → Act → World → Prop} (hgd : o.guard = none) (s x : Operand)
    (ho : o.op = .call { callee := .builtin .append, args := #[s, x], argTypes := #[22, 22] }) (B : Nat) (v vx : Value) (l more : List ByteArray) (hs : a.eval s = v) (hown : OwnT w B v l)
    (hx : a.eval x = vx) (hm : Texts w w.heap.size vx more) (hl : l.length ≤ 1048576) (hml : more.length ≤ 1048577) (hB : B ≤ w.heap.size)
    (h : ∀ v' w', OwnT w' B v' (l ++ more) → Below B w w' → wpList Tryz.prog ops Q rest (a.put o.dst v') w') : wpList Tryz.prog ops Q (o :: rest) a w := by
  obtain ⟨ax, capx, rfl, hc, hcap⟩ := hm
  obtain ⟨i0, hi, hz0, hz1, hz2⟩ := info_parts infoText
  cases ax with
  | none =>
    have h0 : more.length = 0 := by
      rcases hc with h0 | ⟨b, off, h1, _⟩
      · exact h0
      · cases h1
    obtain rfl := List.eq_nil_of_length_eq_zero h0
    refine wpList_plain hgd fun K hK => ?_
    have hrun := app_none (c := capx) (ty := o.type) hown
    unfold Oper.wp
    rw [List.length_nil] at hx
    simp [execOp, ho, resolve, invoke, builtin, hs, hx, hrun, Result.andThen]
    exact hK _ _ (h _ _ (by rw [List.append_nil]; exact hown) (Below.refl _ _))
  | some ad =>
    refine wpList_append_own _ hgd s x 22 ho B 9 i0 (.string ByteArray.empty) 1 16 Tryz.underlying22 hi hz0 hz1 hz2 rfl (by decide) v l.length (l.map .string) hs hown ad more.length capx (more.map .string) hx (by simp)
      ?_ (by intro u hu; obtain ⟨t, _, rfl⟩ := List.mem_map.1 hu; rfl) (by unfold maxLen; omega) (by omega) hB ?_
    · intro j u hu
      rw [List.getElem?_map] at hu
      obtain ⟨t, ht, rfl⟩ := Option.map_eq_some_iff.1 hu
      obtain ⟨hj, rfl⟩ := List.getElem?_eq_some_iff.1 ht
      rcases hc with h0 | ⟨b, off, h1, hbB, hcell⟩
      · omega
      · obtain rfl := Option.some.inj h1
        have hadd : (⟨b, off, none⟩ : Addr).add j = ⟨b, off + j, none⟩ := by unfold Addr.add; split <;> simp_all
        rw [hadd]
        exact hcell j hj
    · intro v' w' h1 h2 _
      refine h v' w' ?_ ?_
      · unfold OwnT
        simpa using h1
      · refine (Below.refl B w).grown h2 hB fun k hk => ?_
        exact (World.ownsRow.lt hown k hk).1
end Go.Proofs.YtcenlgfopmahcaaGreatDoor

/-
  What the call's own rows keep where others are written to.
-/
namespace Go.Proofs.YtcenlgfopmahcaaGreatDoor
open Go.RowKit Go.Lib
set_option linter.unusedVariables false
set_option linter.unusedSimpArgs false

/-- A block of another type is no row's own. -/
theorem OwnT.other {w : World} {B p : Nat} {v : Value} {l : List ByteArray} {cs : Array Value} {t : TypeId} {fz : Nat × Nat} (h : OwnT w B v l) (hp : w.heap[p]? = some (.cells cs t fz)) (ht : t ≠ 9) : some p ≠ v.ownBlock := by
  intro e
  rcases h with ⟨_, ⟨rfl, _⟩ | ⟨g, cap, cur, rfl, _, hg, _⟩⟩
  · simp [Value.ownBlock] at e
  · have e' : p = g := by simpa [Value.ownBlock] using e
    rw [e', hg] at hp
    simp at hp
    exact ht hp.2.1.symm
theorem grown_cell {w w' : World} {b : Nat} (h : w.grownBy w' (some b)) (i : Nat) (v : Value) : w.grownBy (w'.setCell ⟨b, i, none⟩ v) (some b) :=
  ⟨h.os, h.tape, h.output, by simpa [World.setCell] using h.size, fun k hk hne => (heap_setCell_other w' ⟨b, i, none⟩ k v (fun e => hne (by rw [e]))).trans (h.block k hk hne)⟩
/-- A block that the call itself has made may be written to. -/
theorem grown_own {w W W' : World} {p b : Nat} (h : w.grownBy W (some p)) (hg : W.grownBy W' (some b)) (hb : w.heap.size ≤ b) : w.grownBy W' (some p) :=
  ⟨hg.os.trans h.os, hg.tape.trans h.tape, hg.output.trans h.output, Nat.le_trans h.size hg.size, fun k hk hne => (hg.block k (Nat.lt_of_lt_of_le hk h.size) (by simp; omega)).trans (h.block k hk hne)⟩
/-- Rows of texts are not touched by what is written into a block of another type. -/
theorem OwnT.past {w w' : World} {B b : Nat} {v : Value} {l : List ByteArray} {cs : Array Value} {t : TypeId} {fz : Nat × Nat} (h : OwnT w B v l) (hg : w.grownBy w' (some b)) (hp : w.heap[b]? = some (.cells cs t fz)) (ht : t ≠ 9) : OwnT w' B v l := by
  have hne := h.other hp ht
  rcases h with ⟨h1, ⟨rfl, h2⟩ | ⟨g', cap, cur, rfl, hB', hg', hnc, hcc, hcs, ht⟩⟩
  · exact ⟨h1, .inl ⟨rfl, h2⟩⟩
  · exact ⟨h1, .inr ⟨g', cap, cur, rfl, hB', (hg.block g' (Array.getElem?_eq_some_iff.1 hg').1 (fun e => hne e.symm)).trans hg', hnc, hcc, hcs, ht⟩⟩
theorem OwnT.under {w w' : World} {B C : Nat} {v : Value} {l : List ByteArray} (h : OwnT w B v l) (hb : Below C w w') (hlt : ∀ g, v.ownBlock = some g → g < C) : OwnT w' B v l := by
  rcases h with ⟨h1, ⟨rfl, h2⟩ | ⟨g', cap, cur, rfl, hB', hg', hnc, hcc, hcs, ht⟩⟩
  · exact ⟨h1, .inl ⟨rfl, h2⟩⟩
  · exact ⟨h1, .inr ⟨g', cap, cur, rfl, hB', (hb.block g' (hlt g' rfl)).trans hg', hnc, hcc, hcs, ht⟩⟩
theorem OwnT.block_lt {w : World} {B : Nat} {v : Value} {l : List ByteArray} (h : OwnT w B v l) : ∀ g, v.ownBlock = some g → B ≤ g ∧ g < w.heap.size := by
  intro g hg
  rcases h with ⟨h1, ⟨rfl, h2⟩ | ⟨g', cap, cur, rfl, hB', hg', hnc, hcc, hcs, ht⟩⟩
  · exact absurd hg (by simp [Value.ownBlock])
  · have e : g' = g := by simpa [Value.ownBlock] using hg
    subst e
    exact ⟨hB', (Array.getElem?_eq_some_iff.1 hg').1⟩
theorem rd_refl (w : World) (r : Option Nat) : w.grownBy w r := ⟨rfl, rfl, rfl, Nat.le_refl _, fun _ _ _ => rfl⟩
theorem grown_then {a b c : World} {r : Option Nat} (h : a.grownBy b r) (k : Below a.heap.size b c) : a.grownBy c r :=
  ⟨k.os.trans h.os, k.tape.trans h.tape, k.output.trans h.output, Nat.le_trans h.size k.size, fun i hi hne => (k.block i hi).trans (h.block i hi hne)⟩
theorem below_own {w W W' : World} {r : Nat} (h : Below w.heap.size w W) (hg : W.grownBy W' (some r)) (hr : w.heap.size ≤ r) : Below w.heap.size w W' :=
  ⟨hg.os.trans h.os, hg.tape.trans h.tape, hg.output.trans h.output, Nat.le_trans h.size hg.size, fun k hk => (hg.block k (Nat.lt_of_lt_of_le hk h.size) (by simp; omega)).trans (h.block k hk)⟩
/-- Of what was there only blocks from B to below C have turned. -/
def Inside (w w' : World) (B C : Nat) : Prop := w'.os = w.os ∧ w'.tape = w.tape ∧ w'.output = w.output ∧ w.heap.size ≤ w'.heap.size ∧ ∀ b, b < w.heap.size → (b < B ∨ C ≤ b) → w'.heap[b]? = w.heap[b]?
theorem Inside.refl (w : World) (B C : Nat) : Inside w w B C := ⟨rfl, rfl, rfl, Nat.le_refl _, fun _ _ _ => rfl⟩
theorem Inside.wide {w w' : World} {B C B' C' : Nat} (h : Inside w w' B C) (h1 : B' ≤ B) (h2 : C ≤ C') : Inside w w' B' C' := ⟨h.1, h.2.1, h.2.2.1, h.2.2.2.1, fun b hb ho => h.2.2.2.2 b hb (by omega)⟩
theorem Inside.trans {a b c : World} {B C : Nat} (h : Inside a b B C) (k : Inside b c B C) : Inside a c B C := ⟨k.1.trans h.1, k.2.1.trans h.2.1, k.2.2.1.trans h.2.2.1, Nat.le_trans h.2.2.2.1 k.2.2.2.1, fun i hi ho => (k.2.2.2.2 i (Nat.lt_of_lt_of_le hi h.2.2.2.1) ho).trans (h.2.2.2.2 i hi ho)⟩
theorem Inside.of_below {w w' : World} {B C : Nat} (h : Below w.heap.size w w') : Inside w w' B C := ⟨h.os, h.tape, h.output, h.size, fun b hb _ => h.block b hb⟩
theorem Inside.below {w w' : World} {B C : Nat} (h : Inside w w' B C) (hB : B ≤ w.heap.size) : Below B w w' := ⟨h.1, h.2.1, h.2.2.1, h.2.2.2.1, fun b hb => h.2.2.2.2 b (by omega) (.inl hb)⟩
theorem Inside.on {w w1 w' : World} {B C : Nat} (hb : Below w.heap.size w w1) (h : Inside w1 w' B C) : Inside w w' B C := (Inside.of_below hb).trans h
theorem inside_row {w w' : World} {v : Value} {B C : Nat} (h : w.grownBy w' v.ownBlock) (hv : ∀ g, v.ownBlock = some g → B ≤ g ∧ g < C) : Inside w w' B C :=
  ⟨h.os, h.tape, h.output, h.size, fun b hb ho => h.block b hb (fun e => by have := hv b e.symm; omega)⟩
theorem OwnT.aside {w w' : World} {A B C : Nat} {v : Value} {l : List ByteArray} (h : OwnT w A v l) (hi : Inside w w' B C) (hne : ∀ g, v.ownBlock = some g → g < B ∨ C ≤ g) : OwnT w' A v l := by
  rcases h with ⟨h1, ⟨rfl, h2⟩ | ⟨g', cap, cur, rfl, hB', hg', hnc, hcc, hcs, ht⟩⟩
  · exact ⟨h1, .inl ⟨rfl, h2⟩⟩
  · exact ⟨h1, .inr ⟨g', cap, cur, rfl, hB', (hi.2.2.2.2 g' (Array.getElem?_eq_some_iff.1 hg').1 (hne g' rfl)).trans hg', hnc, hcc, hcs, ht⟩⟩
end Go.Proofs.YtcenlgfopmahcaaGreatDoor

/-
  The walks of NameRight, the document's and the program's: each answers whether the text is a name. No conditions but that the text's length is a Go length.
-/
namespace Go.Proofs.YtcenlgfopmahcaaGreatDoor
open Go.RowKit

/-- The ending answers whether p holds. -/
def AnsB (p : Prop) (e : Ending) : Prop := ∃ b, e = .returned (.bool b) ∧ (b = true ↔ p)
theorem AnsB.yes {p : Prop} {v : Value} (h : p) (hv : v = .bool true) : AnsB p (.returned v) := ⟨true, by rw [hv], by simp [h]⟩
theorem AnsB.no {p : Prop} {v : Value} (h : ¬ p) (hv : v = .bool false) : AnsB p (.returned v) := ⟨false, by rw [hv], by simp [h]⟩
theorem AnsB.dec {p : Prop} {v : Value} {b : Bool} (h : b = true ↔ p) (hv : v = .bool b) : AnsB p (.returned v) := ⟨b, by rw [hv], h⟩

/-- A byte that is a lower-case letter. -/
def letP (c : Int) : Prop := 97 ≤ c ∧ c ≤ 122
def digP (c : Int) : Prop := 48 ≤ c ∧ c ≤ 57
/-- A byte that may stand behind the first one. -/
def tailP (c : Int) : Prop := letP c ∨ digP c ∨ c = 95
/-- The text is a name. -/
def nameP (s : ByteArray) : Prop := 1 ≤ s.size ∧ s.size ≤ 20 ∧ ∀ k (h : k < s.size), letP (s[k].toNat : Int) ∨ (k ≠ 0 ∧ tailP (s[k].toNat : Int))

theorem name_bad {s : ByteArray} {k : Nat} (h : k < s.size) (hl : ¬ letP (s[k].toNat : Int)) (ht : k = 0 ∨ ¬ tailP (s[k].toNat : Int)) : ¬ nameP s := by
  rintro ⟨_, _, h3⟩
  rcases h3 k h with h | ⟨h, h'⟩
  · exact hl h
  · rcases ht with ht | ht
    · exact h ht
    · exact ht h'

theorem isLetter_any (c : Int) (w : World) : Calls Tryz.prog 74 #[.int .u8 c] w fun e w' => AnsB (letP c) e ∧ w' = w := by
  go_enter Tryz.func74, Tryz.ntmps74
  go_wp2
  all_goals (go_ret; exact ⟨AnsB.dec (by unfold letP; simp <;> omega) rfl, rfl⟩)

theorem isDigit_any (c : Int) (w : World) : Calls Tryz.prog 75 #[.int .u8 c] w fun e w' => AnsB (digP c) e ∧ w' = w := by
  go_enter Tryz.func75, Tryz.ntmps75
  go_wp2
  all_goals (go_ret; exact ⟨AnsB.dec (by unfold digP; simp <;> omega) rfl, rfl⟩)

theorem name_step {s : ByteArray} {k : Nat} (h : ∀ j (h : j < s.size), j < k → letP (s[j].toNat : Int) ∨ (j ≠ 0 ∧ tailP (s[j].toNat : Int))) (hk : ∀ hlt : k < s.size, letP (s[k].toNat : Int) ∨ (k ≠ 0 ∧ tailP (s[k].toNat : Int))) :
    ∀ j (h : j < s.size), j < k + 1 → letP (s[j].toNat : Int) ∨ (j ≠ 0 ∧ tailP (s[j].toNat : Int)) := by
  intro j hj hlt
  by_cases e : j = k
  · subst e; exact hk hj
  · exact h j hj (by omega)

set_option maxHeartbeats 1000000 in
theorem specName_any (s : ByteArray) (w : World) (hs : s.size ≤ maxLen) :
    Calls Tryz.prog 36 #[.string s] w fun e w' => AnsB (nameP s) e ∧ w' = w := by
  unfold maxLen at hs
  by_cases h1 : s.size < 1
  · go_enter Tryz.func36, Tryz.ntmps36
    go_wp2
    go_ret
    exact ⟨AnsB.no (by rintro ⟨_, _, _⟩; omega) rfl, rfl⟩
  by_cases h2 : 20 < s.size
  · go_enter Tryz.func36, Tryz.ntmps36
    go_wp2
    go_ret
    exact ⟨AnsB.no (by rintro ⟨_, _, _⟩; omega) rfl, rfl⟩
  go_enter Tryz.func36, Tryz.ntmps36
  go_wp2
  go_loop [3] (fun i => ∃ k : Nat, k ≤ s.size ∧ i = .int .i64 k ∧ ∀ j (h : j < s.size), j < k → letP (s[j].toNat : Int) ∨ (j ≠ 0 ∧ tailP (s[j].toNat : Int))) (fun i => s.size - (RowKit.intOf i).toNat)
  case atStart => exact ⟨0, Nat.zero_le _, rfl, fun j _ h => absurd h (by omega)⟩
  case round =>
    obtain ⟨k, hk, rfl, hall⟩ := hrel
    have HALL : Hid (∀ j (h : j < s.size), j < k → letP (s[j].toNat : Int) ∨ (j ≠ 0 ∧ tailP (s[j].toNat : Int))) := hall
    clear hall
    by_cases hlt : k < s.size
    · by_cases hl : 97 ≤ (s[k].toNat : Int) ∧ (s[k].toNat : Int) ≤ 122
      · have HL : Hid (letP (s[k].toNat : Int)) := hl
        obtain ⟨hl1, hl2⟩ := hl
        go_wp2
        go_round
        case rel => exact ⟨k + 1, by omega, by go_num, name_step HALL.out fun _ => .inl HL.out⟩
        case measure => simp [RowKit.intOf]; omega
      have HL : Hid (¬ letP (s[k].toNat : Int)) := hl
      have hl' : (s[k].toNat : Int) < 97 ∨ 122 < (s[k].toNat : Int) := by omega
      clear hl
      by_cases hz : k = 0
      · subst hz
        rcases hl' with hl' | hl'
        all_goals
          go_wp2
          all_goals try (exfalso; rename_i h; simp at h; omega)
          go_ret
          exact ⟨AnsB.no (name_bad hlt HL.out (.inl rfl)) rfl, rfl⟩
      have hz' : ((k : Int) == 0) = false := by simp; omega
      by_cases hd : 48 ≤ (s[k].toNat : Int) ∧ (s[k].toNat : Int) ≤ 57
      · have HD : Hid (digP (s[k].toNat : Int)) := hd
        obtain ⟨hd1, hd2⟩ := hd
        have hl3 : (s[k].toNat : Int) < 97 := by omega
        clear hl'
        go_wp2
        go_round
        case rel => exact ⟨k + 1, by omega, by go_num, name_step HALL.out fun _ => .inr ⟨hz, .inr (.inl HD.out)⟩⟩
        case measure => simp [RowKit.intOf]; omega
      have HD : Hid (¬ digP (s[k].toNat : Int)) := hd
      have hd' : (s[k].toNat : Int) < 48 ∨ 57 < (s[k].toNat : Int) := by omega
      clear hd
      by_cases hu : (s[k].toNat : Int) = 95
      · have HU : Hid ((s[k].toNat : Int) = 95) := hu
        have hu' : ((s[k].toNat : Int) != 95) = false := by rw [hu]; rfl
        have hl3 : (s[k].toNat : Int) < 97 := by omega
        have hd3 : 57 < (s[k].toNat : Int) := by omega
        clear hl' hd' hu
        go_wp2
        go_round
        case rel => exact ⟨k + 1, by omega, by go_num, name_step HALL.out fun _ => .inr ⟨hz, .inr (.inr HU.out)⟩⟩
        case measure => simp [RowKit.intOf]; omega
      have HU : Hid (¬ tailP (s[k].toNat : Int)) := by rintro (h | h | h); exact HL.out h; exact HD.out h; exact hu h
      have hu' : ((s[k].toNat : Int) != 95) = true := by simp [bne_iff_ne]; omega
      clear hu
      rcases hl' with hl' | hl' <;> rcases hd' with hd' | hd'
      all_goals try (exfalso; omega)
      all_goals
        go_wp2
        all_goals try (exfalso; rename_i h; simp at h; omega)
        go_ret
        exact ⟨AnsB.no (name_bad hlt HL.out (.inr HU.out)) rfl, rfl⟩
    · go_wp2
      go_ret
      exact ⟨AnsB.yes ⟨by omega, by omega, fun j h => HALL.out j h (by omega)⟩ rfl, rfl⟩
theorem isLetter_yes (c : Int) (w : World) (h : letP c) : Calls Tryz.prog 74 #[.int .u8 c] w fun e w' => e = .returned (.bool true) ∧ w' = w :=
  (isLetter_any c w).mono fun e w' ⟨⟨b, he, hb⟩, hw⟩ => ⟨by rw [he, hb.2 h], hw⟩
theorem isLetter_no (c : Int) (w : World) (h : ¬ letP c) : Calls Tryz.prog 74 #[.int .u8 c] w fun e w' => e = .returned (.bool false) ∧ w' = w :=
  (isLetter_any c w).mono fun e w' ⟨⟨b, he, hb⟩, hw⟩ => ⟨by cases b with | true => exact absurd (hb.1 rfl) h | false => exact he, hw⟩
theorem isDigit_yes (c : Int) (w : World) (h : digP c) : Calls Tryz.prog 75 #[.int .u8 c] w fun e w' => e = .returned (.bool true) ∧ w' = w :=
  (isDigit_any c w).mono fun e w' ⟨⟨b, he, hb⟩, hw⟩ => ⟨by rw [he, hb.2 h], hw⟩
theorem isDigit_no (c : Int) (w : World) (h : ¬ digP c) : Calls Tryz.prog 75 #[.int .u8 c] w fun e w' => e = .returned (.bool false) ∧ w' = w :=
  (isDigit_any c w).mono fun e w' ⟨⟨b, he, hb⟩, hw⟩ => ⟨by cases b with | true => exact absurd (hb.1 rfl) h | false => exact he, hw⟩

set_option maxHeartbeats 1000000 in
theorem implName_any (s : ByteArray) (w : World) (hs : s.size ≤ maxLen) :
    Calls Tryz.prog 59 #[.string s] w fun e w' => AnsB (nameP s) e ∧ w' = w := by
  unfold maxLen at hs
  by_cases h1 : s.size < 1
  · go_enter Tryz.func59, Tryz.ntmps59
    go_wp2
    go_ret
    exact ⟨AnsB.no (by rintro ⟨_, _, _⟩; omega) rfl, rfl⟩
  by_cases h2 : 20 < s.size
  · go_enter Tryz.func59, Tryz.ntmps59
    go_wp2
    go_ret
    exact ⟨AnsB.no (by rintro ⟨_, _, _⟩; omega) rfl, rfl⟩
  have h0 : 0 < s.size := by omega
  by_cases hl0 : letP (s[0].toNat : Int)
  rotate_left
  · have HL0 : Hid (¬ letP (s[0].toNat : Int)) := hl0
    clear hl0
    go_enter Tryz.func59, Tryz.ntmps59
    go_wp2_with (go_at_call 74; refine (isLetter_no _ _ HL0.out).mono ?_; rintro e w' ⟨rfl, rfl⟩)
    go_ret
    exact ⟨AnsB.no (name_bad h0 HL0.out (.inl rfl)) rfl, rfl⟩
  have HL0 : Hid (letP (s[0].toNat : Int)) := hl0
  clear hl0
  go_enter Tryz.func59, Tryz.ntmps59
  go_wp2_with (go_at_call 74; refine (isLetter_yes _ _ HL0.out).mono ?_; rintro e w' ⟨rfl, rfl⟩)
  go_loop [3] (fun i => ∃ k : Nat, 1 ≤ k ∧ k ≤ s.size ∧ i = .int .i64 k ∧ ∀ j (h : j < s.size), j < k → letP (s[j].toNat : Int) ∨ (j ≠ 0 ∧ tailP (s[j].toNat : Int))) (fun i => s.size - (RowKit.intOf i).toNat)
  case atStart => exact ⟨1, Nat.le_refl _, by omega, rfl, name_step (k := 0) (fun j _ h => absurd h (by omega)) fun _ => .inl HL0.out⟩
  case round =>
    obtain ⟨k, hk1, hk, rfl, hall⟩ := hrel
    have HALL : Hid (∀ j (h : j < s.size), j < k → letP (s[j].toNat : Int) ∨ (j ≠ 0 ∧ tailP (s[j].toNat : Int))) := hall
    clear hall
    by_cases hlt : k < s.size
    · have hz : k ≠ 0 := by omega
      by_cases hl : letP (s[k].toNat : Int)
      · have HL : Hid (letP (s[k].toNat : Int)) := hl
        clear hl
        go_wp2_with (go_at_call 74; refine (isLetter_yes _ _ HL.out).mono ?_; rintro e w' ⟨rfl, rfl⟩)
        go_round
        case rel => exact ⟨k + 1, by omega, by omega, by go_num, name_step HALL.out fun _ => .inl HL.out⟩
        case measure => simp [RowKit.intOf]; omega
      have HL : Hid (¬ letP (s[k].toNat : Int)) := hl
      clear hl
      by_cases hd : digP (s[k].toNat : Int)
      · have HD : Hid (digP (s[k].toNat : Int)) := hd
        clear hd
        go_wp2_with (first | (go_at_call 74; refine (isLetter_no _ _ HL.out).mono ?_; rintro e w' ⟨rfl, rfl⟩) | (go_at_call 75; refine (isDigit_yes _ _ HD.out).mono ?_; rintro e w' ⟨rfl, rfl⟩))
        go_round
        case rel => exact ⟨k + 1, by omega, by omega, by go_num, name_step HALL.out fun _ => .inr ⟨hz, .inr (.inl HD.out)⟩⟩
        case measure => simp [RowKit.intOf]; omega
      have HD : Hid (¬ digP (s[k].toNat : Int)) := hd
      clear hd
      by_cases hu : (s[k].toNat : Int) = 95
      · have HU : Hid ((s[k].toNat : Int) = 95) := hu
        have hu' : ((s[k].toNat : Int) != 95) = false := by rw [hu]; rfl
        clear hu
        go_wp2_with (first | (go_at_call 74; refine (isLetter_no _ _ HL.out).mono ?_; rintro e w' ⟨rfl, rfl⟩) | (go_at_call 75; refine (isDigit_no _ _ HD.out).mono ?_; rintro e w' ⟨rfl, rfl⟩))
        go_round
        case rel => exact ⟨k + 1, by omega, by omega, by go_num, name_step HALL.out fun _ => .inr ⟨hz, .inr (.inr HU.out)⟩⟩
        case measure => simp [RowKit.intOf]; omega
      have HU : Hid (¬ tailP (s[k].toNat : Int)) := by rintro (h | h | h); exact HL.out h; exact HD.out h; exact hu h
      have hu' : ((s[k].toNat : Int) != 95) = true := by simp [bne_iff_ne]; omega
      clear hu
      go_wp2_with (first | (go_at_call 74; refine (isLetter_no _ _ HL.out).mono ?_; rintro e w' ⟨rfl, rfl⟩) | (go_at_call 75; refine (isDigit_no _ _ HD.out).mono ?_; rintro e w' ⟨rfl, rfl⟩))
      go_ret
      exact ⟨AnsB.no (name_bad hlt HL.out (.inr HU.out)) rfl, rfl⟩
    · go_wp2
      go_ret
      exact ⟨AnsB.yes ⟨by omega, by omega, fun j h => HALL.out j h (by omega)⟩ rfl, rfl⟩
end Go.Proofs.YtcenlgfopmahcaaGreatDoor

/-
  What HeadRight and HeadText answer; a block of seven cells.
-/
namespace Go.Proofs.YtcenlgfopmahcaaGreatDoor
open Go.RowKit Go.Lib
set_option linter.unusedVariables false
set_option linter.unusedSimpArgs false

/-- Is the text a name? -/
def nameDec (s : ByteArray) : Decidable (nameP s) := by
  delta nameP tailP letP digP
  infer_instance
def nameB (s : ByteArray) : Bool := @decide (nameP s) (nameDec s)
theorem nameB_iff (s : ByteArray) : nameB s = true ↔ nameP s := @decide_eq_true_iff (nameP s) (nameDec s)
theorem AnsB.name {s : ByteArray} {e : Ending} (h : AnsB (nameP s) e) : e = .returned (.bool (nameB s)) := by
  obtain ⟨b, rfl, hb⟩ := h
  refine ret_bool ?_
  rw [Bool.eq_iff_iff]
  exact hb.trans (nameB_iff s).symm
theorem nameB_yes {s : ByteArray} (h : nameB s = true) : 1 ≤ s.size ∧ s.size ≤ 20 := by
  have h2 : nameP s := (nameB_iff s).1 h
  exact ⟨h2.1, h2.2.1⟩
/-- Is what is signed of a head right? -/
def claimB (log : ByteArray) (size : Int) (root : ByteArray) (time : Int) : Bool := nameB log && decide (0 ≤ size ∧ size ≤ 64) && decide ((root.size : Int) = 32) && decide (0 ≤ time ∧ time ≤ 1000000000)
theorem claimB_yes {log root : ByteArray} {size time : Int} (h : claimB log size root time = true) : nameB log = true ∧ (0 ≤ size ∧ size ≤ 64) ∧ root.size = 32 ∧ 0 ≤ time ∧ time ≤ 1000000000 := by
  unfold claimB at h
  simp at h
  exact ⟨h.1.1.1, h.1.1.2, by omega, h.2⟩
/-- Is the head right? -/
def headRB (log : ByteArray) (size : Int) (root : ByteArray) (time k : Int) (el pl : List ByteArray) : Bool := claimB log size root time && sigRB k el pl
theorem wideB_one (t : ByteArray) : wideB [t] = decide ((t.size : Int) = 32) := by simp [wideB]

/-- A block of seven cells that was laid ahead of a call lies there behind it. -/
theorem seven_cells {B g : Nat} {W w1 : World} {a b c d e f h : Value} {t : TypeId} (hb : Below B W w1) (hB : g < B) (hW : W.heap[g]? = some (.cells #[a, b, c, d, e, f, h] t (0, 0))) :
    (w1.cell? ⟨g, 0, none⟩ = some a ∧ w1.cell? ⟨g, 1, none⟩ = some b ∧ w1.cell? ⟨g, 2, none⟩ = some c ∧ w1.cell? ⟨g, 3, none⟩ = some d ∧ w1.cell? ⟨g, 4, none⟩ = some e ∧ w1.cell? ⟨g, 5, none⟩ = some f ∧ w1.cell? ⟨g, 6, none⟩ = some h) ∧ ∀ i, w1.frozen? ⟨g, i, none⟩ = false := by
  have h := (hb.block g hB).trans hW
  refine ⟨by simp [World.cell?, h], fun i => by simp [World.frozen?, h]⟩
theorem four_cells {B g : Nat} {W w1 : World} {a b c d : Value} {t : TypeId} (hb : Below B W w1) (hB : g < B) (hW : W.heap[g]? = some (.cells #[a, b, c, d] t (0, 0))) :
    (w1.cell? ⟨g, 0, none⟩ = some a ∧ w1.cell? ⟨g, 1, none⟩ = some b ∧ w1.cell? ⟨g, 2, none⟩ = some c ∧ w1.cell? ⟨g, 3, none⟩ = some d) ∧ ∀ i, w1.frozen? ⟨g, i, none⟩ = false := by
  have h := (hb.block g hB).trans hW
  refine ⟨by simp [World.cell?, h], fun i => by simp [World.frozen?, h]⟩
theorem one_textH (w : World) (t : ByteArray) : Texts (w.alloc (.cells #[.string t] 9)) (w.heap.size + 1) (.slice (some ⟨w.heap.size, 0, none⟩) 1 1) [t] := by
  refine ⟨_, 1, rfl, .inr ⟨w.heap.size, 0, rfl, by omega, fun j hj => ?_⟩, by simp⟩
  have : j = 0 := by simpa using hj
  subst this
  have h := heap_alloc_new w (.cells #[.string t] 9)
  simp only [World.cell?, h]
  rfl
end Go.Proofs.YtcenlgfopmahcaaGreatDoor

/-
  A row of texts that was copied is the call's own.
-/
namespace Go.Proofs.YtcenlgfopmahcaaGreatDoor
open Go.RowKit Go.Lib
set_option linter.unusedVariables false

theorem OwnS.own {w : World} {g : Nat} {v : Value} {l : List ByteArray} (h : OwnS w g v l) (hl : l.length ≤ 1048576) : OwnT w g v l ∧ v.ownBlock = some g := by
  obtain ⟨rfl, hg⟩ := h
  refine ⟨⟨by simp, .inr ⟨g, l.length, _, rfl, Nat.le_refl _, hg, Nat.le_refl _, by unfold maxLen; omega, by rw [cellsT_size, Nat.mul_one], ?_⟩⟩, rfl⟩
  apply List.ext_getElem?
  intro j
  rw [List.getElem?_take]
  by_cases hj : j < l.length
  · rw [if_pos (by omega), Array.getElem?_toList, cellsT_get _ hj, firstT, if_pos hj]
    simp [List.getD, hj]
  · rw [if_neg (by omega), List.getElem?_eq_none (by rw [List.length_map]; omega)]
end Go.Proofs.YtcenlgfopmahcaaGreatDoor

/-
  Rows of texts that lie between two bounds; stores that are far from a row.
-/
namespace Go.Proofs.YtcenlgfopmahcaaGreatDoor
open Go.RowKit Go.Lib
set_option linter.unusedVariables false
set_option linter.unusedSimpArgs false

theorem OwnT.far {w : World} {B g i : Nat} {v u : Value} {l : List ByteArray} (h : OwnT w B v l) (hg : g < B) : OwnT (w.setCell ⟨g, i, none⟩ u) B v l :=
  h.grown ⟨rfl, rfl, rfl, by simp [World.setCell], fun k _ hne => Below.heap_setCell _ _ _ _ (by intro e; exact hne (by simp [e]))⟩ hg
/-- The slice v holds the texts l, in a row that lies behind A and ahead of B. -/
def TextsIn (w : World) (A B : Nat) (v : Value) (l : List ByteArray) : Prop :=
  ∃ a cap, v = .slice a l.length cap ∧ (l.length = 0 ∨ ∃ b off, a = some ⟨b, off, none⟩ ∧ A ≤ b ∧ b < B ∧ ∀ j (h : j < l.length), w.cell? ⟨b, off + j, none⟩ = some (.string l[j])) ∧ l.length ≤ cap
theorem OwnT.inside {w : World} {B : Nat} {v : Value} {l : List ByteArray} (h : OwnT w B v l) : TextsIn w B w.heap.size v l := by
  rcases id h with ⟨h1, ⟨rfl, h2⟩ | ⟨g, cap, cur, rfl, hB, hg, hnc, _, hcs, ht⟩⟩
  · exact ⟨none, 0, by rw [h2], .inl h2, by omega⟩
  · refine ⟨_, cap, rfl, .inr ⟨g, 0, rfl, hB, (Array.getElem?_eq_some_iff.1 hg).1, fun j hj => ?_⟩, hnc⟩
    have := World.ownsRow.cellAt h j (by omega)
    rw [Nat.zero_add, this]
    simp [hj]
theorem TextsIn.texts {w : World} {A B : Nat} {v : Value} {l : List ByteArray} (h : TextsIn w A B v l) : Texts w B v l := by
  obtain ⟨a, cap, hv, h | ⟨b, off, ha, hA, hB, hc⟩, hcap⟩ := h
  · exact ⟨a, cap, hv, .inl h, hcap⟩
  · exact ⟨a, cap, hv, .inr ⟨b, off, ha, hB, hc⟩, hcap⟩
theorem TextsIn.below {w w' : World} {A B : Nat} {v : Value} {l : List ByteArray} (h : TextsIn w A B v l) (hb : Below B w w') : TextsIn w' A B v l := by
  obtain ⟨a, cap, hv, h | ⟨b, off, ha, hA, hB, hc⟩, hcap⟩ := h
  · exact ⟨a, cap, hv, .inl h, hcap⟩
  · exact ⟨a, cap, hv, .inr ⟨b, off, ha, hA, hB, fun j hj => (hb.cell (p := ⟨b, off + j, none⟩) hB).trans (hc j hj)⟩, hcap⟩
theorem TextsIn.wide {w : World} {A B A' B' : Nat} {v : Value} {l : List ByteArray} (h : TextsIn w A B v l) (hA' : A' ≤ A) (hB' : B ≤ B') : TextsIn w A' B' v l := by
  obtain ⟨a, cap, hv, h | ⟨b, off, ha, hA, hB, hc⟩, hcap⟩ := h
  · exact ⟨a, cap, hv, .inl h, hcap⟩
  · exact ⟨a, cap, hv, .inr ⟨b, off, ha, by omega, by omega, hc⟩, hcap⟩
theorem TextsIn.far {w : World} {A B g i : Nat} {v u : Value} {l : List ByteArray} (h : TextsIn w A B v l) (hg : g < A) : TextsIn (w.setCell ⟨g, i, none⟩ u) A B v l := by
  obtain ⟨a, cap, hv, h | ⟨b, off, ha, hA, hB, hc⟩, hcap⟩ := h
  · exact ⟨a, cap, hv, .inl h, hcap⟩
  · refine ⟨a, cap, hv, .inr ⟨b, off, ha, hA, hB, fun j hj => ?_⟩, hcap⟩
    rw [← hc j hj]
    simp only [World.cell?]
    rw [heap_setCell_other _ _ _ _ (by simp; omega)]
end Go.Proofs.YtcenlgfopmahcaaGreatDoor

/-
  A signature that came in: its size, its copy.
-/
namespace Go.Proofs.YtcenlgfopmahcaaGreatDoor
open Go.RowKit Go.Lib
set_option linter.unusedVariables false
set_option linter.unusedSimpArgs false

theorem arr3 {cs : Array Value} {a b c : Value} (h : cs.size = 3) (h0 : ((Value.agg cs).cells.toList.drop 0).take 1 = [a]) (h1 : ((Value.agg cs).cells.toList.drop 1).take 1 = [b]) (h2 : ((Value.agg cs).cells.toList.drop 2).take 1 = [c]) : cs = #[a, b, c] := by
  have e : (Value.agg cs).cells = cs := rfl
  rw [e] at h0 h1 h2
  obtain ⟨l⟩ := cs
  match l, h with
  | [x, y, z], _ => simp at h0 h1 h2; rw [h0, h1, h2]

set_option maxHeartbeats 1000000 in
set_option maxRecDepth 10000 in
theorem szSig_any (k : Int) (ve vp : Value) (el pl : List ByteArray) (left : Int) (w : World) (h1 : TextsArg w ve el) (h2 : TextsArg w vp pl) (h0 : 0 ≤ left) (hle : left ≤ 1048576) :
    Calls Tryz.prog 35 #[.agg #[.int .i64 k, ve, vp], .int .i64 left] w fun e w' => ∃ r : Int, e = .returned (.int .i64 r) ∧ -1048577 ≤ r ∧ r ≤ 1048576 ∧ (r < 0 ∨ (el.length ≤ 1048576 ∧ pl.length ≤ 1048576)) ∧ Below w.heap.size w w' := by
  obtain ⟨W, hW⟩ : ∃ W, W = w.alloc (.cells #[.int .i64 k, ve, vp] 24) := ⟨_, rfl⟩
  have hbW : Below w.heap.size w W := by rw [hW]; exact (Below.refl _ _).alloc (Nat.le_refl _) _
  have E1 : Hid (Calls Tryz.prog 13 #[ve, .int .i64 left] W fun e w' => SzAns el e ∧ w' = W) := sz_any ve el left W _ (h1.1.below hbW) h1.2.1 h1.2.2 h0 hle
  have E2 : Hid (∀ r : Int, 0 ≤ r → r ≤ 1048576 → Calls Tryz.prog 13 #[vp, .int .i64 r] W fun e w' => SzAns pl e ∧ w' = W) := fun r a b => sz_any vp pl r W _ (h2.1.below hbW) h2.2.1 h2.2.2 a b
  have HB : Hid (Below w.heap.size w W) := hbW
  rw [hW] at E1 E2 HB
  clear h1 h2 hW hbW W
  go_enter Tryz.func35, Tryz.ntmps35
  go_wp2_with fail
  refine E1.out.mono ?_
  rintro e w1 ⟨⟨r, rfl, hr0, hr1, hr⟩, rfl⟩
  have HR : Hid (r < 0 ∨ (el.length ≤ 1048576 ∧ ∀ j (h : j < el.length), el[j].size ≤ 1048576)) := hr
  clear hr E1
  by_cases hneg : r < 0
  · go_wp2
    go_ret
    exact ⟨-1, rfl, by omega, by omega, .inl (by omega), HB.out⟩
  · go_wp2_with fail
    refine (E2.out r (by omega) hr1).mono ?_
    rintro e w2 ⟨⟨r2, rfl, hs0, hs1, hs⟩, rfl⟩
    have HR2 : Hid (r2 < 0 ∨ (pl.length ≤ 1048576 ∧ ∀ j (h : j < pl.length), pl[j].size ≤ 1048576)) := hs
    clear hs E2
    by_cases hneg2 : r2 < 0
    · go_wp2
      go_ret
      exact ⟨-1, rfl, by omega, by omega, .inl (by omega), HB.out⟩
    · go_wp2
      go_ret
      refine ⟨r2, rfl, hs0, hs1, .inr ⟨?_, ?_⟩, HB.out⟩
      · rcases HR.out with h | h
        · omega
        · exact h.1
      · rcases HR2.out with h | h
        · omega
        · exact h.1

/-- A signature whose rows are the call's own: the Ends ahead of n, the Path behind it. -/
def SigOwn (w : World) (k : Int) (el pl : List ByteArray) (e : Ending) (w' : World) : Prop :=
  ∃ ve vp n, e = .returned (.agg #[.int .i64 k, ve, vp]) ∧ OwnT w' w.heap.size ve el ∧ OwnT w' n vp pl ∧ (∀ g, ve.ownBlock = some g → g < n) ∧ w.heap.size ≤ n ∧ n ≤ w'.heap.size ∧ Below w.heap.size w w'

set_option maxHeartbeats 2000000 in
set_option maxRecDepth 10000 in
theorem toSig_any (k : Int) (ve vp : Value) (el pl : List ByteArray) (w : World) (h1 : Texts w w.heap.size ve el) (h2 : Texts w w.heap.size vp pl) (hl1 : el.length ≤ 1048576) (hl2 : pl.length ≤ 1048576) :
    Calls Tryz.prog 42 #[.agg #[.int .i64 k, ve, vp]] w fun e w' => SigOwn w k el pl e w' := by
  obtain ⟨W, hW⟩ : ∃ W, W = ((w.alloc (.cells #[.int .i64 k, ve, vp] 24)).alloc (.cells #[.int .i64 0, .slice none 0 0, .slice none 0 0] 35)).alloc (.cells #[.int .i64 k, .slice none 0 0, .slice none 0 0] 35) := ⟨_, rfl⟩
  have b1 : Below w.heap.size w (w.alloc (.cells #[.int .i64 k, ve, vp] 24)) := (Below.refl _ _).alloc (Nat.le_refl _) _
  have hbW : Below w.heap.size w W := by rw [hW]; exact (b1.alloc (by simp) _).alloc (by simp; omega) _
  have hzW : W.heap.size = w.heap.size + 3 := by rw [hW]; simp
  have g0 : W.heap[w.heap.size]? = some (.cells #[.int .i64 k, ve, vp] 24 (0, 0)) := by
    rw [hW]
    exact (heap_alloc_old _ _ (by simp; omega)).trans (heap_alloc2_old w _ _)
  have g1 : W.heap[w.heap.size + 1]? = some (.cells #[.int .i64 0, .slice none 0 0, .slice none 0 0] 35 (0, 0)) := by
    rw [hW]
    exact (heap_alloc_old _ _ (by simp)).trans (heap_alloc2_new w _ _)
  have g2 : W.heap[w.heap.size + 2]? = some (.cells #[.int .i64 k, .slice none 0 0, .slice none 0 0] 35 (0, 0)) := by
    rw [hW]
    have := heap_alloc_new ((w.alloc (.cells #[.int .i64 k, ve, vp] 24)).alloc (.cells #[.int .i64 0, .slice none 0 0, .slice none 0 0] 35)) (.cells #[.int .i64 k, .slice none 0 0, .slice none 0 0] 35)
    simpa using this
  have E1 : Hid (Calls Tryz.prog 20 #[ve] W fun e w' => ∃ v', e = .returned v' ∧ OwnS w' W.heap.size v' el ∧ Below W.heap.size W w') := toTexts_any ve el W ((h1.below hbW).up hbW.size) hl1
  have E2 : Hid (∀ w', Below w.heap.size w w' → Calls Tryz.prog 20 #[vp] w' fun e w'' => ∃ v', e = .returned v' ∧ OwnS w'' w'.heap.size v' pl ∧ Below w'.heap.size w' w'') := fun w' hb => toTexts_any vp pl w' ((h2.below hb).up hb.size) hl2
  have H0 : Hid (Below w.heap.size w W ∧ W.heap.size = w.heap.size + 3 ∧ W.heap[w.heap.size]? = some (.cells #[.int .i64 k, ve, vp] 24 (0, 0)) ∧ W.heap[w.heap.size + 1]? = some (.cells #[.int .i64 0, .slice none 0 0, .slice none 0 0] 35 (0, 0)) ∧ W.heap[w.heap.size + 2]? = some (.cells #[.int .i64 k, .slice none 0 0, .slice none 0 0] 35 (0, 0))) := ⟨hbW, hzW, g0, g1, g2⟩
  have HW : Hid (W = ((w.alloc (.cells #[.int .i64 k, ve, vp] 24)).alloc (.cells #[.int .i64 0, .slice none 0 0, .slice none 0 0] 35)).alloc (.cells #[.int .i64 k, .slice none 0 0, .slice none 0 0] 35)) := hW
  clear h1 h2 b1 hW hbW hzW g0 g1 g2
  go_enter Tryz.func42, Tryz.ntmps42
  go_wp2_with fail
  rw [← HW.out]
  refine E1.out.mono ?_
  rintro e w1 ⟨v1, rfl, ho1, hb1⟩
  obtain ⟨rfl, hr1⟩ := id ho1
  have hz := H0.out.2.1
  have k0 := (hb1.block _ (show w.heap.size < W.heap.size by omega)).trans H0.out.2.2.1
  have k1 := (hb1.block _ (show w.heap.size + 1 < W.heap.size by omega)).trans H0.out.2.2.2.1
  have k2 := (hb1.block _ (show w.heap.size + 1 + 1 < W.heap.size by omega)).trans H0.out.2.2.2.2
  obtain ⟨⟨c0, c1, c2⟩, f0, f1, f2⟩ := three_cells (Below.refl w1.heap.size w1) (Array.getElem?_eq_some_iff.1 k0).1 k0
  obtain ⟨⟨d0, d1, d2⟩, g0, g1, g2⟩ := three_cells (Below.refl w1.heap.size w1) (Array.getElem?_eq_some_iff.1 k2).1 k2
  have hn01 : ¬ w.heap.size = w.heap.size + 1 + 1 := by omega
  have hn12 : ¬ w.heap.size + 1 = w.heap.size + 1 + 1 := by omega
  have H1 : Hid (Below w.heap.size w w1 ∧ OwnT w1 W.heap.size (.slice (some ⟨W.heap.size, 0, none⟩) el.length el.length) el ∧ W.heap.size < w1.heap.size ∧ w1.heap[w.heap.size + 1]? = some (.cells #[.int .i64 0, .slice none 0 0, .slice none 0 0] 35 (0, 0)) ∧ w1.heap[w.heap.size + 1 + 1]? = some (.cells #[.int .i64 k, .slice none 0 0, .slice none 0 0] 35 (0, 0)) ∧ W.heap.size = w.heap.size + 3) :=
    ⟨H0.out.1.trans (hb1.mono H0.out.1.size), (ho1.own hl1).1, ho1.lt, k1, k2, hz⟩
  clear ho1 hr1 hb1 k0 k1 k2 hz E1 H0 HW
  generalize W.heap.size = B1 at *
  have H2 : Hid (Below w.heap.size w (w1.setCell ⟨w.heap.size + 1 + 1, 1, none⟩ (.slice (some ⟨B1, 0, none⟩) el.length el.length)) ∧ OwnT (w1.setCell ⟨w.heap.size + 1 + 1, 1, none⟩ (.slice (some ⟨B1, 0, none⟩) el.length el.length)) B1 (.slice (some ⟨B1, 0, none⟩) el.length el.length) el ∧ B1 < (w1.setCell ⟨w.heap.size + 1 + 1, 1, none⟩ (.slice (some ⟨B1, 0, none⟩) el.length el.length)).heap.size ∧ (w1.setCell ⟨w.heap.size + 1 + 1, 1, none⟩ (.slice (some ⟨B1, 0, none⟩) el.length el.length)).heap[w.heap.size + 1]? = some (.cells #[.int .i64 0, .slice none 0 0, .slice none 0 0] 35 (0, 0)) ∧ (w1.setCell ⟨w.heap.size + 1 + 1, 1, none⟩ (.slice (some ⟨B1, 0, none⟩) el.length el.length)).heap[w.heap.size + 1 + 1]? = some (.cells #[.int .i64 k, .slice (some ⟨B1, 0, none⟩) el.length el.length, .slice none 0 0] 35 (0, 0)) ∧ B1 = w.heap.size + 3) := by
    obtain ⟨a1, a2, a3, a4, a5, a6⟩ := H1.out
    refine ⟨a1.setCell (by simp; omega) _, a2.far (by omega), by simpa [World.setCell] using a3, ?_, ?_, a6⟩
    · rw [heap_setCell_other _ _ _ _ (by simp)]; exact a4
    · rw [heap_setCell_same w1 _ 1 _ _ _ a5]; rfl
  go_wp2_with fail
  generalize w1.setCell ⟨w.heap.size + 1 + 1, 1, none⟩ (.slice (some ⟨B1, 0, none⟩) el.length el.length) = w2 at *
  clear H1 c0 c1 c2 f0 f1 f2 d0 d1 d2 g0 g1 g2
  refine (E2.out _ H2.out.1).mono ?_
  rintro e w3 ⟨v2, rfl, ho3, hb3⟩
  obtain ⟨rfl, hr3⟩ := id ho3
  have hz2 : w.heap.size + 1 + 1 < w2.heap.size := (Array.getElem?_eq_some_iff.1 H2.out.2.2.2.2.1).1
  have k1 := (hb3.block _ (show w.heap.size + 1 < w2.heap.size by omega)).trans H2.out.2.2.2.1
  have k2 := (hb3.block _ hz2).trans H2.out.2.2.2.2.1
  obtain ⟨⟨c0, c1, c2⟩, f0, f1, f2⟩ := three_cells (Below.refl w3.heap.size w3) (Array.getElem?_eq_some_iff.1 k1).1 k1
  obtain ⟨⟨d0, d1, d2⟩, g0, g1, g2⟩ := three_cells (Below.refl w3.heap.size w3) (Array.getElem?_eq_some_iff.1 k2).1 k2
  have H3 : Hid (Below w.heap.size w w3 ∧ OwnT w3 (w.heap.size + 3) (.slice (some ⟨B1, 0, none⟩) el.length el.length) el ∧ OwnT w3 w2.heap.size (.slice (some ⟨w2.heap.size, 0, none⟩) pl.length pl.length) pl ∧ B1 < w2.heap.size ∧ w2.heap.size < w3.heap.size ∧ w.heap.size + 3 ≤ w2.heap.size) :=
    ⟨H2.out.1.trans (hb3.mono H2.out.1.size), (H2.out.2.1.below hb3 (Nat.le_refl _)).lower (by have := H2.out.2.2.2.2.2; omega), (ho3.own hl2).1, H2.out.2.2.1, ho3.lt, by omega⟩
  clear ho3 hr3 hb3 k1 k2 E2 H2
  generalize w2.heap.size = B2 at *
  go_wp2
  refine bodyPost_ret (v := .agg #[.int .i64 k, .slice (some ⟨B1, 0, none⟩) el.length el.length, .slice (some ⟨B2, 0, none⟩) pl.length pl.length]) (by simp [results, Tryz.results42, go_sem, c0, c1, c2, f0, f1, f2, d0, d1, d2]) rfl ⟨_, _, B2, rfl, ?_, ?_, ?_, ?_, ?_, ?_⟩
  · obtain ⟨a1, a2, a3, a4, a5, a6⟩ := H3.out
    exact ((((a2.far (by omega)).far (by omega)).far (by omega)).far (by omega)).lower (by omega)
  · obtain ⟨a1, a2, a3, a4, a5, a6⟩ := H3.out
    exact (((a3.far (by omega)).far (by omega)).far (by omega)).far (by omega)
  · intro g hg
    obtain ⟨a1, a2, a3, a4, a5, a6⟩ := H3.out
    simp [Value.ownBlock] at hg
    omega
  · obtain ⟨a1, a2, a3, a4, a5, a6⟩ := H3.out
    omega
  · obtain ⟨a1, a2, a3, a4, a5, a6⟩ := H3.out
    simp [World.setCell]
    omega
  · obtain ⟨a1, a2, a3, a4, a5, a6⟩ := H3.out
    exact (((a1.setCell (by simp; omega) _).setCell (by simp) _).setCell (by simp) _).setCell (by simp) _
end Go.Proofs.YtcenlgfopmahcaaGreatDoor

/-
  A head that came in: its size, its copy; heads held against each other.
-/
namespace Go.Proofs.YtcenlgfopmahcaaGreatDoor
open Go.RowKit Go.Lib
set_option linter.unusedVariables false
set_option linter.unusedSimpArgs false

set_option maxHeartbeats 1000000 in
set_option maxRecDepth 10000 in
theorem szHead_any (log root : ByteArray) (size time k : Int) (ve vp : Value) (el pl : List ByteArray) (left : Int) (w : World) (h1 : TextsArg w ve el) (h2 : TextsArg w vp pl) (h0 : 0 ≤ left) (hle : left ≤ 1048576) (hlog : log.size ≤ 9223372036854775807) (hroot : root.size ≤ 9223372036854775807) :
    Calls Tryz.prog 14 #[.agg #[.string log, .int .i64 size, .string root, .int .i64 time, .int .i64 k, ve, vp], .int .i64 left] w fun e w' => ∃ r : Int, e = .returned (.int .i64 r) ∧ -1048577 ≤ r ∧ r ≤ 1048576 ∧ (r < 0 ∨ (log.size ≤ 1048576 ∧ root.size ≤ 1048576 ∧ el.length ≤ 1048576 ∧ pl.length ≤ 1048576)) ∧ Below w.heap.size w w' := by
  obtain ⟨a1, c1, rfl, _⟩ := id h1.1
  obtain ⟨a2, c2, rfl, _⟩ := id h2.1
  have hbW : Below w.heap.size w (w.alloc (.cells #[.string log, .int .i64 size, .string root, .int .i64 time, .int .i64 k, .slice a1 el.length c1, .slice a2 pl.length c2] 26)) := (Below.refl _ _).alloc (Nat.le_refl _) _
  have E1 : Hid (∀ r : Int, 0 ≤ r → r ≤ 1048576 → Calls Tryz.prog 35 #[.agg #[.int .i64 k, .slice a1 el.length c1, .slice a2 pl.length c2], .int .i64 r] (w.alloc (.cells #[.string log, .int .i64 size, .string root, .int .i64 time, .int .i64 k, .slice a1 el.length c1, .slice a2 pl.length c2] 26)) fun e w' => ∃ r : Int, e = .returned (.int .i64 r) ∧ -1048577 ≤ r ∧ r ≤ 1048576 ∧ (r < 0 ∨ (el.length ≤ 1048576 ∧ pl.length ≤ 1048576)) ∧ Below w.heap.size w w') := fun r a b =>
    (szSig_any k _ _ el pl r _ ⟨(h1.1.below hbW).up hbW.size, h1.2⟩ ⟨(h2.1.below hbW).up hbW.size, h2.2⟩ a b).mono fun e w' ⟨r, a, b, c, d, f⟩ => ⟨r, a, b, c, d, hbW.trans (f.mono hbW.size)⟩
  have HB : Hid (Below w.heap.size w (w.alloc (.cells #[.string log, .int .i64 size, .string root, .int .i64 time, .int .i64 k, .slice a1 el.length c1, .slice a2 pl.length c2] 26))) := hbW
  clear h1 h2 hbW
  by_cases hn1 : left - (log.size : Int) < 0
  · clear E1
    go_enter Tryz.func14, Tryz.ntmps14
    go_wp2
    go_ret
    exact ⟨-1, rfl, by omega, by omega, .inl (by omega), HB.out⟩
  by_cases hn2 : left - (log.size : Int) - (root.size : Int) < 0
  · clear E1
    go_enter Tryz.func14, Tryz.ntmps14
    go_wp2
    go_ret
    exact ⟨-1, rfl, by omega, by omega, .inl (by omega), HB.out⟩
  go_enter Tryz.func14, Tryz.ntmps14
  go_wp2_with fail
  refine (E1.out _ (by omega) (by omega)).mono ?_
  rintro e w1 ⟨r, rfl, hr0, hr1, hr, hb1⟩
  have HR : Hid (r < 0 ∨ (el.length ≤ 1048576 ∧ pl.length ≤ 1048576)) := hr
  have HB1 : Hid (Below w.heap.size w w1) := hb1
  clear hr E1 HB hb1
  by_cases hneg : r < 0
  · go_wp2
    go_ret
    exact ⟨-1, rfl, by omega, by omega, .inl (by omega), HB1.out⟩
  · go_wp2
    go_ret
    refine ⟨r, rfl, hr0, hr1, .inr ⟨by omega, by omega, ?_⟩, HB1.out⟩
    rcases HR.out with h | h
    · omega
    · exact h

/-- A head whose rows are the call's own: the Ends ahead of n, the Path behind it. -/
def HeadOwn (w : World) (log : ByteArray) (size : Int) (root : ByteArray) (time k : Int) (el pl : List ByteArray) (e : Ending) (w' : World) : Prop :=
  ∃ ve vp n, e = .returned (.agg #[.string log, .int .i64 size, .string root, .int .i64 time, .int .i64 k, ve, vp]) ∧ OwnT w' w.heap.size ve el ∧ OwnT w' n vp pl ∧ (∀ g, ve.ownBlock = some g → g < n) ∧ w.heap.size ≤ n ∧ n ≤ w'.heap.size ∧ Below w.heap.size w w'

set_option maxHeartbeats 4000000 in
set_option maxRecDepth 10000 in
theorem toHead_any (log root : ByteArray) (size time k : Int) (ve vp : Value) (el pl : List ByteArray) (w : World) (h1 : Texts w w.heap.size ve el) (h2 : Texts w w.heap.size vp pl) (hl1 : el.length ≤ 1048576) (hl2 : pl.length ≤ 1048576) :
    Calls Tryz.prog 21 #[.agg #[.string log, .int .i64 size, .string root, .int .i64 time, .int .i64 k, ve, vp]] w fun e w' => HeadOwn w log size root time k el pl e w' := by
  obtain ⟨a1, c1, rfl, _⟩ := id h1
  obtain ⟨a2, c2, rfl, _⟩ := id h2
  obtain ⟨W, hW⟩ : ∃ W, W = ((w.alloc (.cells #[.string log, .int .i64 size, .string root, .int .i64 time, .int .i64 k, .slice a1 el.length c1, .slice a2 pl.length c2] 26)).alloc (.cells #[.string ⟨#[]⟩, .int .i64 0, .string ⟨#[]⟩, .int .i64 0, .int .i64 0, .slice none 0 0, .slice none 0 0] 37)).alloc (.cells #[.string log, .int .i64 size, .string root, .int .i64 time, .int .i64 0, .slice none 0 0, .slice none 0 0] 37) := ⟨_, rfl⟩
  have b1 : Below w.heap.size w (w.alloc (.cells #[.string log, .int .i64 size, .string root, .int .i64 time, .int .i64 k, .slice a1 el.length c1, .slice a2 pl.length c2] 26)) := (Below.refl _ _).alloc (Nat.le_refl _) _
  have hbW : Below w.heap.size w W := by rw [hW]; exact (b1.alloc (by simp) _).alloc (by simp; omega) _
  have hzW : W.heap.size = w.heap.size + 3 := by rw [hW]; simp
  have g1 : W.heap[w.heap.size + 1]? = some (.cells #[.string ⟨#[]⟩, .int .i64 0, .string ⟨#[]⟩, .int .i64 0, .int .i64 0, .slice none 0 0, .slice none 0 0] 37 (0, 0)) := by
    rw [hW]
    exact (heap_alloc_old _ _ (by simp)).trans (heap_alloc2_new w _ _)
  have g2 : W.heap[w.heap.size + 2]? = some (.cells #[.string log, .int .i64 size, .string root, .int .i64 time, .int .i64 0, .slice none 0 0, .slice none 0 0] 37 (0, 0)) := by
    rw [hW]
    have := heap_alloc_new ((w.alloc (.cells #[.string log, .int .i64 size, .string root, .int .i64 time, .int .i64 k, .slice a1 el.length c1, .slice a2 pl.length c2] 26)).alloc (.cells #[.string ⟨#[]⟩, .int .i64 0, .string ⟨#[]⟩, .int .i64 0, .int .i64 0, .slice none 0 0, .slice none 0 0] 37)) (.cells #[.string log, .int .i64 size, .string root, .int .i64 time, .int .i64 0, .slice none 0 0, .slice none 0 0] 37)
    simpa using this
  have E1 : Hid (Calls Tryz.prog 42 #[.agg #[.int .i64 k, .slice a1 el.length c1, .slice a2 pl.length c2]] W fun e w' => SigOwn W k el pl e w') := toSig_any k _ _ el pl W ((h1.below hbW).up hbW.size) ((h2.below hbW).up hbW.size) hl1 hl2
  have H0 : Hid (Below w.heap.size w W ∧ W.heap.size = w.heap.size + 3 ∧ W.heap[w.heap.size + 1]? = some (.cells #[.string ⟨#[]⟩, .int .i64 0, .string ⟨#[]⟩, .int .i64 0, .int .i64 0, .slice none 0 0, .slice none 0 0] 37 (0, 0)) ∧ W.heap[w.heap.size + 2]? = some (.cells #[.string log, .int .i64 size, .string root, .int .i64 time, .int .i64 0, .slice none 0 0, .slice none 0 0] 37 (0, 0))) := ⟨hbW, hzW, g1, g2⟩
  have HW : Hid (W = ((w.alloc (.cells #[.string log, .int .i64 size, .string root, .int .i64 time, .int .i64 k, .slice a1 el.length c1, .slice a2 pl.length c2] 26)).alloc (.cells #[.string ⟨#[]⟩, .int .i64 0, .string ⟨#[]⟩, .int .i64 0, .int .i64 0, .slice none 0 0, .slice none 0 0] 37)).alloc (.cells #[.string log, .int .i64 size, .string root, .int .i64 time, .int .i64 0, .slice none 0 0, .slice none 0 0] 37)) := hW
  clear h1 h2 b1 hW hbW hzW g1 g2
  go_enter Tryz.func21, Tryz.ntmps21
  go_wp2_with fail
  rw [← HW.out]
  refine E1.out.mono ?_
  rintro e w1 ⟨ue, up, n, rfl, ho1, ho2, hlt, hn0, hn1, hb1⟩
  obtain ⟨a3, c3, rfl⟩ := ho1.len
  obtain ⟨a4, c4, rfl⟩ := ho2.len
  have hz := H0.out.2.1
  have k1 := (hb1.block _ (show w.heap.size + 1 < W.heap.size by omega)).trans H0.out.2.2.1
  have k2 := (hb1.block _ (show w.heap.size + 1 + 1 < W.heap.size by omega)).trans H0.out.2.2.2
  obtain ⟨⟨e0, e1, e2, e3, e4, e5, e6⟩, fe⟩ := seven_cells (Below.refl w1.heap.size w1) (Array.getElem?_eq_some_iff.1 k1).1 k1
  obtain ⟨⟨d0, d1, d2, d3, d4, d5, d6⟩, fd⟩ := seven_cells (Below.refl w1.heap.size w1) (Array.getElem?_eq_some_iff.1 k2).1 k2
  have f0 := fe 0
  have f1 := fe 1
  have f2 := fe 2
  have f3 := fe 3
  have f4 := fe 4
  have f5 := fe 5
  have f6 := fe 6
  have g4 := fd 4
  have g5 := fd 5
  have g6 := fd 6
  have hn12 : ¬ w.heap.size + 1 = w.heap.size + 1 + 1 := by omega
  have H1 : Hid (Below w.heap.size w w1 ∧ OwnT w1 (w.heap.size + 3) (.slice a3 el.length c3) el ∧ OwnT w1 n (.slice a4 pl.length c4) pl ∧ (∀ g, (Value.slice a3 el.length c3).ownBlock = some g → g < n) ∧ w.heap.size + 3 ≤ n ∧ n ≤ w1.heap.size) :=
    ⟨H0.out.1.trans (hb1.mono H0.out.1.size), by rw [← hz]; exact ho1, ho2, hlt, by rw [← hz]; exact hn0, hn1⟩
  clear ho1 ho2 hlt hn0 hn1 hb1 k1 k2 fe fd hz E1 H0 HW
  go_wp2
  refine bodyPost_ret (v := .agg #[.string log, .int .i64 size, .string root, .int .i64 time, .int .i64 k, .slice a3 el.length c3, .slice a4 pl.length c4]) (by simp [results, Tryz.results21, go_sem, d0, d1, d2, d3, d4, d5, d6, e0, e1, e2, e3, e4, e5, e6, f0, f1, f2, f3, f4, f5, f6, g4, g5, g6]) rfl ⟨_, _, n, rfl, ?_, ?_, ?_, ?_, ?_, ?_⟩
  · obtain ⟨x1, x2, x3, x4, x5, x6⟩ := H1.out
    refine OwnT.lower (B := w.heap.size + 3) ?_ (by omega)
    iterate 10 (refine OwnT.far ?_ (by omega))
    exact x2
  · obtain ⟨x1, x2, x3, x4, x5, x6⟩ := H1.out
    iterate 10 (refine OwnT.far ?_ (by omega))
    exact x3
  · exact H1.out.2.2.2.1
  · obtain ⟨x1, x2, x3, x4, x5, x6⟩ := H1.out
    omega
  · obtain ⟨x1, x2, x3, x4, x5, x6⟩ := H1.out
    simpa [World.setCell] using x6
  · obtain ⟨x1, x2, x3, x4, x5, x6⟩ := H1.out
    iterate 10 (refine Below.setCell ?_ (by simp <;> omega) _)
    exact x1

set_option maxHeartbeats 1000000 in
set_option maxRecDepth 10000 in
theorem eqHead_any (log root : ByteArray) (size time k : Int) (ve vp ue up : Value) (el pl : List ByteArray) (w : World) (h1 : Texts w w.heap.size ve el) (h2 : Texts w w.heap.size vp pl) (h3 : Texts w w.heap.size ue el) (h4 : Texts w w.heap.size up pl) (hl1 : el.length ≤ 1048577) (hl2 : pl.length ≤ 1048577) :
    Calls Tryz.prog 27 #[.agg #[.string log, .int .i64 size, .string root, .int .i64 time, .int .i64 k, ve, vp], .agg #[.string log, .int .i64 size, .string root, .int .i64 time, .int .i64 k, ue, up]] w fun e w' => e = .returned (.bool true) ∧ Below w.heap.size w w' := by
  obtain ⟨a1, c1, rfl, _⟩ := id h1
  obtain ⟨a2, c2, rfl, _⟩ := id h2
  obtain ⟨a3, c3, rfl, _⟩ := id h3
  obtain ⟨a4, c4, rfl, _⟩ := id h4
  have hb1 : Below w.heap.size w (w.alloc (.cells #[.string log, .int .i64 size, .string root, .int .i64 time, .int .i64 k, .slice a1 el.length c1, .slice a2 pl.length c2] 37)) := (Below.refl _ _).alloc (Nat.le_refl _) _
  have hb : Below w.heap.size w ((w.alloc (.cells #[.string log, .int .i64 size, .string root, .int .i64 time, .int .i64 k, .slice a1 el.length c1, .slice a2 pl.length c2] 37)).alloc (.cells #[.string log, .int .i64 size, .string root, .int .i64 time, .int .i64 k, .slice a3 el.length c3, .slice a4 pl.length c4] 37)) := hb1.alloc (by simp) _
  have E1 : Hid (Calls Tryz.prog 50 #[.agg #[.int .i64 k, .slice a1 el.length c1, .slice a2 pl.length c2], .agg #[.int .i64 k, .slice a3 el.length c3, .slice a4 pl.length c4]] ((w.alloc (.cells #[.string log, .int .i64 size, .string root, .int .i64 time, .int .i64 k, .slice a1 el.length c1, .slice a2 pl.length c2] 37)).alloc (.cells #[.string log, .int .i64 size, .string root, .int .i64 time, .int .i64 k, .slice a3 el.length c3, .slice a4 pl.length c4] 37)) fun e w' => e = .returned (.bool true) ∧ Below w.heap.size w w') :=
    (eqSig_any k _ _ _ _ el pl _ ((h1.below hb).up hb.size) ((h2.below hb).up hb.size) ((h3.below hb).up hb.size) ((h4.below hb).up hb.size) hl1 hl2).mono fun e w' h => ⟨h.1, hb.trans (h.2.mono hb.size)⟩
  clear h1 h2 h3 h4 hb hb1
  have hss : (size != size) = false := by simp
  have htt : (time != time) = false := by simp
  go_enter Tryz.func27, Tryz.ntmps27
  go_wp2_with fail
  refine E1.out.mono ?_
  rintro e w1 ⟨rfl, hb1⟩
  go_wp2
  go_ret
  exact ⟨rfl, hb1⟩
end Go.Proofs.YtcenlgfopmahcaaGreatDoor

/-
  The program's copy of a row of texts.
-/
namespace Go.Proofs.YtcenlgfopmahcaaGreatDoor
open Go.RowKit Go.Lib
set_option linter.unusedVariables false
set_option linter.unusedSimpArgs false

set_option maxHeartbeats 1000000 in
set_option maxRecDepth 10000 in
theorem copied_any (v : Value) (l : List ByteArray) (w : World) (h : Texts w w.heap.size v l) (hl : l.length ≤ 1048576) (hz : ∀ j (hj : j < l.length), l[j].size ≤ 1048576) :
    Calls Tryz.prog 68 #[v] w fun e w' => ∃ v', e = .returned v' ∧ OwnT w' w.heap.size v' l ∧ Below w.heap.size w w' := by
  obtain ⟨a, cap, rfl, hcap, hc⟩ := h.at
  have HC : Hid (∀ j (hj : j < l.length), ∃ b off, a = some ⟨b, off, none⟩ ∧ b < w.heap.size ∧ w.cell? ⟨b, off + j, none⟩ = some (.string l[j])) := hc
  have EJ : Hid (∀ t w, t.size ≤ 1048576 → Calls Tryz.prog 67 #[.string t, .string ⟨#[]⟩] w fun e w' => e = .returned (.string t) ∧ Below w.heap.size w w') := fun t w ht => by
    have := joined_any t ByteArray.empty w ht (by simp)
    rw [ByteArray.append_empty] at this
    exact this
  have HZ : Hid (∀ j (hj : j < l.length), l[j].size ≤ 1048576) := hz
  clear hc hcap h hz
  obtain ⟨n, hn⟩ : ∃ n, n = l.length := ⟨_, rfl⟩
  have HN : Hid (n = l.length) := hn
  rw [← hn] at hl ⊢
  clear hn
  go_enter Tryz.func68, Tryz.ntmps68
  go_wp2
  go_loopw [3, 8] (fun o x wr => ∃ k : Nat, k ≤ n ∧ x = .int .i64 k ∧ OwnT wr w.heap.size o (l.take k) ∧ Below w.heap.size w wr) (fun _ x _ => n - (RowKit.intOf x).toNat)
  case atStart => exact ⟨0, by omega, rfl, OwnT.nil _ _, Below.refl _ _⟩
  case round =>
    obtain ⟨k, hk, rfl, hown, hb⟩ := hrel
    by_cases hlt : k < n
    · have hkl : k < l.length := by rw [← HN.out]; exact hlt
      obtain ⟨b, off, rfl, hB, hcell⟩ := HC.out k hkl
      have hc1 : wr.cell? ⟨b, off + k, none⟩ = some (.string l[k]) := (hb.cell (p := ⟨b, off + k, none⟩) hB).trans hcell
      have F := fun W => EJ.out l[k] W (HZ.out k hkl)
      have HF : Hid (∀ W, Calls Tryz.prog 67 #[.string l[k], .string ⟨#[]⟩] W fun e w' => e = .returned (.string l[k]) ∧ Below W.heap.size W w') := F
      have HS : Hid (l.take k ++ [l[k]] = l.take (k + 1)) := by show _ = _; rw [List.take_succ_eq_append_getElem hkl]
      have hll : (l.take k).length ≤ 1048576 := by rw [List.length_take]; omega
      have HO : Hid (OwnT wr w.heap.size u3 (l.take k) ∧ Below w.heap.size w wr) := ⟨hown, hb⟩
      generalize l.take k = lk at *
      generalize l[k] = t at *
      have hkI : (k : Int) < (n : Int) := by omega
      have hk0 : (0 : Int) ≤ (k : Int) := by omega
      clear F hown hb hcell HC EJ HZ
      go_wp2_with fail
      refine (HF.out _).mono ?_
      rintro e w1 ⟨rfl, hb1⟩
      have HO1 : Hid (OwnT w1 w.heap.size u3 lk ∧ Below w.heap.size w w1) := ⟨HO.out.1.below hb1 (Nat.le_refl _), HO.out.2.trans (hb1.mono HO.out.2.size)⟩
      have hown1 := HO1.out.1
      have hszw := HO1.out.2.size
      clear hb1 HO HF hc1
      go_wp2_with (at_builtin; go_must (refine wp_app_text rfl (.tmp 12) (.tmp 15) rfl w.heap.size _ _ rfl hown1 t rfl hll hszw ?_); intro v2 w2 hown2 hb2)
      have HO2 : Hid (OwnT w2 w.heap.size v2 (l.take (k + 1)) ∧ Below w.heap.size w w2) := ⟨by rw [← HS.out]; exact hown2, HO1.out.2.trans hb2⟩
      clear hown2 hb2
      go_roundw
      case rel => exact ⟨k + 1, by omega, by go_num, HO2.out.1, HO2.out.2⟩
      case measure => simp [RowKit.intOf]; omega
    · have e : k = n := by omega
      rw [e, HN.out, List.take_of_length_le (Nat.le_refl _)] at hown
      have HO : Hid (OwnT wr w.heap.size u3 l ∧ Below w.heap.size w wr) := ⟨hown, hb⟩
      have hkI : ¬ (k : Int) < (n : Int) := by omega
      clear hown hb e HC EJ HZ
      go_wp2
      go_ret
      exact ⟨_, rfl, HO.out.1, HO.out.2⟩
end Go.Proofs.YtcenlgfopmahcaaGreatDoor

/-
  Are all texts of 32 bytes? The program's test.
-/
namespace Go.Proofs.YtcenlgfopmahcaaGreatDoor
open Go.RowKit Go.Lib
set_option linter.unusedVariables false

set_option maxHeartbeats 400000 in
theorem digests_any (v : Value) (l : List ByteArray) (w : World) (B : Nat) (h : Texts w B v l) (hl : l.length ≤ 1048576) :
    Calls Tryz.prog 60 #[v] w fun e w' => e = .returned (.bool (wideB l)) ∧ w' = w := by
  obtain ⟨a, cap, rfl, hcap, hc⟩ := h.at
  have HC : Hid (∀ j (hj : j < l.length), ∃ b off, a = some ⟨b, off, none⟩ ∧ b < B ∧ w.cell? ⟨b, off + j, none⟩ = some (.string l[j])) := hc
  clear hc h hcap
  obtain ⟨n, hn⟩ : ∃ n, n = l.length := ⟨_, rfl⟩
  have HN : Hid (n = l.length) := hn
  rw [← hn] at hl ⊢
  clear hn
  obtain ⟨W, hW⟩ : ∃ W, W = wideB l := ⟨_, rfl⟩
  rw [← hW]
  have HW : Hid (W = wideB l) := hW
  clear hW
  go_enter Tryz.func60, Tryz.ntmps60
  go_wp2
  go_loop [7] (fun i => ∃ k : Nat, k ≤ n ∧ i = .int .i64 k ∧ ∀ j (h : j < l.length), j < k → (l[j].size : Int) = 32) (fun i => n - (RowKit.intOf i).toNat)
  case atStart => exact ⟨0, Nat.zero_le _, rfl, fun j _ h => by omega⟩
  case round =>
    obtain ⟨k, hk, rfl, hall⟩ := hrel
    have HA : Hid (∀ j (h : j < l.length), j < k → (l[j].size : Int) = 32) := hall
    clear hall
    by_cases hkn : k < n
    · have hkl : k < l.length := by rw [← HN.out]; exact hkn
      obtain ⟨b, off, rfl, hB, hc⟩ := HC.out k hkl
      have HA2 : Hid ((l[k].size : Int) = 32 → ∀ j (h : j < l.length), j < k + 1 → (l[j].size : Int) = 32) := fun hr j h hj => by
        by_cases e : j = k
        · subst e; exact hr
        · exact HA.out j h (by omega)
      have HB : Hid (¬ (l[k].size : Int) = 32 → W = false) := fun h => by rw [HW.out]; exact wideB_no hkl h
      have hknI : (k : Int) < (n : Int) := by omega
      clear HC HA HN HW
      generalize l[k] = t at *
      by_cases h32 : (t.size : Int) = 32
      · go_wp2
        go_round
        case rel => exact ⟨k + 1, by omega, by go_num, HA2.out h32⟩
        case measure => simp [RowKit.intOf]; omega
      · have HF : Hid (W = false) := HB.out h32
        clear HA2 HB
        go_wp2
        go_ret
        exact ⟨ret_bool HF.out.symm, rfl⟩
    · have HF : Hid (W = true) := by
        show _ = _
        rw [HW.out]
        exact wideB_yes fun j hj => HA.out j hj (by have := HN.out; omega)
      clear HC HA HN HW
      go_wp2
      go_ret
      exact ⟨ret_bool HF.out.symm, rfl⟩
end Go.Proofs.YtcenlgfopmahcaaGreatDoor

/-
  The program's SigRight.
-/
namespace Go.Proofs.YtcenlgfopmahcaaGreatDoor
open Go.RowKit Go.Lib
set_option linter.unusedVariables false
set_option linter.unusedSimpArgs false

set_option maxHeartbeats 1000000 in
set_option maxRecDepth 10000 in
theorem implSigRight_any (k : Int) (ve vp : Value) (el pl : List ByteArray) (w : World) (h1 : Texts w w.heap.size ve el) (h2 : Texts w w.heap.size vp pl) (hl1 : el.length ≤ 1048576) (hl2 : pl.length ≤ 1048576) :
    Calls Tryz.prog 113 #[.agg #[.int .i64 k, ve, vp]] w fun e w' => e = .returned (.bool (sigRB k el pl)) ∧ Below w.heap.size w w' := by
  have E0 : Hid (∀ w, Calls Tryz.prog 128 #[.int .i64 k] w fun e w' => e = .returned (.bool (decide (0 ≤ k ∧ k ≤ 3))) ∧ w' = w) := fun w => keyRight_any k w
  obtain ⟨W, hW⟩ : ∃ W, W = w.alloc (.cells #[.int .i64 k, ve, vp] 35) := ⟨_, rfl⟩
  have hbW : Below w.heap.size w W := by rw [hW]; exact (Below.refl _ _).alloc (Nat.le_refl _) _
  have E1 : Hid (Calls Tryz.prog 60 #[ve] W fun e w' => e = .returned (.bool (wideB el)) ∧ w' = W) := digests_any ve el W w.heap.size (h1.below hbW) hl1
  have E2 : Hid (Calls Tryz.prog 60 #[vp] W fun e w' => e = .returned (.bool (wideB pl)) ∧ w' = W) := digests_any vp pl W w.heap.size (h2.below hbW) hl2
  have HB : Hid (Below w.heap.size w W) := hbW
  obtain ⟨a1, c1, rfl, _⟩ := h1
  obtain ⟨a2, c2, rfl, _⟩ := h2
  have HW : Hid (w.alloc (.cells #[.int .i64 k, .slice a1 el.length c1, .slice a2 pl.length c2] 35) = W) := hW.symm
  rw [hW] at E1 E2 HB
  clear hW hbW W HW
  by_cases hk : 0 ≤ k ∧ k ≤ 3
  · rw [decide_eq_true hk] at E0
    by_cases h6 : (el.length : Int) = 6
    · by_cases hp2 : (pl.length : Int) = 2
      · rw [sigRB_rest hk h6 hp2]
        have q1 : ((el.length : Int) != 6) = false := by simpa using h6
        have q2 : ((pl.length : Int) != 2) = false := by simpa using hp2
        clear hk h6 hp2
        cases hwe : wideB el with
        | false =>
          rw [hwe] at E1
          clear hwe
          go_enter Tryz.func113, Tryz.ntmps113
          go_wp2_with fail
          refine (E0.out _).mono ?_
          rintro e w0 ⟨rfl, rfl⟩
          clear E0
          go_wp2_with fail
          refine E1.out.mono ?_
          rintro e w1 ⟨rfl, rfl⟩
          go_wp2
          go_ret
          exact ⟨rfl, HB.out⟩
        | true =>
          rw [hwe] at E1
          clear hwe
          go_enter Tryz.func113, Tryz.ntmps113
          go_wp2_with fail
          refine (E0.out _).mono ?_
          rintro e w0 ⟨rfl, rfl⟩
          clear E0
          go_wp2_with fail
          refine E1.out.mono ?_
          rintro e w1 ⟨rfl, rfl⟩
          go_wp2_with fail
          refine E2.out.mono ?_
          rintro e w2 ⟨rfl, rfl⟩
          go_wp2
          go_ret
          exact ⟨rfl, HB.out⟩
      · rw [sigRB_path hk h6 hp2]
        have q1 : ((el.length : Int) != 6) = false := by simpa using h6
        have q2 : ((pl.length : Int) != 2) = true := by simpa using hp2
        clear hk h6 hp2
        go_enter Tryz.func113, Tryz.ntmps113
        go_wp2_with fail
        refine (E0.out _).mono ?_
        rintro e w0 ⟨rfl, rfl⟩
        clear E0
        go_wp2
        go_ret
        exact ⟨rfl, HB.out⟩
    · rw [sigRB_ends hk h6]
      have q1 : ((el.length : Int) != 6) = true := by simpa using h6
      clear hk h6
      go_enter Tryz.func113, Tryz.ntmps113
      go_wp2_with fail
      refine (E0.out _).mono ?_
      rintro e w0 ⟨rfl, rfl⟩
      clear E0
      go_wp2
      go_ret
      exact ⟨rfl, HB.out⟩
  · rw [decide_eq_false hk] at E0
    rw [sigRB_key hk]
    clear hk
    go_enter Tryz.func113, Tryz.ntmps113
    go_wp2_with fail
    refine (E0.out _).mono ?_
    rintro e w0 ⟨rfl, rfl⟩
    clear E0
    go_wp2
    go_ret
    exact ⟨rfl, HB.out⟩
end Go.Proofs.YtcenlgfopmahcaaGreatDoor

/-
  The program's HeadRight.
-/
namespace Go.Proofs.YtcenlgfopmahcaaGreatDoor
open Go.RowKit Go.Lib
set_option linter.unusedVariables false
set_option linter.unusedSimpArgs false

set_option maxHeartbeats 400000 in
theorem timeRight_any (k : Int) (w : World) :
    Calls Tryz.prog 127 #[.int .i64 k] w fun e w' => e = .returned (.bool (decide (0 ≤ k ∧ k ≤ 1000000000))) ∧ w' = w := by
  by_cases h1 : 0 ≤ k
  · by_cases h2 : k ≤ 1000000000
    · rw [decide_eq_true ⟨h1, by omega⟩]
      go_enter Tryz.func127, Tryz.ntmps127
      go_wp2
      go_ret
      exact ⟨rfl, rfl⟩
    · rw [decide_eq_false (fun h => by omega)]
      go_enter Tryz.func127, Tryz.ntmps127
      go_wp2
      go_ret
      exact ⟨rfl, rfl⟩
  · rw [decide_eq_false (fun h => h1 h.1)]
    go_enter Tryz.func127, Tryz.ntmps127
    go_wp2
    go_ret
    exact ⟨rfl, rfl⟩

set_option maxHeartbeats 1000000 in
set_option maxRecDepth 10000 in
theorem claimOf_any (log root : ByteArray) (size time k : Int) (a1 a2 : Option Addr) (n1 c1 n2 c2 : Nat) (w : World) :
    Calls Tryz.prog 83 #[.agg #[.string log, .int .i64 size, .string root, .int .i64 time, .int .i64 k, .slice a1 n1 c1, .slice a2 n2 c2]] w fun e w' => e = .returned (.agg #[.string log, .int .i64 size, .string root, .int .i64 time]) ∧ Below w.heap.size w w' := by
  go_enter Tryz.func83, Tryz.ntmps83
  go_wp2
  refine bodyPost_ret (v := .agg #[.string log, .int .i64 size, .string root, .int .i64 time]) (by simp [results, Tryz.results83, go_sem]) rfl ⟨rfl, ?_⟩
  exact ((Below.refl _ _).alloc (Nat.le_refl _) _).alloc (by simp) _

set_option maxHeartbeats 2000000 in
set_option maxRecDepth 10000 in
theorem claimRight_any (log root : ByteArray) (size time : Int) (w : World) (hlog : log.size ≤ 1048576) (hroot : root.size ≤ 1048576) :
    Calls Tryz.prog 112 #[.agg #[.string log, .int .i64 size, .string root, .int .i64 time]] w fun e w' => e = .returned (.bool (claimB log size root time)) ∧ Below w.heap.size w w' := by
  have E0 : Hid (∀ w, Calls Tryz.prog 59 #[.string log] w fun e w' => e = .returned (.bool (nameB log)) ∧ w' = w) := fun w => (implName_any log w (by unfold maxLen; omega)).mono fun e w' h => ⟨h.1.name, h.2⟩
  have E3 : Hid (∀ w, Calls Tryz.prog 127 #[.int .i64 time] w fun e w' => e = .returned (.bool (decide (0 ≤ time ∧ time ≤ 1000000000))) ∧ w' = w) := fun w => timeRight_any time w
  have E2 : Hid (Calls Tryz.prog 60 #[.slice (some ⟨w.heap.size + 1, 0, none⟩) 1 1] ((w.alloc (.cells #[.string log, .int .i64 size, .string root, .int .i64 time] 113)).alloc (.cells #[.string root] 9)) fun e w' => e = .returned (.bool (decide ((root.size : Int) = 32))) ∧ w' = (w.alloc (.cells #[.string log, .int .i64 size, .string root, .int .i64 time] 113)).alloc (.cells #[.string root] 9)) := by
    have h := one_textH (w.alloc (.cells #[.string log, .int .i64 size, .string root, .int .i64 time] 113)) root
    have hz : (w.alloc (.cells #[.string log, .int .i64 size, .string root, .int .i64 time] 113)).heap.size = w.heap.size + 1 := by simp
    rw [hz] at h
    rw [← wideB_one]
    exact digests_any _ [root] _ _ h (by simp)
  have HB : Hid (Below w.heap.size w (w.alloc (.cells #[.string log, .int .i64 size, .string root, .int .i64 time] 113))) := (Below.refl _ _).alloc (Nat.le_refl _) _
  have HB2 : Hid (Below w.heap.size w ((w.alloc (.cells #[.string log, .int .i64 size, .string root, .int .i64 time] 113)).alloc (.cells #[.string root] 9))) := HB.out.alloc (by simp) _
  unfold claimB
  generalize nameB log = bn at *
  generalize decide (0 ≤ time ∧ time ≤ 1000000000) = bt at *
  generalize decide ((root.size : Int) = 32) = br at *
  cases bn with
  | false =>
    go_enter Tryz.func112, Tryz.ntmps112
    go_wp2_with fail
    refine (E0.out _).mono ?_
    rintro e w0 ⟨rfl, rfl⟩
    go_wp2
    go_ret
    exact ⟨rfl, HB.out⟩
  | true =>
    by_cases hz0 : 0 ≤ size
    · by_cases hz1 : size ≤ 64
      · rw [decide_eq_true ⟨hz0, hz1⟩]
        cases br with
        | false =>
          go_enter Tryz.func112, Tryz.ntmps112
          go_wp2_with fail
          refine (E0.out _).mono ?_
          rintro e w0 ⟨rfl, rfl⟩
          go_wp2_with fail
          refine E2.out.mono ?_
          rintro e w0 ⟨rfl, rfl⟩
          go_wp2
          go_ret
          exact ⟨rfl, HB2.out⟩
        | true =>
          go_enter Tryz.func112, Tryz.ntmps112
          go_wp2_with fail
          refine (E0.out _).mono ?_
          rintro e w0 ⟨rfl, rfl⟩
          go_wp2_with fail
          refine E2.out.mono ?_
          rintro e w0 ⟨rfl, rfl⟩
          go_wp2_with fail
          refine (E3.out _).mono ?_
          rintro e w0 ⟨rfl, rfl⟩
          go_wp2
          go_ret
          exact ⟨rfl, HB2.out⟩
      · rw [decide_eq_false (fun h => hz1 h.2)]
        go_enter Tryz.func112, Tryz.ntmps112
        go_wp2_with fail
        refine (E0.out _).mono ?_
        rintro e w0 ⟨rfl, rfl⟩
        go_wp2
        go_ret
        exact ⟨rfl, HB.out⟩
    · rw [decide_eq_false (fun h => hz0 h.1)]
      go_enter Tryz.func112, Tryz.ntmps112
      go_wp2_with fail
      refine (E0.out _).mono ?_
      rintro e w0 ⟨rfl, rfl⟩
      go_wp2
      go_ret
      exact ⟨rfl, HB.out⟩

set_option maxHeartbeats 2000000 in
set_option maxRecDepth 10000 in
theorem implHeadRight_any (log root : ByteArray) (size time k : Int) (ve vp : Value) (el pl : List ByteArray) (w : World) (h1 : Texts w w.heap.size ve el) (h2 : Texts w w.heap.size vp pl) (hl1 : el.length ≤ 1048576) (hl2 : pl.length ≤ 1048576) (hlog : log.size ≤ 1048576) (hroot : root.size ≤ 1048576) :
    Calls Tryz.prog 96 #[.agg #[.string log, .int .i64 size, .string root, .int .i64 time, .int .i64 k, ve, vp]] w fun e w' => e = .returned (.bool (headRB log size root time k el pl)) ∧ Below w.heap.size w w' := by
  obtain ⟨a1, c1, rfl, _⟩ := id h1
  obtain ⟨a2, c2, rfl, _⟩ := id h2
  have E0 : Hid (∀ w, Calls Tryz.prog 83 #[.agg #[.string log, .int .i64 size, .string root, .int .i64 time, .int .i64 k, .slice a1 el.length c1, .slice a2 pl.length c2]] w fun e w' => e = .returned (.agg #[.string log, .int .i64 size, .string root, .int .i64 time]) ∧ Below w.heap.size w w') := fun w => claimOf_any _ _ _ _ _ _ _ _ _ _ _ w
  have E1 : Hid (∀ w, Calls Tryz.prog 112 #[.agg #[.string log, .int .i64 size, .string root, .int .i64 time]] w fun e w' => e = .returned (.bool (claimB log size root time)) ∧ Below w.heap.size w w') := fun w => claimRight_any _ _ _ _ w hlog hroot
  have E2 : Hid (∀ w', Below w.heap.size w w' → Calls Tryz.prog 113 #[.agg #[.int .i64 k, .slice a1 el.length c1, .slice a2 pl.length c2]] w' fun e w'' => e = .returned (.bool (sigRB k el pl)) ∧ Below w'.heap.size w' w'') := fun w' hb => implSigRight_any k _ _ el pl w' ((h1.below hb).up hb.size) ((h2.below hb).up hb.size) hl1 hl2
  obtain ⟨W, hW⟩ : ∃ W, W = w.alloc (.cells #[.string log, .int .i64 size, .string root, .int .i64 time, .int .i64 k, .slice a1 el.length c1, .slice a2 pl.length c2] 37) := ⟨_, rfl⟩
  have H0 : Hid (Below w.heap.size w W ∧ W.heap[w.heap.size]? = some (.cells #[.string log, .int .i64 size, .string root, .int .i64 time, .int .i64 k, .slice a1 el.length c1, .slice a2 pl.length c2] 37 (0, 0)) ∧ w.heap.size < W.heap.size) := by
    rw [hW]
    exact ⟨(Below.refl _ _).alloc (Nat.le_refl _) _, heap_alloc_new w _, by simp⟩
  have HW : Hid (W = w.alloc (.cells #[.string log, .int .i64 size, .string root, .int .i64 time, .int .i64 k, .slice a1 el.length c1, .slice a2 pl.length c2] 37)) := hW
  clear hW h1 h2
  unfold headRB
  generalize claimB log size root time = bc at *
  generalize sigRB k el pl = bs at *
  go_enter Tryz.func96, Tryz.ntmps96
  go_wp2_with fail
  rw [← HW.out]
  refine (E0.out _).mono ?_
  rintro e w1 ⟨rfl, hb1⟩
  go_wp2_with fail
  refine (E1.out _).mono ?_
  rintro e w2 ⟨rfl, hb2⟩
  have hb : Below W.heap.size W w2 := hb1.trans (hb2.mono hb1.size)
  obtain ⟨⟨_, _, _, _, c4, c5, c6⟩, _⟩ := seven_cells hb H0.out.2.2 H0.out.2.1
  have H2 : Hid (Below w.heap.size w w2) := H0.out.1.trans (hb.mono H0.out.1.size)
  clear hb1 hb2 hb H0 E0 E1 HW
  cases bc with
  | false =>
    go_wp2
    go_ret
    exact ⟨rfl, H2.out⟩
  | true =>
    go_wp2_with fail
    refine (E2.out _ H2.out).mono ?_
    rintro e w3 ⟨rfl, hb3⟩
    go_wp2
    go_ret
    exact ⟨rfl, H2.out.trans (hb3.mono H2.out.size)⟩
end Go.Proofs.YtcenlgfopmahcaaGreatDoor

/-
  Has a watcher a right log and a right key? The program's test.
-/
namespace Go.Proofs.YtcenlgfopmahcaaGreatDoor
open Go.RowKit Go.Lib
set_option linter.unusedVariables false
set_option linter.unusedSimpArgs false

/-- A watcher's log and key are right. -/
def namedB (log key : ByteArray) : Bool := nameB log && decide ((key.size : Int) = 32)

set_option maxHeartbeats 2000000 in
set_option maxRecDepth 10000 in
theorem named_any (log key : ByteArray) (w : World) (hlog : log.size ≤ 1048576) :
    Calls Tryz.prog 43 #[.agg #[.string log, .string key]] w fun e w' => e = .returned (.bool (namedB log key)) ∧ Below w.heap.size w w' := by
  have E0 : Hid (∀ w, Calls Tryz.prog 59 #[.string log] w fun e w' => e = .returned (.bool (nameB log)) ∧ w' = w) := fun w => (implName_any log w (by unfold maxLen; omega)).mono fun e w' h => ⟨h.1.name, h.2⟩
  have E2 : Hid (Calls Tryz.prog 60 #[.slice (some ⟨w.heap.size + 1, 0, none⟩) 1 1] ((w.alloc (.cells #[.string log, .string key] 77)).alloc (.cells #[.string key] 9)) fun e w' => e = .returned (.bool (decide ((key.size : Int) = 32))) ∧ w' = (w.alloc (.cells #[.string log, .string key] 77)).alloc (.cells #[.string key] 9)) := by
    have h := one_textH (w.alloc (.cells #[.string log, .string key] 77)) key
    have hz : (w.alloc (.cells #[.string log, .string key] 77)).heap.size = w.heap.size + 1 := by simp
    rw [hz] at h
    rw [← wideB_one]
    exact digests_any _ [key] _ _ h (by simp)
  have HB : Hid (Below w.heap.size w (w.alloc (.cells #[.string log, .string key] 77))) := (Below.refl _ _).alloc (Nat.le_refl _) _
  have HB2 : Hid (Below w.heap.size w ((w.alloc (.cells #[.string log, .string key] 77)).alloc (.cells #[.string key] 9))) := HB.out.alloc (by simp) _
  unfold namedB
  generalize nameB log = bn at *
  generalize decide ((key.size : Int) = 32) = br at *
  cases bn with
  | false =>
    go_enter Tryz.func43, Tryz.ntmps43
    go_wp2_with fail
    refine (E0.out _).mono ?_
    rintro e w0 ⟨rfl, rfl⟩
    go_wp2
    go_ret
    exact ⟨rfl, HB.out⟩
  | true =>
    cases br with
    | false =>
      go_enter Tryz.func43, Tryz.ntmps43
      go_wp2_with fail
      refine (E0.out _).mono ?_
      rintro e w0 ⟨rfl, rfl⟩
      go_wp2_with fail
      refine E2.out.mono ?_
      rintro e w0 ⟨rfl, rfl⟩
      go_wp2
      go_ret
      exact ⟨rfl, HB2.out⟩
    | true =>
      go_enter Tryz.func43, Tryz.ntmps43
      go_wp2_with fail
      refine (E0.out _).mono ?_
      rintro e w0 ⟨rfl, rfl⟩
      go_wp2_with fail
      refine E2.out.mono ?_
      rintro e w0 ⟨rfl, rfl⟩
      go_wp2
      go_ret
      exact ⟨rfl, HB2.out⟩
end Go.Proofs.YtcenlgfopmahcaaGreatDoor
