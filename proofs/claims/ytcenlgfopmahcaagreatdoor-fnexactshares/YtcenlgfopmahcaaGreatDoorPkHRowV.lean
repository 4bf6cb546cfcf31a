/-
  Rows of heads of a call's own; the blocks that heads' texts lie in.
-/
import Derived.Test.YtcenlgfopmahcaaGreatDoorPkCopyHead
import Derived.Test.YtcenlgfopmahcaaGreatDoorPkTextRows
import Derived.Laws.AppendOwn
namespace Go.Proofs.YtcenlgfopmahcaaGreatDoor
open Go.RowKit Go.Lib
set_option linter.unusedVariables false
set_option linter.unusedSimpArgs false

/-- The blocks of a row's value, and of the texts of heads. -/
def blk (v : Value) : List Nat := v.ownBlock.toList
def blks (l : List Hv) : List Nat := l.flatMap fun q => blk q.e ++ blk q.p
theorem mem_blk {v : Value} {g : Nat} : g ∈ blk v ↔ v.ownBlock = some g := by
  unfold blk
  cases h : v.ownBlock <;> simp [eq_comm]
theorem blk_nodup (v : Value) : (blk v).Nodup := by
  unfold blk
  cases h : v.ownBlock <;> simp
theorem mem_blks {l : List Hv} {q : Hv} (hq : q ∈ l) {g : Nat} (hg : g ∈ blk q.e ++ blk q.p) : g ∈ blks l := List.mem_flatMap.2 ⟨q, hq, hg⟩
theorem blks_snoc {l : List Hv} {q : Hv} (h : (blks l).Nodup) (h1 : ∀ g, q.e.ownBlock = some g → q.p.ownBlock ≠ some g) (h2 : ∀ a ∈ blks l, ∀ b ∈ blk q.e ++ blk q.p, a ≠ b) : (blks (l ++ [q])).Nodup := by
  unfold blks at h h2 ⊢
  rw [List.flatMap_append, List.flatMap_cons, List.flatMap_nil, List.append_nil, List.nodup_append]
  refine ⟨h, ?_, h2⟩
  rw [List.nodup_append]
  exact ⟨blk_nodup _, blk_nodup _, fun a ha b hb e => h1 a (mem_blk.1 ha) (by rw [e]; exact mem_blk.1 hb)⟩
/-- A row of heads that is the call's own, or none. -/
def HRow (X : World) (A : Nat) (v : Value) (l : List Hv) : Prop := X.ownsRow A 37 7 v l.length (l.flatMap Hv.cells)
theorem cells_len (q : Hv) : q.cells.length = 7 := rfl
theorem flat_at : ∀ (l : List Hv) (j i : Nat) (hj : j < l.length) (v : Value), l[j].cells[i]? = some v → (l.flatMap Hv.cells)[j * 7 + i]? = some v
  | q :: r, 0, i, hj, v, h => by
    have hi : i < q.cells.length := (List.getElem?_eq_some_iff.1 h).1
    simp only [List.flatMap_cons, Nat.zero_mul, Nat.zero_add]
    rw [List.getElem?_append_left hi]
    exact h
  | q :: r, j + 1, i, hj, v, h => by
    have hj' : j < r.length := by simpa using hj
    have e : (j + 1) * 7 + i = 7 + (j * 7 + i) := by omega
    simp only [List.flatMap_cons, List.getElem_cons_succ] at h ⊢
    rw [e, List.getElem?_append_right (by rw [cells_len]; omega), cells_len, Nat.add_sub_cancel_left]
    exact flat_at r j i hj' v h
theorem flat_len : ∀ l : List Hv, (l.flatMap Hv.cells).length = l.length * 7
  | [] => rfl
  | q :: r => by rw [List.flatMap_cons, List.length_append, flat_len r, cells_len, List.length_cons]; omega
/-- A block whose cells are heads', one behind the other. -/
theorem HRow.of_at {X : World} {A g : Nat} {l : List Hv} {cur : Array Value} (hA : A ≤ g) (hg : X.heap[g]? = some (.cells cur 37 (0, 0))) (hs : cur.size = l.length * 7) (hl : l.length ≤ 1048576) (hat : ∀ j (hj : j < l.length), l[j].At X g (j * 7)) : HRow X A (.slice (some ⟨g, 0, none⟩) l.length l.length) l := by
  refine ⟨flat_len l, .inr ⟨g, l.length, cur, rfl, hA, hg, Nat.le_refl _, by unfold maxLen; omega, hs, ?_⟩⟩
  rw [List.take_of_length_le (by rw [Array.length_toList, hs]; exact Nat.le_refl _)]
  apply List.ext_getElem?
  intro m
  by_cases hm : m < l.length * 7
  · have hj : m / 7 < l.length := by omega
    have hi : m % 7 < l[m / 7].cells.length := by rw [cells_len]; omega
    have h1 := flat_at l (m / 7) (m % 7) hj _ (List.getElem?_eq_getElem hi)
    have h2 := hat (m / 7) hj (m % 7) _ (List.getElem?_eq_getElem hi)
    have em : m / 7 * 7 + m % 7 = m := by omega
    rw [em] at h1 h2
    rw [cell_of_row X g m cur 37 (0, 0) hg] at h2
    rw [h1, Array.getElem?_toList]
    exact h2
  · rw [List.getElem?_eq_none (by rw [Array.length_toList, hs]; omega), List.getElem?_eq_none (by rw [flat_len]; omega)]
/-- A row of the call's own holds its heads. -/
theorem HRow.heads {X : World} {A : Nat} {v : Value} {l : List Hv} (h : HRow X A v l) (ho : ∀ j (hj : j < l.length), OwnT X A l[j].e l[j].x.el ∧ OwnT X A l[j].p l[j].x.pl) : Heads X X.heap.size v l := by
  refine ⟨?_, fun j hj => ⟨(ho j hj).1.texts, (ho j hj).2.texts⟩⟩
  have hc := fun g => World.ownsRow.cells (g := g) h
  rcases h.2 with ⟨rfl, h0⟩ | ⟨g, cap, cur, rfl, hB, hg, hnc, _⟩
  · exact ⟨none, 0, by rw [h0], by omega, .inl h0⟩
  · refine ⟨_, cap, rfl, hnc, .inr ⟨g, 0, rfl, (Array.getElem?_eq_some_iff.1 hg).1, fun j hj i v hv => ?_⟩⟩
    have h1 := hc g rfl (j * 7 + i) v (flat_at l j i hj v hv)
    have hadd : (⟨g, 0, none⟩ : Addr).add (j * 7 + i) = ⟨g, j * 7 + i, none⟩ := by unfold Addr.add; split <;> simp_all
    rw [hadd] at h1
    rw [Nat.zero_add]
    exact h1
end Go.Proofs.YtcenlgfopmahcaaGreatDoor
