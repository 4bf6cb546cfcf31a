/-
  A range that lies in a struct of the call's own, its nodes in a row of the call's own.
-/
import Derived.Test.YtollfcjbcfnfdaaDoorPkStepLaws
import Derived.Test.YtollfcjbcfnfdaaDoorPkImplNode
namespace Go.Proofs.YtollfcjbcfnfdaaDoor
open Go.RowKit Go.Lib
set_option linter.unusedVariables false
set_option linter.unusedSimpArgs false

theorem addB_even {m : Nat} (cur : List ByteArray) (h : ByteArray) (hm : ¬ m % 2 = 1) : addB m cur h = cur ++ [h] := by
  unfold addB
  rw [addR_even nodeB _ h hm, List.reverse_cons, List.reverse_reverse]
theorem addB_odd {m : Nat} {cur : List ByteArray} (h : ByteArray) (hm : m % 2 = 1) (hl : cur.length = onesN m) : ∃ c' x, cur = c' ++ [x] ∧ addB m cur h = addB (m / 2) c' (nodeB x h) ∧ c'.length = onesN (m / 2) := by
  have hs := onesN_step m
  have hne : cur ≠ [] := by intro e; rw [e] at hl; simp at hl; omega
  have e := (List.dropLast_concat_getLast hne).symm
  refine ⟨cur.dropLast, cur.getLast hne, e, ?_, ?_⟩
  · generalize cur.dropLast = c' at *
    generalize cur.getLast hne = x at *
    rw [e]
    unfold addB
    rw [List.reverse_append, List.reverse_cons, List.reverse_nil, List.nil_append, List.singleton_append, addR_odd nodeB x c'.reverse h hm]
  · rw [List.length_dropLast]
    omega
/-- At p lies a range of the call's own: its Size, its nodes. -/
def OutAt (W : World) (size : Int) (p : Nat) (v : Value) (l : List ByteArray) (wx : World) : Prop :=
  wx.heap[p]? = some (.cells #[.int .i64 size, v] 30 (0, 0)) ∧ OwnT wx W.heap.size v l ∧ Below W.heap.size W wx ∧ W.heap.size ≤ p
theorem rangeNotText : (30 : TypeId) ≠ 9 := by decide
theorem OutAt.made {W w : World} {size : Int} {v : Value} {l : List ByteArray} (ho : OwnT w W.heap.size v l) (hb : Below W.heap.size W w) :
    OutAt W size w.heap.size v l (w.alloc (.cells #[.int .i64 size, v] 30)) :=
  ⟨heap_alloc_new w _, ho.below ((Below.refl w.heap.size w).alloc (Nat.le_refl _) _) (Nat.le_refl _), hb.alloc hb.size _, hb.size⟩
theorem heap_set_second {w : World} {p : Nat} {x y b : Value} {t : TypeId} (hp : w.heap[p]? = some (.cells #[x, y] t (0, 0))) :
    (w.setCell ⟨p, 1, none⟩ b).heap[p]? = some (.cells #[x, b] t (0, 0)) := by
  have hlt := (Array.getElem?_eq_some_iff.1 hp).1
  have h1 : w.heap[p] = .cells #[x, y] t (0, 0) := (Array.getElem?_eq_some_iff.1 hp).2
  simp [World.setCell, hlt, Array.getElem_modify, h1]
theorem heap_set_first {w : World} {p : Nat} {x y b : Value} {t : TypeId} (hp : w.heap[p]? = some (.cells #[x, y] t (0, 0))) :
    (w.setCell ⟨p, 0, none⟩ b).heap[p]? = some (.cells #[b, y] t (0, 0)) := by
  have hlt := (Array.getElem?_eq_some_iff.1 hp).1
  have h1 : w.heap[p] = .cells #[x, y] t (0, 0) := (Array.getElem?_eq_some_iff.1 hp).2
  simp [World.setCell, hlt, Array.getElem_modify, h1]
theorem heap_set_two {w : World} {p : Nat} {x y a b : Value} {t : TypeId} (hp : w.heap[p]? = some (.cells #[x, y] t (0, 0))) :
    ((w.setCell ⟨p, 0, none⟩ a).setCell ⟨p, 1, none⟩ b).heap[p]? = some (.cells #[a, b] t (0, 0)) := heap_set_second (heap_set_first hp)
theorem OutAt.sets {W w : World} {size : Int} {p : Nat} {x y v : Value} {l : List ByteArray} (hp : w.heap[p]? = some (.cells #[x, y] 30 (0, 0))) (ho : OwnT w W.heap.size v l) (hb : Below W.heap.size W w) (hB : W.heap.size ≤ p) :
    OutAt W size p v l ((w.setCell ⟨p, 0, none⟩ (.int .i64 size)).setCell ⟨p, 1, none⟩ v) :=
  ⟨heap_set_two hp, (ho.setOther hp rangeNotText).setOther (heap_set_first hp) rangeNotText, (hb.setCell hB _).setCell hB _, hB⟩
/-- The row of the range stored anew. -/
theorem OutAt.row {W w : World} {size : Int} {p : Nat} {v v' : Value} {l l' : List ByteArray} (h : OutAt W size p v l w) (ho : OwnT w W.heap.size v' l') : OutAt W size p v' l' (w.setCell ⟨p, 1, none⟩ v') :=
  ⟨heap_set_second h.1, ho.setOther h.1 rangeNotText, h.2.2.1.setCell h.2.2.2 _, h.2.2.2⟩
theorem OutAt.size {W w : World} {size size' : Int} {p : Nat} {v : Value} {l : List ByteArray} (h : OutAt W size p v l w) : OutAt W size' p v l (w.setCell ⟨p, 0, none⟩ (.int .i64 size')) :=
  ⟨heap_set_first h.1, h.2.1.setOther h.1 rangeNotText, h.2.2.1.setCell h.2.2.2 _, h.2.2.2⟩
theorem OutAt.below {W w w' : World} {size : Int} {p : Nat} {v : Value} {l : List ByteArray} (h : OutAt W size p v l w) (hb : Below w.heap.size w w') : OutAt W size p v l w' :=
  ⟨(hb.block p (Array.getElem?_eq_some_iff.1 h.1).1).trans h.1, h.2.1.below hb (Nat.le_refl _), h.2.2.1.trans (hb.mono h.2.2.1.size), h.2.2.2⟩
theorem OutAt.drew {W w : World} {size : Int} {p : Nat} {v : Value} {l : List ByteArray} (h : OutAt W size p v l w) : OutAt W size p v l w.drew := ⟨h.1, h.2.1, below_drew' h.2.2.1, h.2.2.2⟩
end Go.Proofs.YtollfcjbcfnfdaaDoor
