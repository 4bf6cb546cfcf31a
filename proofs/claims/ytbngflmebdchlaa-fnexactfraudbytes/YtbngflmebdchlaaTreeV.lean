/-
  The digest of nothing; the tree of entries.
-/
import Derived.Test.YtbngflmebdchlaaTreeB
namespace Go.Proofs.Ytbngflmebdchlaa
set_option linter.unusedVariables false

/-- The digest of nothing. -/
def noneB : ByteArray := shaB ByteArray.empty
/-- The tree of entries. -/
def treeB (l : List ByteArray) : ByteArray := treeD nodeB noneB (l.map leafB)
theorem treeB_none {l : List ByteArray} (h : l.length = 0) : treeB l = noneB := by
  obtain rfl := List.eq_nil_of_length_eq_zero h
  simp [treeB, treeD_nil]
theorem treeB_one {l : List ByteArray} (h : l.length = 1) (h0 : 0 < l.length) : treeB l = leafB l[0] := by
  match l, h with
  | [x], _ => exact treeD_one nodeB noneB (leafB x)
theorem treeB_more {l : List ByteArray} (h : 2 ≤ l.length) : treeB l = nodeB (treeB (l.take (half l.length))) (treeB (l.drop (half l.length))) := by
  unfold treeB
  rw [treeD_more nodeB noneB (l := l.map leafB) (by simpa using h), List.length_map, List.map_take, List.map_drop]
theorem noneB_size : noneB.size = 32 := shaB_size _
theorem treeB_size (l : List ByteArray) : (treeB l).size = 32 := by
  rcases Nat.lt_or_ge l.length 2 with h | h
  · by_cases h0 : l.length = 0
    · rw [treeB_none h0, noneB_size]
    · rw [treeB_one (by omega) (by omega), leafB_size]
  · rw [treeB_more h, nodeB_size]
end Go.Proofs.Ytbngflmebdchlaa
