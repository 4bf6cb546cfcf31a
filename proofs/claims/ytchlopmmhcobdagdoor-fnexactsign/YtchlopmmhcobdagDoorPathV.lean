/-
  The path of an entry, the proof of the first ones: what is told.
-/
import Derived.Test.YtchlopmmhcobdagDoorRight
import Derived.Test.YtchlopmmhcobdagDoorProofPure
namespace Go.Proofs.YtchlopmmhcobdagDoor
open Go.RowKit Go.Lib
set_option linter.unusedVariables false

def pathB (l : List ByteArray) (i : Nat) : List ByteArray := pathD nodeB noneB (l.map leafB) i
theorem pathB_one {l : List ByteArray} (i : Nat) (h : l.length = 1) : pathB l i = [] := pathD_one nodeB noneB i (by simp; omega)
theorem pathB_left {l : List ByteArray} {i : Nat} (h : 2 ≤ l.length) (hi : i < half l.length) : pathB l i = pathB (l.take (half l.length)) i ++ [treeB (l.drop (half l.length))] := by
  unfold pathB treeB
  rw [pathD_left nodeB noneB (by simpa using h) (by simpa using hi), List.length_map, List.map_take, List.map_drop]
theorem pathB_right {l : List ByteArray} {i : Nat} (h : 2 ≤ l.length) (hi : ¬ i < half l.length) : pathB l i = pathB (l.drop (half l.length)) (i - half l.length) ++ [treeB (l.take (half l.length))] := by
  unfold pathB treeB
  rw [pathD_right nodeB noneB (by simpa using h) (by simpa using hi), List.length_map, List.map_take, List.map_drop]
theorem pathB_len (n : Nat) : ∀ (l : List ByteArray) (i : Nat), l.length = n → (pathB l i).length ≤ n := by
  induction n using Nat.strongRecOn with
  | ind n ih =>
    intro l i hn
    by_cases h : l.length < 2
    · rw [pathB, pathD_one nodeB noneB i (by simpa using h)]; simp
    · obtain ⟨e, he, hk1, hk2⟩ := half_spec (show 2 ≤ l.length by omega)
      have hp := Nat.two_pow_pos e
      by_cases hi : i < half l.length
      · have := ih (half l.length) (by omega) (l.take (half l.length)) i (by rw [List.length_take]; omega)
        rw [pathB_left (by omega) hi, List.length_append, List.length_singleton]
        omega
      · have := ih (n - half l.length) (by omega) (l.drop (half l.length)) (i - half l.length) (by rw [List.length_drop]; omega)
        rw [pathB_right (by omega) hi, List.length_append, List.length_singleton]
        omega
/-- What PathOf tells. -/
def pathV (l : List ByteArray) (i : Int) : List ByteArray := if rightB l = true ∧ 0 ≤ i ∧ i < (l.length : Int) then pathB l i.toNat else []

def proofB (m : Nat) (l : List ByteArray) (whole : Bool) : List ByteArray := proofD nodeB noneB m (l.map leafB) whole
theorem proofB_all {m : Nat} {l : List ByteArray} (w : Bool) (h : m = l.length) : proofB m l w = if w then [] else [treeB l] := by
  have := proofD_all nodeB noneB (l.map leafB) w
  rw [List.length_map] at this
  rw [proofB, h, this]
  rfl
theorem proofB_left {m : Nat} {l : List ByteArray} (w : Bool) (h : 2 ≤ l.length) (hm : m < l.length) (hk : m ≤ half l.length) : proofB m l w = proofB m (l.take (half l.length)) w ++ [treeB (l.drop (half l.length))] := by
  unfold proofB treeB
  rw [proofD_left nodeB noneB w (by simpa using h) (by simpa using hm) (by simpa using hk), List.length_map, List.map_take, List.map_drop]
theorem proofB_right {m : Nat} {l : List ByteArray} (w : Bool) (h : 2 ≤ l.length) (hm : m < l.length) (hk : ¬ m ≤ half l.length) : proofB m l w = proofB (m - half l.length) (l.drop (half l.length)) false ++ [treeB (l.take (half l.length))] := by
  unfold proofB treeB
  rw [proofD_right nodeB noneB w (by simpa using h) (by simpa using hm) (by simpa using hk), List.length_map, List.map_take, List.map_drop]
theorem proofB_len (n : Nat) : ∀ (l : List ByteArray) (m : Nat) (w : Bool), l.length = n → (proofB m l w).length ≤ n + 1 := by
  induction n using Nat.strongRecOn with
  | ind n ih =>
    intro l m w hn
    by_cases h : m = l.length ∨ l.length < 2
    · have e : proofB m l w = if w then [] else [treeB l] := by
        unfold proofB
        rw [proofD_eq, if_pos (by simpa using h)]
        rfl
      rw [e]
      cases w <;> simp
    · by_cases hm : m < l.length
      · obtain ⟨e, he, hk1, hk2⟩ := half_spec (show 2 ≤ l.length by omega)
        have hp := Nat.two_pow_pos e
        by_cases hi : m ≤ half l.length
        · have := ih (half l.length) (by omega) (l.take (half l.length)) m w (by rw [List.length_take]; omega)
          rw [proofB_left w (by omega) hm hi, List.length_append, List.length_singleton]
          omega
        · have := ih (n - half l.length) (by omega) (l.drop (half l.length)) (m - half l.length) false (by rw [List.length_drop]; omega)
          rw [proofB_right w (by omega) hm hi, List.length_append, List.length_singleton]
          omega
      · obtain ⟨e, he, hk1, hk2⟩ := half_spec (show 2 ≤ l.length by omega)
        have hp := Nat.two_pow_pos e
        have := ih (n - half l.length) (by omega) (l.drop (half l.length)) (m - half l.length) false (by rw [List.length_drop]; omega)
        have e2 : proofB m l w = proofB (m - half l.length) (l.drop (half l.length)) false ++ [treeB (l.take (half l.length))] := by
          unfold proofB treeB
          rw [proofD_eq, if_neg (by simpa using h), if_neg (by simp; omega), List.length_map, List.map_take, List.map_drop]
        rw [e2, List.length_append, List.length_singleton]
        omega
/-- What ProofOf tells. -/
def proofV (l : List ByteArray) (m : Int) : List ByteArray := if rightB l = true ∧ 1 ≤ m ∧ m ≤ (l.length : Int) then proofB m.toNat l true else []
end Go.Proofs.YtchlopmmhcobdagDoor
