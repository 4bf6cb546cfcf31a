/-
  Right entries: at most 64, of at most 100 bytes each. What is told of a tree.
-/
import Derived.Test.YtpglcbidfghfkaaPkTextRows
import Derived.Test.YtpglcbidfghfkaaPkCells
import Derived.Test.YtpglcbidfghfkaaPkSignV
import Derived.Test.YtpglcbidfghfkaaPkShaPure
namespace Go.Proofs.Ytpglcbidfghfkaa
open Go.RowKit Go.Lib
set_option linter.unusedVariables false

def smallB (l : List ByteArray) : Bool := l.all fun t => decide ((t.size : Int) ≤ 100)
theorem smallB_no {l : List ByteArray} {k : Nat} (hk : k < l.length) (h : ¬ (l[k].size : Int) ≤ 100) : smallB l = false := by
  unfold smallB
  rw [List.all_eq_false]
  exact ⟨l[k], List.getElem_mem hk, by simpa using h⟩
theorem smallB_yes {l : List ByteArray} (h : ∀ j (hj : j < l.length), (l[j].size : Int) ≤ 100) : smallB l = true := by
  unfold smallB
  rw [List.all_eq_true]
  intro t ht
  obtain ⟨j, hj, rfl⟩ := List.getElem_of_mem ht
  simpa using h j hj
theorem smallB_at {l : List ByteArray} (h : smallB l = true) {j : Nat} (hj : j < l.length) : l[j].size ≤ 100 := by
  unfold smallB at h
  have := List.all_eq_true.1 h l[j] (List.getElem_mem hj)
  have h2 : (l[j].size : Int) ≤ 100 := by simpa using this
  omega
def rightB (l : List ByteArray) : Bool := decide ((l.length : Int) ≤ 64) && smallB l
theorem rightB_len {l : List ByteArray} (h : rightB l = true) : l.length ≤ 64 := by
  unfold rightB at h
  have := (Bool.and_eq_true _ _).mp h
  have h2 : (l.length : Int) ≤ 64 := by simpa using this.1
  omega
theorem rightB_at {l : List ByteArray} (h : rightB l = true) {j : Nat} (hj : j < l.length) : l[j].size ≤ 100 := by
  unfold rightB at h
  exact smallB_at ((Bool.and_eq_true _ _).mp h).2 hj
theorem rightB_long {l : List ByteArray} (h : 64 < l.length) : rightB l = false := by
  unfold rightB
  rw [decide_eq_false (by omega), Bool.false_and]
theorem rightB_short {l : List ByteArray} (h : l.length ≤ 64) : rightB l = smallB l := by
  unfold rightB
  rw [decide_eq_true (by omega), Bool.true_and]
/-- What is told of the tree of entries. -/
def treeV (l : List ByteArray) : ByteArray := if rightB l then treeB l else ByteArray.empty
end Go.Proofs.Ytpglcbidfghfkaa

/-
  What KeyRoot answers.
-/
namespace Go.Proofs.Ytpglcbidfghfkaa
open Go.RowKit Go.Lib
set_option linter.unusedVariables false
set_option linter.unusedSimpArgs false

def keyV (s : ByteArray) : ByteArray := if seedB s then treeB (pubsB s) else ByteArray.empty
theorem pubs_right (s : ByteArray) : rightB (pubsB s) = true := by
  rw [rightB_short (by rw [pubsB_len]; omega)]
  exact smallB_yes fun j hj => by
    have := pubsB_size s j hj
    omega
theorem treeV_pubs (s : ByteArray) : treeV (pubsB s) = treeB (pubsB s) := by unfold treeV; rw [if_pos (pubs_right s)]
end Go.Proofs.Ytpglcbidfghfkaa

/-
  The path of an entry, the proof of the first ones: what is told.
-/
namespace Go.Proofs.Ytpglcbidfghfkaa
open Go.RowKit Go.Lib
set_option linter.unusedVariables false

def pathB (l : List ByteArray) (i : Nat) : List ByteArray := pathD nodeB noneB (l.map leafB) i
theorem pathB_one {l : List ByteArray} (i : Nat) (h : l.length = 1) : pathB l i = [] := pathD_one nodeB noneB i (by simp; omega)
theorem pathB_left {l : List ByteArray} {i : Nat} (h : 2 ≤ l.length) (hi : i < half l.length) : pathB l i = pathB (l.take (half l.length)) i ++ [treeB (l.drop (half l.length))] := by
  unfold pathB treeB
  rw [pathD_left nodeB noneB (by simpa using h) (by simpa using hi), List.length_map, List.map_take, List.map_drop]
theorem pathB_right {l : List ByteArray} {i : Nat} (h : 2 ≤ l.length) (hi : ¬ i < half l.length) : pathB l i = pathB (l.drop (half l.length)) (i - half l.length) ++ [treeB (l.take (half l.length))] := by
  unfold pathB treeB
  rw [pathD_right nodeB noneB (by simpa using h) (by simpa using hi), List.length_map, List.map_take, List.map_drop]
theorem pathB_len (n : Nat) : ∀ (l : List ByteArray) (i : Nat), l.length = n → (pathB l i).length ≤ n := by
  induction n using Nat.strongRecOn with
  | ind n ih =>
    intro l i hn
    by_cases h : l.length < 2
    · rw [pathB, pathD_one nodeB noneB i (by simpa using h)]; simp
    · obtain ⟨e, he, hk1, hk2⟩ := half_spec (show 2 ≤ l.length by omega)
      have hp := Nat.two_pow_pos e
      by_cases hi : i < half l.length
      · have := ih (half l.length) (by omega) (l.take (half l.length)) i (by rw [List.length_take]; omega)
        rw [pathB_left (by omega) hi, List.length_append, List.length_singleton]
        omega
      · have := ih (n - half l.length) (by omega) (l.drop (half l.length)) (i - half l.length) (by rw [List.length_drop]; omega)
        rw [pathB_right (by omega) hi, List.length_append, List.length_singleton]
        omega
/-- What PathOf tells. -/
def pathV (l : List ByteArray) (i : Int) : List ByteArray := if rightB l = true ∧ 0 ≤ i ∧ i < (l.length : Int) then pathB l i.toNat else []

def proofB (m : Nat) (l : List ByteArray) (whole : Bool) : List ByteArray := proofD nodeB noneB m (l.map leafB) whole
theorem proofB_all {m : Nat} {l : List ByteArray} (w : Bool) (h : m = l.length) : proofB m l w = if w then [] else [treeB l] := by
  have := proofD_all nodeB noneB (l.map leafB) w
  rw [List.length_map] at this
  rw [proofB, h, this]
  rfl
theorem proofB_left {m : Nat} {l : List ByteArray} (w : Bool) (h : 2 ≤ l.length) (hm : m < l.length) (hk : m ≤ half l.length) : proofB m l w = proofB m (l.take (half l.length)) w ++ [treeB (l.drop (half l.length))] := by
  unfold proofB treeB
  rw [proofD_left nodeB noneB w (by simpa using h) (by simpa using hm) (by simpa using hk), List.length_map, List.map_take, List.map_drop]
theorem proofB_right {m : Nat} {l : List ByteArray} (w : Bool) (h : 2 ≤ l.length) (hm : m < l.length) (hk : ¬ m ≤ half l.length) : proofB m l w = proofB (m - half l.length) (l.drop (half l.length)) false ++ [treeB (l.take (half l.length))] := by
  unfold proofB treeB
  rw [proofD_right nodeB noneB w (by simpa using h) (by simpa using hm) (by simpa using hk), List.length_map, List.map_take, List.map_drop]
theorem proofB_len (n : Nat) : ∀ (l : List ByteArray) (m : Nat) (w : Bool), l.length = n → (proofB m l w).length ≤ n + 1 := by
  induction n using Nat.strongRecOn with
  | ind n ih =>
    intro l m w hn
    by_cases h : m = l.length ∨ l.length < 2
    · have e : proofB m l w = if w then [] else [treeB l] := by
        unfold proofB
        rw [proofD_eq, if_pos (by simpa using h)]
        rfl
      rw [e]
      cases w <;> simp
    · by_cases hm : m < l.length
      · obtain ⟨e, he, hk1, hk2⟩ := half_spec (show 2 ≤ l.length by omega)
        have hp := Nat.two_pow_pos e
        by_cases hi : m ≤ half l.length
        · have := ih (half l.length) (by omega) (l.take (half l.length)) m w (by rw [List.length_take]; omega)
          rw [proofB_left w (by omega) hm hi, List.length_append, List.length_singleton]
          omega
        · have := ih (n - half l.length) (by omega) (l.drop (half l.length)) (m - half l.length) false (by rw [List.length_drop]; omega)
          rw [proofB_right w (by omega) hm hi, List.length_append, List.length_singleton]
          omega
      · obtain ⟨e, he, hk1, hk2⟩ := half_spec (show 2 ≤ l.length by omega)
        have hp := Nat.two_pow_pos e
        have := ih (n - half l.length) (by omega) (l.drop (half l.length)) (m - half l.length) false (by rw [List.length_drop]; omega)
        have e2 : proofB m l w = proofB (m - half l.length) (l.drop (half l.length)) false ++ [treeB (l.take (half l.length))] := by
          unfold proofB treeB
          rw [proofD_eq, if_neg (by simpa using h), if_neg (by simp; omega), List.length_map, List.map_take, List.map_drop]
        rw [e2, List.length_append, List.length_singleton]
        omega
/-- What ProofOf tells. -/
def proofV (l : List ByteArray) (m : Int) : List ByteArray := if rightB l = true ∧ 1 ≤ m ∧ m ≤ (l.length : Int) then proofB m.toNat l true else []
end Go.Proofs.Ytpglcbidfghfkaa

/-
  What Sign answers.
-/
namespace Go.Proofs.Ytpglcbidfghfkaa
open Go.RowKit Go.Lib
set_option linter.unusedVariables false
set_option linter.unusedSimpArgs false

/-- May it be signed? -/
def signB (s : ByteArray) (k : Int) (t : ByteArray) : Bool := seedB s && decide (0 ≤ k ∧ k ≤ 3) && decide ((t.size : Int) ≤ 20000)
theorem signB_yes {s t : ByteArray} {k : Int} (h : signB s k t = true) : seedB s = true ∧ 0 ≤ k ∧ k ≤ 3 ∧ (t.size : Int) ≤ 20000 := by
  unfold signB at h
  simp at h
  exact ⟨h.1.1, h.1.2.1, h.1.2.2, by omega⟩
theorem signB_no {s t : ByteArray} {k : Int} (h : ¬ signB s k t = true) : seedB s = false ∨ (seedB s = true ∧ ¬ (0 ≤ k ∧ k ≤ 3)) ∨ (seedB s = true ∧ (0 ≤ k ∧ k ≤ 3) ∧ 20000 < (t.size : Int)) := by
  cases hs : seedB s with
  | false => exact .inl rfl
  | true =>
    refine .inr ?_
    by_cases hk : 0 ≤ k ∧ k ≤ 3
    · refine .inr ⟨rfl, hk, ?_⟩
      unfold signB at h
      rw [hs, decide_eq_true hk] at h
      simp at h
      omega
    · exact .inl ⟨rfl, hk⟩
/-- The Key, the Ends and the Path that Sign answers. -/
def sigKey (s : ByteArray) (k : Int) (t : ByteArray) : Int := if signB s k t then k else 0
def sigEnds (s : ByteArray) (k : Int) (t : ByteArray) : List ByteArray := if signB s k t then endsB s k t else []
def sigPath (s : ByteArray) (k : Int) (t : ByteArray) : List ByteArray := if signB s k t then pathB (pubsB s) k.toNat else []
theorem pathV_pubs (s : ByteArray) {k : Int} (h0 : 0 ≤ k) (h1 : k ≤ 3) : pathV (pubsB s) k = pathB (pubsB s) k.toNat := by
  unfold pathV
  rw [if_pos ⟨pubs_right s, h0, by rw [pubsB_len]; omega⟩]
end Go.Proofs.Ytpglcbidfghfkaa
