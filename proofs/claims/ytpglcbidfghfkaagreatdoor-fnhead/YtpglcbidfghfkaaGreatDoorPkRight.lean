/-
  Right entries: at most 64, of at most 100 bytes each. What is told of a tree.
-/
import Derived.Test.YtpglcbidfghfkaaGreatDoorPkTextRows
import Derived.Test.YtpglcbidfghfkaaGreatDoorPkCells
import Derived.Test.YtpglcbidfghfkaaGreatDoorPkShaPure
namespace Go.Proofs.YtpglcbidfghfkaaGreatDoor
open Go.RowKit Go.Lib
set_option linter.unusedVariables false

def smallB (l : List ByteArray) : Bool := l.all fun t => decide ((t.size : Int) ≤ 100)
theorem smallB_no {l : List ByteArray} {k : Nat} (hk : k < l.length) (h : ¬ (l[k].size : Int) ≤ 100) : smallB l = false := by
  unfold smallB
  rw [List.all_eq_false]
  exact ⟨l[k], List.getElem_mem hk, by simpa using h⟩
theorem smallB_yes {l : List ByteArray} (h : ∀ j (hj : j < l.length), (l[j].size : Int) ≤ 100) : smallB l = true := by
  unfold smallB
  rw [List.all_eq_true]
  intro t ht
  obtain ⟨j, hj, rfl⟩ := List.getElem_of_mem ht
  simpa using h j hj
theorem smallB_at {l : List ByteArray} (h : smallB l = true) {j : Nat} (hj : j < l.length) : l[j].size ≤ 100 := by
  unfold smallB at h
  have := List.all_eq_true.1 h l[j] (List.getElem_mem hj)
  have h2 : (l[j].size : Int) ≤ 100 := by simpa using this
  omega
def rightB (l : List ByteArray) : Bool := decide ((l.length : Int) ≤ 64) && smallB l
theorem rightB_len {l : List ByteArray} (h : rightB l = true) : l.length ≤ 64 := by
  unfold rightB at h
  have := (Bool.and_eq_true _ _).mp h
  have h2 : (l.length : Int) ≤ 64 := by simpa using this.1
  omega
theorem rightB_at {l : List ByteArray} (h : rightB l = true) {j : Nat} (hj : j < l.length) : l[j].size ≤ 100 := by
  unfold rightB at h
  exact smallB_at ((Bool.and_eq_true _ _).mp h).2 hj
theorem rightB_long {l : List ByteArray} (h : 64 < l.length) : rightB l = false := by
  unfold rightB
  rw [decide_eq_false (by omega), Bool.false_and]
theorem rightB_short {l : List ByteArray} (h : l.length ≤ 64) : rightB l = smallB l := by
  unfold rightB
  rw [decide_eq_true (by omega), Bool.true_and]
/-- What is told of the tree of entries. -/
def treeV (l : List ByteArray) : ByteArray := if rightB l then treeB l else ByteArray.empty
end Go.Proofs.YtpglcbidfghfkaaGreatDoor

/-
  What KeyRoot answers.
-/
namespace Go.Proofs.YtpglcbidfghfkaaGreatDoor
open Go.RowKit Go.Lib
set_option linter.unusedVariables false
set_option linter.unusedSimpArgs false

def keyV (s : ByteArray) : ByteArray := if seedB s then treeB (pubsB s) else ByteArray.empty
theorem pubs_right (s : ByteArray) : rightB (pubsB s) = true := by
  rw [rightB_short (by rw [pubsB_len]; omega)]
  exact smallB_yes fun j hj => by
    have := pubsB_size s j hj
    omega
theorem treeV_pubs (s : ByteArray) : treeV (pubsB s) = treeB (pubsB s) := by unfold treeV; rw [if_pos (pubs_right s)]
end Go.Proofs.YtpglcbidfghfkaaGreatDoor

/-
  The path of an entry, the proof of the first ones: what is told.
-/
namespace Go.Proofs.YtpglcbidfghfkaaGreatDoor
open Go.RowKit Go.Lib
set_option linter.unusedVariables false

def pathB (l : List ByteArray) (i : Nat) : List ByteArray := pathD nodeB noneB (l.map leafB) i
theorem pathB_one {l : List ByteArray} (i : Nat) (h : l.length = 1) : pathB l i = [] := pathD_one nodeB noneB i (by simp; omega)
theorem pathB_left {l : List ByteArray} {i : Nat} (h : 2 ≤ l.length) (hi : i < half l.length) : pathB l i = pathB (l.take (half l.length)) i ++ [treeB (l.drop (half l.length))] := by
  unfold pathB treeB
  rw [pathD_left nodeB noneB (by simpa using h) (by simpa using hi), List.length_map, List.map_take, List.map_drop]
theorem pathB_right {l : List ByteArray} {i : Nat} (h : 2 ≤ l.length) (hi : ¬ i < half l.length) : pathB l i = pathB (l.drop (half l.length)) (i - half l.length) ++ [treeB (l.take (half l.length))] := by
  unfold pathB treeB
  rw [pathD_right nodeB noneB (by simpa using h) (by simpa using hi), List.length_map, List.map_take, List.map_drop]
theorem pathB_len (n : Nat) : ∀ (l : List ByteArray) (i : Nat), l.length = n → (pathB l i).length ≤ n := by
  induction n using Nat.strongRecOn with
  | ind n ih =>
    intro l i hn
    by_cases h : l.length < 2
    · rw [pathB, pathD_one nodeB noneB i (by simpa using h)]; simp
    · obtain ⟨e, he, hk1, hk2⟩ := half_spec (show 2 ≤ l.length by omega)
      have hp := Nat.two_pow_pos e
      by_cases hi : i < half l.length
      · have := ih (half l.length) (by omega) (l.take (half l.length)) i (by rw [List.length_take]; omega)
        rw [pathB_left (by omega) hi, List.length_append, List.length_singleton]
        omega
      · have := ih (n - half l.length) (by omega) (l.drop (half l.length)) (i - half l.length) (by rw [List.length_drop]; omega)
        rw [pathB_right (by omega) hi, List.length_append, List.length_singleton]
        omega
/-- What PathOf tells. -/
def pathV (l : List ByteArray) (i : Int) : List ByteArray := if rightB l = true ∧ 0 ≤ i ∧ i < (l.length : Int) then pathB l i.toNat else []

def proofB (m : Nat) (l : List ByteArray) (whole : Bool) : List ByteArray := proofD nodeB noneB m (l.map leafB) whole
theorem proofB_all {m : Nat} {l : List ByteArray} (w : Bool) (h : m = l.length) : proofB m l w = if w then [] else [treeB l] := by
  have := proofD_all nodeB noneB (l.map leafB) w
  rw [List.length_map] at this
  rw [proofB, h, this]
  rfl
theorem proofB_left {m : Nat} {l : List ByteArray} (w : Bool) (h : 2 ≤ l.length) (hm : m < l.length) (hk : m ≤ half l.length) : proofB m l w = proofB m (l.take (half l.length)) w ++ [treeB (l.drop (half l.length))] := by
  unfold proofB treeB
  rw [proofD_left nodeB noneB w (by simpa using h) (by simpa using hm) (by simpa using hk), List.length_map, List.map_take, List.map_drop]
theorem proofB_right {m : Nat} {l : List ByteArray} (w : Bool) (h : 2 ≤ l.length) (hm : m < l.length) (hk : ¬ m ≤ half l.length) : proofB m l w = proofB (m - half l.length) (l.drop (half l.length)) false ++ [treeB (l.take (half l.length))] := by
  unfold proofB treeB
  rw [proofD_right nodeB noneB w (by simpa using h) (by simpa using hm) (by simpa using hk), List.length_map, List.map_take, List.map_drop]
theorem proofB_len (n : Nat) : ∀ (l : List ByteArray) (m : Nat) (w : Bool), l.length = n → (proofB m l w).length ≤ n + 1 := by
  induction n using Nat.strongRecOn with
  | ind n ih =>
    intro l m w hn
    by_cases h : m = l.length ∨ l.length < 2
    · have e : proofB m l w = if w then [] else [treeB l] := by
        unfold proofB
        rw [proofD_eq, if_pos (by simpa using h)]
        rfl
      rw [e]
      cases w <;> simp
    · by_cases hm : m < l.length
      · obtain ⟨e, he, hk1, hk2⟩ := half_spec (show 2 ≤ l.length by omega)
        have hp := Nat.two_pow_pos e
        by_cases hi : m ≤ half l.length
        · have := ih (half l.length) (by omega) (l.take (half l.length)) m w (by rw [List.length_take]; omega)
          rw [proofB_left w (by omega) hm hi, List.length_append, List.length_singleton]
          omega
        · have := ih (n - half l.length) (by omega) (l.drop (half l.length)) (m - half l.length) false (by rw [List.length_drop]; omega)
          rw [proofB_right w (by omega) hm hi, List.length_append, List.length_singleton]
          omega
      · obtain ⟨e, he, hk1, hk2⟩ := half_spec (show 2 ≤ l.length by omega)
        have hp := Nat.two_pow_pos e
        have := ih (n - half l.length) (by omega) (l.drop (half l.length)) (m - half l.length) false (by rw [List.length_drop]; omega)
        have e2 : proofB m l w = proofB (m - half l.length) (l.drop (half l.length)) false ++ [treeB (l.take (half l.length))] := by
          unfold proofB treeB
          rw [proofD_eq, if_neg (by simpa using h), if_neg (by simp; omega), List.length_map, List.map_take, List.map_drop]
        rw [e2, List.length_append, List.length_singleton]
        omega
/-- What ProofOf tells. -/
def proofV (l : List ByteArray) (m : Int) : List ByteArray := if rightB l = true ∧ 1 ≤ m ∧ m ≤ (l.length : Int) then proofB m.toNat l true else []
end Go.Proofs.YtpglcbidfghfkaaGreatDoor

/-
  What Sign answers.
-/
namespace Go.Proofs.YtpglcbidfghfkaaGreatDoor
open Go.RowKit Go.Lib
set_option linter.unusedVariables false
set_option linter.unusedSimpArgs false

/-- May it be signed? -/
def signB (s : ByteArray) (k : Int) (t : ByteArray) : Bool := seedB s && decide (0 ≤ k ∧ k ≤ 3) && decide ((t.size : Int) ≤ 20000)
theorem signB_yes {s t : ByteArray} {k : Int} (h : signB s k t = true) : seedB s = true ∧ 0 ≤ k ∧ k ≤ 3 ∧ (t.size : Int) ≤ 20000 := by
  unfold signB at h
  simp at h
  exact ⟨h.1.1, h.1.2.1, h.1.2.2, by omega⟩
theorem signB_no {s t : ByteArray} {k : Int} (h : ¬ signB s k t = true) : seedB s = false ∨ (seedB s = true ∧ ¬ (0 ≤ k ∧ k ≤ 3)) ∨ (seedB s = true ∧ (0 ≤ k ∧ k ≤ 3) ∧ 20000 < (t.size : Int)) := by
  cases hs : seedB s with
  | false => exact .inl rfl
  | true =>
    refine .inr ?_
    by_cases hk : 0 ≤ k ∧ k ≤ 3
    · refine .inr ⟨rfl, hk, ?_⟩
      unfold signB at h
      rw [hs, decide_eq_true hk] at h
      simp at h
      omega
    · exact .inl ⟨rfl, hk⟩
/-- The Key, the Ends and the Path that Sign answers. -/
def sigKey (s : ByteArray) (k : Int) (t : ByteArray) : Int := if signB s k t then k else 0
def sigEnds (s : ByteArray) (k : Int) (t : ByteArray) : List ByteArray := if signB s k t then endsB s k t else []
def sigPath (s : ByteArray) (k : Int) (t : ByteArray) : List ByteArray := if signB s k t then pathB (pubsB s) k.toNat else []
theorem pathV_pubs (s : ByteArray) {k : Int} (h0 : 0 ≤ k) (h1 : k ≤ 3) : pathV (pubsB s) k = pathB (pubsB s) k.toNat := by
  unfold pathV
  rw [if_pos ⟨pubs_right s, h0, by rw [pubsB_len]; omega⟩]
end Go.Proofs.YtpglcbidfghfkaaGreatDoor

/-
  Right entries are told by their paths and proofs: what Included and Consistent answer of them. Plain mathematics on texts.
-/
namespace Go.Proofs.YtpglcbidfghfkaaGreatDoor
open Go.RowKit Go.Lib
set_option linter.unusedVariables false

theorem half_lt {n F : Nat} (h2 : 2 ≤ n) (h : n ≤ 2 ^ F) : ∃ e, half n = 2 ^ e ∧ e < F ∧ half n < n ∧ n ≤ 2 * half n := by
  obtain ⟨e, he, h3, h4⟩ := half_spec h2
  refine ⟨e, he, ?_, h3, h4⟩
  rcases Nat.lt_or_ge e F with h5 | h5
  · exact h5
  · have := Nat.pow_le_pow_right (n := 2) (by omega) h5
    omega
theorem proofB_short (n : Nat) : ∀ (l : List ByteArray) (m : Nat) (w : Bool) (F : Nat), l.length = n → m ≤ n → 1 ≤ m → n ≤ 2 ^ F → (proofB m l w).length ≤ F + 1 ∧ wideB (proofB m l w) = true := by
  induction n using Nat.strongRecOn with
  | ind n ih =>
    intro l m w F hn hm h1 hF
    by_cases hmn : m = n
    · rw [proofB_all w (by omega)]
      cases w with
      | true => exact ⟨by simp, rfl⟩
      | false =>
        refine ⟨by simp, wideB_yes fun j hj => ?_⟩
        have : j = 0 := by simp at hj; exact hj
        subst this
        show ((treeB l).size : Int) = 32
        rw [treeB_size]; rfl
    · obtain ⟨e, he, heF, h3, h4⟩ := half_lt (show 2 ≤ l.length by omega) (show l.length ≤ 2 ^ F by omega)
      have hp := Nat.two_pow_pos e
      have snoc : ∀ (r : List ByteArray) (x : List ByteArray), r.length ≤ e + 1 → wideB r = true → (r ++ [treeB x]).length ≤ F + 1 ∧ wideB (r ++ [treeB x]) = true := fun r x hr hw => by
        refine ⟨by rw [List.length_append, List.length_singleton]; omega, ?_⟩
        unfold wideB at hw ⊢
        rw [List.all_append, hw, Bool.true_and]
        simp [treeB_size]
      by_cases hk : m ≤ half l.length
      · rw [proofB_left w (by omega) (by omega) hk]
        have := ih (half l.length) (by omega) (l.take (half l.length)) m w e (by rw [List.length_take]; omega) hk (by omega) (by omega)
        exact snoc _ _ this.1 this.2
      · rw [proofB_right w (by omega) (by omega) hk]
        have := ih (n - half l.length) (by omega) (l.drop (half l.length)) (m - half l.length) false e (by rw [List.length_drop]; omega) (by omega) (by omega) (by omega)
        exact snoc _ _ this.1 this.2
theorem pathB_short (n : Nat) : ∀ (l : List ByteArray) (i F : Nat), l.length = n → 1 ≤ n → n ≤ 2 ^ F → (pathB l i).length ≤ F ∧ wideB (pathB l i) = true := by
  induction n using Nat.strongRecOn with
  | ind n ih =>
    intro l i F hn h1 hF
    by_cases h : n = 1
    · rw [pathB_one i (by omega)]
      exact ⟨by simp, rfl⟩
    · obtain ⟨e, he, heF, h3, h4⟩ := half_lt (show 2 ≤ l.length by omega) (show l.length ≤ 2 ^ F by omega)
      have hp := Nat.two_pow_pos e
      have snoc : ∀ (r : List ByteArray) (x : List ByteArray), r.length ≤ e → wideB r = true → (r ++ [treeB x]).length ≤ F ∧ wideB (r ++ [treeB x]) = true := fun r x hr hw => by
        refine ⟨by rw [List.length_append, List.length_singleton]; omega, ?_⟩
        unfold wideB at hw ⊢
        rw [List.all_append, hw, Bool.true_and]
        simp [treeB_size]
      by_cases hi : i < half l.length
      · rw [pathB_left (by omega) hi]
        have := ih (half l.length) (by omega) (l.take (half l.length)) i e (by rw [List.length_take]; omega) (by omega) (by omega)
        exact snoc _ _ this.1 this.2
      · rw [pathB_right (by omega) hi]
        have := ih (n - half l.length) (by omega) (l.drop (half l.length)) (i - half l.length) e (by rw [List.length_drop]; omega) (by omega) (by omega)
        exact snoc _ _ this.1 this.2
theorem right_take {l : List ByteArray} (h : rightB l = true) (m : Nat) : rightB (l.take m) = true := by
  have hl := rightB_len h
  rw [rightB_short (by rw [List.length_take]; omega)]
  exact smallB_yes fun j hj => by
    rw [List.getElem_take]
    have := rightB_at h (j := j) (by rw [List.length_take] at hj; omega)
    omega
theorem treeV_right {l : List ByteArray} (h : rightB l = true) : treeV l = treeB l := by unfold treeV; rw [if_pos h]
theorem beq_self_list (a : ByteArray) : (a.toList == a.toList) = true := by simp
/-- THE FIRST ONES OF RIGHT ENTRIES ARE TOLD BY THEIR PROOF. -/
theorem cons_told {l : List ByteArray} (h : rightB l = true) (m : Nat) (h1 : 1 ≤ m) (hm : m ≤ l.length) : consB m l.length (proofV l m) (treeV (l.take m)) (treeV l) = true := by
  have hl := rightB_len h
  have hpv : proofV l m = proofB m l true := by
    unfold proofV
    rw [if_pos ⟨h, by omega, by omega⟩, Int.toNat_natCast]
  obtain ⟨hs1, hs2⟩ := proofB_short l.length l m true 6 rfl hm h1 (by omega)
  rw [hpv, treeV_right h, treeV_right (right_take h m), consB_yes (by omega) hs2 (by rw [treeB_size]; rfl) (by rw [treeB_size]; rfl) (by omega) (by omega), Int.toNat_natCast, Int.toNat_natCast]
  unfold consY
  by_cases hmn : m = l.length
  · rw [if_pos hmn, proofB_all true hmn, hmn, List.take_of_length_le (Nat.le_refl _), beq_self_list]
    rfl
  · rw [if_neg hmn]
    have hrow : rowB m (proofB m l true) (treeB (l.take m)) = proofB m l false := by
      have hw := proof_whole nodeB noneB (l.map leafB) m h1 (.inl (by rw [List.length_map]; omega))
      rw [← List.map_take] at hw
      unfold rowB
      by_cases hp : powB m = true
      · rw [if_pos hp]
        exact hw.1 ((powB_iff m).1 hp)
      · rw [if_neg hp]
        exact hw.2 (fun h => hp ((powB_iff m).2 h))
    have hc := cons_proof nodeB noneB (l.map leafB) m h1 (by rw [List.length_map]; omega)
    rw [List.length_map, ← List.map_take] at hc
    rw [hrow]
    show consEnd _ _ (consAll nodeB _ (proofD nodeB noneB m (l.map leafB) false)) = true
    rw [hc]
    show (decide (0 = 0) && ((treeB (l.take m)).toList == (treeB (l.take m)).toList) && ((treeB l).toList == (treeB l).toList)) = true
    rw [beq_self_list, beq_self_list]
    rfl
/-- EACH OF RIGHT ENTRIES IS INCLUDED BY ITS PATH. -/
theorem incl_told {l : List ByteArray} (h : rightB l = true) (i : Nat) (hi : i < l.length) : inclB (leafB l[i]) i l.length (pathV l i) (treeV l) = true := by
  have hl := rightB_len h
  have hpv : pathV l i = pathB l i := by
    unfold pathV
    rw [if_pos ⟨h, by omega, by omega⟩, Int.toNat_natCast]
  obtain ⟨hs1, hs2⟩ := pathB_short l.length l i 6 rfl (by omega) (by omega)
  rw [hpv, treeV_right h]
  unfold inclB
  rw [if_neg]
  · have hp := incl_path nodeB noneB (l.map leafB) i (by rw [List.length_map]; exact hi)
    simp only [List.length_map, List.getElem_map] at hp
    rw [Int.toNat_natCast, show ((l.length : Int) - 1).toNat = l.length - 1 by omega]
    show inclEnd (treeB l) (inclRun nodeB _ (pathD nodeB noneB (l.map leafB) i)) = true
    rw [hp]
    show (decide (0 = 0) && ((treeB l).toList == (treeB l).toList)) = true
    rw [beq_self_list]
    rfl
  · rintro (h | h | h | h | h | h)
    · omega
    · rw [hs2] at h; cases h
    · rw [leafB_size] at h; exact h rfl
    · rw [treeB_size] at h; exact h rfl
    · omega
    · omega
end Go.Proofs.YtpglcbidfghfkaaGreatDoor

/-
  What is signed is verified under the seed's root. Plain mathematics on texts.
-/
namespace Go.Proofs.YtpglcbidfghfkaaGreatDoor
open Go.RowKit Go.Lib
set_option linter.unusedVariables false
set_option linter.unusedSimpArgs false

theorem half_two {n : Nat} (h : n = 2) : half n = 1 := by
  obtain ⟨e, he, h1, h2⟩ := half_spec (show 2 ≤ n by omega)
  omega
theorem half_four {n : Nat} (h : n = 4) : half n = 2 := by
  obtain ⟨e, he, h1, h2⟩ := half_spec (show 2 ≤ n by omega)
  match e, he with
  | 0, he => simp at he; omega
  | 1, he => simpa using he
  | e + 2, he =>
    have : 2 ^ (e + 2) = 4 * 2 ^ e := by rw [Nat.pow_add]; omega
    have := Nat.two_pow_pos e
    omega
theorem path_two {l : List ByteArray} (h : l.length = 2) (i : Nat) : (pathB l i).length = 1 := by
  have hh := half_two h
  by_cases hi : i < half l.length
  · rw [pathB_left (by omega) hi, pathB_one _ (by rw [List.length_take]; omega)]; rfl
  · rw [pathB_right (by omega) hi, pathB_one _ (by rw [List.length_drop]; omega)]; rfl
theorem path_four {l : List ByteArray} (h : l.length = 4) (i : Nat) : (pathB l i).length = 2 := by
  have hh := half_four h
  by_cases hi : i < half l.length
  · rw [pathB_left (by omega) hi, List.length_append, path_two (by rw [List.length_take]; omega)]; rfl
  · rw [pathB_right (by omega) hi, List.length_append, path_two (by rw [List.length_drop]; omega)]; rfl
theorem ends_size (s : ByteArray) (k : Int) (t : ByteArray) : ∀ x ∈ endsB s k t, x.size = 32 := fun x hx => by
  simp [endsB] at hx
  obtain ⟨j, _, rfl⟩ := hx
  exact stepsB_size _ (beginB_size _ _ _)
theorem ends_wide (s : ByteArray) (k : Int) (t : ByteArray) : wideB (endsB s k t) = true := wideB_yes fun j hj => by
  have := ends_size s k t _ (List.getElem_mem hj)
  omega
theorem ends_six (s : ByteArray) (k : Int) (t : ByteArray) : (endsB s k t).length = 6 := by simp [endsB]
theorem path_pubs (s : ByteArray) (i : Nat) : (pathB (pubsB s) i).length = 2 ∧ wideB (pathB (pubsB s) i) = true :=
  ⟨path_four (pubsB_len s) i, (pathB_short 4 (pubsB s) i 2 (pubsB_len s) (by omega) (by omega)).2⟩
theorem path_size (s : ByteArray) (i : Nat) : ∀ x ∈ pathB (pubsB s) i, x.size = 32 := fun x hx => by
  obtain ⟨j, hj, rfl⟩ := List.getElem_of_mem hx
  have := wideB_at (path_pubs s i).2 hj
  omega
/-- What is signed is a right signature. -/
theorem sign_right {s t : ByteArray} {k : Int} (h0 : 0 ≤ k) (h1 : k ≤ 3) : sigRB k (endsB s k t) (pathB (pubsB s) k.toNat) = true := by
  rw [sigRB_rest ⟨h0, h1⟩ (by rw [ends_six]; rfl) (by rw [(path_pubs s _).1]; rfl), ends_wide, (path_pubs s _).2]
  rfl
theorem keyV_size {s : ByteArray} (h : seedB s = true) : (keyV s).size = 32 := by unfold keyV; rw [if_pos h]; exact treeB_size _
theorem keyV_none {s : ByteArray} (h : seedB s = false) : keyV s = ByteArray.empty := by unfold keyV; rw [h]; rfl
/-- WHAT IS SIGNED IS VERIFIED UNDER THE SEED'S ROOT. -/
theorem ver_told {s t : ByteArray} {k : Int} (h : signB s k t = true) : verB (keyV s) t k (endsB s k t) (pathB (pubsB s) k.toNat) = true := by
  obtain ⟨h1, h2, h3, h4⟩ := signB_yes h
  have hr := keyV_size h1
  rw [verB_rest (sign_right h2 h3) (by rw [hr]; rfl) h4]
  obtain ⟨n, rfl⟩ := Int.eq_ofNat_of_zero_le h2
  have hn : n < (pubsB s).length := by rw [pubsB_len]; omega
  have hi := incl_told (pubs_right s) n hn
  rw [pubsB_at, pathV_pubs s (by omega) h3, treeV_pubs, pubsB_len] at hi
  have hk : keyV s = treeB (pubsB s) := by unfold keyV; rw [if_pos h1]
  rw [left_ends, hk]
  exact hi
theorem signB_iff {s t : ByteArray} {k : Int} (ht : t.size ≤ 20000) : signB s k t = (seedB s && decide (0 ≤ k ∧ k ≤ 3)) := by
  unfold signB
  rw [decide_eq_true (show (t.size : Int) ≤ 20000 by omega), Bool.and_true]
/-- Right or not: what Sign answers. -/
theorem sig_told {s t : ByteArray} {k : Int} : sigRB (sigKey s k t) (sigEnds s k t) (sigPath s k t) = signB s k t := by
  unfold sigKey sigEnds sigPath
  cases h : signB s k t with
  | true =>
    obtain ⟨h1, h2, h3, h4⟩ := signB_yes h
    simp only [if_true]
    exact sign_right h2 h3
  | false =>
    simp only [Bool.false_eq_true, if_false]
    rfl
end Go.Proofs.YtpglcbidfghfkaaGreatDoor

/-
  The document's word on right entries.
-/
namespace Go.Proofs.YtpglcbidfghfkaaGreatDoor
open Go.RowKit Go.Lib
set_option linter.unusedVariables false

set_option maxHeartbeats 400000 in
theorem specEntries_any (v : Value) (l : List ByteArray) (w : World) (B : Nat) (h : Texts w B v l) (hl : l.length ≤ 1048576) :
    Calls Tryz.prog 73 #[v] w fun e w' => e = .returned (.bool (rightB l)) ∧ w' = w := by
  obtain ⟨a, cap, rfl, hcap, hc⟩ := h.at
  have HC : Hid (∀ j (hj : j < l.length), ∃ b off, a = some ⟨b, off, none⟩ ∧ b < B ∧ w.cell? ⟨b, off + j, none⟩ = some (.string l[j])) := hc
  clear hc h hcap
  obtain ⟨n, hn⟩ : ∃ n, n = l.length := ⟨_, rfl⟩
  have HN : Hid (n = l.length) := hn
  rw [← hn] at hl ⊢
  clear hn
  obtain ⟨W, hW⟩ : ∃ W, W = rightB l := ⟨_, rfl⟩
  rw [← hW]
  have HW : Hid (W = rightB l) := hW
  clear hW
  go_enter Tryz.func73, Tryz.ntmps73
  go_wp2
  go_loop [3] (fun i => ∃ k : Nat, k ≤ n ∧ i = .int .i64 k ∧ ∀ j (h : j < l.length), j < k → (l[j].size : Int) ≤ 100) (fun i => n - (RowKit.intOf i).toNat)
  case atStart => exact ⟨0, Nat.zero_le _, rfl, fun j _ h => by omega⟩
  case round =>
    obtain ⟨k, hk, rfl, hall⟩ := hrel
    have HA : Hid (∀ j (h : j < l.length), j < k → (l[j].size : Int) ≤ 100) := hall
    clear hall
    by_cases hkn : k < n
    · have hkl : k < l.length := by rw [← HN.out]; exact hkn
      obtain ⟨b, off, rfl, hB, hc⟩ := HC.out k hkl
      have HA2 : Hid ((l[k].size : Int) ≤ 100 → ∀ j (h : j < l.length), j < k + 1 → (l[j].size : Int) ≤ 100) := fun hr j h hj => by
        by_cases e : j = k
        · subst e; exact hr
        · exact HA.out j h (by omega)
      have HB : Hid (¬ (l[k].size : Int) ≤ 100 → W = false) := fun h => by
        rw [HW.out]
        unfold rightB
        rw [smallB_no hkl h, Bool.and_false]
      have hknI : (k : Int) < (n : Int) := by omega
      clear HC HA HN HW
      generalize l[k] = t at *
      by_cases h32 : (t.size : Int) ≤ 100
      · go_wp2
        go_round
        case rel => exact ⟨k + 1, by omega, by go_num, HA2.out h32⟩
        case measure => simp [RowKit.intOf]; omega
      · have HF : Hid (W = false) := HB.out h32
        clear HA2 HB
        go_wp2
        go_ret
        exact ⟨ret_bool HF.out.symm, rfl⟩
    · have HF : Hid (W = decide ((n : Int) ≤ 64)) := by
        show _ = _
        have h1 := smallB_yes fun j hj => HA.out j hj (by have := HN.out; omega)
        rw [HW.out, rightB, h1, Bool.and_true, ← HN.out]
      clear HC HA HN HW
      by_cases h64 : (n : Int) ≤ 64
      · go_wp2
        go_ret
        exact ⟨ret_bool (by rw [HF.out, decide_eq_true h64]), rfl⟩
      · go_wp2
        go_ret
        exact ⟨ret_bool (by rw [HF.out, decide_eq_false (by omega)]), rfl⟩
end Go.Proofs.YtpglcbidfghfkaaGreatDoor

/-
  The program's word on right entries.
-/
namespace Go.Proofs.YtpglcbidfghfkaaGreatDoor
open Go.RowKit Go.Lib
set_option linter.unusedVariables false

set_option maxHeartbeats 400000 in
theorem entriesRight_any (v : Value) (l : List ByteArray) (w : World) (B : Nat) (h : Texts w B v l) (hl : l.length ≤ 1048576) :
    Calls Tryz.prog 63 #[v] w fun e w' => e = .returned (.bool (rightB l)) ∧ w' = w := by
  obtain ⟨a, cap, rfl, hcap, hc⟩ := h.at
  have HC : Hid (∀ j (hj : j < l.length), ∃ b off, a = some ⟨b, off, none⟩ ∧ b < B ∧ w.cell? ⟨b, off + j, none⟩ = some (.string l[j])) := hc
  clear hc h hcap
  by_cases h64 : 64 < l.length
  · rw [rightB_long h64]
    have hI : (64 : Int) < (l.length : Int) := by omega
    clear HC
    generalize l.length = n at *
    go_enter Tryz.func63, Tryz.ntmps63
    go_wp2
    go_ret
    exact ⟨rfl, rfl⟩
  rw [rightB_short (by omega)]
  obtain ⟨n, hn⟩ : ∃ n, n = l.length := ⟨_, rfl⟩
  have HN : Hid (n = l.length) := hn
  have hnI : ¬ (64 : Int) < (n : Int) := by omega
  rw [← hn] at hl ⊢
  clear hn h64
  obtain ⟨W, hW⟩ : ∃ W, W = smallB l := ⟨_, rfl⟩
  rw [← hW]
  have HW : Hid (W = smallB l) := hW
  clear hW
  go_enter Tryz.func63, Tryz.ntmps63
  go_wp2
  go_loop [10] (fun i => ∃ k : Nat, k ≤ n ∧ i = .int .i64 k ∧ ∀ j (h : j < l.length), j < k → (l[j].size : Int) ≤ 100) (fun i => n - (RowKit.intOf i).toNat)
  case atStart => exact ⟨0, Nat.zero_le _, rfl, fun j _ h => by omega⟩
  case round =>
    obtain ⟨k, hk, rfl, hall⟩ := hrel
    have HA : Hid (∀ j (h : j < l.length), j < k → (l[j].size : Int) ≤ 100) := hall
    clear hall
    by_cases hkn : k < n
    · have hkl : k < l.length := by rw [← HN.out]; exact hkn
      obtain ⟨b, off, rfl, hB, hc⟩ := HC.out k hkl
      have HA2 : Hid ((l[k].size : Int) ≤ 100 → ∀ j (h : j < l.length), j < k + 1 → (l[j].size : Int) ≤ 100) := fun hr j h hj => by
        by_cases e : j = k
        · subst e; exact hr
        · exact HA.out j h (by omega)
      have HB : Hid (¬ (l[k].size : Int) ≤ 100 → W = false) := fun h => by
        rw [HW.out]
        exact smallB_no hkl h
      have hknI : (k : Int) < (n : Int) := by omega
      clear HC HA HN HW
      generalize l[k] = t at *
      by_cases h32 : (t.size : Int) ≤ 100
      · go_wp2
        go_round
        case rel => exact ⟨k + 1, by omega, by go_num, HA2.out h32⟩
        case measure => simp [RowKit.intOf]; omega
      · have HF : Hid (W = false) := HB.out h32
        clear HA2 HB
        go_wp2
        go_ret
        exact ⟨ret_bool HF.out.symm, rfl⟩
    · have HF : Hid (W = true) := by
        show _ = _
        rw [HW.out]
        exact smallB_yes fun j hj => HA.out j hj (by have := HN.out; omega)
      clear HC HA HN HW
      go_wp2
      go_ret
      exact ⟨ret_bool HF.out.symm, rfl⟩
end Go.Proofs.YtpglcbidfghfkaaGreatDoor
