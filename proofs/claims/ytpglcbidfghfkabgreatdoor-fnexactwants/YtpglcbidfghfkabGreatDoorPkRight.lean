/-
  Right entries: at most 64, of at most 100 bytes each. What is told of a tree.
-/
import Derived.Test.YtpglcbidfghfkabGreatDoorPkTextRows
import Derived.Test.YtpglcbidfghfkabGreatDoorPkCells
namespace Go.Proofs.YtpglcbidfghfkabGreatDoor
open Go.RowKit Go.Lib
set_option linter.unusedVariables false

def smallB (l : List ByteArray) : Bool := l.all fun t => decide ((t.size : Int) ≤ 100)
theorem smallB_no {l : List ByteArray} {k : Nat} (hk : k < l.length) (h : ¬ (l[k].size : Int) ≤ 100) : smallB l = false := by
  unfold smallB
  rw [List.all_eq_false]
  exact ⟨l[k], List.getElem_mem hk, by simpa using h⟩
theorem smallB_yes {l : List ByteArray} (h : ∀ j (hj : j < l.length), (l[j].size : Int) ≤ 100) : smallB l = true := by
  unfold smallB
  rw [List.all_eq_true]
  intro t ht
  obtain ⟨j, hj, rfl⟩ := List.getElem_of_mem ht
  simpa using h j hj
theorem smallB_at {l : List ByteArray} (h : smallB l = true) {j : Nat} (hj : j < l.length) : l[j].size ≤ 100 := by
  unfold smallB at h
  have := List.all_eq_true.1 h l[j] (List.getElem_mem hj)
  have h2 : (l[j].size : Int) ≤ 100 := by simpa using this
  omega
def rightB (l : List ByteArray) : Bool := decide ((l.length : Int) ≤ 64) && smallB l
theorem rightB_len {l : List ByteArray} (h : rightB l = true) : l.length ≤ 64 := by
  unfold rightB at h
  have := (Bool.and_eq_true _ _).mp h
  have h2 : (l.length : Int) ≤ 64 := by simpa using this.1
  omega
theorem rightB_at {l : List ByteArray} (h : rightB l = true) {j : Nat} (hj : j < l.length) : l[j].size ≤ 100 := by
  unfold rightB at h
  exact smallB_at ((Bool.and_eq_true _ _).mp h).2 hj
theorem rightB_long {l : List ByteArray} (h : 64 < l.length) : rightB l = false := by
  unfold rightB
  rw [decide_eq_false (by omega), Bool.false_and]
theorem rightB_short {l : List ByteArray} (h : l.length ≤ 64) : rightB l = smallB l := by
  unfold rightB
  rw [decide_eq_true (by omega), Bool.true_and]
/-- What is told of the tree of entries. -/
def treeV (l : List ByteArray) : ByteArray := if rightB l then treeB l else ByteArray.empty
end Go.Proofs.YtpglcbidfghfkabGreatDoor

/-
  The program's word on right entries.
-/
namespace Go.Proofs.YtpglcbidfghfkabGreatDoor
open Go.RowKit Go.Lib
set_option linter.unusedVariables false

set_option maxHeartbeats 400000 in
theorem entriesRight_any (v : Value) (l : List ByteArray) (w : World) (B : Nat) (h : Texts w B v l) (hl : l.length ≤ 1048576) :
    Calls Tryz.prog 57 #[v] w fun e w' => e = .returned (.bool (rightB l)) ∧ w' = w := by
  obtain ⟨a, cap, rfl, hcap, hc⟩ := h.at
  have HC : Hid (∀ j (hj : j < l.length), ∃ b off, a = some ⟨b, off, none⟩ ∧ b < B ∧ w.cell? ⟨b, off + j, none⟩ = some (.string l[j])) := hc
  clear hc h hcap
  by_cases h64 : 64 < l.length
  · rw [rightB_long h64]
    have hI : (64 : Int) < (l.length : Int) := by omega
    clear HC
    generalize l.length = n at *
    go_enter Tryz.func57, Tryz.ntmps57
    go_wp2
    go_ret
    exact ⟨rfl, rfl⟩
  rw [rightB_short (by omega)]
  obtain ⟨n, hn⟩ : ∃ n, n = l.length := ⟨_, rfl⟩
  have HN : Hid (n = l.length) := hn
  have hnI : ¬ (64 : Int) < (n : Int) := by omega
  rw [← hn] at hl ⊢
  clear hn h64
  obtain ⟨W, hW⟩ : ∃ W, W = smallB l := ⟨_, rfl⟩
  rw [← hW]
  have HW : Hid (W = smallB l) := hW
  clear hW
  go_enter Tryz.func57, Tryz.ntmps57
  go_wp2
  go_loop [10] (fun i => ∃ k : Nat, k ≤ n ∧ i = .int .i64 k ∧ ∀ j (h : j < l.length), j < k → (l[j].size : Int) ≤ 100) (fun i => n - (RowKit.intOf i).toNat)
  case atStart => exact ⟨0, Nat.zero_le _, rfl, fun j _ h => by omega⟩
  case round =>
    obtain ⟨k, hk, rfl, hall⟩ := hrel
    have HA : Hid (∀ j (h : j < l.length), j < k → (l[j].size : Int) ≤ 100) := hall
    clear hall
    by_cases hkn : k < n
    · have hkl : k < l.length := by rw [← HN.out]; exact hkn
      obtain ⟨b, off, rfl, hB, hc⟩ := HC.out k hkl
      have HA2 : Hid ((l[k].size : Int) ≤ 100 → ∀ j (h : j < l.length), j < k + 1 → (l[j].size : Int) ≤ 100) := fun hr j h hj => by
        by_cases e : j = k
        · subst e; exact hr
        · exact HA.out j h (by omega)
      have HB : Hid (¬ (l[k].size : Int) ≤ 100 → W = false) := fun h => by
        rw [HW.out]
        exact smallB_no hkl h
      have hknI : (k : Int) < (n : Int) := by omega
      clear HC HA HN HW
      generalize l[k] = t at *
      by_cases h32 : (t.size : Int) ≤ 100
      · go_wp2
        go_round
        case rel => exact ⟨k + 1, by omega, by go_num, HA2.out h32⟩
        case measure => simp [RowKit.intOf]; omega
      · have HF : Hid (W = false) := HB.out h32
        clear HA2 HB
        go_wp2
        go_ret
        exact ⟨ret_bool HF.out.symm, rfl⟩
    · have HF : Hid (W = true) := by
        show _ = _
        rw [HW.out]
        exact smallB_yes fun j hj => HA.out j hj (by have := HN.out; omega)
      clear HC HA HN HW
      go_wp2
      go_ret
      exact ⟨ret_bool HF.out.symm, rfl⟩
end Go.Proofs.YtpglcbidfghfkabGreatDoor

/-
  The document's word on right entries.
-/
namespace Go.Proofs.YtpglcbidfghfkabGreatDoor
open Go.RowKit Go.Lib
set_option linter.unusedVariables false

set_option maxHeartbeats 400000 in
theorem specEntries_any (v : Value) (l : List ByteArray) (w : World) (B : Nat) (h : Texts w B v l) (hl : l.length ≤ 1048576) :
    Calls Tryz.prog 54 #[v] w fun e w' => e = .returned (.bool (rightB l)) ∧ w' = w := by
  obtain ⟨a, cap, rfl, hcap, hc⟩ := h.at
  have HC : Hid (∀ j (hj : j < l.length), ∃ b off, a = some ⟨b, off, none⟩ ∧ b < B ∧ w.cell? ⟨b, off + j, none⟩ = some (.string l[j])) := hc
  clear hc h hcap
  obtain ⟨n, hn⟩ : ∃ n, n = l.length := ⟨_, rfl⟩
  have HN : Hid (n = l.length) := hn
  rw [← hn] at hl ⊢
  clear hn
  obtain ⟨W, hW⟩ : ∃ W, W = rightB l := ⟨_, rfl⟩
  rw [← hW]
  have HW : Hid (W = rightB l) := hW
  clear hW
  go_enter Tryz.func54, Tryz.ntmps54
  go_wp2
  go_loop [3] (fun i => ∃ k : Nat, k ≤ n ∧ i = .int .i64 k ∧ ∀ j (h : j < l.length), j < k → (l[j].size : Int) ≤ 100) (fun i => n - (RowKit.intOf i).toNat)
  case atStart => exact ⟨0, Nat.zero_le _, rfl, fun j _ h => by omega⟩
  case round =>
    obtain ⟨k, hk, rfl, hall⟩ := hrel
    have HA : Hid (∀ j (h : j < l.length), j < k → (l[j].size : Int) ≤ 100) := hall
    clear hall
    by_cases hkn : k < n
    · have hkl : k < l.length := by rw [← HN.out]; exact hkn
      obtain ⟨b, off, rfl, hB, hc⟩ := HC.out k hkl
      have HA2 : Hid ((l[k].size : Int) ≤ 100 → ∀ j (h : j < l.length), j < k + 1 → (l[j].size : Int) ≤ 100) := fun hr j h hj => by
        by_cases e : j = k
        · subst e; exact hr
        · exact HA.out j h (by omega)
      have HB : Hid (¬ (l[k].size : Int) ≤ 100 → W = false) := fun h => by
        rw [HW.out]
        unfold rightB
        rw [smallB_no hkl h, Bool.and_false]
      have hknI : (k : Int) < (n : Int) := by omega
      clear HC HA HN HW
      generalize l[k] = t at *
      by_cases h32 : (t.size : Int) ≤ 100
      · go_wp2
        go_round
        case rel => exact ⟨k + 1, by omega, by go_num, HA2.out h32⟩
        case measure => simp [RowKit.intOf]; omega
      · have HF : Hid (W = false) := HB.out h32
        clear HA2 HB
        go_wp2
        go_ret
        exact ⟨ret_bool HF.out.symm, rfl⟩
    · have HF : Hid (W = decide ((n : Int) ≤ 64)) := by
        show _ = _
        have h1 := smallB_yes fun j hj => HA.out j hj (by have := HN.out; omega)
        rw [HW.out, rightB, h1, Bool.and_true, ← HN.out]
      clear HC HA HN HW
      by_cases h64 : (n : Int) ≤ 64
      · go_wp2
        go_ret
        exact ⟨ret_bool (by rw [HF.out, decide_eq_true h64]), rfl⟩
      · go_wp2
        go_ret
        exact ⟨ret_bool (by rw [HF.out, decide_eq_false (by omega)]), rfl⟩
end Go.Proofs.YtpglcbidfghfkabGreatDoor
