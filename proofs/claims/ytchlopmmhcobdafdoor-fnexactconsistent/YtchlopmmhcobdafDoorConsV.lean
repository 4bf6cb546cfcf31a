/-
  What Consistent answers.
-/
import Derived.Test.YtchlopmmhcobdafDoorTexts
import Derived.Test.YtchlopmmhcobdafDoorTreeB
import Derived.Test.YtchlopmmhcobdafDoorRetPure
namespace Go.Proofs.YtchlopmmhcobdafDoor
open Go.RowKit Go.Lib
set_option linter.unusedVariables false

/-- Halved as long as it is even. -/
def oddS (go : Nat → Nat) (n : Nat) : Nat := if h : n % 2 = 0 ∧ 0 < n then go (n / 2) else n
def oddOf (n : Nat) : Nat := wfix id 0 oddS n
theorem oddOf_eq (n : Nat) : oddOf n = if h : n % 2 = 0 ∧ 0 < n then oddOf (n / 2) else n :=
  wfix_eq id 0 oddS (fun x g g' h => by
    unfold oddS
    by_cases c : x % 2 = 0 ∧ 0 < x
    · rw [dif_pos c, dif_pos c]
      exact h _ (by show x / 2 < x; omega)
    · rw [dif_neg c, dif_neg c]) n
def powB (n : Nat) : Bool := decide (oddOf n = 1)
theorem oddOf_even {n : Nat} (h : n % 2 = 0) (h0 : 0 < n) : oddOf n = oddOf (n / 2) := by rw [oddOf_eq, dif_pos ⟨h, h0⟩]
theorem oddOf_odd {n : Nat} (h : n % 2 = 1) : oddOf n = n := by rw [oddOf_eq, dif_neg (by omega)]
theorem oddOf_pow (e : Nat) : oddOf (2 ^ e) = 1 := by
  induction e with
  | zero => exact oddOf_odd rfl
  | succ e ih =>
    have hp := Nat.two_pow_pos e
    rw [oddOf_even (by rw [Nat.pow_succ]; omega) (by rw [Nat.pow_succ]; omega), show 2 ^ (e + 1) / 2 = 2 ^ e by rw [Nat.pow_succ]; omega, ih]
theorem pow_oddOf (n : Nat) : oddOf n = 1 → ∃ e, n = 2 ^ e := by
  induction n using Nat.strongRecOn with
  | ind n ih =>
    intro h
    by_cases h2 : n % 2 = 0 ∧ 0 < n
    · rw [oddOf_even h2.1 h2.2] at h
      obtain ⟨e, he⟩ := ih (n / 2) (by omega) h
      exact ⟨e + 1, by rw [Nat.pow_succ, ← he]; omega⟩
    · rw [oddOf_eq, dif_neg h2] at h
      exact ⟨0, by rw [h]⟩
theorem powB_iff (n : Nat) : powB n = true ↔ ∃ e, n = 2 ^ e := by
  unfold powB
  rw [decide_eq_true_iff]
  exact ⟨pow_oddOf n, fun ⟨e, he⟩ => by rw [he]; exact oddOf_pow e⟩

/-- What the end of a run says. -/
def consEnd (was root : ByteArray) : Option (Nat × Nat × ByteArray × ByteArray) → Bool
  | none => false
  | some (_, b, x, y) => decide (b = 0) && (x.toList == was.toList) && (y.toList == root.toList)
/-- The row that is run over. -/
def rowB (m : Nat) (proof : List ByteArray) (was : ByteArray) : List ByteArray := if powB m then was :: proof else proof
/-- What Consistent answers of right arguments. -/
def consY (m n : Nat) (proof : List ByteArray) (was root : ByteArray) : Bool :=
  if m = n then decide (proof.length = 0) && (was.toList == root.toList) else consEnd was root (consAll nodeB (odds (m - 1) (n - 1)) (rowB m proof was))
/-- What Consistent answers. -/
def consB (m n : Int) (proof : List ByteArray) (was root : ByteArray) : Bool :=
  if 64 < (proof.length : Int) ∨ wideB proof = false ∨ ¬ (was.size : Int) = 32 ∨ ¬ (root.size : Int) = 32 ∨ m < 1 ∨ n < m then false else consY m.toNat n.toNat proof was root
theorem consB_no {m n : Int} {proof : List ByteArray} {was root : ByteArray} (h : 64 < (proof.length : Int) ∨ wideB proof = false ∨ ¬ (was.size : Int) = 32 ∨ ¬ (root.size : Int) = 32 ∨ m < 1 ∨ n < m) : consB m n proof was root = false := by
  unfold consB
  rw [if_pos h]
theorem consB_yes {m n : Int} {proof : List ByteArray} {was root : ByteArray} (h1 : proof.length ≤ 64) (h2 : wideB proof = true) (h3 : (was.size : Int) = 32) (h4 : (root.size : Int) = 32) (h5 : 1 ≤ m) (h6 : m ≤ n) : consB m n proof was root = consY m.toNat n.toNat proof was root := by
  unfold consB
  rw [if_neg]
  rintro (h | h | h | h | h | h)
  · omega
  · rw [h2] at h; cases h
  · exact h h3
  · exact h h4
  · omega
  · omega

/-- Retraced from above, and held against both. -/
theorem cons_ret (m n : Nat) (proof : List ByteArray) (was root : ByteArray) (h1 : 1 ≤ m) (hmn : m ≤ n) :
    consY m n proof was root = ((retR nodeB ByteArray.empty was proof.reverse m n true).2 && (((retR nodeB ByteArray.empty was proof.reverse m n true).1.1.toList == was.toList) && ((retR nodeB ByteArray.empty was proof.reverse m n true).1.2.toList == root.toList))) := by
  unfold consY
  by_cases hm : m = n
  · subst hm
    rw [if_pos rfl]
    cases hr : proof.reverse with
    | nil =>
      have hp : proof = [] := List.reverse_eq_nil_iff.1 hr
      rw [retR, if_pos ⟨rfl, rfl⟩, hp]
      simp
    | cons p r =>
      have hp : ¬ proof.length = 0 := by
        intro h
        have : proof.reverse.length = 0 := by rw [List.length_reverse, h]
        rw [hr] at this
        simp at this
      rw [retR, if_pos ⟨rfl, rfl⟩, decide_eq_false hp]
      simp
  · rw [if_neg hm]
    have key : ∀ R : (ByteArray × ByteArray) × Bool, ∀ s : Option (Nat × Nat × ByteArray × ByteArray), consOut s = (if R.2 then some R.1 else none) → consEnd was root s = (R.2 && ((R.1.1.toList == was.toList) && (R.1.2.toList == root.toList))) := by
      rintro ⟨⟨x, y⟩, f⟩ s hs
      cases s with
      | none =>
        cases f with
        | true => simp [consOut] at hs
        | false => rfl
      | some t =>
        obtain ⟨a, b, x', y'⟩ := t
        by_cases hb : b = 0
        · cases f with
          | true =>
            simp [consOut, hb] at hs
            obtain ⟨rfl, rfl⟩ := hs
            simp [consEnd, hb]
          | false => simp [consOut, hb] at hs
        · cases f with
          | true => simp [consOut, hb] at hs
          | false => simp [consEnd, hb]
    by_cases hp : powB m = true
    · have hpow := (powB_iff m).1 hp
      have hrow : rowB m proof was = was :: proof := by unfold rowB; rw [if_pos hp]
      have hrun := ret_run nodeB ByteArray.empty was m n (was :: proof) h1 (by omega)
      rw [hrow, key _ _ hrun, List.reverse_cons]
      obtain ⟨e1, e2⟩ := ret_pow nodeB ByteArray.empty was proof.reverse m n hpow hmn (.inr (by omega))
      rw [← e1]
      cases hf : (retR nodeB ByteArray.empty was proof.reverse m n true).2 with
      | false => rfl
      | true => rw [e2 hf]
    · have hrow : rowB m proof was = proof := by unfold rowB; rw [if_neg hp]
      have hrun := ret_run nodeB ByteArray.empty was m n proof h1 (by omega)
      rw [hrow, key _ _ hrun, ret_not nodeB ByteArray.empty was proof.reverse m n (fun h => hp ((powB_iff m).2 h)) h1 (by omega)]
end Go.Proofs.YtchlopmmhcobdafDoor
