/-
  What the functions of chapter 5 answer: chains of digests, the public texts of a seed, the digits of a text.
-/
import Derived.Test.YtpglcbidfghfkabGreatDoorPkCells
import Derived.Test.YtpglcbidfghfkabGreatDoorPkPutNum
import Derived.Test.YtpglcbidfghfkabGreatDoorPkTexts
namespace Go.Proofs.YtpglcbidfghfkabGreatDoor
open Go.RowKit Go.Lib
set_option linter.unusedVariables false
set_option linter.unusedSimpArgs false

/-- n steps. -/
def stepsB : Nat → ByteArray → ByteArray
  | 0, t => t
  | n + 1, t => shaB (stepsB n t)
theorem stepsB_sha (n : Nat) (t : ByteArray) : stepsB n (shaB t) = stepsB (n + 1) t := by
  induction n with
  | zero => rfl
  | succ n ih => show shaB (stepsB n (shaB t)) = shaB (stepsB (n + 1) t); rw [ih]
theorem stepsB_more (a b : Nat) (t : ByteArray) : stepsB a (stepsB b t) = stepsB (b + a) t := by
  induction a with
  | zero => rfl
  | succ a ih => show shaB (stepsB a (stepsB b t)) = shaB (stepsB (b + a) t); rw [ih]
theorem stepsB_size (n : Nat) {t : ByteArray} (h : t.size = 32) : (stepsB n t).size = 32 := by
  cases n with
  | zero => exact h
  | succ n => exact shaB_size _
/-- The bytes of a number. -/
def numB (n : Int) : ByteArray := ⟨(putNum n).toArray⟩
theorem numN_len (f : Nat) : ∀ x, (putN f x).length ≤ f + 1 := by
  induction f with
  | zero => intro x; simp [putN]
  | succ f ih =>
    intro x
    have := ih (x / 128)
    unfold putN
    split
    · simp
    · simp; omega
theorem numB_size (n : Int) : (numB n).size ≤ 11 := by
  have := numN_len 10 (foldU n)
  simpa [numB, putNum, ByteArray.size] using this
/-- The beginning of a chain. -/
def beginB (s : ByteArray) (i j : Int) : ByteArray := macB s (numB i ++ numB j)
theorem beginB_size (s : ByteArray) (i j : Int) : (beginB s i j).size = 32 := macB_size _ _
/-- n texts one behind the other. -/
def catB (f : Nat → ByteArray) : Nat → ByteArray
  | 0 => ByteArray.empty
  | n + 1 => catB f n ++ f n
theorem catB_size (f : Nat → ByteArray) (n : Nat) (h : ∀ j, j < n → (f j).size = 32) : (catB f n).size = 32 * n := by
  induction n with
  | zero => rfl
  | succ n ih =>
    show (catB f n ++ f n).size = _
    rw [ByteArray.size_append, ih (fun j hj => h j (by omega)), h n (by omega)]
    omega
theorem catB_congr {f g : Nat → ByteArray} (n : Nat) (h : ∀ j, j < n → f j = g j) : catB f n = catB g n := by
  induction n with
  | zero => rfl
  | succ n ih =>
    show catB f n ++ f n = catB g n ++ g n
    rw [ih (fun j hj => h j (by omega)), h n (by omega)]
/-- The public text of a key whose chains are at their ends. -/
def publicOf (f : Nat → ByteArray) : ByteArray := shaB (catB f 6)
def publicB (s : ByteArray) (i : Nat) : ByteArray := publicOf fun j => stepsB 15 (beginB s i j)
theorem publicB_size (s : ByteArray) (i : Nat) : (publicB s i).size = 32 := shaB_size _
/-- The public texts of a seed's keys. -/
def pubsB (s : ByteArray) : List ByteArray := (List.range 4).map (publicB s)
theorem pubsB_len (s : ByteArray) : (pubsB s).length = 4 := by simp [pubsB]
theorem pubsB_at (s : ByteArray) (j : Nat) (hj : j < (pubsB s).length) : (pubsB s)[j] = publicB s j := by simp [pubsB]
theorem pubsB_size (s : ByteArray) (j : Nat) (hj : j < (pubsB s).length) : (pubsB s)[j].size ≤ 100 := by
  rw [pubsB_at, publicB_size]; omega

/-- The digits of two bytes. -/
def digF (x y : Int) : Nat → Int
  | 0 => x / 16
  | 1 => x % 16
  | 2 => y / 16
  | 3 => y % 16
  | 4 => (60 - x / 16 - x % 16 - y / 16 - y % 16) / 16
  | _ => (60 - x / 16 - x % 16 - y / 16 - y % 16) % 16
theorem digF_bd {x y : Int} (hx0 : 0 ≤ x) (hx1 : x < 256) (hy0 : 0 ≤ y) (hy1 : y < 256) (j : Nat) : 0 ≤ digF x y j ∧ digF x y j ≤ 15 := by
  match j with
  | 0 => show 0 ≤ x / 16 ∧ x / 16 ≤ 15; omega
  | 1 => show 0 ≤ x % 16 ∧ x % 16 ≤ 15; omega
  | 2 => show 0 ≤ y / 16 ∧ y / 16 ≤ 15; omega
  | 3 => show 0 ≤ y % 16 ∧ y % 16 ≤ 15; omega
  | 4 => show 0 ≤ (60 - x / 16 - x % 16 - y / 16 - y % 16) / 16 ∧ (60 - x / 16 - x % 16 - y / 16 - y % 16) / 16 ≤ 15; omega
  | n + 5 => show 0 ≤ (60 - x / 16 - x % 16 - y / 16 - y % 16) % 16 ∧ (60 - x / 16 - x % 16 - y / 16 - y % 16) % 16 ≤ 15; omega
/-- The digits of a text. -/
def digI (t : ByteArray) (j : Nat) : Int := digF (byteL (shaB t).data.toList 0) (byteL (shaB t).data.toList 1) j
theorem digI_bd (t : ByteArray) (j : Nat) : 0 ≤ digI t j ∧ digI t j ≤ 15 :=
  digF_bd (byteL_bd _ 0).1 (byteL_bd _ 0).2 (byteL_bd _ 1).1 (byteL_bd _ 1).2 j
def digB (t : ByteArray) (j : Nat) : Nat := (digI t j).toNat
theorem digB_cast (t : ByteArray) (j : Nat) : ((digB t j : Nat) : Int) = digI t j := by have := digI_bd t j; unfold digB; omega
theorem digB_le (t : ByteArray) (j : Nat) : digB t j ≤ 15 := by have := digI_bd t j; unfold digB; omega
/-- Is it a seed? -/
def seedB (s : ByteArray) : Bool := decide (1 ≤ (s.size : Int) ∧ (s.size : Int) ≤ 64)
theorem seedB_yes {s : ByteArray} (h : seedB s = true) : 1 ≤ (s.size : Int) ∧ (s.size : Int) ≤ 64 := by unfold seedB at h; simpa using h
theorem seedB_no {s : ByteArray} (h : ¬ seedB s = true) : ¬ (1 ≤ (s.size : Int) ∧ (s.size : Int) ≤ 64) := by unfold seedB at h; simpa using h
/-- The Ends of a signature. -/
def endsB (s : ByteArray) (k : Int) (t : ByteArray) : List ByteArray := (List.range 6).map fun j => stepsB (digB t j) (beginB s k j)
/-- The Ends, each taken as far as it is left to go. -/
def leftB (t : ByteArray) (l : List ByteArray) : ByteArray := publicOf fun j => stepsB (15 - digB t j) (l.getD j ByteArray.empty)
/-- WHAT IS SIGNED COMES TO THE KEY'S PUBLIC TEXT. -/
theorem left_ends (s : ByteArray) (k : Nat) (t : ByteArray) : leftB t (endsB s k t) = publicB s k := by
  unfold leftB publicB publicOf
  refine congrArg shaB (catB_congr 6 fun j hj => ?_)
  have hg : (endsB s k t).getD j ByteArray.empty = stepsB (digB t j) (beginB s k j) := by simp [endsB, List.getD, hj]
  have hd := digB_le t j
  rw [hg, stepsB_more, show digB t j + (15 - digB t j) = 15 by omega]
end Go.Proofs.YtpglcbidfghfkabGreatDoor

/-
  What Verify answers.
-/
namespace Go.Proofs.YtpglcbidfghfkabGreatDoor
open Go.RowKit Go.Lib
set_option linter.unusedVariables false
set_option linter.unusedSimpArgs false

def verB (root text : ByteArray) (k : Int) (el pl : List ByteArray) : Bool := sigRB k el pl && decide ((root.size : Int) = 32) && decide ((text.size : Int) ≤ 20000) && inclB (leafB (leftB text el)) k 4 pl root
theorem verB_sig {root text : ByteArray} {k : Int} {el pl : List ByteArray} (h : sigRB k el pl = false) : verB root text k el pl = false := by unfold verB; rw [h]; rfl
theorem verB_root {root text : ByteArray} {k : Int} {el pl : List ByteArray} (h : sigRB k el pl = true) (h1 : ¬ (root.size : Int) = 32) : verB root text k el pl = false := by unfold verB; rw [h, decide_eq_false h1]; rfl
theorem verB_text {root text : ByteArray} {k : Int} {el pl : List ByteArray} (h : sigRB k el pl = true) (h1 : (root.size : Int) = 32) (h2 : ¬ (text.size : Int) ≤ 20000) : verB root text k el pl = false := by unfold verB; rw [h, decide_eq_true h1, decide_eq_false h2]; rfl
theorem verB_rest {root text : ByteArray} {k : Int} {el pl : List ByteArray} (h : sigRB k el pl = true) (h1 : (root.size : Int) = 32) (h2 : (text.size : Int) ≤ 20000) : verB root text k el pl = inclB (leafB (leftB text el)) k 4 pl root := by unfold verB; rw [h, decide_eq_true h1, decide_eq_true h2]; rfl
theorem leftB_size (t : ByteArray) (l : List ByteArray) : (leftB t l).size = 32 := shaB_size _
theorem wide_get {l : List ByteArray} (h : wideB l = true) (h6 : l.length = 6) (j : Nat) (hj : j < 6) : (l.getD j ByteArray.empty).size = 32 := by
  have hjl : j < l.length := by omega
  have e : l.getD j ByteArray.empty = l[j] := by simp [List.getD, hjl]
  rw [e]
  exact wideB_at h hjl
end Go.Proofs.YtpglcbidfghfkabGreatDoor
