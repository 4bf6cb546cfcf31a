/-
  The walks of PutText, the document's and the program's: the text's length as PutNum has it, and the text behind it.
-/
import Derived.Test.YtcenlgfopmahcaaGreatDoorPkAgrees
import Derived.Test.YtcenlgfopmahcaaGreatDoorPkMem
import Derived.Test.YtcenlgfopmahcaaGreatDoorPkTextRows
import Derived.Laws.Concat
namespace Go.Proofs.YtcenlgfopmahcaaGreatDoor
open Go.RowKit Go.Lib
set_option linter.unusedVariables false

theorem putN_len (f : Nat) : ∀ x : Int, (putN f x).length ≤ f + 1 := by
  induction f with
  | zero => intro x; simp [putN]
  | succ f ih =>
    intro x
    simp only [putN]
    split
    · simp
    · have := ih (x / 128); simp; omega

theorem putNum_size (n : Int) : (⟨(putNum n).toArray⟩ : ByteArray).size ≤ 11 := by
  have h := putN_len 10 (foldU n)
  show (putNum n).toArray.size ≤ 11
  unfold putNum
  rw [List.size_toArray]
  exact h

/-- What PutText answers. -/
def putText (s : ByteArray) : ByteArray := if 20000 < (s.size : Int) then ⟨#[]⟩ else ⟨(putNum s.size).toArray⟩ ++ s

set_option maxHeartbeats 400000 in
theorem specPutText_any (s : ByteArray) (w : World) (hs : s.size ≤ 1048576) :
    Calls Tryz.prog 91 #[.string s] w fun e w' => e = .returned (.string (putText s)) ∧ Below w.heap.size w w' := by
  unfold putText
  by_cases h : 20000 < (s.size : Int)
  · rw [if_pos h]
    go_enter Tryz.func91, Tryz.ntmps91
    go_wp2
    go_ret
    exact ⟨rfl, Below.refl _ _⟩
  · rw [if_neg h]
    have E := fun w => specPutNum_any s.size w (by omega) (by omega)
    have hz := putNum_size s.size
    generalize (⟨(putNum s.size).toArray⟩ : ByteArray) = f at *
    have HE : Hid (∀ w, Calls Tryz.prog 92 #[.int .i64 s.size] w fun e w' => e = .returned (.string f) ∧ Below w.heap.size w w') := E
    clear E
    go_enter Tryz.func91, Tryz.ntmps91
    go_wp2_with fail
    refine (HE.out _).mono ?_
    rintro e w1 ⟨rfl, hb⟩
    go_wp2
    go_ret
    exact ⟨rfl, hb⟩

set_option maxHeartbeats 400000 in
theorem implPutText_any (s : ByteArray) (w : World) (hs : s.size ≤ 1048576) :
    Calls Tryz.prog 132 #[.string s] w fun e w' => e = .returned (.string (putText s)) ∧ Below w.heap.size w w' := by
  unfold putText
  by_cases h : 20000 < (s.size : Int)
  · rw [if_pos h]
    go_enter Tryz.func132, Tryz.ntmps132
    go_wp2
    go_ret
    exact ⟨rfl, Below.refl _ _⟩
  · rw [if_neg h]
    have E := fun w => implPutNum_any s.size w (by omega) (by omega)
    have hz := putNum_size s.size
    generalize (⟨(putNum s.size).toArray⟩ : ByteArray) = f at *
    have HE : Hid (∀ w, Calls Tryz.prog 134 #[.int .i64 s.size] w fun e w' => e = .returned (.string f) ∧ Below w.heap.size w w') := E
    clear E
    go_enter Tryz.func132, Tryz.ntmps132
    go_wp2_with fail
    refine (HE.out _).mono ?_
    rintro e w1 ⟨rfl, hb⟩
    go_wp2_with fail
    refine (joined_any f s _ (by omega) hs).mono ?_
    rintro e w2 ⟨rfl, hb2⟩
    go_wp2
    go_ret
    exact ⟨rfl, hb.trans (hb2.mono hb.size)⟩
end Go.Proofs.YtcenlgfopmahcaaGreatDoor

/-
  What HeadText answers.
-/
namespace Go.Proofs.YtcenlgfopmahcaaGreatDoor
open Go.RowKit Go.Lib
set_option linter.unusedVariables false
set_option linter.unusedSimpArgs false

theorem ba_size (a b : ByteArray) : (a ++ b).size = a.size + b.size := ByteArray.size_append
/-- The bytes of a number. -/
def numT (n : Int) : ByteArray := ⟨(putNum n).toArray⟩
theorem putText_size (s : ByteArray) : (putText s).size ≤ 20011 := by
  unfold putText
  split
  · exact Nat.zero_le _
  · rw [ba_size]
    have := putNum_size s.size
    omega
/-- The text that is signed of a head. -/
def headT (log : ByteArray) (size : Int) (root : ByteArray) (time : Int) : ByteArray := putText log ++ numT size ++ putText root ++ numT time
theorem headT_size (log : ByteArray) (size : Int) (root : ByteArray) (time : Int) : (headT log size root time).size ≤ 40044 := by
  unfold headT numT
  rw [ba_size, ba_size, ba_size]
  have := putText_size log
  have := putText_size root
  have := putNum_size size
  have := putNum_size time
  omega
/-- What HeadText answers. -/
def headTB (log : ByteArray) (size : Int) (root : ByteArray) (time k : Int) (el pl : List ByteArray) : ByteArray := if headRB log size root time k el pl then headT log size root time else ⟨#[]⟩
end Go.Proofs.YtcenlgfopmahcaaGreatDoor

/-
  What HeadGood answers.
-/
namespace Go.Proofs.YtcenlgfopmahcaaGreatDoor
open Go.RowKit Go.Lib
set_option linter.unusedVariables false
set_option linter.unusedSimpArgs false

/-- What HeadGood answers. -/
def headGB (r log : ByteArray) (size : Int) (root : ByteArray) (time k : Int) (el pl : List ByteArray) : Bool := headRB log size root time k el pl && verB r (headT log size root time) k el pl
end Go.Proofs.YtcenlgfopmahcaaGreatDoor
