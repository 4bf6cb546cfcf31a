/-
  The walks of PutText, the document's and the program's: the text's length as PutNum has it, and the text behind it.
-/
import Derived.Test.YtpglcbidfghfkaaGreatDoorPkPutNum
import Derived.Test.YtpglcbidfghfkaaGreatDoorPkMem
import Derived.Laws.Concat
namespace Go.Proofs.YtpglcbidfghfkaaGreatDoor
open Go.RowKit Go.Lib
set_option linter.unusedVariables false

theorem putN_len (f : Nat) : ∀ x : Int, (putN f x).length ≤ f + 1 := by
  induction f with
  | zero => intro x; simp [putN]
  | succ f ih =>
    intro x
    simp only [putN]
    split
    · simp
    · have := ih (x / 128); simp; omega

theorem putNum_size (n : Int) : (⟨(putNum n).toArray⟩ : ByteArray).size ≤ 11 := by
  have h := putN_len 10 (foldU n)
  show (putNum n).toArray.size ≤ 11
  unfold putNum
  rw [List.size_toArray]
  exact h

/-- What PutText answers. -/
def putText (s : ByteArray) : ByteArray := if 20000 < (s.size : Int) then ⟨#[]⟩ else ⟨(putNum s.size).toArray⟩ ++ s

set_option maxHeartbeats 400000 in
theorem specPutText_any (s : ByteArray) (w : World) (hs : s.size ≤ 1048576) :
    Calls Tryz.prog 95 #[.string s] w fun e w' => e = .returned (.string (putText s)) ∧ Below w.heap.size w w' := by
  unfold putText
  by_cases h : 20000 < (s.size : Int)
  · rw [if_pos h]
    go_enter Tryz.func95, Tryz.ntmps95
    go_wp2
    go_ret
    exact ⟨rfl, Below.refl _ _⟩
  · rw [if_neg h]
    have E := fun w => specPutNum_any s.size w (by omega) (by omega)
    have hz := putNum_size s.size
    generalize (⟨(putNum s.size).toArray⟩ : ByteArray) = f at *
    have HE : Hid (∀ w, Calls Tryz.prog 94 #[.int .i64 s.size] w fun e w' => e = .returned (.string f) ∧ Below w.heap.size w w') := E
    clear E
    go_enter Tryz.func95, Tryz.ntmps95
    go_wp2_with fail
    refine (HE.out _).mono ?_
    rintro e w1 ⟨rfl, hb⟩
    go_wp2
    go_ret
    exact ⟨rfl, hb⟩

set_option maxHeartbeats 400000 in
theorem implPutText_any (s : ByteArray) (w : World) (hs : s.size ≤ 1048576) :
    Calls Tryz.prog 152 #[.string s] w fun e w' => e = .returned (.string (putText s)) ∧ Below w.heap.size w w' := by
  unfold putText
  by_cases h : 20000 < (s.size : Int)
  · rw [if_pos h]
    go_enter Tryz.func152, Tryz.ntmps152
    go_wp2
    go_ret
    exact ⟨rfl, Below.refl _ _⟩
  · rw [if_neg h]
    have E := fun w => implPutNum_any s.size w (by omega) (by omega)
    have hz := putNum_size s.size
    generalize (⟨(putNum s.size).toArray⟩ : ByteArray) = f at *
    have HE : Hid (∀ w, Calls Tryz.prog 91 #[.int .i64 s.size] w fun e w' => e = .returned (.string f) ∧ Below w.heap.size w w') := E
    clear E
    go_enter Tryz.func152, Tryz.ntmps152
    go_wp2_with fail
    refine (HE.out _).mono ?_
    rintro e w1 ⟨rfl, hb⟩
    go_wp2_with fail
    refine (joined_any f s _ (by omega) hs).mono ?_
    rintro e w2 ⟨rfl, hb2⟩
    go_wp2
    go_ret
    exact ⟨rfl, hb.trans (hb2.mono hb.size)⟩
end Go.Proofs.YtpglcbidfghfkaaGreatDoor
