/-
  What HeadSign answers.
-/
import Derived.Test.YtpglcbidfghfkaaGreatDoorPkHeadTV
import Derived.Test.YtpglcbidfghfkaaGreatDoorPkRight
namespace Go.Proofs.YtpglcbidfghfkaaGreatDoor
open Go.RowKit Go.Lib
set_option linter.unusedVariables false
set_option linter.unusedSimpArgs false

/-- May it be signed? -/
def hsB (s : ByteArray) (k : Int) (log : ByteArray) (l : List ByteArray) (t : Int) : Bool := seedB s && decide (0 ≤ k ∧ k ≤ 3) && nameB log && rightB l && decide (0 ≤ t ∧ t ≤ 1000000000)
theorem hsB_yes {s log : ByteArray} {k t : Int} {l : List ByteArray} (h : hsB s k log l t = true) : seedB s = true ∧ (0 ≤ k ∧ k ≤ 3) ∧ nameB log = true ∧ rightB l = true ∧ 0 ≤ t ∧ t ≤ 1000000000 := by
  unfold hsB at h
  simp at h
  exact ⟨h.1.1.1.1, h.1.1.1.2, h.1.1.2, h.1.2, h.2⟩
/-- The text that is signed. -/
def hsT (log : ByteArray) (l : List ByteArray) (t : Int) : ByteArray := headT log l.length (treeB l) t
theorem putText_short (s : ByteArray) : (putText s).size ≤ 11 + s.size := by
  unfold putText
  split
  · exact Nat.zero_le _
  · rw [ba_size]
    have := putNum_size s.size
    omega
theorem hsT_size {log : ByteArray} (h : nameB log = true) (l : List ByteArray) (t : Int) : (hsT log l t).size ≤ 200 := by
  unfold hsT headT numT
  rw [ba_size, ba_size, ba_size]
  have h1 := putText_short log
  have h2 := putText_short (treeB l)
  have h3 := putNum_size l.length
  have h4 := putNum_size t
  have h5 := (nameB_yes h).2
  have h6 := treeB_size l
  omega
theorem claimB_right {log : ByteArray} {l : List ByteArray} {t : Int} (h : rightB l = true) : claimB log l.length (treeB l) t = (nameB log && decide (0 ≤ t ∧ t ≤ 1000000000)) := by
  unfold claimB
  have h1 := rightB_len h
  rw [treeB_size, decide_eq_true (show (0 : Int) ≤ (l.length : Int) ∧ (l.length : Int) ≤ 64 by omega)]
  simp
def hsLog (s : ByteArray) (k : Int) (log : ByteArray) (l : List ByteArray) (t : Int) : ByteArray := if hsB s k log l t then log else ⟨#[]⟩
def hsSize (s : ByteArray) (k : Int) (log : ByteArray) (l : List ByteArray) (t : Int) : Int := if hsB s k log l t then (l.length : Int) else 0
def hsRoot (s : ByteArray) (k : Int) (log : ByteArray) (l : List ByteArray) (t : Int) : ByteArray := if hsB s k log l t then treeB l else ⟨#[]⟩
def hsTime (s : ByteArray) (k : Int) (log : ByteArray) (l : List ByteArray) (t : Int) : Int := if hsB s k log l t then t else 0
def hsKey (s : ByteArray) (k : Int) (log : ByteArray) (l : List ByteArray) (t : Int) : Int := if hsB s k log l t then k else 0
def hsEnds (s : ByteArray) (k : Int) (log : ByteArray) (l : List ByteArray) (t : Int) : List ByteArray := if hsB s k log l t then endsB s k (hsT log l t) else []
def hsPath (s : ByteArray) (k : Int) (log : ByteArray) (l : List ByteArray) (t : Int) : List ByteArray := if hsB s k log l t then pathB (pubsB s) k.toNat else []
theorem hsEnds_len (s : ByteArray) (k : Int) (log : ByteArray) (l : List ByteArray) (t : Int) : (hsEnds s k log l t).length ≤ 6 := by
  unfold hsEnds endsB
  split <;> simp
theorem hsPath_len (s : ByteArray) (k : Int) (log : ByteArray) (l : List ByteArray) (t : Int) : (hsPath s k log l t).length ≤ 5 := by
  unfold hsPath
  split
  · have := pathB_len (pubsB s).length (pubsB s) k.toNat rfl
    rw [pubsB_len] at this
    omega
  · simp
/-- The rows of a head that is told lie anywhere. -/
def HeadTold (w : World) (log : ByteArray) (size : Int) (root : ByteArray) (time k : Int) (el pl : List ByteArray) (e : Ending) (w' : World) : Prop :=
  ∃ ve vp, e = .returned (.agg #[.string log, .int .i64 size, .string root, .int .i64 time, .int .i64 k, ve, vp]) ∧ Texts w' w'.heap.size ve el ∧ Texts w' w'.heap.size vp pl ∧ Below w.heap.size w w'
/-- A head whose rows are the call's own: the Ends ahead of n, the Path behind it. -/
def HeadAns (w : World) (log : ByteArray) (size : Int) (root : ByteArray) (time k : Int) (el pl : List ByteArray) (e : Ending) (w' : World) : Prop :=
  ∃ ve vp n, e = .returned (.agg #[.string log, .int .i64 size, .string root, .int .i64 time, .int .i64 k, ve, vp]) ∧ OwnT w' w.heap.size ve el ∧ OwnT w' n vp pl ∧ (∀ g, ve.ownBlock = some g → g < n) ∧ w.heap.size ≤ n ∧ n ≤ w'.heap.size ∧ Below w.heap.size w w'
end Go.Proofs.YtpglcbidfghfkaaGreatDoor
