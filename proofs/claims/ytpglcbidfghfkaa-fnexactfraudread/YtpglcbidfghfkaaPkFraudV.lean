/-
  What FraudBytes answers: heads and entries as bytes.
-/
import Derived.Test.YtpglcbidfghfkaaPkHeadTV
import Derived.Test.YtpglcbidfghfkaaPkRight
namespace Go.Proofs.Ytpglcbidfghfkaa
open Go.RowKit Go.Lib
set_option linter.unusedVariables false
set_option linter.unusedSimpArgs false

/-- A row, and texts put one by one behind it. -/
def putAllOn (row : ByteArray) (l : List ByteArray) : ByteArray := l.foldl (fun r t => r ++ putText t) row
theorem putAllOn_succ (row : ByteArray) {l : List ByteArray} {k : Nat} (hk : k < l.length) : putAllOn row (l.take (k + 1)) = putAllOn row (l.take k) ++ putText l[k] := by
  unfold putAllOn
  rw [List.take_succ_eq_append_getElem hk, List.foldl_append]
  rfl
theorem putText_small {t : ByteArray} (h : t.size ≤ 100) : (putText t).size ≤ 111 := by
  unfold putText
  split
  · exact Nat.zero_le _
  · rw [ba_size]
    have := putNum_size t.size
    omega
theorem putAllOn_size (l : List ByteArray) : ∀ row : ByteArray, (∀ t ∈ l, t.size ≤ 100) → (putAllOn row l).size ≤ row.size + 111 * l.length := by
  induction l with
  | nil => intro row _; exact Nat.le_add_right _ _
  | cons t l ih =>
    intro row h
    have h1 := ih (row ++ putText t) (fun u hu => h u (List.mem_cons_of_mem _ hu))
    have h2 := putText_small (h t List.mem_cons_self)
    rw [ba_size] at h1
    have h3 : putAllOn row (t :: l) = putAllOn (row ++ putText t) l := rfl
    rw [h3, List.length_cons]
    omega
theorem small_take {l : List ByteArray} (h : ∀ t ∈ l, t.size ≤ 100) (k : Nat) : ∀ t ∈ l.take k, t.size ≤ 100 := fun t ht => h t (List.mem_of_mem_take ht)
theorem wide_small {l : List ByteArray} (h : wideB l = true) : ∀ t ∈ l, t.size ≤ 100 := fun t ht => by
  obtain ⟨j, hj, rfl⟩ := List.getElem_of_mem ht
  have := wideB_at h hj
  omega
theorem right_small {l : List ByteArray} (h : rightB l = true) : ∀ t ∈ l, t.size ≤ 100 := fun t ht => by
  obtain ⟨j, hj, rfl⟩ := List.getElem_of_mem ht
  exact rightB_at h hj
theorem numT_size (n : Int) : (numT n).size ≤ 11 := putNum_size n
/-- The bytes of a head. -/
def headBy (log : ByteArray) (size : Int) (root : ByteArray) (time k : Int) (el pl : List ByteArray) : ByteArray :=
  putAllOn (putAllOn (putText (headT log size root time) ++ numT k) el) pl
theorem headRB_sig {log root : ByteArray} {size time k : Int} {el pl : List ByteArray} (h : headRB log size root time k el pl = true) : sigRB k el pl = true := by
  unfold headRB at h
  exact (Bool.and_eq_true_iff.1 h).2
theorem headBy_size {log root : ByteArray} {size time k : Int} {el pl : List ByteArray} (h : headRB log size root time k el pl = true) : (headBy log size root time k el pl).size ≤ 21000 := by
  obtain ⟨_, h1, h2, h3, h4⟩ := sigRB_yes (headRB_sig h)
  unfold headBy
  have e1 := putAllOn_size pl (putAllOn (putText (headT log size root time) ++ numT k) el) (wide_small h4)
  have e2 := putAllOn_size el (putText (headT log size root time) ++ numT k) (wide_small h3)
  rw [ba_size] at e2
  have e3 := putText_size (headT log size root time)
  have e4 := numT_size k
  omega
/-- The bytes of a fraud whose heads have the bytes a and b. -/
def fraudBy (a b : ByteArray) (l : List ByteArray) : ByteArray := putAllOn (a ++ b ++ numT l.length) l
/-- What FraudBytes answers. -/
def fraudT (ra rb : Bool) (a b : ByteArray) (l : List ByteArray) : ByteArray := if ra && rb && rightB l then fraudBy a b l else ⟨#[]⟩
theorem Texts.rowAt {w : World} {B n cap : Nat} {a : Option Addr} {l : List ByteArray} (h : Texts w B (.slice a n cap) l) (h0 : 0 < l.length) : ∃ b off, a = some ⟨b, off, none⟩ ∧ b < B ∧ ∀ j (hj : j < l.length), w.cell? ⟨b, off + j, none⟩ = some (.string l[j]) := by
  obtain ⟨a', cap', e, hc, _⟩ := h
  obtain rfl : a = a' := by simp at e; exact e.1
  rcases hc with h1 | ⟨b, off, h1, h2, h3⟩
  · omega
  · exact ⟨b, off, h1, h2, h3⟩
end Go.Proofs.Ytpglcbidfghfkaa
