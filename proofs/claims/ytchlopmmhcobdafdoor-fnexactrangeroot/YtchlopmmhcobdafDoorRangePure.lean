/-
  Ranges of trees: a range to which leaves are added one by one comes to their tree. Plain mathematics.
-/
import Derived.Test.YtchlopmmhcobdafDoorTreePure
namespace Go.Proofs.YtchlopmmhcobdafDoor
set_option linter.unusedVariables false

/-- How many bits are 1. -/
def onesS (go : Nat → Nat) (n : Nat) : Nat := if h : n = 0 then 0 else n % 2 + go (n / 2)
def onesN (n : Nat) : Nat := wfix id 0 onesS n
theorem onesN_eq (n : Nat) : onesN n = if h : n = 0 then 0 else n % 2 + onesN (n / 2) :=
  wfix_eq id 0 onesS (fun x g g' h => by
    unfold onesS
    by_cases c : x = 0
    · rw [dif_pos c, dif_pos c]
    · rw [dif_neg c, dif_neg c, h (x / 2) (by show x / 2 < x; omega)]) n
theorem onesN_zero : onesN 0 = 0 := by rw [onesN_eq]; simp
theorem onesN_step (n : Nat) : onesN n = n % 2 + onesN (n / 2) := by
  by_cases h : n = 0
  · subst h; simp [onesN_zero]
  · rw [onesN_eq, dif_neg h]
theorem onesN_add (e m : Nat) (h : m < 2 ^ e) : onesN (2 ^ e + m) = 1 + onesN m := by
  induction e generalizing m with
  | zero =>
    have : m = 0 := by simpa using h
    subst this
    rw [onesN_step]
  | succ e ih =>
    have e2 : 2 ^ (e + 1) = 2 * 2 ^ e := by rw [Nat.pow_succ, Nat.mul_comm]
    rw [onesN_step (2 ^ (e + 1) + m), onesN_step m, e2, show (2 * 2 ^ e + m) % 2 = m % 2 by omega, show (2 * 2 ^ e + m) / 2 = 2 ^ e + m / 2 by omega, ih (m / 2) (by omega)]
    exact Nat.add_left_comm _ _ _

/-- n above 0 has a greatest power of two that is no greater. -/
theorem top_spec {n : Nat} (hn : 1 ≤ n) : ∃ e, half (n + 1) = 2 ^ e ∧ 2 ^ e ≤ n ∧ n < 2 * 2 ^ e := by
  obtain ⟨e, h1, h2, h3⟩ := half_spec (show 2 ≤ n + 1 by omega)
  rw [h1] at h2 h3
  exact ⟨e, h1, by omega, by omega⟩
theorem top_is {n e : Nat} (h1 : 2 ^ e ≤ n) (h2 : n < 2 * 2 ^ e) : half (n + 1) = 2 ^ e := by
  have hp := Nat.two_pow_pos e
  obtain ⟨f, h3, h4, h5⟩ := top_spec (show 1 ≤ n by omega)
  rw [h3, pow_between (k := 0) (show 2 ^ f < n + 1 by omega) (by omega) (show 2 ^ e < n + 1 by omega) (by omega)]
theorem half_is {n e : Nat} (h1 : 2 ^ e < n) (h2 : n ≤ 2 * 2 ^ e) : half n = 2 ^ e := by
  have hp := Nat.two_pow_pos e
  obtain ⟨f, h3, h4, h5⟩ := half_spec (show 2 ≤ n by omega)
  rw [h3] at h4 h5 ⊢
  rw [pow_between (k := 0) h4 h5 h1 h2]

section
variable {D : Type} (N : D → D → D) (E : D)

/-- The nodes of a range of leaves, the greatest first. -/
def rangeS (go : List D → List D) (l : List D) : List D := if h : l.length = 0 then [] else treeD N E (l.take (half (l.length + 1))) :: go (l.drop (half (l.length + 1)))
def rangeD (l : List D) : List D := wfix List.length [] (rangeS N E) l
theorem rangeD_eq (l : List D) : rangeD N E l = if h : l.length = 0 then [] else treeD N E (l.take (half (l.length + 1))) :: rangeD N E (l.drop (half (l.length + 1))) :=
  wfix_eq List.length [] (rangeS N E) (fun x g g' h => by
    unfold rangeS
    by_cases c : x.length = 0
    · rw [dif_pos c, dif_pos c]
    · rw [dif_neg c, dif_neg c, h (x.drop (half (x.length + 1))) (by
        obtain ⟨e, h1, h2, h3⟩ := top_spec (show 1 ≤ x.length by omega)
        have := Nat.two_pow_pos e
        simp only [List.length_drop]
        omega)]) l
theorem rangeD_nil : rangeD N E [] = [] := by rw [rangeD_eq]; simp
theorem rangeD_more {l : List D} {e : Nat} (h1 : 2 ^ e ≤ l.length) (h2 : l.length < 2 * 2 ^ e) : rangeD N E l = treeD N E (l.take (2 ^ e)) :: rangeD N E (l.drop (2 ^ e)) := by
  have hp := Nat.two_pow_pos e
  rw [rangeD_eq, dif_neg (by omega), top_is h1 h2]
theorem rangeD_len_to (b : Nat) : ∀ (l : List D), l.length < b →
    (rangeD N E l).length = onesN l.length := by
  induction b with
  | zero => intro l hb; omega
  | succ b hi =>
    intro l hb
    by_cases h : l.length = 0
    · rw [rangeD_eq, dif_pos h, h, onesN_zero]; rfl
    · obtain ⟨e, h1, h2, h3⟩ := top_spec (show 1 ≤ l.length by omega)
      have hp := Nat.two_pow_pos e
      have ih := hi (l.drop (2 ^ e)) (by simp only [List.length_drop]; omega)
      rw [rangeD_more N E h2 h3, List.length_cons, ih, List.length_drop]
      have := onesN_add e (l.length - 2 ^ e) (by omega)
      rw [show 2 ^ e + (l.length - 2 ^ e) = l.length by omega] at this
      omega
theorem rangeD_len (l : List D) : (rangeD N E l).length = onesN l.length :=
  rangeD_len_to N E _ l (Nat.lt_succ_self _)

theorem rangeD_ne {l : List D} (h : 1 ≤ l.length) : rangeD N E l ≠ [] := by
  obtain ⟨e, h1, h2, h3⟩ := top_spec h
  rw [rangeD_more N E h2 h3]
  exact List.cons_ne_nil _ _
/-- The tree of a range. -/
def rootD : List D → D
  | [] => E
  | [x] => x
  | x :: y :: r => N x (rootD (y :: r))
theorem rootD_cons (x : D) {r : List D} (h : r ≠ []) : rootD N E (x :: r) = N x (rootD N E r) := by
  cases r with
  | nil => exact absurd rfl h
  | cons y r => rfl
/-- A RANGE COMES TO THE TREE. -/
theorem root_range_to (b : Nat) : ∀ (l : List D) (hl : 1 ≤ l.length), l.length < b →
    rootD N E (rangeD N E l) = treeD N E l := by
  induction b with
  | zero => intro l hl hb; omega
  | succ b hi =>
    intro l hl hb
    obtain ⟨e, h1, h2, h3⟩ := top_spec hl
    have hp := Nat.two_pow_pos e
    rw [rangeD_more N E h2 h3]
    by_cases hn : l.length = 2 ^ e
    · have hd : l.drop (2 ^ e) = [] := List.drop_eq_nil_of_le (by omega)
      have ht : l.take (2 ^ e) = l := List.take_of_length_le (by omega)
      rw [hd, ht, rangeD_nil]
      rfl
    · have hh : half l.length = 2 ^ e := half_is (by omega) (by omega)
      have ih := hi (l.drop (2 ^ e)) (by simp; omega) (by simp only [List.length_drop]; omega)
      have hne : rangeD N E (l.drop (2 ^ e)) ≠ [] := rangeD_ne N E (by simp; omega)
      rw [rootD_cons N E _ hne, ih, treeD_more N E (l := l) (by omega), hh]
theorem root_range (l : List D) (hl : 1 ≤ l.length) : rootD N E (rangeD N E l) = treeD N E l :=
  root_range_to N E _ l hl (Nat.lt_succ_self _)

/-- A digest is added to nodes, the last one first. -/
def addR : Nat → List D → D → List D
  | n, [], h => [h]
  | n, x :: r, h => if n % 2 = 1 then addR (n / 2) r (N x h) else h :: x :: r
theorem addR_even {n : Nat} (rs : List D) (h : D) (hn : ¬ n % 2 = 1) : addR N n rs h = h :: rs := by
  cases rs with
  | nil => rfl
  | cons x r => rw [addR, if_neg hn]
theorem addR_odd {n : Nat} (x : D) (r : List D) (h : D) (hn : n % 2 = 1) : addR N n (x :: r) h = addR N (n / 2) r (N x h) := by rw [addR, if_pos hn]

theorem addR_low (e : Nat) : ∀ (m : Nat) (rs : List D) (y x : D), m + 1 < 2 ^ e → rs.length = onesN m → addR N (2 ^ e + m) (rs ++ [y]) x = addR N m rs x ++ [y] := by
  induction e with
  | zero => intro m rs y x h _; simp at h
  | succ e ih =>
    intro m rs y x h hl
    have e2 : 2 ^ (e + 1) = 2 * 2 ^ e := by rw [Nat.pow_succ, Nat.mul_comm]
    by_cases hm : m % 2 = 1
    · rw [onesN_step] at hl
      match rs, hl with
      | z :: r, hl =>
        have hl' : r.length = onesN (m / 2) := by simp at hl; omega
        rw [List.cons_append, addR_odd N z _ x (by omega), addR_odd N z r x hm, e2, show (2 * 2 ^ e + m) / 2 = 2 ^ e + m / 2 by omega]
        exact ih (m / 2) r y (N z x) (by omega) hl'
      | [], hl => simp at hl; omega
    · rw [addR_even N _ x (by omega), addR_even N rs x hm]
      rfl
theorem addR_full (e : Nat) : ∀ (m : Nat) (rs : List D) (y x : D), m + 1 = 2 ^ e → rs.length = onesN m → ∃ h, addR N m rs x = [h] ∧ addR N (2 ^ e + m) (rs ++ [y]) x = [N y h] := by
  induction e with
  | zero =>
    intro m rs y x h hl
    have hm : m = 0 := by simpa using h
    subst hm
    rw [onesN_zero] at hl
    obtain rfl := List.eq_nil_of_length_eq_zero hl
    refine ⟨x, addR_even N [] x (by omega), ?_⟩
    rw [List.nil_append, addR_odd N y [] x (by simp), addR_even N [] _ (by simp)]
  | succ e ih =>
    intro m rs y x h hl
    have e2 : 2 ^ (e + 1) = 2 * 2 ^ e := by rw [Nat.pow_succ, Nat.mul_comm]
    have hm : m % 2 = 1 := by omega
    rw [onesN_step] at hl
    match rs, hl with
    | z :: r, hl =>
      have hl' : r.length = onesN (m / 2) := by simp at hl; omega
      obtain ⟨g, h1, h2⟩ := ih (m / 2) r y (N z x) (by omega) hl'
      refine ⟨g, ?_, ?_⟩
      · rw [addR_odd N z r x hm]; exact h1
      · rw [List.cons_append, addR_odd N z _ x (by omega), e2, show (2 * 2 ^ e + m) / 2 = 2 ^ e + m / 2 by omega]
        exact h2
    | [], hl => simp at hl; omega

/-- ONE LEAF MORE. -/
theorem range_add_to (b : Nat) : ∀ (l : List D) (x : D), l.length < b →
    addR N l.length (rangeD N E l).reverse x = (rangeD N E (l ++ [x])).reverse := by
  induction b with
  | zero => intro l x hb; omega
  | succ b hi =>
    intro l x hb
    by_cases h0 : l.length = 0
    · obtain rfl := List.eq_nil_of_length_eq_zero h0
      rw [rangeD_nil, List.reverse_nil, List.nil_append, addR_even N [] x (by simp), rangeD_more N E (e := 0) (by simp) (by simp)]
      simp [treeD_one, rangeD_nil]
    · obtain ⟨e, h1, h2, h3⟩ := top_spec (show 1 ≤ l.length by omega)
      have hp := Nat.two_pow_pos e
      have ih := hi (l.drop (2 ^ e)) x (by simp only [List.length_drop]; omega)
      have hlr : (rangeD N E (l.drop (2 ^ e))).reverse.length = onesN (l.length - 2 ^ e) := by rw [List.length_reverse, rangeD_len, List.length_drop]
      have hn : l.length = 2 ^ e + (l.length - 2 ^ e) := by omega
      have ht : (l ++ [x]).take (2 ^ e) = l.take (2 ^ e) := List.take_append_of_le_length (by omega)
      have hd : (l ++ [x]).drop (2 ^ e) = l.drop (2 ^ e) ++ [x] := List.drop_append_of_le_length (by omega)
      rw [rangeD_more N E h2 h3, List.reverse_cons]
      rw [List.length_drop] at ih
      by_cases hf : l.length - 2 ^ e + 1 < 2 ^ e
      · rw [hn, addR_low N e _ _ _ _ hf hlr, ih, rangeD_more N E (l := l ++ [x]) (e := e) (by simp; omega) (by simp; omega), ht, hd, List.reverse_cons]
      · have hf' : l.length - 2 ^ e + 1 = 2 ^ e := by omega
        obtain ⟨g, h4, h5⟩ := addR_full N e (l.length - 2 ^ e) _ (treeD N E (l.take (2 ^ e))) x hf' hlr
        rw [ih] at h4
        have hr : (l.drop (2 ^ e) ++ [x]).length = 2 ^ e := by simp; omega
        have hdn : (l.drop (2 ^ e) ++ [x]).drop (2 ^ e) = [] := List.drop_eq_nil_of_le (by omega)
        have htk : (l.drop (2 ^ e) ++ [x]).take (2 ^ e) = l.drop (2 ^ e) ++ [x] := List.take_of_length_le (by omega)
        rw [rangeD_more N E (l := l.drop (2 ^ e) ++ [x]) (e := e) (by omega) (by omega), hdn, htk, rangeD_nil] at h4
        have hg : g = treeD N E (l.drop (2 ^ e) ++ [x]) := by simpa using h4.symm
        rw [hn, h5, hg]
        have hL : (l ++ [x]).length = 2 ^ (e + 1) := by simp [Nat.pow_succ]; omega
        have e2 : 2 ^ (e + 1) = 2 * 2 ^ e := by rw [Nat.pow_succ, Nat.mul_comm]
        have hdn2 : (l ++ [x]).drop (2 ^ (e + 1)) = [] := List.drop_eq_nil_of_le (by omega)
        have htk2 : (l ++ [x]).take (2 ^ (e + 1)) = l ++ [x] := List.take_of_length_le (by omega)
        rw [rangeD_more N E (l := l ++ [x]) (e := e + 1) (by omega) (by omega), hdn2, htk2, rangeD_nil, treeD_more N E (l := l ++ [x]) (by omega), hL, half_pow, ht, hd]
        rfl
theorem range_add (l : List D) (x : D) : addR N l.length (rangeD N E l).reverse x = (rangeD N E (l ++ [x])).reverse :=
  range_add_to N E _ l x (Nat.lt_succ_self _)
end
end Go.Proofs.YtchlopmmhcobdafDoor
