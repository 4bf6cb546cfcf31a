/-
  Trees of digests, whatever their nodes: a path leads from its leaf to the tree. Plain mathematics.
-/
import Derived.Test.YtbngflmebdchlaaShaPure
namespace Go.Proofs.Ytbngflmebdchlaa
set_option linter.unusedVariables false

/-- The greatest power of two below n, from k on. -/
def halfS (n : Nat) (go : Nat → Nat) (k : Nat) : Nat := if h : 0 < k ∧ 2 * k < n then go (2 * k) else k
def halfG (n k : Nat) : Nat := wfix (fun k => n - k) 0 (halfS n) k
theorem halfG_eq (n k : Nat) : halfG n k = if h : 0 < k ∧ 2 * k < n then halfG n (2 * k) else k :=
  wfix_eq (fun k => n - k) 0 (halfS n) (fun x g g' h => by
    unfold halfS
    by_cases c : 0 < x ∧ 2 * x < n
    · rw [dif_pos c, dif_pos c]
      exact h _ (by show n - 2 * x < n - x; omega)
    · rw [dif_neg c, dif_neg c]) k
def half (n : Nat) : Nat := halfG n 1
theorem halfG_spec_to (b : Nat) : ∀ (n k e : Nat), k = 2 ^ e → k < n → n - k < b → ∃ f, halfG n k = 2 ^ f ∧ halfG n k < n ∧ n ≤ 2 * halfG n k ∧ e ≤ f := by
  induction b with
  | zero => intro n k e hk hn hb; omega
  | succ b ih =>
    intro n k e hk hn hb
    rw [halfG_eq]
    by_cases h : 0 < k ∧ 2 * k < n
    · rw [dif_pos h]
      obtain ⟨f, h1, h2, h3, h4⟩ := ih n (2 * k) (e + 1) (by rw [hk, Nat.pow_succ, Nat.mul_comm]) h.2 (by omega)
      exact ⟨f, h1, h2, h3, by omega⟩
    · rw [dif_neg h]
      have : 0 < k := by rw [hk]; exact Nat.two_pow_pos e
      exact ⟨e, hk, hn, by omega, Nat.le_refl _⟩
theorem halfG_spec (n k e : Nat) (hk : k = 2 ^ e) (hn : k < n) : ∃ f, halfG n k = 2 ^ f ∧ halfG n k < n ∧ n ≤ 2 * halfG n k ∧ e ≤ f := halfG_spec_to _ n k e hk hn (Nat.lt_succ_self _)
theorem half_spec {n : Nat} (hn : 2 ≤ n) : ∃ e, half n = 2 ^ e ∧ half n < n ∧ n ≤ 2 * half n := by
  obtain ⟨f, h1, h2, h3, _⟩ := halfG_spec n 1 0 rfl (by omega)
  exact ⟨f, h1, h2, h3⟩
theorem pow_between {k n e f : Nat} (h1 : 2 ^ e < n) (h2 : n ≤ 2 * 2 ^ e) (h3 : 2 ^ f < n) (h4 : n ≤ 2 * 2 ^ f) : e = f := by
  rcases Nat.lt_trichotomy e f with h | h | h
  · have : 2 ^ (e + 1) ≤ 2 ^ f := Nat.pow_le_pow_right (by omega) h
    rw [Nat.pow_succ] at this
    omega
  · exact h
  · have : 2 ^ (f + 1) ≤ 2 ^ e := Nat.pow_le_pow_right (by omega) h
    rw [Nat.pow_succ] at this
    omega
theorem half_pow (e : Nat) : half (2 ^ (e + 1)) = 2 ^ e := by
  have h2 : 2 ≤ 2 ^ (e + 1) := by rw [Nat.pow_succ]; have := Nat.two_pow_pos e; omega
  obtain ⟨f, h3, h4, h5⟩ := half_spec h2
  rw [h3] at h4 h5 ⊢
  have : f = e := pow_between (k := 0) h4 h5 (by rw [Nat.pow_succ]; have := Nat.two_pow_pos e; omega) (by rw [Nat.pow_succ]; omega)
  rw [this]

section
variable {D : Type} (N : D → D → D) (E : D)

/-- The tree of leaves. -/
def treeS (go : List D → D) (l : List D) : D := if h : l.length < 2 then l.headD E else N (go (l.take (half l.length))) (go (l.drop (half l.length)))
def treeD (l : List D) : D := wfix List.length E (treeS N E) l
theorem half_less {l : List D} (h : ¬ l.length < 2) : (l.take (half l.length)).length < l.length ∧ (l.drop (half l.length)).length < l.length := by
  obtain ⟨e, h3, h4, h5⟩ := half_spec (show 2 ≤ l.length by omega)
  have : 0 < half l.length := by rw [h3]; exact Nat.two_pow_pos e
  simp only [List.length_take, List.length_drop]
  omega
theorem treeD_eq (l : List D) : treeD N E l = if h : l.length < 2 then l.headD E else N (treeD N E (l.take (half l.length))) (treeD N E (l.drop (half l.length))) :=
  wfix_eq List.length E (treeS N E) (fun x g g' h => by
    unfold treeS
    by_cases c : x.length < 2
    · rw [dif_pos c, dif_pos c]
    · rw [dif_neg c, dif_neg c, h _ (half_less c).1, h _ (half_less c).2]) l
theorem treeD_nil : treeD N E [] = E := by rw [treeD_eq, dif_pos (by simp)]; rfl
theorem treeD_one (x : D) : treeD N E [x] = x := by rw [treeD_eq, dif_pos (by simp)]; rfl
theorem treeD_more {l : List D} (h : 2 ≤ l.length) : treeD N E l = N (treeD N E (l.take (half l.length))) (treeD N E (l.drop (half l.length))) := by
  rw [treeD_eq, dif_neg (by omega)]

/-- What is put to leaf i, step by step. -/
def pathS (go : List D × Nat → List D) (p : List D × Nat) : List D :=
  if h : p.1.length < 2 then [] else
    if p.2 < half p.1.length then go (p.1.take (half p.1.length), p.2) ++ [treeD N E (p.1.drop (half p.1.length))]
    else go (p.1.drop (half p.1.length), p.2 - half p.1.length) ++ [treeD N E (p.1.take (half p.1.length))]
def pathD (l : List D) (i : Nat) : List D := wfix (fun p : List D × Nat => p.1.length) [] (pathS N E) (l, i)
theorem pathD_eq (l : List D) (i : Nat) : pathD N E l i = if h : l.length < 2 then [] else
    if i < half l.length then pathD N E (l.take (half l.length)) i ++ [treeD N E (l.drop (half l.length))]
    else pathD N E (l.drop (half l.length)) (i - half l.length) ++ [treeD N E (l.take (half l.length))] :=
  wfix_eq (fun p : List D × Nat => p.1.length) [] (pathS N E) (fun x g g' h => by
    unfold pathS
    by_cases c : x.1.length < 2
    · rw [dif_pos c, dif_pos c]
    · rw [dif_neg c, dif_neg c, h (x.1.take (half x.1.length), x.2) (half_less c).1, h (x.1.drop (half x.1.length), x.2 - half x.1.length) (half_less c).2]) (l, i)
theorem pathD_one {l : List D} (i : Nat) (h : l.length < 2) : pathD N E l i = [] := by rw [pathD_eq, dif_pos h]
theorem pathD_left {l : List D} {i : Nat} (h : 2 ≤ l.length) (hi : i < half l.length) : pathD N E l i = pathD N E (l.take (half l.length)) i ++ [treeD N E (l.drop (half l.length))] := by
  rw [pathD_eq, dif_neg (by omega), if_pos hi]
theorem pathD_right {l : List D} {i : Nat} (h : 2 ≤ l.length) (hi : ¬ i < half l.length) : pathD N E l i = pathD N E (l.drop (half l.length)) (i - half l.length) ++ [treeD N E (l.take (half l.length))] := by
  rw [pathD_eq, dif_neg (by omega), if_neg hi]

/-- As long as the first is even and above 0, both are halved. -/
def evensS (go : Nat × Nat → Nat × Nat) (p : Nat × Nat) : Nat × Nat := if h : p.1 % 2 = 0 ∧ 0 < p.1 then go (p.1 / 2, p.2 / 2) else (p.1, p.2)
def evens (a b : Nat) : Nat × Nat := wfix (fun p : Nat × Nat => p.1) (0, 0) evensS (a, b)
theorem evens_eq (a b : Nat) : evens a b = if h : a % 2 = 0 ∧ 0 < a then evens (a / 2) (b / 2) else (a, b) :=
  wfix_eq (fun p : Nat × Nat => p.1) (0, 0) evensS (fun x g g' h => by
    unfold evensS
    by_cases c : x.1 % 2 = 0 ∧ 0 < x.1
    · rw [dif_pos c, dif_pos c]
      exact h _ (by show x.1 / 2 < x.1; omega)
    · rw [dif_neg c, dif_neg c]) (a, b)
/-- One step: place, last place, digest. -/
def inclStep (s : Option (Nat × Nat × D)) (p : D) : Option (Nat × Nat × D) :=
  match s with
  | none => none
  | some (a, b, h) =>
    if b = 0 then none else
      if a % 2 = 1 ∨ a = b then some ((evens a b).1 / 2, (evens a b).2 / 2, N p h) else some (a / 2, b / 2, N h p)
def inclRun (s : Option (Nat × Nat × D)) (path : List D) : Option (Nat × Nat × D) := path.foldl (inclStep N) s
theorem inclRun_snoc (s : Option (Nat × Nat × D)) (l : List D) (p : D) : inclRun N s (l ++ [p]) = inclStep N (inclRun N s l) p := by simp [inclRun]

theorem evens_odd {a b : Nat} (h : a % 2 = 1) : evens a b = (a, b) := by rw [evens_eq, dif_neg (by omega)]
theorem evens_zero (b : Nat) : evens 0 b = (0, b) := by rw [evens_eq, dif_neg (by omega)]
/-- Of two that are alike, an odd number and a power of two. -/
theorem evens_pow (q t : Nat) (hq : q % 2 = 1) : evens (q * 2 ^ t) (q * 2 ^ t) = (q, q) := by
  induction t with
  | zero => rw [Nat.pow_zero, Nat.mul_one]; exact evens_odd hq
  | succ t ih =>
    have e : q * 2 ^ (t + 1) = 2 * (q * 2 ^ t) := by rw [Nat.pow_succ, ← Nat.mul_assoc]; omega
    have hp : 0 < q * 2 ^ t := Nat.mul_pos (by omega) (Nat.two_pow_pos t)
    rw [evens_eq, dif_pos (by omega), show q * 2 ^ (t + 1) / 2 = q * 2 ^ t by omega]
    exact ih

/-- In a whole tree of 2^e leaves that is not the last one. -/
theorem incl_whole (e : Nat) : ∀ (l : List D) (i q last : Nat) (d : D), l.length = 2 ^ e → (hi : i < l.length) → q < last / 2 ^ e →
    inclRun N (some (q * 2 ^ e + i, last, l[i])) (pathD N E l i) = some (q, last / 2 ^ e, treeD N E l) := by
  induction e with
  | zero =>
    intro l i q last d hl hi hq
    match l, hl with
    | [x], _ =>
      have hi0 : i = 0 := by simpa using hi
      subst hi0
      rw [pathD_one N E 0 (by simp), treeD_one]
      simp [inclRun]
  | succ e ih =>
    intro l i q last d hl hi hq
    have hp := Nat.two_pow_pos e
    have hl2 : 2 ≤ l.length := by rw [hl, Nat.pow_succ]; omega
    have hh : half l.length = 2 ^ e := by rw [hl]; exact half_pow e
    have hlt : (l.take (2 ^ e)).length = 2 ^ e := by rw [List.length_take, hl, Nat.pow_succ]; omega
    have hld : (l.drop (2 ^ e)).length = 2 ^ e := by rw [List.length_drop, hl, Nat.pow_succ]; omega
    have hdiv : last / 2 ^ (e + 1) = last / 2 ^ e / 2 := by rw [Nat.pow_succ, Nat.div_div_eq_div_mul]
    rw [hdiv] at hq ⊢
    have hpow : q * 2 ^ (e + 1) = 2 * q * 2 ^ e := by rw [Nat.pow_succ]; rw [Nat.mul_comm (2 ^ e) 2, ← Nat.mul_assoc, Nat.mul_comm q 2]
    rw [treeD_more N E hl2, hh]
    by_cases hik : i < 2 ^ e
    · rw [pathD_left N E hl2 (by rw [hh]; exact hik), hh, inclRun_snoc]
      have h1 := ih (l.take (2 ^ e)) i (2 * q) last d hlt (by omega) (by omega)
      rw [List.getElem_take] at h1
      rw [hpow, h1]
      simp only [inclStep]
      rw [if_neg (by omega), if_neg (by omega)]
      congr 2
      omega
    · rw [pathD_right N E hl2 (by rw [hh]; exact hik), hh, inclRun_snoc]
      have h1 := ih (l.drop (2 ^ e)) (i - 2 ^ e) (2 * q + 1) last d hld (by omega) (by omega)
      rw [List.getElem_drop] at h1
      have e1 : (2 * q + 1) * 2 ^ e + (i - 2 ^ e) = 2 * q * 2 ^ e + i := by rw [Nat.add_mul, Nat.one_mul]; omega
      have e2 : 2 ^ e + (i - 2 ^ e) = i := by omega
      simp only [e1, e2] at h1
      rw [hpow, h1]
      simp only [inclStep]
      rw [if_neg (by omega), if_pos (by omega), evens_odd (by omega)]
      congr 2
      omega

/-- In the last tree, of m leaves, behind c = q * 2^F ones. -/
theorem incl_last_to (b : Nat) : ∀ (F : Nat) (l : List D) (i q : Nat) (h1 : 1 ≤ l.length) (hF : l.length ≤ 2 ^ F) (hi : i < l.length), l.length < b →
    ∃ s, s ≤ F ∧ inclRun N (some (q * 2 ^ F + i, q * 2 ^ F + l.length - 1, l[i])) (pathD N E l i) = some (q * 2 ^ (F - s), q * 2 ^ (F - s), treeD N E l) := by
  induction b with
  | zero => intro F l i q h1 hF hi hb; omega
  | succ b ih =>
    intro F l i q h1 hF hi hb
    by_cases h2 : l.length < 2
    · match l, h1, h2 with
      | [x], _, _ =>
        have hi0 : i = 0 := by simpa using hi
        subst hi0
        refine ⟨0, Nat.zero_le _, ?_⟩
        rw [pathD_one N E 0 (by simp), treeD_one]
        simp [inclRun]
    · have hl2 : 2 ≤ l.length := by omega
      obtain ⟨e, he, hk1, hk2⟩ := half_spec hl2
      have hp := Nat.two_pow_pos e
      have heF : e < F := by
        rcases Nat.lt_or_ge e F with h | h
        · exact h
        · have := Nat.pow_le_pow_right (n := 2) (by omega) h
          omega
      obtain ⟨Q, hQ⟩ : ∃ Q, Q = q * 2 ^ (F - e) := ⟨_, rfl⟩
      have hQ2 : Q = 2 * (q * 2 ^ (F - (e + 1))) := by
        rw [hQ, show F - e = (F - (e + 1)) + 1 by omega, Nat.pow_succ, ← Nat.mul_assoc]
        omega
      have hqF : q * 2 ^ F = Q * 2 ^ e := by rw [hQ, Nat.mul_assoc, ← Nat.pow_add, show F - e + e = F by omega]
      rw [he] at hk1 hk2
      have hlt : (l.take (2 ^ e)).length = 2 ^ e := by rw [List.length_take]; omega
      have hld : (l.drop (2 ^ e)).length = l.length - 2 ^ e := by rw [List.length_drop]
      refine ⟨e + 1, heF, ?_⟩
      generalize q * 2 ^ (F - (e + 1)) = R at *
      rw [treeD_more N E hl2, he, hqF]
      by_cases hik : i < 2 ^ e
      · rw [pathD_left N E hl2 (by rw [he]; exact hik), he, inclRun_snoc]
        have hd : (Q * 2 ^ e + l.length - 1) / 2 ^ e = Q + 1 := by
          rw [show Q * 2 ^ e + l.length - 1 = 2 ^ e * Q + (l.length - 1) by rw [Nat.mul_comm]; omega, Nat.mul_add_div hp]
          congr 1
          exact Nat.div_eq_of_lt_le (by omega) (by omega)
        have h3 := incl_whole N E e (l.take (2 ^ e)) i Q (Q * 2 ^ e + l.length - 1) E hlt (by omega) (by omega)
        rw [List.getElem_take, hd] at h3
        rw [h3]
        simp only [inclStep]
        rw [if_neg (by omega), if_neg (by omega), show Q / 2 = R by omega, show (Q + 1) / 2 = R by omega]
      · rw [pathD_right N E hl2 (by rw [he]; exact hik), he, inclRun_snoc]
        obtain ⟨t, ht, h3⟩ := ih e (l.drop (2 ^ e)) (i - 2 ^ e) (Q + 1) (by rw [hld]; omega) (by rw [hld]; omega) (by rw [hld]; omega) (by rw [hld]; omega)
        rw [List.getElem_drop] at h3
        have e1 : (Q + 1) * 2 ^ e + (i - 2 ^ e) = Q * 2 ^ e + i := by rw [Nat.add_mul, Nat.one_mul]; omega
        have e2 : 2 ^ e + (i - 2 ^ e) = i := by omega
        have e3 : (Q + 1) * 2 ^ e + (l.drop (2 ^ e)).length - 1 = Q * 2 ^ e + l.length - 1 := by rw [Nat.add_mul, Nat.one_mul, hld]; omega
        simp only [e1, e2, e3] at h3
        rw [h3]
        have hne : ¬ (Q + 1) * 2 ^ (e - t) = 0 := by
          have := Nat.mul_pos (show 0 < Q + 1 by omega) (Nat.two_pow_pos (e - t))
          omega
        simp only [inclStep]
        rw [if_neg hne, if_pos (by simp), evens_pow (Q + 1) (e - t) (by omega), show (Q + 1) / 2 = R by omega]
theorem incl_last (F : Nat) (l : List D) (i q : Nat) (h1 : 1 ≤ l.length) (hF : l.length ≤ 2 ^ F) (hi : i < l.length) :
    ∃ s, s ≤ F ∧ inclRun N (some (q * 2 ^ F + i, q * 2 ^ F + l.length - 1, l[i])) (pathD N E l i) = some (q * 2 ^ (F - s), q * 2 ^ (F - s), treeD N E l) :=
  incl_last_to N E _ F l i q h1 hF hi (Nat.lt_succ_self _)

/-- EACH LEAF IS INCLUDED BY ITS PATH. -/
theorem incl_path (l : List D) (i : Nat) (hi : i < l.length) : inclRun N (some (i, l.length - 1, l[i])) (pathD N E l i) = some (0, 0, treeD N E l) := by
  obtain ⟨s, _, h⟩ := incl_last N E l.length l i 0 (by omega) (Nat.le_of_lt Nat.lt_two_pow_self) hi
  simpa using h
end
end Go.Proofs.Ytbngflmebdchlaa
