/-
  Proofs of a beginning: the first leaves are told by their proof to be the beginning of all. Plain mathematics.
-/
import Derived.Test.YtchlopmmhcobdagDoorRangePure
namespace Go.Proofs.YtchlopmmhcobdagDoor
set_option linter.unusedVariables false

/-- As long as the first is odd, both are halved. -/
def oddsS (go : Nat × Nat → Nat × Nat) (p : Nat × Nat) : Nat × Nat := if h : p.1 % 2 = 1 then go (p.1 / 2, p.2 / 2) else (p.1, p.2)
def odds (a b : Nat) : Nat × Nat := wfix (fun p : Nat × Nat => p.1) (0, 0) oddsS (a, b)
theorem odds_eq (a b : Nat) : odds a b = if h : a % 2 = 1 then odds (a / 2) (b / 2) else (a, b) :=
  wfix_eq (fun p : Nat × Nat => p.1) (0, 0) oddsS (fun x g g' h => by
    unfold oddsS
    by_cases c : x.1 % 2 = 1
    · rw [dif_pos c, dif_pos c]
      exact h _ (by show x.1 / 2 < x.1; omega)
    · rw [dif_neg c, dif_neg c]) (a, b)
theorem odds_even {a b : Nat} (h : a % 2 = 0) : odds a b = (a, b) := by rw [odds_eq, dif_neg (by omega)]
theorem odds_odd {a b : Nat} (h : a % 2 = 1) : odds a b = odds (a / 2) (b / 2) := by rw [odds_eq, dif_pos h]
theorem odds_ones (e q last : Nat) : odds (q * 2 ^ e + 2 ^ e - 1) last = odds q (last / 2 ^ e) := by
  induction e generalizing q last with
  | zero => simp
  | succ e ih =>
    have hp := Nat.two_pow_pos e
    have e1 : q * 2 ^ (e + 1) = 2 * (q * 2 ^ e) := by rw [Nat.pow_succ, ← Nat.mul_assoc]; omega
    have e2 : 2 ^ (e + 1) = 2 * 2 ^ e := by rw [Nat.pow_succ, Nat.mul_comm]
    rw [odds_odd (by omega), e1, e2, show (2 * (q * 2 ^ e) + 2 * 2 ^ e - 1) / 2 = q * 2 ^ e + 2 ^ e - 1 by omega, ih, Nat.div_div_eq_div_mul]

section
variable {D : Type} (N : D → D → D) (E : D)

/-- The proof of the first m, whole or not. -/
def proofS (go : Nat × List D × Bool → List D) (p : Nat × List D × Bool) : List D :=
  if p.1 = p.2.1.length ∨ p.2.1.length < 2 then (if p.2.2 then [] else [treeD N E p.2.1]) else
    if p.1 ≤ half p.2.1.length then go (p.1, p.2.1.take (half p.2.1.length), p.2.2) ++ [treeD N E (p.2.1.drop (half p.2.1.length))]
    else go (p.1 - half p.2.1.length, p.2.1.drop (half p.2.1.length), false) ++ [treeD N E (p.2.1.take (half p.2.1.length))]
def proofD (m : Nat) (l : List D) (whole : Bool) : List D := wfix (fun p : Nat × List D × Bool => p.2.1.length) [] (proofS N E) (m, l, whole)
theorem proofD_eq (m : Nat) (l : List D) (whole : Bool) : proofD N E m l whole = if m = l.length ∨ l.length < 2 then (if whole then [] else [treeD N E l]) else
    if m ≤ half l.length then proofD N E m (l.take (half l.length)) whole ++ [treeD N E (l.drop (half l.length))]
    else proofD N E (m - half l.length) (l.drop (half l.length)) false ++ [treeD N E (l.take (half l.length))] :=
  wfix_eq (fun p : Nat × List D × Bool => p.2.1.length) [] (proofS N E) (fun x g g' h => by
    unfold proofS
    by_cases c : x.1 = x.2.1.length ∨ x.2.1.length < 2
    · rw [if_pos c, if_pos c]
    · rw [if_neg c, if_neg c, h (x.1, x.2.1.take (half x.2.1.length), x.2.2) (half_less (by omega)).1, h (x.1 - half x.2.1.length, x.2.1.drop (half x.2.1.length), false) (half_less (by omega)).2]) (m, l, whole)
theorem proofD_all (l : List D) (w : Bool) : proofD N E l.length l w = if w then [] else [treeD N E l] := by rw [proofD_eq, if_pos (.inl rfl)]
theorem proofD_left {m : Nat} {l : List D} (w : Bool) (h : 2 ≤ l.length) (hm : m < l.length) (hk : m ≤ half l.length) : proofD N E m l w = proofD N E m (l.take (half l.length)) w ++ [treeD N E (l.drop (half l.length))] := by
  rw [proofD_eq, if_neg (by omega), if_pos hk]
theorem proofD_right {m : Nat} {l : List D} (w : Bool) (h : 2 ≤ l.length) (hm : m < l.length) (hk : ¬ m ≤ half l.length) : proofD N E m l w = proofD N E (m - half l.length) (l.drop (half l.length)) false ++ [treeD N E (l.take (half l.length))] := by
  rw [proofD_eq, if_neg (by omega), if_neg hk]

/-- One step: place, last place, the tree of the first ones, that of all. -/
def consStep (s : Option (Nat × Nat × D × D)) (p : D) : Option (Nat × Nat × D × D) :=
  match s with
  | none => none
  | some (a, b, x, y) =>
    if b = 0 then none else
      if a % 2 = 1 ∨ a = b then some ((evens a b).1 / 2, (evens a b).2 / 2, N p x, N p y) else some (a / 2, b / 2, x, N y p)
def consRun (s : Option (Nat × Nat × D × D)) (l : List D) : Option (Nat × Nat × D × D) := l.foldl (consStep N) s
theorem consRun_snoc (s : Option (Nat × Nat × D × D)) (l : List D) (p : D) : consRun N s (l ++ [p]) = consStep N (consRun N s l) p := by simp [consRun]
/-- The run over a row whose first one is what both begin with. -/
def consAll (ab : Nat × Nat) (l : List D) : Option (Nat × Nat × D × D) :=
  match l with
  | [] => none
  | x :: r => consRun N (some (ab.1, ab.2, x, x)) r
theorem consAll_snoc (ab : Nat × Nat) {l : List D} (h : l ≠ []) (p : D) : consAll N ab (l ++ [p]) = consStep N (consAll N ab l) p := by
  cases l with
  | nil => exact absurd rfl h
  | cons x r => exact consRun_snoc N _ r p

theorem proofD_ne (m : Nat) (l : List D) : proofD N E m l false ≠ [] := by
  rw [proofD_eq]
  split
  · simp
  · split <;> simp

theorem tree_first {l : List D} {e m : Nat} (h1 : 2 ^ e < m) (h2 : m ≤ 2 * 2 ^ e) (hm : m ≤ l.length) : treeD N E (l.take m) = N (treeD N E (l.take (2 ^ e))) (treeD N E ((l.drop (2 ^ e)).take (m - 2 ^ e))) := by
  have hp := Nat.two_pow_pos e
  have hl : (l.take m).length = m := by rw [List.length_take]; omega
  rw [treeD_more N E (l := l.take m) (by omega), hl, half_is h1 h2, List.take_take, Nat.min_eq_left (by omega), List.drop_take]

/-- In a whole tree of 2^e leaves that is not the last one. -/
theorem cons_whole (e : Nat) : ∀ (l : List D) (m q last : Nat), l.length = 2 ^ e → 1 ≤ m → m ≤ 2 ^ e → q < last / 2 ^ e →
    consAll N (odds (q * 2 ^ e + m - 1) last) (proofD N E m l false) = if m = 2 ^ e then some ((odds q (last / 2 ^ e)).1, (odds q (last / 2 ^ e)).2, treeD N E l, treeD N E l) else some (q, last / 2 ^ e, treeD N E (l.take m), treeD N E l) := by
  induction e with
  | zero =>
    intro l m q last hl h1 h2 hq
    have hm : m = 1 := by simp at h2; omega
    subst hm
    rw [if_pos (by simp)]
    have hl1 : l.length = 1 := by simpa using hl
    have := proofD_all N E l false
    rw [hl1] at this
    rw [this]
    simp [consAll, consRun]
  | succ e ih =>
    intro l m q last hl h1 h2 hq
    have hp := Nat.two_pow_pos e
    have e2 : 2 ^ (e + 1) = 2 * 2 ^ e := by rw [Nat.pow_succ, Nat.mul_comm]
    by_cases hm : m = 2 ^ (e + 1)
    · rw [if_pos hm, hm, odds_ones]
      have := proofD_all N E l false
      rw [hl] at this
      rw [this]
      simp [consAll, consRun]
    · rw [if_neg hm]
      have hl2 : 2 ≤ l.length := by omega
      have hh : half l.length = 2 ^ e := by rw [hl]; exact half_pow e
      have hlt : (l.take (2 ^ e)).length = 2 ^ e := by rw [List.length_take]; omega
      have hld : (l.drop (2 ^ e)).length = 2 ^ e := by rw [List.length_drop]; omega
      have hdiv : last / 2 ^ (e + 1) = last / 2 ^ e / 2 := by rw [Nat.pow_succ, Nat.div_div_eq_div_mul]
      rw [hdiv] at hq ⊢
      have hpow : q * 2 ^ (e + 1) = 2 * q * 2 ^ e := by rw [e2, ← Nat.mul_assoc, Nat.mul_comm q 2]
      have htl : treeD N E l = N (treeD N E (l.take (2 ^ e))) (treeD N E (l.drop (2 ^ e))) := by rw [treeD_more N E hl2, hh]
      by_cases hk : m ≤ 2 ^ e
      · have h3 := ih (l.take (2 ^ e)) m (2 * q) last hlt h1 hk (by omega)
        rw [proofD_left N E false hl2 (by omega) (by rw [hh]; exact hk), hh, consAll_snoc N _ (proofD_ne N E _ _), hpow, h3]
        by_cases hme : m = 2 ^ e
        · rw [if_pos hme, odds_even (by omega)]
          simp only [consStep]
          rw [if_neg (by omega), if_neg (by omega), hme, htl, show 2 * q / 2 = q by omega]
        · rw [if_neg hme]
          simp only [consStep]
          rw [if_neg (by omega), if_neg (by omega), htl, List.take_take, Nat.min_eq_left hk, show 2 * q / 2 = q by omega]
      · have h3 := ih (l.drop (2 ^ e)) (m - 2 ^ e) (2 * q + 1) last hld (by omega) (by omega) (by omega)
        have e1 : (2 * q + 1) * 2 ^ e + (m - 2 ^ e) - 1 = 2 * q * 2 ^ e + m - 1 := by rw [Nat.add_mul, Nat.one_mul]; omega
        rw [e1, if_neg (by omega)] at h3
        rw [proofD_right N E false hl2 (by omega) (by rw [hh]; exact hk), hh, consAll_snoc N _ (proofD_ne N E _ _), hpow, h3]
        simp only [consStep]
        rw [if_neg (by omega), if_pos (by omega), evens_odd (by omega), htl, tree_first N E (l := l) (e := e) (m := m) (by omega) (by omega) (by omega), show (2 * q + 1) / 2 = q by omega]

/-- In the last tree. -/
theorem cons_last_to (b : Nat) : ∀ (F : Nat) (l : List D) (m q : Nat) (h1 : 1 ≤ m) (hm : m < l.length) (hF : l.length ≤ 2 ^ F), l.length < b →
    ∃ s, s ≤ F ∧ consAll N (odds (q * 2 ^ F + m - 1) (q * 2 ^ F + l.length - 1)) (proofD N E m l false) = some (q * 2 ^ (F - s), q * 2 ^ (F - s), treeD N E (l.take m), treeD N E l) := by
  induction b with
  | zero => intro F l m q h1 hm hF hb; omega
  | succ b hi =>
    intro F l m q h1 hm hF hb
    have hl2 : 2 ≤ l.length := by omega
    obtain ⟨e, he, hk1, hk2⟩ := half_spec hl2
    have hp := Nat.two_pow_pos e
    have heF : e < F := by
      rcases Nat.lt_or_ge e F with h | h
      · exact h
      · have := Nat.pow_le_pow_right (n := 2) (by omega) h
        omega
    obtain ⟨Q, hQ⟩ : ∃ Q, Q = q * 2 ^ (F - e) := ⟨_, rfl⟩
    have hQ2 : Q = 2 * (q * 2 ^ (F - (e + 1))) := by
      rw [hQ, show F - e = (F - (e + 1)) + 1 by omega, Nat.pow_succ, ← Nat.mul_assoc]
      omega
    have hqF : q * 2 ^ F = Q * 2 ^ e := by rw [hQ, Nat.mul_assoc, ← Nat.pow_add, show F - e + e = F by omega]
    rw [he] at hk1 hk2
    have hlt : (l.take (2 ^ e)).length = 2 ^ e := by rw [List.length_take]; omega
    have hld : (l.drop (2 ^ e)).length = l.length - 2 ^ e := by rw [List.length_drop]
    have htl : treeD N E l = N (treeD N E (l.take (2 ^ e))) (treeD N E (l.drop (2 ^ e))) := by rw [treeD_more N E hl2, he]
    refine ⟨e + 1, heF, ?_⟩
    generalize q * 2 ^ (F - (e + 1)) = R at *
    rw [hqF]
    have hd : (Q * 2 ^ e + l.length - 1) / 2 ^ e = Q + 1 := by
      rw [show Q * 2 ^ e + l.length - 1 = 2 ^ e * Q + (l.length - 1) by rw [Nat.mul_comm]; omega, Nat.mul_add_div hp]
      congr 1
      exact Nat.div_eq_of_lt_le (by omega) (by omega)
    by_cases hk : m ≤ 2 ^ e
    · have h3 := cons_whole N E e (l.take (2 ^ e)) m Q (Q * 2 ^ e + l.length - 1) hlt h1 hk (by omega)
      rw [hd] at h3
      rw [proofD_left N E false hl2 hm (by rw [he]; exact hk), he, consAll_snoc N _ (proofD_ne N E _ _), h3]
      by_cases hme : m = 2 ^ e
      · rw [if_pos hme, odds_even (by omega)]
        simp only [consStep]
        rw [if_neg (by omega), if_neg (by omega), hme, htl, show Q / 2 = R by omega, show (Q + 1) / 2 = R by omega]
      · rw [if_neg hme]
        simp only [consStep]
        rw [if_neg (by omega), if_neg (by omega), htl, List.take_take, Nat.min_eq_left hk, show Q / 2 = R by omega, show (Q + 1) / 2 = R by omega]
    · obtain ⟨t, ht, h3⟩ := hi e (l.drop (2 ^ e)) (m - 2 ^ e) (Q + 1) (by omega) (by rw [hld]; omega) (by rw [hld]; omega) (by rw [hld]; omega)
      have e1 : (Q + 1) * 2 ^ e + (m - 2 ^ e) - 1 = Q * 2 ^ e + m - 1 := by rw [Nat.add_mul, Nat.one_mul]; omega
      have e3 : (Q + 1) * 2 ^ e + (l.drop (2 ^ e)).length - 1 = Q * 2 ^ e + l.length - 1 := by rw [Nat.add_mul, Nat.one_mul, hld]; omega
      rw [e1, e3] at h3
      rw [proofD_right N E false hl2 hm (by rw [he]; exact hk), he, consAll_snoc N _ (proofD_ne N E _ _), h3]
      have hne : ¬ (Q + 1) * 2 ^ (e - t) = 0 := by
        have := Nat.mul_pos (show 0 < Q + 1 by omega) (Nat.two_pow_pos (e - t))
        omega
      simp only [consStep]
      rw [if_neg hne, if_pos (by simp), evens_pow (Q + 1) (e - t) (by omega), htl, tree_first N E (l := l) (e := e) (m := m) (by omega) (by omega) (by omega), show (Q + 1) / 2 = R by omega]
theorem cons_last (F : Nat) (l : List D) (m q : Nat) (h1 : 1 ≤ m) (hm : m < l.length) (hF : l.length ≤ 2 ^ F) :
    ∃ s, s ≤ F ∧ consAll N (odds (q * 2 ^ F + m - 1) (q * 2 ^ F + l.length - 1)) (proofD N E m l false) = some (q * 2 ^ (F - s), q * 2 ^ (F - s), treeD N E (l.take m), treeD N E l) :=
  cons_last_to N E _ F l m q h1 hm hF (Nat.lt_succ_self _)

/-- With the tree of the first ones ahead, where they are a power of two, a proof is one that is not whole. -/
theorem proof_whole_to (b : Nat) : ∀ (l : List D) (m : Nat) (h1 : 1 ≤ m) (hm : m < l.length ∨ (m = l.length ∧ ∃ e, m = 2 ^ e)), l.length < b →
    ((∃ e, m = 2 ^ e) → treeD N E (l.take m) :: proofD N E m l true = proofD N E m l false) ∧ ((¬ ∃ e, m = 2 ^ e) → proofD N E m l true = proofD N E m l false) := by
  induction b with
  | zero => intro l m h1 hm hb; omega
  | succ b hi =>
    intro l m h1 hm hb
    by_cases hml : m = l.length
    · subst hml
      refine ⟨fun _ => ?_, fun h => ?_⟩
      · rw [proofD_all, proofD_all, List.take_of_length_le (Nat.le_refl _)]
        rfl
      · rcases hm with hm | ⟨_, hm⟩
        · omega
        · exact absurd hm h
    · have hm' : m < l.length := by rcases hm with hm | ⟨hm, _⟩ <;> omega
      have hl2 : 2 ≤ l.length := by omega
      obtain ⟨e, he, hk1, hk2⟩ := half_spec hl2
      have hp := Nat.two_pow_pos e
      by_cases hk : m ≤ half l.length
      · have hlt : (l.take (half l.length)).length = half l.length := by rw [List.length_take]; omega
        have ih := hi (l.take (half l.length)) m h1 (by
          rw [hlt]
          by_cases h : m = half l.length
          · exact .inr ⟨h, e, by rw [h, he]⟩
          · exact .inl (by omega)) (by rw [hlt]; omega)
        rw [List.take_take, Nat.min_eq_left hk] at ih
        rw [proofD_left N E true hl2 hm' hk, proofD_left N E false hl2 hm' hk]
        exact ⟨fun h => by rw [← ih.1 h]; rfl, fun h => by rw [ih.2 h]⟩
      · rw [proofD_right N E true hl2 hm' hk, proofD_right N E false hl2 hm' hk]
        refine ⟨fun ⟨f, hf⟩ => ?_, fun _ => rfl⟩
        exfalso
        rw [he] at hk1 hk2 hk
        rw [hf] at hk hm'
        have h3 : e < f := by
          rcases Nat.lt_or_ge e f with h | h
          · exact h
          · have := Nat.pow_le_pow_right (n := 2) (by omega) h
            omega
        have h4 : 2 ^ (e + 1) ≤ 2 ^ f := Nat.pow_le_pow_right (by omega) h3
        rw [Nat.pow_succ] at h4
        omega
theorem proof_whole (l : List D) (m : Nat) (h1 : 1 ≤ m) (hm : m < l.length ∨ (m = l.length ∧ ∃ e, m = 2 ^ e)) :
    ((∃ e, m = 2 ^ e) → treeD N E (l.take m) :: proofD N E m l true = proofD N E m l false) ∧ ((¬ ∃ e, m = 2 ^ e) → proofD N E m l true = proofD N E m l false) :=
  proof_whole_to N E _ l m h1 hm (Nat.lt_succ_self _)

/-- THE FIRST ONES ARE TOLD BY THEIR PROOF TO BE THE BEGINNING OF ALL. -/
theorem cons_proof (l : List D) (m : Nat) (h1 : 1 ≤ m) (hm : m < l.length) : consAll N (odds (m - 1) (l.length - 1)) (proofD N E m l false) = some (0, 0, treeD N E (l.take m), treeD N E l) := by
  obtain ⟨s, _, h⟩ := cons_last N E l.length l m 0 h1 hm (Nat.le_of_lt Nat.lt_two_pow_self)
  simpa using h
end
end Go.Proofs.YtchlopmmhcobdagDoor
