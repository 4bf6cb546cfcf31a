/-
  A proof that is retraced from above says what it says from below. Plain mathematics.
-/
import Derived.Test.YtchlopmmhcobdafDoorLevelPure
namespace Go.Proofs.YtchlopmmhcobdafDoor
set_option linter.unusedVariables false

/-- How many digests a proof that is not whole has. -/
def clenS (go : Nat × Nat → Nat) (p : Nat × Nat) : Nat :=
  if h : p.1 = p.2 ∨ p.2 < 2 then 1 else if p.1 ≤ half p.2 then go (p.1, half p.2) + 1 else go (p.1 - half p.2, p.2 - half p.2) + 1
def clen (m n : Nat) : Nat := wfix (fun p : Nat × Nat => p.2) 0 clenS (m, n)
theorem clen_eq (m n : Nat) : clen m n = if h : m = n ∨ n < 2 then 1 else if m ≤ half n then clen m (half n) + 1 else clen (m - half n) (n - half n) + 1 :=
  wfix_eq (fun p : Nat × Nat => p.2) 0 clenS (fun x g g' h => by
    unfold clenS
    by_cases c : x.1 = x.2 ∨ x.2 < 2
    · rw [dif_pos c, dif_pos c]
    · rw [dif_neg c, dif_neg c, h (x.1, half x.2) (half_both (by omega)).1, h (x.1 - half x.2, x.2 - half x.2) (half_both (by omega)).2]) (m, n)
theorem clen_all (n : Nat) : clen n n = 1 := by rw [clen_eq, dif_pos (.inl rfl)]
theorem clen_left {m n : Nat} (h : 2 ≤ n) (hm : m ≠ n) (hk : m ≤ half n) : clen m n = clen m (half n) + 1 := by rw [clen_eq, dif_neg (by omega), if_pos hk]
theorem clen_right {m n : Nat} (h : 2 ≤ n) (hm : m ≠ n) (hk : ¬ m ≤ half n) : clen m n = clen (m - half n) (n - half n) + 1 := by rw [clen_eq, dif_neg (by omega), if_neg hk]
theorem clen_pos (m n : Nat) : 1 ≤ clen m n := by
  rw [clen_eq]
  split
  · exact Nat.le_refl _
  · split <;> omega

section
variable {D : Type} (N : D → D → D) (Z was : D)

/-- The proof, its last one first, retraced from above. -/
def retR : List D → Nat → Nat → Bool → (D × D) × Bool
  | [], m, n, w => if m = n ∧ w = true then ((was, was), true) else ((Z, Z), false)
  | p :: r, m, n, w => if m = n ∧ w = true then ((was, was), false) else if m = n then ((p, p), decide (r.length = 0)) else
      if m ≤ half n then (((retR r m (half n) w).1.1, N (retR r m (half n) w).1.2 p), (retR r m (half n) w).2)
      else ((N p (retR r (m - half n) (n - half n) false).1.1, N p (retR r (m - half n) (n - half n) false).1.2), (retR r (m - half n) (n - half n) false).2)
theorem retR_left (p : D) (r : List D) {m n : Nat} (w : Bool) (hm : m ≠ n) (hk : m ≤ half n) : retR N Z was (p :: r) m n w = (((retR N Z was r m (half n) w).1.1, N (retR N Z was r m (half n) w).1.2 p), (retR N Z was r m (half n) w).2) := by
  rw [retR, if_neg (fun h => hm h.1), if_neg hm, if_pos hk]
theorem retR_right (p : D) (r : List D) {m n : Nat} (w : Bool) (hm : m ≠ n) (hk : ¬ m ≤ half n) : retR N Z was (p :: r) m n w = ((N p (retR N Z was r (m - half n) (n - half n) false).1.1, N p (retR N Z was r (m - half n) (n - half n) false).1.2), (retR N Z was r (m - half n) (n - half n) false).2) := by
  rw [retR, if_neg (fun h => hm h.1), if_neg hm, if_neg hk]
theorem retR_here (p : D) (r : List D) (n : Nat) : retR N Z was (p :: r) n n false = ((p, p), decide (r.length = 0)) := by rw [retR, if_neg (by simp), if_pos rfl]
theorem ret_fits : ∀ (r : List D) (m n : Nat), 1 ≤ m → m ≤ n → (retR N Z was r m n false).2 = decide (r.length = clen m n) := by
  intro r
  induction r with
  | nil =>
    intro m n h1 h2
    have := clen_pos m n
    rw [retR, if_neg (by simp)]
    simp; omega
  | cons p r ih =>
    intro m n h1 h2
    by_cases hm : m = n
    · subst hm
      rw [retR_here, clen_all]
      simp
    · obtain ⟨e, h3, h4, h5⟩ := half_spec (show 2 ≤ n by omega)
      have hp := Nat.two_pow_pos e
      by_cases hk : m ≤ half n
      · rw [retR_left N Z was p r false hm hk, clen_left (by omega) hm hk]
        show (retR N Z was r m (half n) false).2 = _
        rw [ih m (half n) h1 hk]
        simp
      · rw [retR_right N Z was p r false hm hk, clen_right (by omega) hm hk]
        show (retR N Z was r (m - half n) (n - half n) false).2 = _
        rw [ih _ _ (by omega) (by omega)]
        simp

theorem ret_whole (e : Nat) : ∀ (pr : List D) (m q last : Nat), pr.length = clen m (2 ^ e) → 1 ≤ m → m ≤ 2 ^ e → q < last / 2 ^ e →
    consAll N (odds (q * 2 ^ e + m - 1) last) pr = some ((if m = 2 ^ e then odds q (last / 2 ^ e) else (q, last / 2 ^ e)).1, (if m = 2 ^ e then odds q (last / 2 ^ e) else (q, last / 2 ^ e)).2, (retR N Z was pr.reverse m (2 ^ e) false).1.1, (retR N Z was pr.reverse m (2 ^ e) false).1.2) := by
  induction e with
  | zero =>
    intro pr m q last hl h1 h2 hq
    have hm : m = 1 := by simp at h2; omega
    subst hm
    rw [show (2 : Nat) ^ 0 = 1 from rfl, clen_all] at hl
    match pr, hl with
    | [p], _ =>
      rw [if_pos (by simp), show (2 : Nat) ^ 0 = 1 from rfl]
      simp [consAll, consRun, retR]
  | succ e ih =>
    intro pr m q last hl h1 h2 hq
    have hp := Nat.two_pow_pos e
    have e2 : 2 ^ (e + 1) = 2 * 2 ^ e := by rw [Nat.pow_succ, Nat.mul_comm]
    by_cases hm : m = 2 ^ (e + 1)
    · subst hm
      rw [clen_all] at hl
      match pr, hl with
      | [p], _ =>
        rw [if_pos rfl, odds_ones]
        show consRun N (some (_, _, p, p)) [] = _
        rw [List.reverse_singleton, retR_here]
        rfl
    · rw [if_neg hm]
      have hh := half_pow e
      have hdiv : last / 2 ^ (e + 1) = last / 2 ^ e / 2 := by rw [Nat.pow_succ, Nat.div_div_eq_div_mul]
      rw [hdiv] at hq ⊢
      have hpow : q * 2 ^ (e + 1) = 2 * q * 2 ^ e := by rw [e2, ← Nat.mul_assoc, Nat.mul_comm q 2]
      have hne : pr ≠ [] := by
        rintro rfl
        have := clen_pos m (2 ^ (e + 1))
        simp at hl
        omega
      obtain ⟨r, p, rfl⟩ : ∃ r p, pr = r ++ [p] := ⟨pr.dropLast, pr.getLast hne, (List.dropLast_concat_getLast hne).symm⟩
      rw [List.reverse_append, List.reverse_singleton, List.singleton_append]
      by_cases hk : m ≤ 2 ^ e
      · rw [clen_left (by omega) hm (by rw [hh]; exact hk), hh] at hl
        have hr : r.length = clen m (2 ^ e) := by simpa using hl
        have hrne : r ≠ [] := by
          rintro rfl
          have := clen_pos m (2 ^ e)
          simp at hr
          omega
        have h3 := ih r m (2 * q) last hr h1 hk (by omega)
        rw [odds_even (a := 2 * q) (by omega)] at h3
        have h4 : (if m = 2 ^ e then (2 * q, last / 2 ^ e) else (2 * q, last / 2 ^ e)) = (2 * q, last / 2 ^ e) := by split <;> rfl
        rw [h4] at h3
        rw [consAll_snoc N _ hrne, hpow, h3, retR_left N Z was p _ false hm (by rw [hh]; exact hk), hh]
        simp only [consStep]
        rw [if_neg (by omega), if_neg (by omega), show 2 * q / 2 = q by omega]
      · rw [clen_right (by omega) hm (by rw [hh]; exact hk), hh, show 2 ^ (e + 1) - 2 ^ e = 2 ^ e by omega] at hl
        have hr : r.length = clen (m - 2 ^ e) (2 ^ e) := by simpa using hl
        have hrne : r ≠ [] := by
          rintro rfl
          have := clen_pos (m - 2 ^ e) (2 ^ e)
          simp at hr
          omega
        have h3 := ih r (m - 2 ^ e) (2 * q + 1) last hr (by omega) (by omega) (by omega)
        have e1 : (2 * q + 1) * 2 ^ e + (m - 2 ^ e) - 1 = 2 * q * 2 ^ e + m - 1 := by rw [Nat.add_mul, Nat.one_mul]; omega
        rw [e1, if_neg (by omega)] at h3
        rw [consAll_snoc N _ hrne, hpow, h3, retR_right N Z was p _ false hm (by rw [hh]; exact hk), hh, show 2 ^ (e + 1) - 2 ^ e = 2 ^ e by omega]
        simp only [consStep]
        rw [if_neg (by omega), if_pos (by omega), evens_odd (by omega), show (2 * q + 1) / 2 = q by omega]

theorem ret_last (n : Nat) : ∀ (F : Nat) (pr : List D) (m q : Nat), 1 ≤ m → m < n → n ≤ 2 ^ F → pr.length = clen m n →
    ∃ s, s ≤ F ∧ consAll N (odds (q * 2 ^ F + m - 1) (q * 2 ^ F + n - 1)) pr = some (q * 2 ^ (F - s), q * 2 ^ (F - s), (retR N Z was pr.reverse m n false).1.1, (retR N Z was pr.reverse m n false).1.2) := by
  induction n using Nat.strongRecOn with
  | ind n ih =>
    intro F pr m q h1 hm hF hl
    obtain ⟨e, he, hk1, hk2⟩ := half_spec (show 2 ≤ n by omega)
    have hp := Nat.two_pow_pos e
    have hhe := he
    rw [he] at hk1 hk2
    have heF : e < F := by
      rcases Nat.lt_or_ge e F with h | h
      · exact h
      · have := Nat.pow_le_pow_right (n := 2) (by omega) h
        omega
    obtain ⟨Q, hQ⟩ : ∃ Q, Q = q * 2 ^ (F - e) := ⟨_, rfl⟩
    have hQ2 : Q = 2 * (q * 2 ^ (F - (e + 1))) := by
      rw [hQ, show F - e = (F - (e + 1)) + 1 by omega, Nat.pow_succ, ← Nat.mul_assoc]
      omega
    have hqF : q * 2 ^ F = Q * 2 ^ e := by rw [hQ, Nat.mul_assoc, ← Nat.pow_add, show F - e + e = F by omega]
    refine ⟨e + 1, heF, ?_⟩
    generalize q * 2 ^ (F - (e + 1)) = R at *
    rw [hqF]
    have hd : (Q * 2 ^ e + n - 1) / 2 ^ e = Q + 1 := by
      rw [show Q * 2 ^ e + n - 1 = 2 ^ e * Q + (n - 1) by rw [Nat.mul_comm]; omega, Nat.mul_add_div hp]
      congr 1
      exact Nat.div_eq_of_lt_le (by omega) (by omega)
    have hmn : m ≠ n := by omega
    have hne : pr ≠ [] := by
      rintro rfl
      have := clen_pos m n
      simp at hl
      omega
    obtain ⟨r, p, rfl⟩ : ∃ r p, pr = r ++ [p] := ⟨pr.dropLast, pr.getLast hne, (List.dropLast_concat_getLast hne).symm⟩
    rw [List.reverse_append, List.reverse_singleton, List.singleton_append]
    by_cases hk : m ≤ half n
    · rw [clen_left (by omega) hmn hk] at hl
      have hr : r.length = clen m (half n) := by simpa using hl
      have hrne : r ≠ [] := by
        rintro rfl
        have := clen_pos m (half n)
        simp at hr
        omega
      rw [hhe] at hr hk
      have h3 := ret_whole N Z was e r m Q (Q * 2 ^ e + n - 1) hr h1 hk (by omega)
      rw [hd, odds_even (a := Q) (by omega)] at h3
      have h4 : (if m = 2 ^ e then (Q, Q + 1) else (Q, Q + 1)) = (Q, Q + 1) := by split <;> rfl
      rw [h4] at h3
      rw [consAll_snoc N _ hrne, h3, retR_left N Z was p _ false hmn (by rw [hhe]; exact hk), hhe]
      simp only [consStep]
      rw [if_neg (by omega), if_neg (by omega), show Q / 2 = R by omega, show (Q + 1) / 2 = R by omega]
    · rw [clen_right (by omega) hmn hk] at hl
      have hr : r.length = clen (m - half n) (n - half n) := by simpa using hl
      have hrne : r ≠ [] := by
        rintro rfl
        have := clen_pos (m - half n) (n - half n)
        simp at hr
        omega
      obtain ⟨t, ht, h3⟩ := ih (n - half n) (by omega) e r (m - half n) (Q + 1) (by omega) (by omega) (by omega) hr
      have e1 : (Q + 1) * 2 ^ e + (m - half n) - 1 = Q * 2 ^ e + m - 1 := by rw [Nat.add_mul, Nat.one_mul]; omega
      have e3 : (Q + 1) * 2 ^ e + (n - half n) - 1 = Q * 2 ^ e + n - 1 := by rw [Nat.add_mul, Nat.one_mul]; omega
      rw [e1, e3] at h3
      rw [consAll_snoc N _ hrne, h3, retR_right N Z was p _ false hmn hk]
      have hne : ¬ (Q + 1) * 2 ^ (e - t) = 0 := by
        have := Nat.mul_pos (show 0 < Q + 1 by omega) (Nat.two_pow_pos (e - t))
        omega
      simp only [consStep]
      rw [if_neg hne, if_pos (by simp), evens_pow (Q + 1) (e - t) (by omega), show (Q + 1) / 2 = R by omega]

theorem cons_none (l : List D) : consRun N none l = none := by
  induction l with
  | nil => rfl
  | cons p r ih => simpa [consRun, consStep] using ih
theorem cons_done (a : Nat) (x y : D) {l : List D} (hl : l ≠ []) : consRun N (some (a, 0, x, y)) l = none := by
  cases l with
  | nil => exact absurd rfl hl
  | cons p r =>
    show consRun N (consStep N (some (a, 0, x, y)) p) r = none
    simp only [consStep]
    exact cons_none N r
theorem cons_app (ab : Nat × Nat) {a : List D} (b : List D) (ha : a ≠ []) : consAll N ab (a ++ b) = consRun N (consAll N ab a) b := by
  cases a with
  | nil => exact absurd rfl ha
  | cons x r => simp [consAll, consRun]
/-- Is it whole, and what has it come to? -/
def consOut (s : Option (Nat × Nat × D × D)) : Option (D × D) :=
  match s with
  | none => none
  | some (_, b, x, y) => if b = 0 then some (x, y) else none
/-- RETRACED FROM ABOVE, OR RUN FROM BELOW: the same. -/
theorem ret_run (m n : Nat) (l : List D) (h1 : 1 ≤ m) (hm : m < n) :
    consOut (consAll N (odds (m - 1) (n - 1)) l) = if (retR N Z was l.reverse m n false).2 then some (retR N Z was l.reverse m n false).1 else none := by
  have key : ∀ p : List D, p.length = clen m n → consAll N (odds (m - 1) (n - 1)) p = some (0, 0, (retR N Z was p.reverse m n false).1.1, (retR N Z was p.reverse m n false).1.2) := by
    intro p hp
    obtain ⟨s, _, hs⟩ := ret_last N Z was n n p m 0 h1 hm (Nat.le_of_lt Nat.lt_two_pow_self) hp
    simpa using hs
  rw [ret_fits N Z was l.reverse m n h1 (by omega), List.length_reverse]
  have hcp := clen_pos m n
  rcases Nat.lt_trichotomy l.length (clen m n) with hl | hl | hl
  · rw [decide_eq_false (by omega), if_neg (by simp)]
    by_cases hne : l = []
    · subst hne; rfl
    · have hk := key (l ++ List.replicate (clen m n - l.length) Z) (by simp; omega)
      rw [cons_app N _ _ hne] at hk
      have hrne : List.replicate (clen m n - l.length) Z ≠ [] := by
        intro h0
        have := congrArg List.length h0
        simp at this
        omega
      cases hS : consAll N (odds (m - 1) (n - 1)) l with
      | none => rfl
      | some v =>
        obtain ⟨a, b, x, y⟩ := v
        rw [hS] at hk
        by_cases hb : b = 0
        · subst hb
          rw [cons_done N a x y hrne] at hk
          cases hk
        · simp [consOut, hb]
  · rw [key l hl, decide_eq_true hl]
    simp [consOut]
  · rw [decide_eq_false (by omega), if_neg (by simp)]
    have hs : l = l.take (clen m n) ++ l.drop (clen m n) := (List.take_append_drop _ _).symm
    have hlen : (l.take (clen m n)).length = clen m n := by rw [List.length_take]; omega
    have hne : l.take (clen m n) ≠ [] := by
      intro h0
      rw [h0] at hlen
      simp at hlen
      omega
    rw [hs, cons_app N _ _ hne, key (l.take (clen m n)) hlen, cons_done N 0 _ _ (by
      intro h0
      have := congrArg List.length h0
      simp at this
      omega)]
    rfl

/-- Of a power of two: a whole proof is one that is not whole, with what the first ones come to ahead. -/
theorem ret_pow : ∀ (r : List D) (m n : Nat), (∃ e, m = 2 ^ e) → m ≤ n → (m = n ∨ 2 ≤ n) →
    (retR N Z was r m n true).2 = (retR N Z was (r ++ [was]) m n false).2 ∧ ((retR N Z was r m n true).2 = true → (retR N Z was r m n true).1 = (retR N Z was (r ++ [was]) m n false).1) := by
  intro r
  induction r with
  | nil =>
    intro m n hp hmn _
    by_cases h : m = n
    · subst h
      rw [retR, if_pos ⟨rfl, rfl⟩, List.nil_append, retR_here]
      exact ⟨rfl, fun _ => rfl⟩
    · have hf : (retR N Z was ([] ++ [was]) m n false).2 = false := by
        obtain ⟨e, he⟩ := hp
        have hpe := Nat.two_pow_pos e
        rw [ret_fits N Z was _ m n (by omega) hmn]
        obtain ⟨f, h3, h4, h5⟩ := half_spec (show 2 ≤ n by omega)
        by_cases hk : m ≤ half n
        · have := clen_pos m (half n)
          rw [clen_left (by omega) h hk]
          simp; omega
        · have := clen_pos (m - half n) (n - half n)
          rw [clen_right (by omega) h hk]
          simp; omega
      rw [retR, if_neg (fun h' => h h'.1), hf]
      exact ⟨rfl, fun h => by cases h⟩
  | cons p r ih =>
    intro m n hp hmn hn2
    by_cases h : m = n
    · subst h
      rw [retR, if_pos ⟨rfl, rfl⟩, List.cons_append, retR_here]
      refine ⟨by simp, fun h => by cases h⟩
    · obtain ⟨f, h3, h4, h5⟩ := half_spec (show 2 ≤ n by omega)
      have hpf := Nat.two_pow_pos f
      have hk : m ≤ half n := by
        obtain ⟨e, he⟩ := hp
        rcases Nat.lt_or_ge (half n) m with h6 | h6
        · exfalso
          rw [h3] at h4 h5 h6
          rw [he] at h6 hmn h
          have h7 : f < e := by
            rcases Nat.lt_or_ge f e with h | h
            · exact h
            · have := Nat.pow_le_pow_right (n := 2) (by omega) h
              omega
          have h8 : 2 ^ (f + 1) ≤ 2 ^ e := Nat.pow_le_pow_right (by omega) h7
          rw [Nat.pow_succ] at h8
          omega
        · exact h6
      have hi := ih m (half n) hp hk (by
        by_cases h9 : m = half n
        · exact .inl h9
        · exact .inr (by
            obtain ⟨e, he⟩ := hp
            have := Nat.two_pow_pos e
            omega))
      rw [List.cons_append, retR_left N Z was p r true h hk, retR_left N Z was p (r ++ [was]) false h hk]
      refine ⟨hi.1, fun ht => ?_⟩
      have := hi.2 ht
      show ((retR N Z was r m (half n) true).1.1, N (retR N Z was r m (half n) true).1.2 p) = ((retR N Z was (r ++ [was]) m (half n) false).1.1, N (retR N Z was (r ++ [was]) m (half n) false).1.2 p)
      rw [this]
/-- Of another number: a whole proof is one that is not whole. -/
theorem ret_not : ∀ (r : List D) (m n : Nat), (¬ ∃ e, m = 2 ^ e) → 1 ≤ m → m < n → retR N Z was r m n true = retR N Z was r m n false := by
  intro r
  induction r with
  | nil =>
    intro m n hp h1 hmn
    rw [retR, retR, if_neg (fun h => by omega), if_neg (fun h => by omega)]
  | cons p r ih =>
    intro m n hp h1 hmn
    have h : m ≠ n := by omega
    obtain ⟨f, h3, h4, h5⟩ := half_spec (show 2 ≤ n by omega)
    by_cases hk : m ≤ half n
    · have hne : m ≠ half n := fun h6 => hp ⟨f, by rw [h6, h3]⟩
      rw [retR_left N Z was p r true h hk, retR_left N Z was p r false h hk, ih m (half n) hp h1 (by omega)]
    · rw [retR_right N Z was p r true h hk, retR_right N Z was p r false h hk]
end
end Go.Proofs.YtchlopmmhcobdafDoor
