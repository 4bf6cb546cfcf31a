/-
  A tree that is built level by level is the tree; a path that is climbed from above, and a proof that is retraced from above, say what they say from below. Plain mathematics.
-/
import Derived.Test.YtchlopmmhcobdagDoorProofPure
namespace Go.Proofs.YtchlopmmhcobdagDoor
set_option linter.unusedVariables false

section
variable {D : Type} (N : D → D → D) (E : D)

/-- The next level: two and two; a last one without a neighbour as it is. -/
def levelD : List D → List D
  | [] => []
  | [x] => [x]
  | x :: y :: r => N x y :: levelD r
theorem levelD_len : ∀ l : List D, (levelD N l).length = (l.length + 1) / 2
  | [] => by simp [levelD]
  | [x] => by simp [levelD]
  | x :: y :: r => by
    rw [levelD, List.length_cons, levelD_len r, List.length_cons, List.length_cons]
    omega
theorem levelD_append : ∀ (a b : List D), a.length % 2 = 0 → levelD N (a ++ b) = levelD N a ++ levelD N b
  | [], b, _ => rfl
  | [x], b, h => by simp at h
  | x :: y :: r, b, h => by
    have h2 : r.length % 2 = 0 := by simp at h; omega
    show N x y :: levelD N (r ++ b) = N x y :: (levelD N r ++ levelD N b)
    rw [levelD_append r b h2]
theorem tree_level_to (b : Nat) : ∀ l : List D, l.length < b → treeD N E (levelD N l) = treeD N E l := by
  induction b with
  | zero => intro l hb; omega
  | succ b hi =>
    intro l hb
    match l, hb with
    | [], _ => rfl
    | [x], _ => rfl
    | [x, y], _ =>
      have h1 : half 2 = 1 := half_pow 0
      show treeD N E [N x y] = _
      rw [treeD_one, treeD_more N E (l := [x, y]) (by simp)]
      simp [h1, treeD_one]
    | x :: y :: z :: r, hb =>
      obtain ⟨L, hL⟩ : ∃ L, L = x :: y :: z :: r := ⟨_, rfl⟩
      have hn : 3 ≤ L.length := by rw [hL]; simp
      rw [← hL]
      obtain ⟨e, he, hk1, hk2⟩ := half_spec (show 2 ≤ L.length by omega)
      rw [he] at hk1 hk2
      have he0 : e ≠ 0 := by rintro rfl; simp at hk2; omega
      obtain ⟨f, rfl⟩ : ∃ f, e = f + 1 := ⟨e - 1, by omega⟩
      have e2 : 2 ^ (f + 1) = 2 * 2 ^ f := by rw [Nat.pow_succ, Nat.mul_comm]
      have hlt : (L.take (2 ^ (f + 1))).length = 2 ^ (f + 1) := by rw [List.length_take]; omega
      have hld : (L.drop (2 ^ (f + 1))).length = L.length - 2 ^ (f + 1) := by rw [List.length_drop]
      have hsp : levelD N L = levelD N (L.take (2 ^ (f + 1))) ++ levelD N (L.drop (2 ^ (f + 1))) := by
        rw [← levelD_append N _ _ (by rw [hlt]; omega), List.take_append_drop]
      have hll : (levelD N (L.take (2 ^ (f + 1)))).length = 2 ^ f := by rw [levelD_len, hlt]; omega
      have hlen := levelD_len N L
      have hh : half (levelD N L).length = 2 ^ f := by rw [hlen]; exact half_is (by omega) (by omega)
      have ih1 := hi (L.take (2 ^ (f + 1))) (by have hp := Nat.two_pow_pos (f + 1); rw [← hL] at hb; simp only [List.length_take]; omega)
      have ih2 := hi (L.drop (2 ^ (f + 1))) (by have hp := Nat.two_pow_pos (f + 1); rw [← hL] at hb; simp only [List.length_drop]; omega)
      rw [treeD_more N E (l := levelD N L) (by rw [hlen]; omega), hh, treeD_more N E (l := L) (by omega), he, hsp]
      rw [List.take_left' hll, List.drop_left' hll, ih1, ih2]
theorem tree_level (l : List D) : treeD N E (levelD N l) = treeD N E l := tree_level_to N E _ l (Nat.lt_succ_self _)

/-- c levels up. -/
def levelsD : Nat → List D → List D
  | 0, l => l
  | c + 1, l => levelsD c (levelD N l)
theorem levels_one (c : Nat) : ∀ l : List D, 1 ≤ l.length → l.length ≤ 2 ^ c → levelsD N c l = [treeD N E l] := by
  induction c with
  | zero =>
    intro l h1 h2
    match l, h1, h2 with
    | [x], _, _ => rw [treeD_one]; rfl
    | x :: y :: r, _, h2 => simp at h2
  | succ c ih =>
    intro l h1 h2
    have hlen := levelD_len N l
    have := ih (levelD N l) (by omega) (by rw [Nat.pow_succ] at h2; omega)
    rw [tree_level] at this
    exact this
theorem levels_snoc (c : Nat) : ∀ l : List D, levelsD N (c + 1) l = levelD N (levelsD N c l) := by
  induction c with
  | zero => intro l; rfl
  | succ c ih => intro l; exact ih (levelD N l)

/-- How many steps a path has. -/
def plenS (go : Nat × Nat → Nat) (p : Nat × Nat) : Nat :=
  if h : p.2 < 2 then 0 else if p.1 < half p.2 then go (p.1, half p.2) + 1 else go (p.1 - half p.2, p.2 - half p.2) + 1
def plen (i n : Nat) : Nat := wfix (fun p : Nat × Nat => p.2) 0 plenS (i, n)
theorem half_both {n : Nat} (h : ¬ n < 2) : half n < n ∧ n - half n < n := by
  obtain ⟨e, h3, h4, h5⟩ := half_spec (show 2 ≤ n by omega)
  have : 0 < half n := by rw [h3]; exact Nat.two_pow_pos e
  omega
theorem plen_eq (i n : Nat) : plen i n = if h : n < 2 then 0 else if i < half n then plen i (half n) + 1 else plen (i - half n) (n - half n) + 1 :=
  wfix_eq (fun p : Nat × Nat => p.2) 0 plenS (fun x g g' h => by
    unfold plenS
    by_cases c : x.2 < 2
    · rw [dif_pos c, dif_pos c]
    · rw [dif_neg c, dif_neg c, h (x.1, half x.2) (half_both c).1, h (x.1 - half x.2, x.2 - half x.2) (half_both c).2]) (i, n)
theorem plen_one {i n : Nat} (h : n < 2) : plen i n = 0 := by rw [plen_eq, dif_pos h]
theorem plen_left {i n : Nat} (h : 2 ≤ n) (hi : i < half n) : plen i n = plen i (half n) + 1 := by rw [plen_eq, dif_neg (by omega), if_pos hi]
theorem plen_right {i n : Nat} (h : 2 ≤ n) (hi : ¬ i < half n) : plen i n = plen (i - half n) (n - half n) + 1 := by rw [plen_eq, dif_neg (by omega), if_neg hi]
theorem plen_pow (e : Nat) : ∀ i, i < 2 ^ e → plen i (2 ^ e) = e := by
  induction e with
  | zero => intro i _; exact plen_one (by simp)
  | succ e ih =>
    intro i hi
    have hp := Nat.two_pow_pos e
    have e2 : 2 ^ (e + 1) = 2 * 2 ^ e := by rw [Nat.pow_succ, Nat.mul_comm]
    by_cases h : i < 2 ^ e
    · rw [plen_left (by omega) (by rw [half_pow]; exact h), half_pow, ih i h]
    · rw [plen_right (by omega) (by rw [half_pow]; exact h), half_pow, show 2 ^ (e + 1) - 2 ^ e = 2 ^ e by omega, ih (i - 2 ^ e) (by omega)]

/-- The path, its last one first, climbed from above. -/
def climbR (h : D) : List D → Nat → Nat → D × Bool
  | [], i, n => if n = 1 then (h, true) else (E, false)
  | p :: r, i, n => if n = 1 then (h, false) else
      if i < half n then (N (climbR h r i (half n)).1 p, (climbR h r i (half n)).2) else (N p (climbR h r (i - half n) (n - half n)).1, (climbR h r (i - half n) (n - half n)).2)
theorem climbR_left (h p : D) (r : List D) {i n : Nat} (hn : 2 ≤ n) (hi : i < half n) : climbR N E h (p :: r) i n = (N (climbR N E h r i (half n)).1 p, (climbR N E h r i (half n)).2) := by
  rw [climbR, if_neg (by omega), if_pos hi]
theorem climbR_right (h p : D) (r : List D) {i n : Nat} (hn : 2 ≤ n) (hi : ¬ i < half n) : climbR N E h (p :: r) i n = (N p (climbR N E h r (i - half n) (n - half n)).1, (climbR N E h r (i - half n) (n - half n)).2) := by
  rw [climbR, if_neg (by omega), if_neg hi]
theorem climb_fits (h : D) : ∀ (r : List D) (i n : Nat), 1 ≤ n → (climbR N E h r i n).2 = decide (r.length = plen i n) := by
  intro r
  induction r with
  | nil =>
    intro i n hn
    rw [climbR]
    by_cases h1 : n = 1
    · rw [if_pos h1, plen_one (by omega)]; rfl
    · rw [if_neg h1]
      by_cases hi : i < half n
      · rw [plen_left (by omega) hi]; simp
      · rw [plen_right (by omega) hi]; simp
  | cons p r ih =>
    intro i n hn
    by_cases h1 : n = 1
    · rw [climbR, if_pos h1, plen_one (by omega)]; simp
    · obtain ⟨e, h3, h4, h5⟩ := half_spec (show 2 ≤ n by omega)
      have hp := Nat.two_pow_pos e
      by_cases hi : i < half n
      · rw [climbR_left N E h p r (by omega) hi, plen_left (by omega) hi]
        show (climbR N E h r i (half n)).2 = _
        rw [ih i (half n) (by omega)]
        simp
      · rw [climbR_right N E h p r (by omega) hi, plen_right (by omega) hi]
        show (climbR N E h r (i - half n) (n - half n)).2 = _
        rw [ih _ _ (by omega)]
        simp

theorem climb_whole (e : Nat) : ∀ (path : List D) (i q last : Nat) (h : D), path.length = e → i < 2 ^ e → q < last / 2 ^ e →
    inclRun N (some (q * 2 ^ e + i, last, h)) path = some (q, last / 2 ^ e, (climbR N E h path.reverse i (2 ^ e)).1) := by
  induction e with
  | zero =>
    intro path i q last h hl hi hq
    obtain rfl := List.eq_nil_of_length_eq_zero hl
    have hi0 : i = 0 := by simpa using hi
    subst hi0
    simp [inclRun, climbR]
  | succ e ih =>
    intro path i q last h hl hi hq
    have hp := Nat.two_pow_pos e
    have e2 : 2 ^ (e + 1) = 2 * 2 ^ e := by rw [Nat.pow_succ, Nat.mul_comm]
    have hne : path ≠ [] := by rintro rfl; simp at hl
    obtain ⟨r, p, rfl⟩ : ∃ r p, path = r ++ [p] := ⟨path.dropLast, path.getLast hne, (List.dropLast_concat_getLast hne).symm⟩
    have hr : r.length = e := by simpa using hl
    have hdiv : last / 2 ^ (e + 1) = last / 2 ^ e / 2 := by rw [Nat.pow_succ, Nat.div_div_eq_div_mul]
    rw [hdiv] at hq ⊢
    have hpow : q * 2 ^ (e + 1) = 2 * q * 2 ^ e := by rw [Nat.pow_succ]; rw [Nat.mul_comm (2 ^ e) 2, ← Nat.mul_assoc, Nat.mul_comm q 2]
    rw [List.reverse_append, List.reverse_singleton, List.singleton_append, inclRun_snoc]
    by_cases hik : i < 2 ^ e
    · have h1 := ih r i (2 * q) last h hr hik (by omega)
      rw [hpow, h1, climbR_left N E h p _ (by omega) (by rw [half_pow]; exact hik), half_pow]
      simp only [inclStep]
      rw [if_neg (by omega), if_neg (by omega)]
      congr 2
      omega
    · have h1 := ih r (i - 2 ^ e) (2 * q + 1) last h hr (by omega) (by omega)
      have e1 : (2 * q + 1) * 2 ^ e + (i - 2 ^ e) = 2 * q * 2 ^ e + i := by rw [Nat.add_mul, Nat.one_mul]; omega
      rw [e1] at h1
      rw [hpow, h1, climbR_right N E h p _ (by omega) (by rw [half_pow]; exact hik), half_pow, show 2 ^ (e + 1) - 2 ^ e = 2 ^ e by omega]
      simp only [inclStep]
      rw [if_neg (by omega), if_pos (by omega), evens_odd (by omega)]
      congr 2
      omega

theorem climb_last (n : Nat) : ∀ (F : Nat) (path : List D) (i q : Nat) (h : D), 1 ≤ n → n ≤ 2 ^ F → i < n → path.length = plen i n →
    ∃ s, s ≤ F ∧ inclRun N (some (q * 2 ^ F + i, q * 2 ^ F + n - 1, h)) path = some (q * 2 ^ (F - s), q * 2 ^ (F - s), (climbR N E h path.reverse i n).1) := by
  induction n using Nat.strongRecOn with
  | ind n ih =>
    intro F path i q h h1 hF hi hl
    by_cases h2 : n < 2
    · rw [plen_one h2] at hl
      obtain rfl := List.eq_nil_of_length_eq_zero hl
      have hn1 : n = 1 := by omega
      have hi0 : i = 0 := by omega
      subst hn1 hi0
      exact ⟨0, Nat.zero_le _, by simp [inclRun, climbR]⟩
    · obtain ⟨e, he, hk1, hk2⟩ := half_spec (show 2 ≤ n by omega)
      have hp := Nat.two_pow_pos e
      have hhe := he
      rw [he] at hk1 hk2
      have heF : e < F := by
        rcases Nat.lt_or_ge e F with h | h
        · exact h
        · have := Nat.pow_le_pow_right (n := 2) (by omega) h
          omega
      obtain ⟨Q, hQ⟩ : ∃ Q, Q = q * 2 ^ (F - e) := ⟨_, rfl⟩
      have hQ2 : Q = 2 * (q * 2 ^ (F - (e + 1))) := by
        rw [hQ, show F - e = (F - (e + 1)) + 1 by omega, Nat.pow_succ, ← Nat.mul_assoc]
        omega
      have hqF : q * 2 ^ F = Q * 2 ^ e := by rw [hQ, Nat.mul_assoc, ← Nat.pow_add, show F - e + e = F by omega]
      refine ⟨e + 1, heF, ?_⟩
      generalize q * 2 ^ (F - (e + 1)) = R at *
      have hne : path ≠ [] := by
        rintro rfl
        by_cases hk : i < half n
        · rw [plen_left (by omega) hk] at hl; simp at hl
        · rw [plen_right (by omega) hk] at hl; simp at hl
      obtain ⟨r, p, rfl⟩ : ∃ r p, path = r ++ [p] := ⟨path.dropLast, path.getLast hne, (List.dropLast_concat_getLast hne).symm⟩
      rw [List.reverse_append, List.reverse_singleton, List.singleton_append, inclRun_snoc, hqF]
      by_cases hik : i < half n
      · rw [plen_left (by omega) hik, hhe, plen_pow e i (by omega)] at hl
        have hr : r.length = e := by simpa using hl
        have hd : (Q * 2 ^ e + n - 1) / 2 ^ e = Q + 1 := by
          rw [show Q * 2 ^ e + n - 1 = 2 ^ e * Q + (n - 1) by rw [Nat.mul_comm]; omega, Nat.mul_add_div hp]
          congr 1
          exact Nat.div_eq_of_lt_le (by omega) (by omega)
        have h3 := climb_whole N E e r i Q (Q * 2 ^ e + n - 1) h hr (by omega) (by omega)
        rw [hd] at h3
        rw [h3, climbR_left N E h p _ (by omega) hik, hhe]
        simp only [inclStep]
        rw [if_neg (by omega), if_neg (by omega), show Q / 2 = R by omega, show (Q + 1) / 2 = R by omega]
      · rw [plen_right (by omega) hik] at hl
        have hr : r.length = plen (i - half n) (n - half n) := by simpa using hl
        obtain ⟨t, ht, h3⟩ := ih (n - half n) (by omega) e r (i - half n) (Q + 1) h (by omega) (by omega) (by omega) hr
        have e1 : (Q + 1) * 2 ^ e + (i - half n) = Q * 2 ^ e + i := by rw [Nat.add_mul, Nat.one_mul]; omega
        have e3 : (Q + 1) * 2 ^ e + (n - half n) - 1 = Q * 2 ^ e + n - 1 := by rw [Nat.add_mul, Nat.one_mul]; omega
        rw [e1, e3] at h3
        rw [h3, climbR_right N E h p _ (by omega) hik]
        have hne : ¬ (Q + 1) * 2 ^ (e - t) = 0 := by
          have := Nat.mul_pos (show 0 < Q + 1 by omega) (Nat.two_pow_pos (e - t))
          omega
        simp only [inclStep]
        rw [if_neg hne, if_pos (by simp), evens_pow (Q + 1) (e - t) (by omega), show (Q + 1) / 2 = R by omega]

theorem incl_none (l : List D) : inclRun N none l = none := by
  induction l with
  | nil => rfl
  | cons p r ih => simpa [inclRun, inclStep] using ih
theorem incl_done (a : Nat) (h : D) {l : List D} (hl : l ≠ []) : inclRun N (some (a, 0, h)) l = none := by
  cases l with
  | nil => exact absurd rfl hl
  | cons p r =>
    show inclRun N (inclStep N (some (a, 0, h)) p) r = none
    simp only [inclStep]
    exact incl_none N r
theorem incl_app (s : Option (Nat × Nat × D)) (a b : List D) : inclRun N s (a ++ b) = inclRun N (inclRun N s a) b := by simp [inclRun]

/-- Is it whole, and what has it come to? -/
def inclOut (s : Option (Nat × Nat × D)) : Option D :=
  match s with
  | none => none
  | some (_, b, d) => if b = 0 then some d else none
/-- CLIMBED FROM ABOVE, OR RUN FROM BELOW: the same. -/
theorem climb_run (h : D) (i n : Nat) (path : List D) (h1 : 1 ≤ n) (hi : i < n) :
    inclOut (inclRun N (some (i, n - 1, h)) path) = if (climbR N E h path.reverse i n).2 then some (climbR N E h path.reverse i n).1 else none := by
  have key : ∀ p : List D, p.length = plen i n → inclRun N (some (i, n - 1, h)) p = some (0, 0, (climbR N E h p.reverse i n).1) := by
    intro p hp
    obtain ⟨s, _, hs⟩ := climb_last N E n n p i 0 h h1 (Nat.le_of_lt Nat.lt_two_pow_self) hi hp
    simpa using hs
  rw [climb_fits N E h path.reverse i n h1, List.length_reverse]
  rcases Nat.lt_trichotomy path.length (plen i n) with hl | hl | hl
  · rw [decide_eq_false (by omega), if_neg (by simp)]
    have hk := key (path ++ List.replicate (plen i n - path.length) h) (by simp; omega)
    rw [incl_app] at hk
    have hrne : List.replicate (plen i n - path.length) h ≠ [] := by
      intro h0
      have := congrArg List.length h0
      simp at this
      omega
    cases hS : inclRun N (some (i, n - 1, h)) path with
    | none => rfl
    | some v =>
      obtain ⟨a, b, d⟩ := v
      rw [hS] at hk
      by_cases hb : b = 0
      · subst hb
        rw [incl_done N a d hrne] at hk
        cases hk
      · simp [inclOut, hb]
  · rw [key path hl, decide_eq_true hl]
    simp [inclOut]
  · rw [decide_eq_false (by omega), if_neg (by simp)]
    have hs : path = path.take (plen i n) ++ path.drop (plen i n) := (List.take_append_drop _ _).symm
    rw [hs, incl_app, key (path.take (plen i n)) (by rw [List.length_take]; omega), incl_done N 0 _ (by
      intro h0
      have := congrArg List.length h0
      simp at this
      omega)]
    rfl
end
end Go.Proofs.YtchlopmmhcobdagDoor
