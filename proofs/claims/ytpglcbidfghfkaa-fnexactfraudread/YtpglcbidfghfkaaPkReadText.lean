/-
  The walks of the program's readText and GetText. Condition: package errors' own variable holds the handle of the type error.
-/
import Derived.Test.YtpglcbidfghfkaaPkReadNum
import Derived.Test.YtpglcbidfghfkaaPkMem
import Derived.RegionTactic
import Derived.BigRegion
namespace Go.Proofs.Ytpglcbidfghfkaa
open Go.RowKit Go.Lib
set_option linter.unusedVariables false

theorem getF_place (s : ByteArray) : ∀ (f k : Nat) (u : Int), (getF s f k u).2.2 = 0 → 0 ≤ (getF s f k u).2.1 ∧ (getF s f k u).2.1 ≤ s.size := by
  intro f
  induction f with
  | zero => intro k u h; exact absurd h (show ¬ (3 : Int) = 0 by decide)
  | succ f ih =>
    intro k u
    simp only [getF]
    split
    · intro h; exact absurd h (by decide)
    split
    · intro h; exact absurd h (by decide)
    split
    · split
      · intro h; exact absurd h (by decide)
      · intro _; show 0 ≤ (k : Int) + 1 ∧ (k : Int) + 1 ≤ s.size; omega
    · exact ih _ _
theorem numR_place (s : ByteArray) (k : Int) (h : (numR s k).2.2 = 0) : 0 ≤ (numR s k).2.1 ∧ (numR s k).2.1 ≤ s.size ∧ ¬ 20000 < (s.size : Int) := by
  revert h
  unfold numR
  split
  · intro h; exact absurd h (by decide)
  split
  · intro h; exact absurd h (by decide)
  · intro h; have := getF_place s _ _ _ h; exact ⟨this.1, this.2, by assumption⟩

/-- What GetText answers, by what GetNum read: the text, the place behind it, the code. -/
def textOf (s : ByteArray) (r : Int × Int × Int) : ByteArray × Int × Int :=
  if r.2.2 ≠ 0 then (⟨#[]⟩, 0, r.2.2) else if r.1 < 0 ∨ 20000 < r.1 then (⟨#[]⟩, 0, 3) else if (s.size : Int) - r.1 < r.2.1 then (⟨#[]⟩, 0, 4)
  else (s.extract r.2.1.toNat (r.2.1 + r.1).toNat, r.2.1 + r.1, 0)
def textV (t : ByteArray × Int × Int) : Value := .agg #[.string t.1, .int .i64 t.2.1, .int .i64 t.2.2]

theorem slice_of {s : ByteArray} {n a : Int} (h0 : 0 ≤ n) (h1 : 0 ≤ a) (h2 : a + n ≤ s.size) (w : World) :
    (Instr.slice 9 (.string s) (some (.int .i64 a)) (some (.int .i64 (a + n))) none).run Try.prog w = .ok (.string (s.extract a.toNat (a + n).toNat)) w :=
  run_slice_string w 9 s .i64 .i64 a (a + n) Try.underlying9 h1 (by omega) h2

theorem three_any {B g : Nat} {W w1 : World} {a b c : Value} {t : TypeId} (hb : Below B W w1) (hB : g < B) (hW : W.heap[g]? = some (.cells #[a, b, c] t (0, 0))) :
    (w1.cell? ⟨g, 0, none⟩ = some a ∧ w1.cell? ⟨g, 1, none⟩ = some b ∧ w1.cell? ⟨g, 2, none⟩ = some c) ∧ w1.frozen? ⟨g, 0, none⟩ = false ∧ w1.frozen? ⟨g, 1, none⟩ = false ∧ w1.frozen? ⟨g, 2, none⟩ = false := by
  have h := (hb.block g hB).trans hW
  simp [World.cell?, World.frozen?, h]

/-- What readText answers. -/
def readTV (t : ByteArray × Int × Int) : Value := if t.2.2 = 0 then .tuple #[.string t.1, .int .i64 t.2.1, .nilIface] else .tuple #[.string ⟨#[]⟩, .int .i64 0, .iface 115 (.agg #[.int .i64 t.2.2])]

theorem textOf_zeros (s : ByteArray) (r : Int × Int × Int) (h : (textOf s r).2.2 ≠ 0) : (textOf s r).1 = ⟨#[]⟩ ∧ (textOf s r).2.1 = 0 := by
  revert h
  unfold textOf
  split
  · intro _; exact ⟨rfl, rfl⟩
  split
  · intro _; exact ⟨rfl, rfl⟩
  split
  · intro _; exact ⟨rfl, rfl⟩
  · intro h; exact absurd rfl h

set_option maxHeartbeats 1000000 in
theorem readText_of (s : ByteArray) (k : Int) (w : World) (n a c : Int)
    (HE : Hid (∀ w, Calls Try.prog 68 #[.string s, .int .i64 k] w fun e w' => e = .returned (readV (n, a, c)) ∧ w' = w))
    (hp : c = 0 → 0 ≤ a ∧ a ≤ s.size ∧ ¬ 20000 < (s.size : Int)) :
    Calls Try.prog 79 #[.string s, .int .i64 k] w fun e w' => e = .returned (readTV (textOf s (n, a, c))) ∧ Below w.heap.size w w' := by
  by_cases hc : c = 0
  rotate_left
  · have e : textOf s (n, a, c) = (⟨#[]⟩, 0, c) := by unfold textOf; rw [if_pos hc]
    have e2 : readTV (⟨#[]⟩, 0, c) = .tuple #[.string ⟨#[]⟩, .int .i64 0, .iface 115 (.agg #[.int .i64 c])] := by simp [readTV, hc]
    have e3 : readV (n, a, c) = .tuple #[.int .i64 0, .int .i64 0, .iface 115 (.agg #[.int .i64 c])] := by simp [readV, hc]
    rw [e, e2]
    have HE' : Hid (∀ w, Calls Try.prog 68 #[.string s, .int .i64 k] w fun e w' => e = .returned (.tuple #[.int .i64 0, .int .i64 0, .iface 115 (.agg #[.int .i64 c])]) ∧ w' = w) := by have := HE.out; rw [e3] at this; exact this
    clear hp e e2 e3 hc HE
    go_enter Try.func79, Try.ntmps79
    go_wp2_with fail
    refine (HE'.out _).mono ?_
    rintro e w1 ⟨rfl, rfl⟩
    go_wp2
    go_ret3
    exact ⟨rfl, Below.refl _ _⟩
  · subst hc
    obtain ⟨ha0, ha1, hs⟩ := hp rfl
    have e3 : readV (n, a, 0) = .tuple #[.int .i64 n, .int .i64 a, .nilIface] := by simp [readV]
    have HE' : Hid (∀ w, Calls Try.prog 68 #[.string s, .int .i64 k] w fun e w' => e = .returned (.tuple #[.int .i64 n, .int .i64 a, .nilIface]) ∧ w' = w) := by have := HE.out; rw [e3] at this; exact this
    clear hp HE e3
    by_cases hn : n < 0 ∨ 20000 < n
    · have e : readTV (textOf s (n, a, 0)) = .tuple #[.string ⟨#[]⟩, .int .i64 0, .iface 115 (.agg #[.int .i64 3])] := by unfold textOf; rw [if_neg (by simp), if_pos hn]; simp [readTV]
      rw [e]
      clear e
      rcases hn with hn | hn
      all_goals
        go_enter Try.func79, Try.ntmps79
        go_wp2_with fail
        refine (HE'.out _).mono ?_
        rintro e w1 ⟨rfl, rfl⟩
        go_wp2
        go_ret3
        exact ⟨rfl, Below.refl _ _⟩
    have hn0 : 0 ≤ n := by omega
    have hn1 : n ≤ 20000 := by omega
    by_cases hl : (s.size : Int) - n < a
    · have e : readTV (textOf s (n, a, 0)) = .tuple #[.string ⟨#[]⟩, .int .i64 0, .iface 115 (.agg #[.int .i64 4])] := by unfold textOf; rw [if_neg (by simp), if_neg hn, if_pos hl]; simp [readTV]
      rw [e]
      have hl' : (s.size : Int) - a < n := by omega
      clear e hn hl
      go_enter Try.func79, Try.ntmps79
      go_wp2_with fail
      refine (HE'.out _).mono ?_
      rintro e w1 ⟨rfl, rfl⟩
      go_wp2
      go_ret3
      exact ⟨rfl, Below.refl _ _⟩
    have e : readTV (textOf s (n, a, 0)) = .tuple #[.string (s.extract a.toNat (a + n).toNat), .int .i64 (a + n), .nilIface] := by unfold textOf; rw [if_neg (by simp), if_neg hn, if_neg hl]; simp [readTV]
    rw [e]
    have hl' : n ≤ (s.size : Int) - a := by omega
    have hsl := slice_of (s := s) hn0 ha0 (by omega)
    have hwr : IntKind.i64.wrap (a + n) = a + n := by rw [IntKind.wrap_i64]; omega
    have J : ∀ w, Calls Try.prog 48 #[.string (s.extract a.toNat (a + n).toNat), .string ⟨#[]⟩] w fun e w' => e = .returned (.string (s.extract a.toNat (a + n).toNat)) ∧ Below w.heap.size w w' := fun w => by
      refine (joined_any (s.extract a.toNat (a + n).toNat) ⟨#[]⟩ w (by simp; omega) (Nat.zero_le _)).mono fun e w' ⟨he, hw⟩ => ⟨?_, hw⟩
      rw [he]
      exact ret_str (by apply ByteArray.ext; simp [ByteArray.data_append])
    generalize s.extract a.toNat (a + n).toNat = t at *
    have HJ : Hid (∀ w, Calls Try.prog 48 #[.string t, .string ⟨#[]⟩] w fun e w' => e = .returned (.string t) ∧ Below w.heap.size w w') := J
    clear e hn hl J
    go_enter Try.func79, Try.ntmps79
    go_wp2_with fail
    refine (HE'.out _).mono ?_
    rintro e w1 ⟨rfl, rfl⟩
    go_wp2_with fail
    refine (HJ.out _).mono ?_
    rintro e w2 ⟨rfl, hb⟩
    go_wp2
    go_ret3
    exact ⟨rfl, hb⟩


end Go.Proofs.Ytpglcbidfghfkaa
