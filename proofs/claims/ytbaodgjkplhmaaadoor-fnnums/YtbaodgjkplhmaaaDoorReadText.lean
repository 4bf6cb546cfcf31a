/-
  The walks of the program's readText and GetText. Condition: package errors' own variable holds the handle of the type error.
-/
import Derived.Test.YtbaodgjkplhmaaaDoorReadNum
import Derived.Test.YtbaodgjkplhmaaaDoorJoin
import Derived.RegionTactic
import Derived.BigRegion
namespace Go.Proofs.YtbaodgjkplhmaaaDoor
open Go.RowKit Go.Lib
set_option linter.unusedVariables false

theorem getF_place (s : ByteArray) : ∀ (f k : Nat) (u : Int), (getF s f k u).2.2 = 0 → 0 ≤ (getF s f k u).2.1 ∧ (getF s f k u).2.1 ≤ s.size := by
  intro f
  induction f with
  | zero => intro k u h; exact absurd h (show ¬ (3 : Int) = 0 by decide)
  | succ f ih =>
    intro k u
    simp only [getF]
    split
    · intro h; exact absurd h (by decide)
    split
    · intro h; exact absurd h (by decide)
    split
    · split
      · intro h; exact absurd h (by decide)
      · intro _; show 0 ≤ (k : Int) + 1 ∧ (k : Int) + 1 ≤ s.size; omega
    · exact ih _ _
theorem numR_place (s : ByteArray) (k : Int) (h : (numR s k).2.2 = 0) : 0 ≤ (numR s k).2.1 ∧ (numR s k).2.1 ≤ s.size ∧ ¬ 20000 < (s.size : Int) := by
  revert h
  unfold numR
  split
  · intro h; exact absurd h (by decide)
  split
  · intro h; exact absurd h (by decide)
  · intro h; have := getF_place s _ _ _ h; exact ⟨this.1, this.2, by assumption⟩

/-- What GetText answers, by what GetNum read: the text, the place behind it, the code. -/
def textOf (s : ByteArray) (r : Int × Int × Int) : ByteArray × Int × Int :=
  if r.2.2 ≠ 0 then (⟨#[]⟩, 0, r.2.2) else if r.1 < 0 ∨ 20000 < r.1 then (⟨#[]⟩, 0, 3) else if (s.size : Int) - r.1 < r.2.1 then (⟨#[]⟩, 0, 4)
  else (s.extract r.2.1.toNat (r.2.1 + r.1).toNat, r.2.1 + r.1, 0)
def textV (t : ByteArray × Int × Int) : Value := .agg #[.string t.1, .int .i64 t.2.1, .int .i64 t.2.2]

theorem slice_of {s : ByteArray} {n a : Int} (h0 : 0 ≤ n) (h1 : 0 ≤ a) (h2 : a + n ≤ s.size) (w : World) :
    (Instr.slice 9 (.string s) (some (.int .i64 a)) (some (.int .i64 (a + n))) none).run Tryd.prog w = .ok (.string (s.extract a.toNat (a + n).toNat)) w :=
  run_slice_string w 9 s .i64 .i64 a (a + n) Tryd.underlying9 h1 (by omega) h2

theorem three_any {B g : Nat} {W w1 : World} {a b c : Value} {t : TypeId} (hb : Below B W w1) (hB : g < B) (hW : W.heap[g]? = some (.cells #[a, b, c] t (0, 0))) :
    (w1.cell? ⟨g, 0, none⟩ = some a ∧ w1.cell? ⟨g, 1, none⟩ = some b ∧ w1.cell? ⟨g, 2, none⟩ = some c) ∧ w1.frozen? ⟨g, 0, none⟩ = false ∧ w1.frozen? ⟨g, 1, none⟩ = false ∧ w1.frozen? ⟨g, 2, none⟩ = false := by
  have h := (hb.block g hB).trans hW
  simp [World.cell?, World.frozen?, h]

/-- What readText answers. -/
def readTV (t : ByteArray × Int × Int) : Value := if t.2.2 = 0 then .tuple #[.string t.1, .int .i64 t.2.1, .nilIface] else .tuple #[.string ⟨#[]⟩, .int .i64 0, .iface 54 (.agg #[.int .i64 t.2.2])]

theorem textOf_zeros (s : ByteArray) (r : Int × Int × Int) (h : (textOf s r).2.2 ≠ 0) : (textOf s r).1 = ⟨#[]⟩ ∧ (textOf s r).2.1 = 0 := by
  revert h
  unfold textOf
  split
  · intro _; exact ⟨rfl, rfl⟩
  split
  · intro _; exact ⟨rfl, rfl⟩
  split
  · intro _; exact ⟨rfl, rfl⟩
  · intro h; exact absurd rfl h

set_option maxHeartbeats 1000000 in
theorem readText_of (s : ByteArray) (k : Int) (w : World) (n a c : Int)
    (HE : Hid (∀ w, Calls Tryd.prog 15 #[.string s, .int .i64 k] w fun e w' => e = .returned (readV (n, a, c)) ∧ w' = w))
    (hp : c = 0 → 0 ≤ a ∧ a ≤ s.size ∧ ¬ 20000 < (s.size : Int)) :
    Calls Tryd.prog 21 #[.string s, .int .i64 k] w fun e w' => e = .returned (readTV (textOf s (n, a, c))) ∧ Below w.heap.size w w' := by
  by_cases hc : c = 0
  rotate_left
  · have e : textOf s (n, a, c) = (⟨#[]⟩, 0, c) := by unfold textOf; rw [if_pos hc]
    have e2 : readTV (⟨#[]⟩, 0, c) = .tuple #[.string ⟨#[]⟩, .int .i64 0, .iface 54 (.agg #[.int .i64 c])] := by simp [readTV, hc]
    have e3 : readV (n, a, c) = .tuple #[.int .i64 0, .int .i64 0, .iface 54 (.agg #[.int .i64 c])] := by simp [readV, hc]
    rw [e, e2]
    have HE' : Hid (∀ w, Calls Tryd.prog 15 #[.string s, .int .i64 k] w fun e w' => e = .returned (.tuple #[.int .i64 0, .int .i64 0, .iface 54 (.agg #[.int .i64 c])]) ∧ w' = w) := by have := HE.out; rw [e3] at this; exact this
    clear hp e e2 e3 hc HE
    go_enter Tryd.func21, Tryd.ntmps21
    go_wp2_with fail
    refine (HE'.out _).mono ?_
    rintro e w1 ⟨rfl, rfl⟩
    go_wp2
    go_ret3
    exact ⟨rfl, Below.refl _ _⟩
  · subst hc
    obtain ⟨ha0, ha1, hs⟩ := hp rfl
    have e3 : readV (n, a, 0) = .tuple #[.int .i64 n, .int .i64 a, .nilIface] := by simp [readV]
    have HE' : Hid (∀ w, Calls Tryd.prog 15 #[.string s, .int .i64 k] w fun e w' => e = .returned (.tuple #[.int .i64 n, .int .i64 a, .nilIface]) ∧ w' = w) := by have := HE.out; rw [e3] at this; exact this
    clear hp HE e3
    by_cases hn : n < 0 ∨ 20000 < n
    · have e : readTV (textOf s (n, a, 0)) = .tuple #[.string ⟨#[]⟩, .int .i64 0, .iface 54 (.agg #[.int .i64 3])] := by unfold textOf; rw [if_neg (by simp), if_pos hn]; simp [readTV]
      rw [e]
      clear e
      rcases hn with hn | hn
      all_goals
        go_enter Tryd.func21, Tryd.ntmps21
        go_wp2_with fail
        refine (HE'.out _).mono ?_
        rintro e w1 ⟨rfl, rfl⟩
        go_wp2
        go_ret3
        exact ⟨rfl, Below.refl _ _⟩
    have hn0 : 0 ≤ n := by omega
    have hn1 : n ≤ 20000 := by omega
    by_cases hl : (s.size : Int) - n < a
    · have e : readTV (textOf s (n, a, 0)) = .tuple #[.string ⟨#[]⟩, .int .i64 0, .iface 54 (.agg #[.int .i64 4])] := by unfold textOf; rw [if_neg (by simp), if_neg hn, if_pos hl]; simp [readTV]
      rw [e]
      have hl' : (s.size : Int) - a < n := by omega
      clear e hn hl
      go_enter Tryd.func21, Tryd.ntmps21
      go_wp2_with fail
      refine (HE'.out _).mono ?_
      rintro e w1 ⟨rfl, rfl⟩
      go_wp2
      go_ret3
      exact ⟨rfl, Below.refl _ _⟩
    have e : readTV (textOf s (n, a, 0)) = .tuple #[.string (s.extract a.toNat (a + n).toNat), .int .i64 (a + n), .nilIface] := by unfold textOf; rw [if_neg (by simp), if_neg hn, if_neg hl]; simp [readTV]
    rw [e]
    have hl' : n ≤ (s.size : Int) - a := by omega
    have hsl := slice_of (s := s) hn0 ha0 (by omega)
    have hwr : IntKind.i64.wrap (a + n) = a + n := by rw [IntKind.wrap_i64]; omega
    have J : ∀ w, Calls Tryd.prog 20 #[.string (s.extract a.toNat (a + n).toNat), .string ⟨#[]⟩] w fun e w' => e = .returned (.string (s.extract a.toNat (a + n).toNat)) ∧ Below w.heap.size w w' := fun w => by
      refine (joined_any (s.extract a.toNat (a + n).toNat) ⟨#[]⟩ w (by simp; omega) (Nat.zero_le _)).mono fun e w' ⟨he, hw⟩ => ⟨?_, hw⟩
      rw [he]
      exact ret_str (by apply ByteArray.ext; simp [ByteArray.data_append])
    generalize s.extract a.toNat (a + n).toNat = t at *
    have HJ : Hid (∀ w, Calls Tryd.prog 20 #[.string t, .string ⟨#[]⟩] w fun e w' => e = .returned (.string t) ∧ Below w.heap.size w w') := J
    clear e hn hl J
    go_enter Tryd.func21, Tryd.ntmps21
    go_wp2_with fail
    refine (HE'.out _).mono ?_
    rintro e w1 ⟨rfl, rfl⟩
    go_wp2_with fail
    refine (HJ.out _).mono ?_
    rintro e w2 ⟨rfl, hb⟩
    go_wp2
    go_ret3
    exact ⟨rfl, hb⟩

set_option maxHeartbeats 1000000 in
theorem implText (s : ByteArray) (k : Int) (w : World) (hs : s.size ≤ 1048576) (hk : k ≤ 9223372036854775807) (hg : Handle w) :
    Calls Tryd.prog 11 #[.string s, .int .i64 k] w fun e w' => e = .returned (textV (textOf s (numR s k))) ∧ Below w.heap.size w w' := by
  by_cases hb : 20000 < (s.size : Int)
  · have e : textOf s (numR s k) = (⟨#[]⟩, 0, 2) := by unfold numR textOf; rw [if_pos hb]; simp
    rw [e]
    go_enter Tryd.func11, Tryd.ntmps11
    go_wp2
    exact bodyPost_ret (v := textV (⟨#[]⟩, 0, 2)) (by simp [results, Tryd.results11, go_sem, textV]) rfl ⟨rfl, (Below.refl _ _).alloc (Nat.le_refl _) _⟩
  have E : ∀ w, Calls Tryd.prog 21 #[.string s, .int .i64 k] w fun e w' => e = .returned (readTV (textOf s (numR s k))) ∧ Below w.heap.size w w' := fun w => readText_of s k w (numR s k).1 (numR s k).2.1 (numR s k).2.2 (fun w => readNum_any s k w hb hk) (numR_place s k)
  have hz := textOf_zeros s (numR s k)
  obtain ⟨⟨t, at1, c⟩, hr⟩ : ∃ r, r = textOf s (numR s k) := ⟨_, rfl⟩
  rw [← hr] at E hz ⊢
  clear hr
  by_cases hc : c = 0
  · subst hc
    have e : readTV (t, at1, 0) = .tuple #[.string t, .int .i64 at1, .nilIface] := by simp [readTV]
    rw [e] at E
    have HE : Hid (∀ w, Calls Tryd.prog 21 #[.string s, .int .i64 k] w fun e w' => e = .returned (.tuple #[.string t, .int .i64 at1, .nilIface]) ∧ Below w.heap.size w w') := E
    clear E hz hg
    go_enter Tryd.func11, Tryd.ntmps11
    go_wp2_with fail
    refine (HE.out _).mono ?_
    rintro e w0 ⟨rfl, hb0⟩
    have HB0 : Hid (Below (w.alloc (.cells #[.string ⟨#[]⟩, .int .i64 0, .int .i64 0] 31)).heap.size (w.alloc (.cells #[.string ⟨#[]⟩, .int .i64 0, .int .i64 0] 31)) w0) := hb0
    clear hb0
    go_wp2_with fail
    refine (codeOf_nil _).mono ?_
    rintro e w1 ⟨rfl, hb1⟩
    have hbb := HB0.out.trans (hb1.mono HB0.out.size)
    obtain ⟨⟨c0, c1, c2⟩, f0, f1, f2⟩ := three_any hbb (g := w.heap.size) (by simp) (MapKept.heap_alloc w _).1
    have HB : Hid (Below w.heap.size w w1) := below_after hbb
    clear hbb hb1 HB0
    go_wp2
    exact bodyPost_ret (v := textV (t, at1, 0)) (by simp [results, Tryd.results11, go_sem, textV, c0, c1, c2]) rfl ⟨rfl, ((HB.out.setCell (Nat.le_refl _) _).setCell (Nat.le_refl _) _).setCell (Nat.le_refl _) _⟩
  · obtain ⟨z1, z2⟩ := hz hc
    obtain rfl : t = ⟨#[]⟩ := z1
    obtain rfl : at1 = 0 := z2
    have e : readTV (⟨#[]⟩, 0, c) = .tuple #[.string ⟨#[]⟩, .int .i64 0, .iface 54 (.agg #[.int .i64 c])] := by simp [readTV, hc]
    rw [e] at E
    have HE : Hid (∀ w, Calls Tryd.prog 21 #[.string s, .int .i64 k] w fun e w' => e = .returned (.tuple #[.string ⟨#[]⟩, .int .i64 0, .iface 54 (.agg #[.int .i64 c])]) ∧ Below w.heap.size w w') := E
    have HG : Hid (Handle (w.alloc (.cells #[.string ⟨#[]⟩, .int .i64 0, .int .i64 0] 31))) := hg.alloc _
    clear E hz hg hc
    go_enter Tryd.func11, Tryd.ntmps11
    go_wp2_with fail
    refine (HE.out _).mono ?_
    rintro e w0 ⟨rfl, hb0⟩
    have HB0 : Hid (Below (w.alloc (.cells #[.string ⟨#[]⟩, .int .i64 0, .int .i64 0] 31)).heap.size (w.alloc (.cells #[.string ⟨#[]⟩, .int .i64 0, .int .i64 0] 31)) w0) := hb0
    have HG0 : Hid (Handle w0) := HG.out.below hb0 HG.out.lt
    clear hb0 HG
    go_wp2_with fail
    refine (codeOf_hit c _ HG0.out).mono ?_
    rintro e w1 ⟨rfl, hb1⟩
    have hbb := HB0.out.trans (hb1.mono HB0.out.size)
    obtain ⟨⟨c0, c1, c2⟩, f0, f1, f2⟩ := three_any hbb (g := w.heap.size) (by simp) (MapKept.heap_alloc w _).1
    have HB : Hid (Below w.heap.size w w1) := below_after hbb
    clear hbb hb1 HB0 HG0
    go_wp2
    exact bodyPost_ret (v := textV (⟨#[]⟩, 0, c)) (by simp [results, Tryd.results11, go_sem, textV, c0, c1, c2]) rfl ⟨rfl, ((HB.out.setCell (Nat.le_refl _) _).setCell (Nat.le_refl _) _).setCell (Nat.le_refl _) _⟩

end Go.Proofs.YtbaodgjkplhmaaaDoor
