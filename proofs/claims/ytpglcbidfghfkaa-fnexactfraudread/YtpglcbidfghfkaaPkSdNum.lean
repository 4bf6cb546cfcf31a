/-
  The document's reading of one field: a number, a text.
-/
import Derived.Test.YtpglcbidfghfkaaPkReadBack
import Derived.Test.YtpglcbidfghfkaaPkSpecText
import Derived.Test.YtpglcbidfghfkaaPkRdNum
import Derived.Deep.RegionWith
import Derived.Deep.RegionHeld3
import Derived.Deep.DeepCutAuto
namespace Go.Proofs.Ytpglcbidfghfkaa
open Go.RowKit Go.Lib
set_option linter.unusedVariables false
set_option linter.unusedSimpArgs false

/-- Block p holds the document's reader of s: at a place, or (none) behind a fault. -/
def Sd (s : ByteArray) (p : Nat) (st : Option Int) (w : World) : Prop :=
  ∃ (a : Int) (b : Bool), w.heap[p]? = some (.cells #[.string s, .int .i64 a, .bool b] 44 (0, 0)) ∧ a ≤ 9223372036854775807 ∧ ((st = some a ∧ b = false ∧ 0 ≤ a ∧ a ≤ s.size) ∨ (st = none ∧ b = true))
theorem Sd.lt {s : ByteArray} {p : Nat} {st : Option Int} {w : World} (h : Sd s p st w) : p < w.heap.size := by
  obtain ⟨a, v, h, _⟩ := h
  exact (Array.getElem?_eq_some_iff.1 h).1
theorem Sd.within {s : ByteArray} {p : Nat} {st : Option Int} {w : World} (h : Sd s p st w) : Within s st := by
  obtain ⟨a, v, _, _, h⟩ := h
  rintro k rfl
  rcases h with ⟨h1, _, h2, h3⟩ | ⟨h1, _⟩
  · obtain rfl : k = a := by simpa using h1
    exact ⟨h2, h3⟩
  · exact absurd h1 (by simp)
theorem Sd.block {s : ByteArray} {p : Nat} {st : Option Int} {w w' : World} (h : Sd s p st w) (hb : w'.heap[p]? = w.heap[p]?) : Sd s p st w' := by
  obtain ⟨a, v, h1, h2⟩ := h
  exact ⟨a, v, hb.trans h1, h2⟩
theorem Sd.held {p : Nat} {w w2 : World} {a : Int} {s : ByteArray} {b : Bool} (h : w.heap[p]? = some (.cells #[.string s, .int .i64 a, .bool b] 44 (0, 0))) (hb : Below w.heap.size w w2) : (w2.cell? ⟨p, 0, none⟩ = some (.string s) ∧ w2.cell? ⟨p, 1, none⟩ = some (.int .i64 a) ∧ w2.cell? ⟨p, 2, none⟩ = some (.bool b)) ∧ w2.frozen? ⟨p, 1, none⟩ = false ∧ w2.frozen? ⟨p, 2, none⟩ = false := by
  have h' := (hb.block p (Array.getElem?_eq_some_iff.1 h).1).trans h
  have c := row_here h'
  have f := row_free h'
  exact ⟨⟨c 0 _ rfl, c 1 _ rfl, c 2 _ rfl⟩, f 1, f 2⟩
/-- The reader goes on, or is stopped. -/
theorem Sd.moved {s : ByteArray} {p : Nat} {st : Option Int} {w W : World} (h : Sd s p st w) (hb : Below w.heap.size w W) {a : Int} (h0 : 0 ≤ a ∧ a ≤ s.size) (hs : ¬ 20000 < (s.size : Int)) (hst : st ≠ none) : Sd s p (some a) (W.setCell ⟨p, 1, none⟩ (.int .i64 a)) ∧ w.grownBy (W.setCell ⟨p, 1, none⟩ (.int .i64 a)) (some p) := by
  have hlt := h.lt
  obtain ⟨a0, b0, h1, _, hc⟩ := h
  rcases hc with ⟨_, rfl, _⟩ | ⟨e, _⟩
  · have h2 := (hb.block p hlt).trans h1
    refine ⟨⟨a, false, heap_put2 _ h2 rfl, by omega, .inl ⟨rfl, rfl, h0.1, h0.2⟩⟩, hb.os, hb.tape, hb.output, by simp only [size_put]; exact hb.size, fun k hk hne => ?_⟩
    exact heap_pass (fun e => hne (by rw [e])) (hb.block k hk)
  · exact absurd e hst
theorem Sd.stopped {s : ByteArray} {p : Nat} {st : Option Int} {w W : World} (h : Sd s p st w) (hb : Below w.heap.size w W) : Sd s p none (W.setCell ⟨p, 2, none⟩ (.bool true)) ∧ w.grownBy (W.setCell ⟨p, 2, none⟩ (.bool true)) (some p) := by
  have hlt := h.lt
  obtain ⟨a0, b0, h1, h3, hc⟩ := h
  have h2 := (hb.block p hlt).trans h1
  refine ⟨⟨a0, true, heap_put2 _ h2 rfl, h3, .inr ⟨rfl, rfl⟩⟩, hb.os, hb.tape, hb.output, by simp only [size_put]; exact hb.size, fun k hk hne => ?_⟩
  exact heap_pass (fun e => hne (by rw [e])) (hb.block k hk)
theorem Sd.kept {s : ByteArray} {p : Nat} {st : Option Int} {w : World} (h : Sd s p st w) (hst : st ≠ none) : Sd s p st (w.setCell ⟨p, 2, none⟩ (.bool false)) ∧ w.grownBy (w.setCell ⟨p, 2, none⟩ (.bool false)) (some p) := by
  obtain ⟨a0, b0, h1, h3, hc⟩ := h
  rcases hc with ⟨e, rfl, h4⟩ | ⟨e, _⟩
  · exact ⟨⟨a0, false, heap_put2 _ h1 rfl, h3, .inl ⟨e, rfl, h4⟩⟩, rfl, rfl, rfl, by simp only [size_put]; exact Nat.le_refl _, fun k hk hne => heap_pass (fun e => hne (by rw [e])) rfl⟩
  · exact absurd e hst
theorem below_more {w W : World} (h : Below w.heap.size w W) (o : Obj) : Below w.heap.size w (W.alloc o) := h.alloc h.size o
theorem Sd.more {s : ByteArray} {p : Nat} {st : Option Int} {w W : World} (h : Sd s p st W) (hg : w.grownBy W (some p)) (o : Obj) : Sd s p st (W.alloc o) ∧ w.grownBy (W.alloc o) (some p) := by
  have hb : Below W.heap.size W (W.alloc o) := (Below.refl _ _).alloc (Nat.le_refl _) _
  refine ⟨h.block (hb.block _ h.lt), hb.os.trans hg.os, hb.tape.trans hg.tape, hb.output.trans hg.output, Nat.le_trans hg.size hb.size, fun k hk hne => (hb.block k (Nat.lt_of_lt_of_le hk hg.size)).trans (hg.block k hk hne)⟩

set_option maxHeartbeats 4000000 in
theorem snum_any (s : ByteArray) (hs : ¬ 20000 < (s.size : Int)) (p : Nat) (st : Option Int) (w : World) (h : Sd s p st w) :
    Calls Try.prog 16 #[.pointer (some ⟨p, 0, none⟩)] w fun e w' => e = .returned (.int .i64 (rdNum s st).1) ∧ Sd s p (rdNum s st).2 w' ∧ w.grownBy w' (some p) := by
  obtain ⟨a, b, hp, ha, hcase⟩ := id h
  have E : ∀ W, Calls Try.prog 36 #[.string s, .int .i64 a] W fun e w' => e = .returned (.agg #[.int .i64 (numR s a).1, .int .i64 (numR s a).2.1, .int .i64 (numR s a).2.2]) ∧ Below W.heap.size W w' := fun W => specNum s a W (by omega) ha
  have HK : Hid (∀ (w2 : World), Below w.heap.size w w2 → ((w2.cell? ⟨p, 0, none⟩ = some (.string s) ∧ w2.cell? ⟨p, 1, none⟩ = some (.int .i64 a) ∧ w2.cell? ⟨p, 2, none⟩ = some (.bool b)) ∧ w2.frozen? ⟨p, 1, none⟩ = false ∧ w2.frozen? ⟨p, 2, none⟩ = false) ∧ p < w2.heap.size) := fun w2 hb => ⟨Sd.held hp hb, Nat.lt_of_lt_of_le h.lt hb.size⟩
  obtain ⟨⟨c0, c1, c2⟩, f1, f2⟩ := Sd.held hp (Below.refl _ _)
  have hlt := h.lt
  have HG : Hid (∀ W, Below w.heap.size w W → Sd s p none (W.setCell ⟨p, 2, none⟩ (.bool true)) ∧ w.grownBy (W.setCell ⟨p, 2, none⟩ (.bool true)) (some p)) := fun W hb => Sd.stopped h hb
  have HF : Hid (∀ W, Below w.heap.size w W → ∀ o, Sd s p none ((W.setCell ⟨p, 2, none⟩ (.bool true)).alloc o) ∧ w.grownBy ((W.setCell ⟨p, 2, none⟩ (.bool true)).alloc o) (some p)) := fun W hb o => Sd.more (Sd.stopped h hb).1 (Sd.stopped h hb).2 o
  have HF2 : Hid (∀ W, Below w.heap.size w W → ∀ o, Sd s p none ((W.alloc o).setCell ⟨p, 2, none⟩ (.bool true)) ∧ w.grownBy ((W.alloc o).setCell ⟨p, 2, none⟩ (.bool true)) (some p)) := fun W hb o => Sd.stopped h (hb.alloc hb.size o)
  rcases hcase with ⟨rfl, rfl, h0⟩ | ⟨rfl, rfl⟩
  · by_cases hc : (numR s a).2.2 = 0
    · have hpl : 0 ≤ (numR s a).2.1 ∧ (numR s a).2.1 ≤ s.size := ⟨(numR_place s a hc).1, (numR_place s a hc).2.1⟩
      rw [rdNum_ok hc]
      rw [hc] at E
      generalize (numR s a).1 = n at *
      generalize (numR s a).2.1 = at1 at *
      clear HG HF HF2
      have HG : Hid (∀ W, Below w.heap.size w W → Sd s p (some at1) (W.setCell ⟨p, 1, none⟩ (.int .i64 at1)) ∧ w.grownBy (W.setCell ⟨p, 1, none⟩ (.int .i64 at1)) (some p)) := fun W hb => Sd.moved h hb hpl hs (by simp)
      have HF : Hid (∀ W, Below w.heap.size w W → ∀ o, Sd s p (some at1) ((W.setCell ⟨p, 1, none⟩ (.int .i64 at1)).alloc o) ∧ w.grownBy ((W.setCell ⟨p, 1, none⟩ (.int .i64 at1)).alloc o) (some p)) := fun W hb o => Sd.more (HG.out W hb).1 (HG.out W hb).2 o
      have HF2 : Hid (∀ W, Below w.heap.size w W → ∀ o, Sd s p (some at1) ((W.alloc o).setCell ⟨p, 1, none⟩ (.int .i64 at1)) ∧ w.grownBy ((W.alloc o).setCell ⟨p, 1, none⟩ (.int .i64 at1)) (some p)) := fun W hb o => HG.out _ (hb.alloc hb.size o)
      have HE : Hid (∀ W, Like w W → Calls Try.prog 36 #[.string s, .int .i64 a] W fun e w' => e = .returned (.agg #[.int .i64 n, .int .i64 at1, .int .i64 0]) ∧ Below w.heap.size w w') := fun W hW => (E W).mono fun e w' h => ⟨h.1, hW.below h.2⟩
      have HE2 : Hid (∀ W, Like (w.alloc (.cells #[.int .i64 0, .int .i64 0, .int .i64 0] 73)) W → Calls Try.prog 36 #[.string s, .int .i64 a] W fun e w' => e = .returned (.agg #[.int .i64 n, .int .i64 at1, .int .i64 0]) ∧ Below (w.alloc (.cells #[.int .i64 0, .int .i64 0, .int .i64 0] 73)).heap.size (w.alloc (.cells #[.int .i64 0, .int .i64 0, .int .i64 0] 73)) w') := fun W hW => (E W).mono fun e w' h => ⟨h.1, hW.below h.2⟩
      clear E hc hpl h hp h0
      go_enter Try.func16, Try.ntmps16
      go_wp2
      go_region_with (first | (go_at_call 36; refine (HE.out _ ?lk).mono ?_; (case lk => exact ⟨rfl, rfl, rfl, rfl⟩); rintro e w1 ⟨rfl, hb⟩; obtain ⟨⟨⟨q0, q1, q2⟩, q3, q4⟩, q5⟩ := HK.out _ hb; have HB : Hid (Below w.heap.size w w1) := hb; clear hb) | (go_at_call 36; refine (HE2.out _ ?lk).mono ?_; (case lk => exact ⟨rfl, rfl, rfl, rfl⟩); rintro e w1 ⟨rfl, hb⟩; obtain ⟨⟨⟨q0, q1, q2⟩, q3, q4⟩, q5⟩ := HK.out _ (below_after hb); obtain ⟨⟨t0, t1, t2⟩, t3, t4, t5⟩ := three_any hb (g := w.heap.size) (by simp) (MapKept.heap_alloc w _).1; have hlt1 := hb.size; have HB : Hid (Below w.heap.size w w1) := below_after hb; clear hb))
      all_goals
        go_wp2
        go_ret
        refine ⟨rfl, ?_⟩
        first | (with_reducible refine HF.out _ ?_ _; exact HB.out) | (with_reducible refine HF2.out _ ?_ _; exact HB.out) | (with_reducible refine HG.out _ ?_; exact ((HB.out.setCell (Nat.le_refl _) _).setCell (Nat.le_refl _) _).setCell (Nat.le_refl _) _)
    · rw [rdNum_bad hc]
      have hcb : ((numR s a).2.2 != 0) = true := by simp [hc]
      generalize (numR s a).1 = n at *
      generalize (numR s a).2.1 = at1 at *
      generalize (numR s a).2.2 = c at *
      have HE : Hid (∀ W, Like w W → Calls Try.prog 36 #[.string s, .int .i64 a] W fun e w' => e = .returned (.agg #[.int .i64 n, .int .i64 at1, .int .i64 c]) ∧ Below w.heap.size w w') := fun W hW => (E W).mono fun e w' h => ⟨h.1, hW.below h.2⟩
      have HE2 : Hid (∀ W, Like (w.alloc (.cells #[.int .i64 0, .int .i64 0, .int .i64 0] 73)) W → Calls Try.prog 36 #[.string s, .int .i64 a] W fun e w' => e = .returned (.agg #[.int .i64 n, .int .i64 at1, .int .i64 c]) ∧ Below (w.alloc (.cells #[.int .i64 0, .int .i64 0, .int .i64 0] 73)).heap.size (w.alloc (.cells #[.int .i64 0, .int .i64 0, .int .i64 0] 73)) w') := fun W hW => (E W).mono fun e w' h => ⟨h.1, hW.below h.2⟩
      clear E hc h hp h0
      go_enter Try.func16, Try.ntmps16
      go_wp2
      go_region_with (first | (go_at_call 36; refine (HE.out _ ?lk).mono ?_; (case lk => exact ⟨rfl, rfl, rfl, rfl⟩); rintro e w1 ⟨rfl, hb⟩; obtain ⟨⟨⟨q0, q1, q2⟩, q3, q4⟩, q5⟩ := HK.out _ hb; have HB : Hid (Below w.heap.size w w1) := hb; clear hb) | (go_at_call 36; refine (HE2.out _ ?lk).mono ?_; (case lk => exact ⟨rfl, rfl, rfl, rfl⟩); rintro e w1 ⟨rfl, hb⟩; obtain ⟨⟨⟨q0, q1, q2⟩, q3, q4⟩, q5⟩ := HK.out _ (below_after hb); obtain ⟨⟨t0, t1, t2⟩, t3, t4, t5⟩ := three_any hb (g := w.heap.size) (by simp) (MapKept.heap_alloc w _).1; have hlt1 := hb.size; have HB : Hid (Below w.heap.size w w1) := below_after hb; clear hb))
      all_goals
        go_wp2
        go_ret
        refine ⟨rfl, ?_⟩
        first | (with_reducible refine HF.out _ ?_ _; exact HB.out) | (with_reducible refine HF2.out _ ?_ _; exact HB.out) | (with_reducible refine HG.out _ ?_; exact ((HB.out.setCell (Nat.le_refl _) _).setCell (Nat.le_refl _) _).setCell (Nat.le_refl _) _)
  · rw [show rdNum s none = (0, none) from rfl]
    generalize (numR s a).1 = n at *
    generalize (numR s a).2.1 = at1 at *
    generalize (numR s a).2.2 = c at *
    have HE : Hid (∀ W, Like w W → Calls Try.prog 36 #[.string s, .int .i64 a] W fun e w' => e = .returned (.agg #[.int .i64 n, .int .i64 at1, .int .i64 c]) ∧ Below w.heap.size w w') := fun W hW => (E W).mono fun e w' h => ⟨h.1, hW.below h.2⟩
    have HE2 : Hid (∀ W, Like (w.alloc (.cells #[.int .i64 0, .int .i64 0, .int .i64 0] 73)) W → Calls Try.prog 36 #[.string s, .int .i64 a] W fun e w' => e = .returned (.agg #[.int .i64 n, .int .i64 at1, .int .i64 c]) ∧ Below (w.alloc (.cells #[.int .i64 0, .int .i64 0, .int .i64 0] 73)).heap.size (w.alloc (.cells #[.int .i64 0, .int .i64 0, .int .i64 0] 73)) w') := fun W hW => (E W).mono fun e w' h => ⟨h.1, hW.below h.2⟩
    clear E h hp
    go_enter Try.func16, Try.ntmps16
    go_wp2
    go_region_with (first | (go_at_call 36; refine (HE.out _ ?lk).mono ?_; (case lk => exact ⟨rfl, rfl, rfl, rfl⟩); rintro e w1 ⟨rfl, hb⟩; obtain ⟨⟨⟨q0, q1, q2⟩, q3, q4⟩, q5⟩ := HK.out _ hb; have HB : Hid (Below w.heap.size w w1) := hb; clear hb) | (go_at_call 36; refine (HE2.out _ ?lk).mono ?_; (case lk => exact ⟨rfl, rfl, rfl, rfl⟩); rintro e w1 ⟨rfl, hb⟩; obtain ⟨⟨⟨q0, q1, q2⟩, q3, q4⟩, q5⟩ := HK.out _ (below_after hb); obtain ⟨⟨t0, t1, t2⟩, t3, t4, t5⟩ := three_any hb (g := w.heap.size) (by simp) (MapKept.heap_alloc w _).1; have hlt1 := hb.size; have HB : Hid (Below w.heap.size w w1) := below_after hb; clear hb))
    all_goals
      go_wp2
      go_ret
      refine ⟨rfl, ?_⟩
      first | (with_reducible refine HF.out _ ?_ _; exact HB.out) | (with_reducible refine HF2.out _ ?_ _; exact HB.out) | (with_reducible refine HG.out _ ?_; exact ((HB.out.setCell (Nat.le_refl _) _).setCell (Nat.le_refl _) _).setCell (Nat.le_refl _) _)

end Go.Proofs.Ytpglcbidfghfkaa
