/-
  The document's reading of one text.
-/
import Derived.Test.YtpglcbidfghfkaaPkSdNum
import Derived.Deep.RegionHeld3
namespace Go.Proofs.Ytpglcbidfghfkaa
open Go.RowKit Go.Lib
set_option linter.unusedVariables false
set_option linter.unusedSimpArgs false

set_option maxHeartbeats 4000000 in
theorem stext_any (s : ByteArray) (hs : ¬ 20000 < (s.size : Int)) (p : Nat) (st : Option Int) (w : World) (h : Sd s p st w) :
    Calls Try.prog 17 #[.pointer (some ⟨p, 0, none⟩)] w fun e w' => e = .returned (.string (rdText s st).1) ∧ Sd s p (rdText s st).2 w' ∧ w.grownBy w' (some p) := by
  obtain ⟨a, b, hp, ha, hcase⟩ := id h
  have E : ∀ W, Calls Try.prog 37 #[.string s, .int .i64 a] W fun e w' => e = .returned (.agg #[.string (textOf s (numR s a)).1, .int .i64 (textOf s (numR s a)).2.1, .int .i64 (textOf s (numR s a)).2.2]) ∧ Below W.heap.size W w' := fun W => specText s a W (by omega) ha
  have HK : Hid (∀ (w2 : World), Below w.heap.size w w2 → ((w2.cell? ⟨p, 0, none⟩ = some (.string s) ∧ w2.cell? ⟨p, 1, none⟩ = some (.int .i64 a) ∧ w2.cell? ⟨p, 2, none⟩ = some (.bool b)) ∧ w2.frozen? ⟨p, 1, none⟩ = false ∧ w2.frozen? ⟨p, 2, none⟩ = false) ∧ p < w2.heap.size) := fun w2 hb => ⟨Sd.held hp hb, Nat.lt_of_lt_of_le h.lt hb.size⟩
  obtain ⟨⟨c0, c1, c2⟩, f1, f2⟩ := Sd.held hp (Below.refl _ _)
  have hlt := h.lt
  have HG : Hid (∀ W, Below w.heap.size w W → Sd s p none (W.setCell ⟨p, 2, none⟩ (.bool true)) ∧ w.grownBy (W.setCell ⟨p, 2, none⟩ (.bool true)) (some p)) := fun W hb => Sd.stopped h hb
  have HF : Hid (∀ W, Below w.heap.size w W → ∀ o, Sd s p none ((W.setCell ⟨p, 2, none⟩ (.bool true)).alloc o) ∧ w.grownBy ((W.setCell ⟨p, 2, none⟩ (.bool true)).alloc o) (some p)) := fun W hb o => Sd.more (Sd.stopped h hb).1 (Sd.stopped h hb).2 o
  have HF2 : Hid (∀ W, Below w.heap.size w W → ∀ o, Sd s p none ((W.alloc o).setCell ⟨p, 2, none⟩ (.bool true)) ∧ w.grownBy ((W.alloc o).setCell ⟨p, 2, none⟩ (.bool true)) (some p)) := fun W hb o => Sd.stopped h (hb.alloc hb.size o)
  rcases hcase with ⟨rfl, rfl, h0⟩ | ⟨rfl, rfl⟩
  · by_cases hc : (textOf s (numR s a)).2.2 = 0
    · have hpl : 0 ≤ (textOf s (numR s a)).2.1 ∧ (textOf s (numR s a)).2.1 ≤ s.size := (textOf_on s a hc).2
      rw [rdText_ok hc]
      rw [hc] at E
      generalize (textOf s (numR s a)).1 = n at *
      generalize (textOf s (numR s a)).2.1 = at1 at *
      clear HG HF HF2
      have HG : Hid (∀ W, Below w.heap.size w W → Sd s p (some at1) (W.setCell ⟨p, 1, none⟩ (.int .i64 at1)) ∧ w.grownBy (W.setCell ⟨p, 1, none⟩ (.int .i64 at1)) (some p)) := fun W hb => Sd.moved h hb hpl hs (by simp)
      have HF : Hid (∀ W, Below w.heap.size w W → ∀ o, Sd s p (some at1) ((W.setCell ⟨p, 1, none⟩ (.int .i64 at1)).alloc o) ∧ w.grownBy ((W.setCell ⟨p, 1, none⟩ (.int .i64 at1)).alloc o) (some p)) := fun W hb o => Sd.more (HG.out W hb).1 (HG.out W hb).2 o
      have HF2 : Hid (∀ W, Below w.heap.size w W → ∀ o, Sd s p (some at1) ((W.alloc o).setCell ⟨p, 1, none⟩ (.int .i64 at1)) ∧ w.grownBy ((W.alloc o).setCell ⟨p, 1, none⟩ (.int .i64 at1)) (some p)) := fun W hb o => HG.out _ (hb.alloc hb.size o)
      have HE : Hid (∀ W, Like w W → Calls Try.prog 37 #[.string s, .int .i64 a] W fun e w' => e = .returned (.agg #[.string n, .int .i64 at1, .int .i64 0]) ∧ Below w.heap.size w w') := fun W hW => (E W).mono fun e w' h => ⟨h.1, hW.below h.2⟩
      have HE2 : Hid (∀ W, Like (w.alloc (.cells #[.string ⟨#[]⟩, .int .i64 0, .int .i64 0] 76)) W → Calls Try.prog 37 #[.string s, .int .i64 a] W fun e w' => e = .returned (.agg #[.string n, .int .i64 at1, .int .i64 0]) ∧ Below (w.alloc (.cells #[.string ⟨#[]⟩, .int .i64 0, .int .i64 0] 76)).heap.size (w.alloc (.cells #[.string ⟨#[]⟩, .int .i64 0, .int .i64 0] 76)) w') := fun W hW => (E W).mono fun e w' h => ⟨h.1, hW.below h.2⟩
      clear E hc hpl h hp h0
      go_enter Try.func17, Try.ntmps17
      go_wp2
      go_region_with (first | (go_at_call 37; refine (HE.out _ ?lk).mono ?_; (case lk => exact ⟨rfl, rfl, rfl, rfl⟩); rintro e w1 ⟨rfl, hb⟩; obtain ⟨⟨⟨q0, q1, q2⟩, q3, q4⟩, q5⟩ := HK.out _ hb; have HB : Hid (Below w.heap.size w w1) := hb; clear hb) | (go_at_call 37; refine (HE2.out _ ?lk).mono ?_; (case lk => exact ⟨rfl, rfl, rfl, rfl⟩); rintro e w1 ⟨rfl, hb⟩; obtain ⟨⟨⟨q0, q1, q2⟩, q3, q4⟩, q5⟩ := HK.out _ (below_after hb); obtain ⟨⟨t0, t1, t2⟩, t3, t4, t5⟩ := three_any hb (g := w.heap.size) (by simp) (MapKept.heap_alloc w _).1; have hlt1 := hb.size; have HB : Hid (Below w.heap.size w w1) := below_after hb; clear hb))
      all_goals
        go_wp2
        go_ret
        refine ⟨rfl, ?_⟩
        first | (with_reducible refine HF.out _ ?_ _; exact HB.out) | (with_reducible refine HF2.out _ ?_ _; exact HB.out) | (with_reducible refine HG.out _ ?_; exact ((HB.out.setCell (Nat.le_refl _) _).setCell (Nat.le_refl _) _).setCell (Nat.le_refl _) _)
    · rw [rdText_bad hc]
      have hcb : ((textOf s (numR s a)).2.2 != 0) = true := by simp [hc]
      generalize (textOf s (numR s a)).1 = n at *
      generalize (textOf s (numR s a)).2.1 = at1 at *
      generalize (textOf s (numR s a)).2.2 = c at *
      have HE : Hid (∀ W, Like w W → Calls Try.prog 37 #[.string s, .int .i64 a] W fun e w' => e = .returned (.agg #[.string n, .int .i64 at1, .int .i64 c]) ∧ Below w.heap.size w w') := fun W hW => (E W).mono fun e w' h => ⟨h.1, hW.below h.2⟩
      have HE2 : Hid (∀ W, Like (w.alloc (.cells #[.string ⟨#[]⟩, .int .i64 0, .int .i64 0] 76)) W → Calls Try.prog 37 #[.string s, .int .i64 a] W fun e w' => e = .returned (.agg #[.string n, .int .i64 at1, .int .i64 c]) ∧ Below (w.alloc (.cells #[.string ⟨#[]⟩, .int .i64 0, .int .i64 0] 76)).heap.size (w.alloc (.cells #[.string ⟨#[]⟩, .int .i64 0, .int .i64 0] 76)) w') := fun W hW => (E W).mono fun e w' h => ⟨h.1, hW.below h.2⟩
      clear E hc h hp h0
      go_enter Try.func17, Try.ntmps17
      go_wp2
      go_region_with (first | (go_at_call 37; refine (HE.out _ ?lk).mono ?_; (case lk => exact ⟨rfl, rfl, rfl, rfl⟩); rintro e w1 ⟨rfl, hb⟩; obtain ⟨⟨⟨q0, q1, q2⟩, q3, q4⟩, q5⟩ := HK.out _ hb; have HB : Hid (Below w.heap.size w w1) := hb; clear hb) | (go_at_call 37; refine (HE2.out _ ?lk).mono ?_; (case lk => exact ⟨rfl, rfl, rfl, rfl⟩); rintro e w1 ⟨rfl, hb⟩; obtain ⟨⟨⟨q0, q1, q2⟩, q3, q4⟩, q5⟩ := HK.out _ (below_after hb); obtain ⟨⟨t0, t1, t2⟩, t3, t4, t5⟩ := three_any hb (g := w.heap.size) (by simp) (MapKept.heap_alloc w _).1; have hlt1 := hb.size; have HB : Hid (Below w.heap.size w w1) := below_after hb; clear hb))
      all_goals
        go_wp2
        go_ret
        refine ⟨rfl, ?_⟩
        first | (with_reducible refine HF.out _ ?_ _; exact HB.out) | (with_reducible refine HF2.out _ ?_ _; exact HB.out) | (with_reducible refine HG.out _ ?_; exact ((HB.out.setCell (Nat.le_refl _) _).setCell (Nat.le_refl _) _).setCell (Nat.le_refl _) _)
  · rw [show rdText s none = (⟨#[]⟩, none) from rfl]
    generalize (textOf s (numR s a)).1 = n at *
    generalize (textOf s (numR s a)).2.1 = at1 at *
    generalize (textOf s (numR s a)).2.2 = c at *
    have HE : Hid (∀ W, Like w W → Calls Try.prog 37 #[.string s, .int .i64 a] W fun e w' => e = .returned (.agg #[.string n, .int .i64 at1, .int .i64 c]) ∧ Below w.heap.size w w') := fun W hW => (E W).mono fun e w' h => ⟨h.1, hW.below h.2⟩
    have HE2 : Hid (∀ W, Like (w.alloc (.cells #[.string ⟨#[]⟩, .int .i64 0, .int .i64 0] 76)) W → Calls Try.prog 37 #[.string s, .int .i64 a] W fun e w' => e = .returned (.agg #[.string n, .int .i64 at1, .int .i64 c]) ∧ Below (w.alloc (.cells #[.string ⟨#[]⟩, .int .i64 0, .int .i64 0] 76)).heap.size (w.alloc (.cells #[.string ⟨#[]⟩, .int .i64 0, .int .i64 0] 76)) w') := fun W hW => (E W).mono fun e w' h => ⟨h.1, hW.below h.2⟩
    clear E h hp
    go_enter Try.func17, Try.ntmps17
    go_wp2
    go_region_with (first | (go_at_call 37; refine (HE.out _ ?lk).mono ?_; (case lk => exact ⟨rfl, rfl, rfl, rfl⟩); rintro e w1 ⟨rfl, hb⟩; obtain ⟨⟨⟨q0, q1, q2⟩, q3, q4⟩, q5⟩ := HK.out _ hb; have HB : Hid (Below w.heap.size w w1) := hb; clear hb) | (go_at_call 37; refine (HE2.out _ ?lk).mono ?_; (case lk => exact ⟨rfl, rfl, rfl, rfl⟩); rintro e w1 ⟨rfl, hb⟩; obtain ⟨⟨⟨q0, q1, q2⟩, q3, q4⟩, q5⟩ := HK.out _ (below_after hb); obtain ⟨⟨t0, t1, t2⟩, t3, t4, t5⟩ := three_any hb (g := w.heap.size) (by simp) (MapKept.heap_alloc w _).1; have hlt1 := hb.size; have HB : Hid (Below w.heap.size w w1) := below_after hb; clear hb))
    all_goals
      go_wp2
      go_ret
      refine ⟨rfl, ?_⟩
      first | (with_reducible refine HF.out _ ?_ _; exact HB.out) | (with_reducible refine HF2.out _ ?_ _; exact HB.out) | (with_reducible refine HG.out _ ?_; exact ((HB.out.setCell (Nat.le_refl _) _).setCell (Nat.le_refl _) _).setCell (Nat.le_refl _) _)

end Go.Proofs.Ytpglcbidfghfkaa
