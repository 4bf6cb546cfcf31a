/-
  The program's reading of one field: a number, a text.
-/
import Derived.Test.YtpglcbidfghfkaaPkReadBack
import Derived.Deep.RegionWith
import Derived.Deep.RegionHeld3
import Derived.Deep.DeepCutAuto
namespace Go.Proofs.Ytpglcbidfghfkaa
open Go.RowKit Go.Lib
set_option linter.unusedVariables false
set_option linter.unusedSimpArgs false

/-- Block p holds the program's reader of s: at a place, or (none) behind a fault. -/
def Rd (s : ByteArray) (p : Nat) (st : Option Int) (w : World) : Prop :=
  ∃ (a : Int) (v : Value), w.heap[p]? = some (.cells #[.string s, .int .i64 a, v] 52 (0, 0)) ∧ ((st = some a ∧ v = .nilIface ∧ 0 ≤ a ∧ a ≤ s.size) ∨ (st = none ∧ ∃ c : Int, v = .iface 115 (.agg #[.int .i64 c])))
theorem Rd.lt {s : ByteArray} {p : Nat} {st : Option Int} {w : World} (h : Rd s p st w) : p < w.heap.size := by
  obtain ⟨a, v, h, _⟩ := h
  exact (Array.getElem?_eq_some_iff.1 h).1
theorem Rd.within {s : ByteArray} {p : Nat} {st : Option Int} {w : World} (h : Rd s p st w) : Within s st := by
  obtain ⟨a, v, _, h⟩ := h
  rintro k rfl
  rcases h with ⟨h1, _, h2, h3⟩ | ⟨h1, _⟩
  · obtain rfl : k = a := by simpa using h1
    exact ⟨h2, h3⟩
  · exact absurd h1 (by simp)
theorem Rd.block {s : ByteArray} {p : Nat} {st : Option Int} {w w' : World} (h : Rd s p st w) (hb : w'.heap[p]? = w.heap[p]?) : Rd s p st w' := by
  obtain ⟨a, v, h1, h2⟩ := h
  exact ⟨a, v, hb.trans h1, h2⟩
/-- The reader is moved, or stopped. -/
theorem Rd.moved {s : ByteArray} {p : Nat} {st : Option Int} {w W : World} (h : Rd s p st w) (hb : Below w.heap.size w W) {a : Int} {v : Value} {st' : Option Int}
    (hs : (st' = some a ∧ v = .nilIface ∧ 0 ≤ a ∧ a ≤ s.size) ∨ (st' = none ∧ ∃ c : Int, v = .iface 115 (.agg #[.int .i64 c]))) : Rd s p st' ((W.setCell ⟨p, 1, none⟩ (.int .i64 a)).setCell ⟨p, 2, none⟩ v) ∧ w.grownBy ((W.setCell ⟨p, 1, none⟩ (.int .i64 a)).setCell ⟨p, 2, none⟩ v) (some p) := by
  have hlt := h.lt
  obtain ⟨a0, v0, h1, _⟩ := h
  have h2 := (hb.block p hlt).trans h1
  have k1 : (W.setCell ⟨p, 1, none⟩ (.int .i64 a)).heap[p]? = some (Obj.cells #[.string s, .int .i64 a, v0] 52 (0, 0)) := heap_put2 _ h2 rfl
  have k2 : ((W.setCell ⟨p, 1, none⟩ (.int .i64 a)).setCell ⟨p, 2, none⟩ v).heap[p]? = some (Obj.cells #[.string s, .int .i64 a, v] 52 (0, 0)) := heap_put2 _ k1 rfl
  refine ⟨⟨a, v, k2, hs⟩, hb.os, hb.tape, hb.output, by simp only [size_put]; exact hb.size, fun k hk hne => ?_⟩
  have hne' : k ≠ p := fun e => hne (by rw [e])
  exact heap_pass hne' (heap_pass hne' (hb.block k hk))
/-- Behind a call the reader's cells are as they were. -/
theorem Rd.held {p : Nat} {w w2 : World} {a : Int} {s : ByteArray} {v : Value} (h : w.heap[p]? = some (.cells #[.string s, .int .i64 a, v] 52 (0, 0))) (hb : Below w.heap.size w w2) : (w2.cell? ⟨p, 1, none⟩ = some (.int .i64 a) ∧ w2.cell? ⟨p, 2, none⟩ = some v) ∧ w2.frozen? ⟨p, 1, none⟩ = false ∧ w2.frozen? ⟨p, 2, none⟩ = false := by
  have h' := (hb.block p (Array.getElem?_eq_some_iff.1 h).1).trans h
  have c := row_here h'
  have f := row_free h'
  exact ⟨⟨c 1 _ rfl, c 2 _ rfl⟩, f 1, f 2⟩
theorem Rd.cells {s : ByteArray} {p : Nat} {w : World} {a : Int} {v : Value} (h : w.heap[p]? = some (.cells #[.string s, .int .i64 a, v] 52 (0, 0))) : (w.cell? ⟨p, 0, none⟩ = some (.string s) ∧ w.cell? ⟨p, 1, none⟩ = some (.int .i64 a) ∧ w.cell? ⟨p, 2, none⟩ = some v) ∧ w.frozen? ⟨p, 1, none⟩ = false ∧ w.frozen? ⟨p, 2, none⟩ = false := by
  have c := row_here h
  have f := row_free h
  exact ⟨⟨c 0 _ rfl, c 1 _ rfl, c 2 _ rfl⟩, f 1, f 2⟩
theorem readText_any (s : ByteArray) (k : Int) (w : World) (hs : ¬ 20000 < (s.size : Int)) (hk : k ≤ 9223372036854775807) :
    Calls Try.prog 79 #[.string s, .int .i64 k] w fun e w' => e = .returned (readTV (textOf s (numR s k))) ∧ Below w.heap.size w w' :=
  readText_of s k w (numR s k).1 (numR s k).2.1 (numR s k).2.2 (fun w => readNum_any s k w hs hk) (numR_place s k)
theorem rd_refl (w : World) (r : Option Nat) : w.grownBy w r := ⟨rfl, rfl, rfl, Nat.le_refl _, fun _ _ _ => rfl⟩
/-- Worlds that differ in nothing that a program sees. -/
def Like (w W : World) : Prop := W.os = w.os ∧ W.tape = w.tape ∧ W.output = w.output ∧ W.heap = w.heap
theorem Like.below {w W w' : World} (h : Like w W) (hb : Below W.heap.size W w') : Below w.heap.size w w' := by
  obtain ⟨h1, h2, h3, h4⟩ := h
  rw [h4] at hb
  exact ⟨hb.os.trans h1, hb.tape.trans h2, hb.output.trans h3, by rw [← h4]; exact hb.size, fun k hk => (hb.block k hk).trans (by rw [h4])⟩

set_option maxHeartbeats 2000000 in
theorem num_any (s : ByteArray) (hs : ¬ 20000 < (s.size : Int)) (p : Nat) (st : Option Int) (w : World) (h : Rd s p st w) :
    Calls Try.prog 45 #[.pointer (some ⟨p, 0, none⟩)] w fun e w' => e = .returned (.int .i64 (rdNum s st).1) ∧ Rd s p (rdNum s st).2 w' ∧ w.grownBy w' (some p) := by
  obtain ⟨a, v, hp, ⟨rfl, rfl, h0, h1⟩ | ⟨rfl, c, rfl⟩⟩ := id h
  · have E : ∀ W, Like w W → Calls Try.prog 68 #[.string s, .int .i64 a] W fun e w' => e = .returned (readV (numR s a)) ∧ Below w.heap.size w w' := fun W hW => (readNum_any s a W hs (by omega)).mono fun e w' h => ⟨h.1, hW.below (by rw [h.2]; exact Below.refl _ _)⟩
    have HK : Hid (∀ (w2 : World), Below w.heap.size w w2 → (w2.cell? ⟨p, 1, none⟩ = some (.int .i64 a) ∧ w2.cell? ⟨p, 2, none⟩ = some .nilIface) ∧ w2.frozen? ⟨p, 1, none⟩ = false ∧ w2.frozen? ⟨p, 2, none⟩ = false) := fun w2 hb => Rd.held hp hb
    by_cases hc : (numR s a).2.2 = 0
    · have hpl : 0 ≤ (numR s a).2.1 ∧ (numR s a).2.1 ≤ s.size := ⟨(numR_place s a hc).1, (numR_place s a hc).2.1⟩
      have e2 : readV (numR s a) = .tuple #[.int .i64 (numR s a).1, .int .i64 (numR s a).2.1, .nilIface] := by simp [readV, hc]
      rw [rdNum_ok hc]
      rw [e2] at E
      clear e2 hc
      generalize (numR s a).1 = n at *
      generalize (numR s a).2.1 = at1 at *
      have HE : Hid (∀ W, Like w W → Calls Try.prog 68 #[.string s, .int .i64 a] W fun e w' => e = .returned (.tuple #[.int .i64 n, .int .i64 at1, .nilIface]) ∧ Below w.heap.size w w') := E
      have HF : Hid (∀ W, Below w.heap.size w W → Rd s p (some at1) ((W.setCell ⟨p, 1, none⟩ (.int .i64 at1)).setCell ⟨p, 2, none⟩ .nilIface) ∧ w.grownBy ((W.setCell ⟨p, 1, none⟩ (.int .i64 at1)).setCell ⟨p, 2, none⟩ .nilIface) (some p)) := fun W hb => h.moved hb (.inl ⟨rfl, rfl, hpl⟩)
      obtain ⟨⟨c0, c1, c2⟩, f1, f2⟩ := Rd.cells hp
      clear h E hpl hp
      go_enter Try.func45, Try.ntmps45
      go_wp2
      go_region_with (go_at_call 68; refine (HE.out _ (by exact ⟨rfl, rfl, rfl, rfl⟩)).mono ?_; rintro e w1 ⟨rfl, hb⟩; obtain ⟨⟨q1, q2⟩, q3, q4⟩ := HK.out _ hb; have HB : Hid (Below w.heap.size w w1) := hb; clear hb)
      all_goals
        go_wp2
        go_ret
        exact ⟨rfl, HF.out _ HB.out⟩
    · have e2 : readV (numR s a) = .tuple #[.int .i64 0, .int .i64 0, .iface 115 (.agg #[.int .i64 (numR s a).2.2])] := by simp [readV, hc]
      rw [rdNum_bad hc]
      rw [e2] at E
      clear e2
      generalize (numR s a).2.2 = code at *
      have HE : Hid (∀ W, Like w W → Calls Try.prog 68 #[.string s, .int .i64 a] W fun e w' => e = .returned (.tuple #[.int .i64 0, .int .i64 0, .iface 115 (.agg #[.int .i64 code])]) ∧ Below w.heap.size w w') := E
      have HF : Hid (∀ W, Below w.heap.size w W → Rd s p none ((W.setCell ⟨p, 1, none⟩ (.int .i64 0)).setCell ⟨p, 2, none⟩ (.iface 115 (.agg #[.int .i64 code]))) ∧ w.grownBy ((W.setCell ⟨p, 1, none⟩ (.int .i64 0)).setCell ⟨p, 2, none⟩ (.iface 115 (.agg #[.int .i64 code]))) (some p)) := fun W hb => h.moved hb (.inr ⟨rfl, code, rfl⟩)
      obtain ⟨⟨c0, c1, c2⟩, f1, f2⟩ := Rd.cells hp
      clear h E hp hc
      go_enter Try.func45, Try.ntmps45
      go_wp2
      go_region_with (go_at_call 68; refine (HE.out _ (by exact ⟨rfl, rfl, rfl, rfl⟩)).mono ?_; rintro e w1 ⟨rfl, hb⟩; obtain ⟨⟨q1, q2⟩, q3, q4⟩ := HK.out _ hb; have HB : Hid (Below w.heap.size w w1) := hb; clear hb)
      all_goals
        go_wp2
        go_ret
        exact ⟨rfl, HF.out _ HB.out⟩
  · obtain ⟨⟨c0, c1, c2⟩, f1, f2⟩ := Rd.cells hp
    have HH : Hid (Rd s p none w) := h
    clear h hp
    go_enter Try.func45, Try.ntmps45
    go_wp2
    go_ret
    exact ⟨rfl, HH.out, rd_refl _ _⟩

set_option maxHeartbeats 2000000 in
theorem str_any (s : ByteArray) (hs : ¬ 20000 < (s.size : Int)) (p : Nat) (st : Option Int) (w : World) (h : Rd s p st w) :
    Calls Try.prog 67 #[.pointer (some ⟨p, 0, none⟩)] w fun e w' => e = .returned (.string (rdText s st).1) ∧ Rd s p (rdText s st).2 w' ∧ w.grownBy w' (some p) := by
  obtain ⟨a, v, hp, ⟨rfl, rfl, h0, h1⟩ | ⟨rfl, c, rfl⟩⟩ := id h
  · have E : ∀ W, Like w W → Calls Try.prog 79 #[.string s, .int .i64 a] W fun e w' => e = .returned (readTV (textOf s (numR s a))) ∧ Below w.heap.size w w' := fun W hW => (readText_any s a W hs (by omega)).mono fun e w' h => ⟨h.1, hW.below h.2⟩
    have HK : Hid (∀ (w2 : World), Below w.heap.size w w2 → (w2.cell? ⟨p, 1, none⟩ = some (.int .i64 a) ∧ w2.cell? ⟨p, 2, none⟩ = some .nilIface) ∧ w2.frozen? ⟨p, 1, none⟩ = false ∧ w2.frozen? ⟨p, 2, none⟩ = false) := fun w2 hb => Rd.held hp hb
    by_cases hc : (textOf s (numR s a)).2.2 = 0
    · have hpl : 0 ≤ (textOf s (numR s a)).2.1 ∧ (textOf s (numR s a)).2.1 ≤ s.size := (textOf_on s a hc).2
      have e2 : readTV (textOf s (numR s a)) = .tuple #[.string (textOf s (numR s a)).1, .int .i64 (textOf s (numR s a)).2.1, .nilIface] := by simp [readTV, hc]
      rw [rdText_ok hc]
      rw [e2] at E
      clear e2 hc
      generalize (textOf s (numR s a)).1 = n at *
      generalize (textOf s (numR s a)).2.1 = at1 at *
      have HE : Hid (∀ W, Like w W → Calls Try.prog 79 #[.string s, .int .i64 a] W fun e w' => e = .returned (.tuple #[.string n, .int .i64 at1, .nilIface]) ∧ Below w.heap.size w w') := E
      have HF : Hid (∀ W, Below w.heap.size w W → Rd s p (some at1) ((W.setCell ⟨p, 1, none⟩ (.int .i64 at1)).setCell ⟨p, 2, none⟩ .nilIface) ∧ w.grownBy ((W.setCell ⟨p, 1, none⟩ (.int .i64 at1)).setCell ⟨p, 2, none⟩ .nilIface) (some p)) := fun W hb => h.moved hb (.inl ⟨rfl, rfl, hpl⟩)
      obtain ⟨⟨c0, c1, c2⟩, f1, f2⟩ := Rd.cells hp
      clear h E hpl hp
      go_enter Try.func67, Try.ntmps67
      go_wp2
      go_region_with (go_at_call 79; refine (HE.out _ (by exact ⟨rfl, rfl, rfl, rfl⟩)).mono ?_; rintro e w1 ⟨rfl, hb⟩; obtain ⟨⟨q1, q2⟩, q3, q4⟩ := HK.out _ hb; have HB : Hid (Below w.heap.size w w1) := hb; clear hb)
      all_goals
        go_wp2
        go_ret
        exact ⟨rfl, HF.out _ HB.out⟩
    · have e2 : readTV (textOf s (numR s a)) = .tuple #[.string ⟨#[]⟩, .int .i64 0, .iface 115 (.agg #[.int .i64 (textOf s (numR s a)).2.2])] := by simp [readTV, hc]
      rw [rdText_bad hc]
      rw [e2] at E
      clear e2
      generalize (textOf s (numR s a)).2.2 = code at *
      have HE : Hid (∀ W, Like w W → Calls Try.prog 79 #[.string s, .int .i64 a] W fun e w' => e = .returned (.tuple #[.string ⟨#[]⟩, .int .i64 0, .iface 115 (.agg #[.int .i64 code])]) ∧ Below w.heap.size w w') := E
      have HF : Hid (∀ W, Below w.heap.size w W → Rd s p none ((W.setCell ⟨p, 1, none⟩ (.int .i64 0)).setCell ⟨p, 2, none⟩ (.iface 115 (.agg #[.int .i64 code]))) ∧ w.grownBy ((W.setCell ⟨p, 1, none⟩ (.int .i64 0)).setCell ⟨p, 2, none⟩ (.iface 115 (.agg #[.int .i64 code]))) (some p)) := fun W hb => h.moved hb (.inr ⟨rfl, code, rfl⟩)
      obtain ⟨⟨c0, c1, c2⟩, f1, f2⟩ := Rd.cells hp
      clear h E hp hc
      go_enter Try.func67, Try.ntmps67
      go_wp2
      go_region_with (go_at_call 79; refine (HE.out _ (by exact ⟨rfl, rfl, rfl, rfl⟩)).mono ?_; rintro e w1 ⟨rfl, hb⟩; obtain ⟨⟨q1, q2⟩, q3, q4⟩ := HK.out _ hb; have HB : Hid (Below w.heap.size w w1) := hb; clear hb)
      all_goals
        go_wp2
        go_ret
        exact ⟨rfl, HF.out _ HB.out⟩
  · obtain ⟨⟨c0, c1, c2⟩, f1, f2⟩ := Rd.cells hp
    have HH : Hid (Rd s p none w) := h
    clear h hp
    go_enter Try.func67, Try.ntmps67
    go_wp2
    go_ret
    exact ⟨rfl, HH.out, rd_refl _ _⟩

end Go.Proofs.Ytpglcbidfghfkaa
