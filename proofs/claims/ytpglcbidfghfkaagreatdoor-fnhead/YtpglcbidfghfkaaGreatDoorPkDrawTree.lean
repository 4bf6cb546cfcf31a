/-
  The draws of chapter 4: one of some texts.
-/
import Derived.Test.YtpglcbidfghfkaaGreatDoorPkDraw
import Derived.Test.YtpglcbidfghfkaaGreatDoorPkTextRows
namespace Go.Proofs.YtpglcbidfghfkaaGreatDoor
open Go.RowKit Go.Lib
set_option linter.unusedVariables false

/-- A text out of a row. -/
def PickAns (l : List ByteArray) (q : Nat) (w : World) (e : Ending) (w' : World) : Prop := ∃ t, e = .returned (.string t) ∧ t ∈ l ∧ Src w' q ∧ w.grownBy w' (some q)
set_option maxHeartbeats 400000 in
theorem pick_any (q b : Nat) (l : List ByteArray) (w : World) (h : Src w q) (h1 : 1 ≤ l.length) (hl : l.length ≤ 1000) (hb : q < b) (hc : ∀ j (hj : j < l.length), w.cell? ⟨b, j, none⟩ = some (.string l[j])) :
    Calls Tryz.prog 57 #[.pointer (some ⟨q, 0, none⟩), .slice (some ⟨b, 0, none⟩) l.length l.length] w fun e w' => PickAns l q w e w' := by
  have E : Hid (Calls Tryz.prog 56 #[.pointer (some ⟨q, 0, none⟩), .int .i64 l.length] w fun e w' => NumAns l.length q w e w') := n_any q l.length w h (by omega)
  have HC : Hid (∀ j (hj : j < l.length), w.cell? ⟨b, j, none⟩ = some (.string l[j])) := hc
  have hbl : b < w.heap.size := World.block_lt_of_cell? w _ (hc 0 (by omega))
  obtain ⟨n, hn⟩ : ∃ n, n = l.length := ⟨_, rfl⟩
  have HN : Hid (n = l.length) := hn
  rw [← hn] at E h1 hl ⊢
  clear hn hc h
  go_enter Tryz.func57, Tryz.ntmps57
  go_wp2_with fail
  refine E.out.mono ?_
  rintro e w1 ⟨x, rfl, hx0, hx1, hs1, hg1⟩
  have hxn : x < (n : Int) := by omega
  obtain ⟨j, rfl⟩ := Int.eq_ofNat_of_zero_le hx0
  have hjl : j < l.length := by rw [← HN.out]; omega
  have hc : w1.cell? ⟨b, j, none⟩ = some (.string l[j]) := by
    have e1 : w1.heap[b]? = w.heap[b]? := hg1.block b hbl (by simp; omega)
    have e2 := HC.out j hjl
    simp only [World.cell?, e1] at e2 ⊢
    exact e2
  have HA : Hid (l[j] ∈ l ∧ Src w1 q ∧ w.grownBy w1 (some q)) := ⟨List.getElem_mem hjl, hs1, hg1⟩
  generalize l[j] = t at *
  clear hs1 hg1 E HC HN hx1
  go_wp2
  go_ret
  exact ⟨t, rfl, HA.out.1, HA.out.2.1, HA.out.2.2⟩

/-- Rows of texts that a draw has made: each of at most m bytes. -/
def SomeAns (m : Nat) (q : Nat) (w : World) (e : Ending) (w' : World) : Prop := ∃ v l, e = .returned v ∧ OwnT w' w.heap.size v l ∧ l.length ≤ 31 ∧ (∀ t ∈ l, t.size ≤ m) ∧ Src w' q ∧ w.grownBy w' (some q)
theorem own_grown {w w1 w2 : World} {q B : Nat} {v : Value} {l : List ByteArray} (h : OwnT w1 B v l) (hg : w1.grownBy w2 (some q)) (hq : q < B) : OwnT w2 B v l := h.grown hg hq
theorem four_texts (w : World) (a b c d : ByteArray) : ∀ j (hj : j < [a, b, c, d].length), (w.alloc (.cells #[.string a, .string b, .string c, .string d] 9)).cell? ⟨w.heap.size, j, none⟩ = some (.string [a, b, c, d][j]) := fun j hj => by
  rw [cell_of_row _ _ j _ _ _ (heap_alloc_new w _)]
  have : j = 0 ∨ j = 1 ∨ j = 2 ∨ j = 3 := by simp at hj; omega
  rcases this with rfl | rfl | rfl | rfl <;> rfl
end Go.Proofs.YtpglcbidfghfkaaGreatDoor
