/-
  Rows of texts: what the laws do with them ahead of a call and behind it.
-/
import Derived.Test.YtbngflmebdchlaaCellsT
namespace Go.Proofs.Ytbngflmebdchlaa
open Go.RowKit Go.Lib
set_option linter.unusedVariables false

/-- The law's bound on a row of texts: where it is no less than 0, the row and each of its texts are within it. -/
def SzAns (l : List ByteArray) (e : Ending) : Prop := ∃ r : Int, e = .returned (.int .i64 r) ∧ -1048577 ≤ r ∧ r ≤ 1048576 ∧ (r < 0 ∨ (l.length ≤ 1048576 ∧ ∀ j (h : j < l.length), l[j].size ≤ 1048576))

set_option maxHeartbeats 400000 in
theorem sz_any (v : Value) (l : List ByteArray) (left : Int) (w : World) (B : Nat) (h : Texts w B v l) (hl : l.length ≤ 9223372036854775807) (hz : ∀ j (h : j < l.length), l[j].size ≤ 9223372036854775807) (h0 : 0 ≤ left) (h1 : left ≤ 1048576) :
    Calls Try.prog 16 #[v, .int .i64 left] w fun e w' => SzAns l e ∧ w' = w := by
  obtain ⟨a, cap, rfl, hc, hcap⟩ := h
  have HZ : Hid (∀ j (h : j < l.length), l[j].size ≤ 9223372036854775807) := hz
  have HC : Hid (l.length = 0 ∨ ∃ b off, a = some ⟨b, off, none⟩ ∧ b < B ∧ ∀ j (h : j < l.length), w.cell? ⟨b, off + j, none⟩ = some (.string l[j])) := hc
  clear hz hc hcap
  by_cases hlt : left - (l.length : Int) < 0
  · go_enter Try.func16, Try.ntmps16
    go_wp2
    go_ret
    exact ⟨⟨-1, rfl, by omega, by omega, .inl (by omega)⟩, rfl⟩
  · obtain ⟨n, hn⟩ : ∃ n, n = l.length := ⟨_, rfl⟩
    have HN : Hid (n = l.length) := hn
    rw [← hn] at hl hlt ⊢
    clear hn
    go_enter Try.func16, Try.ntmps16
    go_wp2
    go_loop [1, 5] (fun x i => ∃ (k : Nat) (r : Int), k ≤ n ∧ i = .int .i64 k ∧ x = .int .i64 r ∧ 0 ≤ r ∧ r ≤ 1048576 ∧ ∀ j (h : j < l.length), j < k → l[j].size ≤ 1048576) (fun _ i => n - (intOf i).toNat)
    case atStart => exact ⟨0, _, Nat.zero_le _, rfl, rfl, by omega, by omega, fun j _ h => by omega⟩
    case round =>
      obtain ⟨k, r, hk, rfl, rfl, hr0, hr1, hall⟩ := hrel
      have HA : Hid (∀ j (h : j < l.length), j < k → l[j].size ≤ 1048576) := hall
      clear hall
      by_cases hkn : k < n
      · have hkl : k < l.length := by rw [← HN.out]; exact hkn
        rcases HC.out with h0 | ⟨b, off, rfl, hB, hcell⟩
        · omega
        have hc := hcell k hkl
        have hz := HZ.out k hkl
        have HS : Hid (l[k].size ≤ 9223372036854775807) := hz
        have HA2 : Hid (l[k].size ≤ r → ∀ j (h : j < l.length), j < k + 1 → l[j].size ≤ 1048576) := fun hr j h hj => by
          by_cases e : j = k
          · subst e; omega
          · exact HA.out j h (by omega)
        have hknI : (k : Int) < (n : Int) := by omega
        clear hcell HC HA HZ HN
        generalize l[k] = t at *
        by_cases hneg : r - (t.size : Int) < 0
        · go_wp2
          go_ret
          exact ⟨⟨-1, rfl, by omega, by omega, .inl (by omega)⟩, rfl⟩
        · go_wp2
          go_round
          case rel => exact ⟨k + 1, _, by omega, by go_num, rfl, by omega, by omega, HA2.out (by omega)⟩
          case measure => simp [intOf]; omega
      · have HF : Hid (l.length ≤ 1048576 ∧ ∀ j (h : j < l.length), l[j].size ≤ 1048576) := ⟨by rw [← HN.out]; omega, fun j h => HA.out j h (by have := HN.out; omega)⟩
        clear HA HN HC HZ
        go_wp2
        go_ret
        exact ⟨⟨r, rfl, by omega, by omega, .inr HF.out⟩, rfl⟩

/-- The slice v holds the texts l in a row of its own, that is no longer. -/
def OwnS (w : World) (g : Nat) (v : Value) (l : List ByteArray) : Prop := v = .slice (some ⟨g, 0, none⟩) l.length l.length ∧ w.heap[g]? = some (.cells (cellsT l.length (firstT l l.length)) 9 (0, 0))
theorem OwnS.texts {w : World} {g B : Nat} {v : Value} {l : List ByteArray} (h : OwnS w g v l) (hB : g < B) : Texts w B v l := by
  refine ⟨_, _, h.1, .inr ⟨g, 0, rfl, hB, fun j hj => ?_⟩, Nat.le_refl _⟩
  rw [Nat.zero_add, cell_of_row w g j _ _ _ h.2, cellsT_get _ hj, firstT, if_pos hj]
  simp [List.getD, hj]

theorem OwnS.lt {w : World} {g : Nat} {v : Value} {l : List ByteArray} (h : OwnS w g v l) : g < w.heap.size := (Array.getElem?_eq_some_iff.1 h.2).1
theorem OwnS.below {w w' : World} {g B : Nat} {v : Value} {l : List ByteArray} (h : OwnS w g v l) (hb : Below B w w') (hB : g < B) : OwnS w' g v l := ⟨h.1, (hb.block g hB).trans h.2⟩

set_option maxHeartbeats 400000 in
theorem toTexts_any (v : Value) (l : List ByteArray) (w : World) (h : Texts w w.heap.size v l) (hl : l.length ≤ 1048576) :
    Calls Try.prog 23 #[v] w fun e w' => ∃ v', e = .returned v' ∧ OwnS w' w.heap.size v' l ∧ Below w.heap.size w w' := by
  obtain ⟨w1, hmk, hg1, hb1⟩ := make_texts w l.length l hl
  have HT : Hid (Texts w w.heap.size v l) := h
  obtain ⟨a, cap, rfl, hc, hcap⟩ := h
  have H1 : Hid (w1.heap[w.heap.size]? = _ ∧ Below w.heap.size w w1) := ⟨hg1, hb1⟩
  obtain ⟨n, hn⟩ : ∃ n, n = l.length := ⟨_, rfl⟩
  have HN : Hid (n = l.length) := hn
  rw [← hn] at hl hmk H1 ⊢
  clear hn hg1 hb1
  have HC : Hid (l.length = 0 ∨ ∃ b off, a = some ⟨b, off, none⟩ ∧ b < w.heap.size ∧ ∀ j (h : j < l.length), w.cell? ⟨b, off + j, none⟩ = some (.string l[j])) := hc
  clear hc HT hcap
  go_enter Try.func23, Try.ntmps23
  go_wp2
  go_loopw [4] (fun i wr => ∃ k : Nat, k ≤ n ∧ i = .int .i64 k ∧ wr.heap[w.heap.size]? = some (.cells (cellsT n (firstT l k)) 9 (0, 0)) ∧ Below w.heap.size w wr) (fun i _ => n - (intOf i).toNat)
  case atStart => exact ⟨0, Nat.zero_le _, rfl, H1.out.1, H1.out.2⟩
  case round =>
    clear hmk H1
    obtain ⟨k, hk, rfl, hg, hb⟩ := hrel
    by_cases hkn : k < n
    · have hkl : k < l.length := by rw [← HN.out]; exact hkn
      rcases HC.out with h0 | ⟨b, off, rfl, hB, hcell⟩
      · omega
      have hc : wr.cell? ⟨b, off + k, none⟩ = some (.string l[k]) := (hb.cell (p := ⟨b, off + k, none⟩) hB).trans (hcell k hkl)
      have hc2 : wr.cell? ⟨w.heap.size, k, none⟩ = some (.string (firstT l k k)) := by rw [cell_of_row wr _ k _ _ _ hg, cellsT_get _ hkn]
      have hf2 : wr.frozen? ⟨w.heap.size, k, none⟩ = false := frozen_of_row wr _ k _ _ hg
      have hs := heap_setCell_same wr w.heap.size k _ _ (.string l[k]) hg
      rw [firstT_set l n k hkl] at hs
      have H2 : Hid (_ ∧ Below w.heap.size w wr) := ⟨hs, hb⟩
      have hknI : (k : Int) < (n : Int) := by omega
      generalize l[k] = t at *
      clear hs hg hb hcell HC
      go_wp2
      go_roundw
      case rel => exact ⟨k + 1, by omega, by go_num, H2.out.1, H2.out.2.setCell (Nat.le_refl _) _⟩
      case measure => simp [intOf]; omega
    · have ek : k = n := by omega
      rw [ek] at hg
      have H3 : Hid (OwnS wr w.heap.size (.slice (some ⟨w.heap.size, 0, none⟩) n n) l ∧ Below w.heap.size w wr) := ⟨by rw [HN.out] at hg ⊢; exact ⟨rfl, hg⟩, hb⟩
      clear hg hb ek HC HN
      go_wp2
      go_ret
      exact ⟨_, rfl, H3.out.1, H3.out.2⟩

set_option maxHeartbeats 400000 in
theorem eqTexts_any (v1 v2 : Value) (l : List ByteArray) (w : World) (B : Nat) (h1 : Texts w B v1 l) (h2 : Texts w B v2 l) (hl : l.length ≤ 1048577) :
    Calls Try.prog 32 #[v1, v2] w fun e w' => e = .returned (.bool true) ∧ Below w.heap.size w w' := by
  obtain ⟨a1, cap1, rfl, hc1, _⟩ := h1
  obtain ⟨a2, cap2, rfl, hc2, _⟩ := h2
  have H1 : Hid (l.length = 0 ∨ ∃ b off, a1 = some ⟨b, off, none⟩ ∧ b < B ∧ ∀ j (h : j < l.length), w.cell? ⟨b, off + j, none⟩ = some (.string l[j])) := hc1
  have H2 : Hid (l.length = 0 ∨ ∃ b off, a2 = some ⟨b, off, none⟩ ∧ b < B ∧ ∀ j (h : j < l.length), w.cell? ⟨b, off + j, none⟩ = some (.string l[j])) := hc2
  clear hc1 hc2
  obtain ⟨n, hn⟩ : ∃ n, n = l.length := ⟨_, rfl⟩
  have HN : Hid (n = l.length) := hn
  rw [← hn] at hl ⊢
  clear hn
  go_enter Try.func32, Try.ntmps32
  go_wp2
  go_loopw [5] (fun i wr => ∃ k m : Nat, k ≤ n ∧ i = .int .i64 k ∧ wr = w.drewN m) (fun i _ => n - (intOf i).toNat)
  case atStart => exact ⟨0, 0, Nat.zero_le _, rfl, rfl⟩
  case round =>
    obtain ⟨k, m, hk, rfl, rfl⟩ := hrel
    by_cases hkn : k < n
    · have hkl : k < l.length := by rw [← HN.out]; exact hkn
      rcases H1.out with h0 | ⟨b1, off1, rfl, hB1, hcell1⟩
      · omega
      rcases H2.out with h0 | ⟨b2, off2, rfl, hB2, hcell2⟩
      · omega
      have hc1 := hcell1 k hkl
      have hc2 := hcell2 k hkl
      have hknI : (k : Int) < (n : Int) := by omega
      generalize l[k] = t at *
      clear hcell1 hcell2 H1 H2 HN
      go_wp2
      go_quiet (fail)
      go_wp2
      go_roundw
      case rel => exact ⟨k + 1, _, by omega, by go_num, rfl⟩
      case measure => simp [intOf]; omega
    · clear H1 H2 HN
      go_wp2
      go_ret
      exact ⟨rfl, ⟨rfl, rfl, rfl, Nat.le_refl _, fun _ _ => rfl⟩⟩
end Go.Proofs.Ytbngflmebdchlaa
