/-
  What a new watch is.
-/
import Derived.Test.YtpglcbidfghfkaaPkHeadArg
import Derived.Test.YtpglcbidfghfkaaPkCopyHead
import Derived.Test.YtpglcbidfghfkaaPkWaitNil
namespace Go.Proofs.Ytpglcbidfghfkaa
open Go.RowKit Go.Lib
set_option linter.unusedVariables false
set_option linter.unusedSimpArgs false

/-- The new watch. -/
def newW (log key : ByteArray) : Wt := ⟨log, key, [], hd0, false, hd0, hd0, []⟩
/-- What WatchNew answers. -/
def wnewW (log key : ByteArray) : Wt := if namedB log key = true then newW log key else newW ⟨#[]⟩ ⟨#[]⟩
theorem hd0_in (w : World) (B : Nat) : hd0.In (.slice none 0 0) (.slice none 0 0) w B := ⟨⟨none, 0, rfl, .inl rfl, Nat.le_refl _⟩, ⟨none, 0, rfl, .inl rfl, Nat.le_refl _⟩⟩
theorem hd0_fits : hd0.Fits := ⟨⟨by decide, by decide, by decide, by decide⟩, fun j hj => absurd hj (by simp [hd0]), fun j hj => absurd hj (by simp [hd0])⟩
theorem newW_in (log key : ByteArray) (w : World) (B : Nat) : (newW log key).In (.slice none 0 0) (.slice none 0 0) (.slice none 0 0) (.slice none 0 0) (.slice none 0 0) (.slice none 0 0) (.slice none 0 0) (.slice none 0 0) w B :=
  ⟨⟨none, 0, rfl, .inl rfl, Nat.le_refl _⟩, hd0_in w B, hd0_in w B, hd0_in w B, ⟨none, 0, rfl, .inl rfl, Nat.le_refl _⟩⟩
theorem newW_fits {log key : ByteArray} (h1 : log.size ≤ 1048576) (h2 : key.size ≤ 1048576) : (newW log key).Fits := ⟨h1, h2, FitL.nil, hd0_fits, hd0_fits, hd0_fits, FitL.nil⟩
theorem newW_own (log key : ByteArray) (w w' : World) (hb : Below w.heap.size w w') : Wt.Own w (newW log key) NilQ (.returned (.agg #[.string log, .string key, .slice none 0 0, .string ⟨#[]⟩, .int .i64 0, .string ⟨#[]⟩, .int .i64 0, .int .i64 0, .slice none 0 0, .slice none 0 0, .slice none 0 0, .bool false, .string ⟨#[]⟩, .int .i64 0, .string ⟨#[]⟩, .int .i64 0, .int .i64 0, .slice none 0 0, .slice none 0 0, .string ⟨#[]⟩, .int .i64 0, .string ⟨#[]⟩, .int .i64 0, .int .i64 0, .slice none 0 0, .slice none 0 0, .slice none 0 0])) w' := by
  have hz : ∀ g, (Value.slice none 0 0).ownBlock = some g → g < w.heap.size := fun g hg => absurd hg (by simp [Value.ownBlock])
  exact ⟨_, _, _, _, _, _, _, _, _, w.heap.size, w.heap.size, w.heap.size, w.heap.size, w.heap.size, w.heap.size, w.heap.size, w.heap.size, rfl, ⟨OwnT.nil _ _, OwnT.nil _ _, OwnT.nil _ _, rfl, Owns5.nil _ _ hb.size⟩, ⟨hz, hz, hz⟩, ⟨Nat.le_refl _, Nat.le_refl _, Nat.le_refl _, Nat.le_refl _⟩, ⟨_, _, _, rfl⟩, hb⟩

set_option maxHeartbeats 4000000 in
set_option maxRecDepth 10000 in
theorem implWatchNew_any (log key : ByteArray) (w : World) (hl : log.size ≤ 1048576) (hk : key.size ≤ 1048576) :
    Calls Try.prog 11 #[.string log, .string key] w fun e w' => Wt.Own w (wnewW log key) NilQ e w' := by
  obtain ⟨W, hW⟩ : ∃ W, W = (w.alloc (.cells #[.string ⟨#[]⟩, .string ⟨#[]⟩, .slice none 0 0, .string ⟨#[]⟩, .int .i64 0, .string ⟨#[]⟩, .int .i64 0, .int .i64 0, .slice none 0 0, .slice none 0 0, .slice none 0 0, .bool false, .string ⟨#[]⟩, .int .i64 0, .string ⟨#[]⟩, .int .i64 0, .int .i64 0, .slice none 0 0, .slice none 0 0, .string ⟨#[]⟩, .int .i64 0, .string ⟨#[]⟩, .int .i64 0, .int .i64 0, .slice none 0 0, .slice none 0 0, .slice none 0 0] 37)).alloc (.cells #[.string log, .string key] 57) := ⟨_, rfl⟩
  have hbW : Below w.heap.size w W := by rw [hW]; exact ((Below.refl _ _).alloc (Nat.le_refl _) _).alloc (by simp) _
  have hzW : W.heap.size = w.heap.size + 2 := by rw [hW]; simp
  have g0 : W.heap[w.heap.size]? = some (.cells #[.string ⟨#[]⟩, .string ⟨#[]⟩, .slice none 0 0, .string ⟨#[]⟩, .int .i64 0, .string ⟨#[]⟩, .int .i64 0, .int .i64 0, .slice none 0 0, .slice none 0 0, .slice none 0 0, .bool false, .string ⟨#[]⟩, .int .i64 0, .string ⟨#[]⟩, .int .i64 0, .int .i64 0, .slice none 0 0, .slice none 0 0, .string ⟨#[]⟩, .int .i64 0, .string ⟨#[]⟩, .int .i64 0, .int .i64 0, .slice none 0 0, .slice none 0 0, .slice none 0 0] 37 (0, 0)) := by rw [hW]; exact heap_alloc2_old w _ _
  have g1 : W.heap[w.heap.size + 1]? = some (.cells #[.string log, .string key] 57 (0, 0)) := by rw [hW]; exact heap_alloc2_new w _ _
  have E0 : Hid (Calls Try.prog 25 #[.agg #[.string log, .string key]] W fun e w' => e = .returned (.bool (namedB log key)) ∧ Below W.heap.size W w') := named_any log key W hl
  have ET : Hid (∀ X, Below w.heap.size w X → Calls Try.prog 26 #[.pointer (some ⟨X.heap.size, 0, none⟩)] (X.alloc (.cells #[.string log, .string key, .slice none 0 0, .string ⟨#[]⟩, .int .i64 0, .string ⟨#[]⟩, .int .i64 0, .int .i64 0, .slice none 0 0, .slice none 0 0, .map none, .bool false, .string ⟨#[]⟩, .int .i64 0, .string ⟨#[]⟩, .int .i64 0, .int .i64 0, .slice none 0 0, .slice none 0 0, .string ⟨#[]⟩, .int .i64 0, .string ⟨#[]⟩, .int .i64 0, .int .i64 0, .slice none 0 0, .slice none 0 0, .slice none 0 0] 64)) fun e w' => Wt.Own (X.alloc (.cells #[.string log, .string key, .slice none 0 0, .string ⟨#[]⟩, .int .i64 0, .string ⟨#[]⟩, .int .i64 0, .int .i64 0, .slice none 0 0, .slice none 0 0, .map none, .bool false, .string ⟨#[]⟩, .int .i64 0, .string ⟨#[]⟩, .int .i64 0, .int .i64 0, .slice none 0 0, .slice none 0 0, .string ⟨#[]⟩, .int .i64 0, .string ⟨#[]⟩, .int .i64 0, .int .i64 0, .slice none 0 0, .slice none 0 0, .slice none 0 0] 64)) (newW log key) NilQ e w') := fun X hb => by
    refine told_any (newW log key) X.heap.size _ _ _ _ _ _ _ _ none NilQ NilQ.loc _ (heap_alloc_new X _) (newW_in log key _ _) (newW_fits hl hk) ?_
    intro Y hy
    refine (waiting_nil X.heap.size Y (row_cells hy (by simp) (heap_alloc_new X _) 10 _ rfl)).mono fun e w' h => ?_
    exact ⟨none, 0, 0, h.1, rfl, h.2⟩
  have H0 : Hid (Below w.heap.size w W ∧ W.heap.size = w.heap.size + 2 ∧ W.heap[w.heap.size]? = some (.cells #[.string ⟨#[]⟩, .string ⟨#[]⟩, .slice none 0 0, .string ⟨#[]⟩, .int .i64 0, .string ⟨#[]⟩, .int .i64 0, .int .i64 0, .slice none 0 0, .slice none 0 0, .slice none 0 0, .bool false, .string ⟨#[]⟩, .int .i64 0, .string ⟨#[]⟩, .int .i64 0, .int .i64 0, .slice none 0 0, .slice none 0 0, .string ⟨#[]⟩, .int .i64 0, .string ⟨#[]⟩, .int .i64 0, .int .i64 0, .slice none 0 0, .slice none 0 0, .slice none 0 0] 37 (0, 0)) ∧ W.heap[w.heap.size + 1]? = some (.cells #[.string log, .string key] 57 (0, 0))) := ⟨hbW, hzW, g0, g1⟩
  have HW : Hid (W = (w.alloc (.cells #[.string ⟨#[]⟩, .string ⟨#[]⟩, .slice none 0 0, .string ⟨#[]⟩, .int .i64 0, .string ⟨#[]⟩, .int .i64 0, .int .i64 0, .slice none 0 0, .slice none 0 0, .slice none 0 0, .bool false, .string ⟨#[]⟩, .int .i64 0, .string ⟨#[]⟩, .int .i64 0, .int .i64 0, .slice none 0 0, .slice none 0 0, .string ⟨#[]⟩, .int .i64 0, .string ⟨#[]⟩, .int .i64 0, .int .i64 0, .slice none 0 0, .slice none 0 0, .slice none 0 0] 37)).alloc (.cells #[.string log, .string key] 57)) := hW
  have HT : Hid (wnewW log key = if namedB log key = true then newW log key else newW ⟨#[]⟩ ⟨#[]⟩) := rfl
  generalize wnewW log key = T at *
  generalize namedB log key = nb at *
  clear hl hk hW hbW hzW g0 g1
  go_enter Try.func11, Try.ntmps11
  go_wp2_with fail
  rw [← HW.out]
  clear HW
  refine E0.out.mono ?_
  rintro e w1 ⟨rfl, hb⟩
  have hr0 := (hb.block _ (show w.heap.size < W.heap.size by have := H0.out.2.1; omega)).trans H0.out.2.2.1
  have hr1 := (hb.block _ (show w.heap.size + 1 < W.heap.size by have := H0.out.2.1; omega)).trans H0.out.2.2.2
  have c0 : w1.cell? ⟨w.heap.size + 1, 0, none⟩ = some (.string log) := row_here hr1 0 _ rfl
  have c1 : w1.cell? ⟨w.heap.size + 1, 1, none⟩ = some (.string key) := row_here hr1 1 _ rfl
  have H1 : Hid (w1.heap[w.heap.size]? = some (.cells #[.string ⟨#[]⟩, .string ⟨#[]⟩, .slice none 0 0, .string ⟨#[]⟩, .int .i64 0, .string ⟨#[]⟩, .int .i64 0, .int .i64 0, .slice none 0 0, .slice none 0 0, .slice none 0 0, .bool false, .string ⟨#[]⟩, .int .i64 0, .string ⟨#[]⟩, .int .i64 0, .int .i64 0, .slice none 0 0, .slice none 0 0, .string ⟨#[]⟩, .int .i64 0, .string ⟨#[]⟩, .int .i64 0, .int .i64 0, .slice none 0 0, .slice none 0 0, .slice none 0 0] 37 (0, 0)) ∧ Below w.heap.size w w1 ∧ w.heap.size < w1.heap.size) := ⟨hr0, H0.out.1.trans (hb.mono H0.out.1.size), (Array.getElem?_eq_some_iff.1 hr0).1⟩
  clear hb E0 hr1
  cases nb with
  | false =>
    obtain rfl : T = newW ⟨#[]⟩ ⟨#[]⟩ := HT.out
    go_wp2_with (first | (refine wpList_store_row rfl 37 (.tmp 4) (.tmp 12) rfl w.heap.size _ rfl rfl _ _ hr0 (by kernel_rfl) rfl (by simp [Value.oneCell']) ?_))
    refine bodyPost_ret (v := .agg #[.string ⟨#[]⟩, .string ⟨#[]⟩, .slice none 0 0, .string ⟨#[]⟩, .int .i64 0, .string ⟨#[]⟩, .int .i64 0, .int .i64 0, .slice none 0 0, .slice none 0 0, .slice none 0 0, .bool false, .string ⟨#[]⟩, .int .i64 0, .string ⟨#[]⟩, .int .i64 0, .int .i64 0, .slice none 0 0, .slice none 0 0, .string ⟨#[]⟩, .int .i64 0, .string ⟨#[]⟩, .int .i64 0, .int .i64 0, .slice none 0 0, .slice none 0 0, .slice none 0 0]) (results_cell_row rfl _ _ w.heap.size _ _ _ _ rfl (setRow_heap _ _ _ _ _ _ hr0) Try.underlying37 rfl (by kernel_rfl)) rfl ?_
    exact newW_own _ _ w _ (below_own H1.out.2.1 (setRow_grown _ _ _) (Nat.le_refl _))
  | true =>
    obtain rfl : T = newW log key := HT.out
    clear hr0
    obtain ⟨W2, hW2⟩ : ∃ W2, W2 = w1.alloc (.cells #[.string log, .string key, .slice none 0 0, .string ⟨#[]⟩, .int .i64 0, .string ⟨#[]⟩, .int .i64 0, .int .i64 0, .slice none 0 0, .slice none 0 0, .map none, .bool false, .string ⟨#[]⟩, .int .i64 0, .string ⟨#[]⟩, .int .i64 0, .int .i64 0, .slice none 0 0, .slice none 0 0, .string ⟨#[]⟩, .int .i64 0, .string ⟨#[]⟩, .int .i64 0, .int .i64 0, .slice none 0 0, .slice none 0 0, .slice none 0 0] 64) := ⟨_, rfl⟩
    have E2 := ET.out w1 H1.out.2.1
    rw [← hW2] at E2
    have hb2 : Below w1.heap.size w1 W2 := by rw [hW2]; exact (Below.refl _ _).alloc (Nat.le_refl _) _
    have EH : Hid (Calls Try.prog 26 #[.pointer (some ⟨w1.heap.size, 0, none⟩)] W2 fun e w' => Wt.Own W2 (newW log key) NilQ e w') := E2
    have H2 : Hid (W2.heap[w.heap.size]? = some (.cells #[.string ⟨#[]⟩, .string ⟨#[]⟩, .slice none 0 0, .string ⟨#[]⟩, .int .i64 0, .string ⟨#[]⟩, .int .i64 0, .int .i64 0, .slice none 0 0, .slice none 0 0, .slice none 0 0, .bool false, .string ⟨#[]⟩, .int .i64 0, .string ⟨#[]⟩, .int .i64 0, .int .i64 0, .slice none 0 0, .slice none 0 0, .string ⟨#[]⟩, .int .i64 0, .string ⟨#[]⟩, .int .i64 0, .int .i64 0, .slice none 0 0, .slice none 0 0, .slice none 0 0] 37 (0, 0)) ∧ Below w.heap.size w W2 ∧ w.heap.size < W2.heap.size) := ⟨(hb2.block _ H1.out.2.2).trans H1.out.1, H1.out.2.1.trans (hb2.mono H1.out.2.1.size), Nat.lt_of_lt_of_le H1.out.2.2 hb2.size⟩
    have HW2 : Hid (W2 = w1.alloc (.cells #[.string log, .string key, .slice none 0 0, .string ⟨#[]⟩, .int .i64 0, .string ⟨#[]⟩, .int .i64 0, .int .i64 0, .slice none 0 0, .slice none 0 0, .map none, .bool false, .string ⟨#[]⟩, .int .i64 0, .string ⟨#[]⟩, .int .i64 0, .int .i64 0, .slice none 0 0, .slice none 0 0, .string ⟨#[]⟩, .int .i64 0, .string ⟨#[]⟩, .int .i64 0, .int .i64 0, .slice none 0 0, .slice none 0 0, .slice none 0 0] 64)) := hW2
    clear E2 hW2 hb2 ET H1
    go_wp2_with fail
    rw [← HW2.out]
    clear HW2
    refine EH.out.mono ?_
    rintro e w3 hown
    have hbo := hown
    obtain ⟨u0, u1, u2, up, u3, u4, u5, u6, u7, n1, n2, n3, n4, n5, n6, n7, n8, rfl, ⟨o0, o1, o2, q, ⟨y1, y2, y3, y4, y5⟩, _⟩, _, _, _, hb3⟩ := hbo
    obtain ⟨a0, c0', rfl⟩ := o0.len
    obtain ⟨a1, c1', rfl⟩ := o1.len
    obtain ⟨a2, c2, rfl⟩ := o2.len
    obtain ⟨a3, c3, rfl⟩ := y1.len
    obtain ⟨a4, c4, rfl⟩ := y2.len
    obtain ⟨a5, c5, rfl⟩ := y3.len
    obtain ⟨a6, c6, rfl⟩ := y4.len
    obtain ⟨a7, c7, rfl⟩ := y5.len
    obtain rfl : up = .slice none 0 0 := q
    have hr3 := (hb3.block _ H2.out.2.2).trans H2.out.1
    have HO : Hid (Wt.Own W2 (newW log key) NilQ (.returned (.agg #[.string (newW log key).log, .string (newW log key).key, .slice a0 (newW log key).en.length c0', .string (newW log key).h.log, .int .i64 (newW log key).h.size, .string (newW log key).h.root, .int .i64 (newW log key).h.time, .int .i64 (newW log key).h.k, .slice a1 (newW log key).h.el.length c1', .slice a2 (newW log key).h.pl.length c2, .slice none 0 0, .bool (newW log key).found, .string (newW log key).a.log, .int .i64 (newW log key).a.size, .string (newW log key).a.root, .int .i64 (newW log key).a.time, .int .i64 (newW log key).a.k, .slice a3 (newW log key).a.el.length c3, .slice a4 (newW log key).a.pl.length c4, .string (newW log key).b.log, .int .i64 (newW log key).b.size, .string (newW log key).b.root, .int .i64 (newW log key).b.time, .int .i64 (newW log key).b.k, .slice a5 (newW log key).b.el.length c5, .slice a6 (newW log key).b.pl.length c6, .slice a7 (newW log key).fl.length c7])) w3) := hown
    clear o0 o1 o2 y1 y2 y3 y4 y5 hown hb3 c0 c1
    go_wp2_with (first | (refine wpList_store_row rfl 37 (.tmp 4) (.tmp 16) rfl w.heap.size _ rfl rfl _ _ hr3 (by kernel_rfl) rfl (by simp [Value.oneCell']) ?_))
    refine bodyPost_ret (v := _) (results_cell_row rfl _ _ w.heap.size _ _ _ _ rfl (setRow_heap _ _ _ _ _ _ hr3) Try.underlying37 rfl (by kernel_rfl)) rfl ?_
    exact HO.out.passed NilQ.loc H2.out.2.1 (setRow_grown _ _ _) (Nat.le_refl _) H2.out.2.2

set_option maxHeartbeats 4000000 in
set_option maxRecDepth 10000 in
theorem specWatchNew_any (log key : ByteArray) (w : World) (hl : log.size ≤ 1048576) :
    Calls Try.prog 10 #[.string log, .string key] w fun e w' => Wt.Own w (wnewW log key) NilQ e w' ∧ (∃ lg ky, e = .returned (.agg #[.string lg, .string ky, .slice none 0 0, .string ⟨#[]⟩, .int .i64 0, .string ⟨#[]⟩, .int .i64 0, .int .i64 0, .slice none 0 0, .slice none 0 0, .slice none 0 0, .bool false, .string ⟨#[]⟩, .int .i64 0, .string ⟨#[]⟩, .int .i64 0, .int .i64 0, .slice none 0 0, .slice none 0 0, .string ⟨#[]⟩, .int .i64 0, .string ⟨#[]⟩, .int .i64 0, .int .i64 0, .slice none 0 0, .slice none 0 0, .slice none 0 0]) ∧ wnewW log key = newW lg ky) := by
  have E0 : Hid (∀ w, Calls Try.prog 24 #[.string log] w fun e w' => e = .returned (.bool (nameB log)) ∧ w' = w) := fun w => (specName_any log w (by unfold maxLen; omega)).mono fun e w' h => ⟨h.1.name, h.2⟩
  have hn20 : nameB log = true → log.size ≤ 20 := fun h => (nameB_yes h).2
  have HT : Hid (wnewW log key = if (nameB log && decide ((key.size : Int) = 32)) = true then newW log key else newW ⟨#[]⟩ ⟨#[]⟩) := rfl
  obtain ⟨W, hW⟩ : ∃ W, W = w.alloc (.cells #[.string ⟨#[]⟩, .string ⟨#[]⟩, .slice none 0 0, .string ⟨#[]⟩, .int .i64 0, .string ⟨#[]⟩, .int .i64 0, .int .i64 0, .slice none 0 0, .slice none 0 0, .slice none 0 0, .bool false, .string ⟨#[]⟩, .int .i64 0, .string ⟨#[]⟩, .int .i64 0, .int .i64 0, .slice none 0 0, .slice none 0 0, .string ⟨#[]⟩, .int .i64 0, .string ⟨#[]⟩, .int .i64 0, .int .i64 0, .slice none 0 0, .slice none 0 0, .slice none 0 0] 37) := ⟨_, rfl⟩
  have hbW : Below w.heap.size w W := by rw [hW]; exact (Below.refl _ _).alloc (Nat.le_refl _) _
  have g0 : W.heap[w.heap.size]? = some (.cells #[.string ⟨#[]⟩, .string ⟨#[]⟩, .slice none 0 0, .string ⟨#[]⟩, .int .i64 0, .string ⟨#[]⟩, .int .i64 0, .int .i64 0, .slice none 0 0, .slice none 0 0, .slice none 0 0, .bool false, .string ⟨#[]⟩, .int .i64 0, .string ⟨#[]⟩, .int .i64 0, .int .i64 0, .slice none 0 0, .slice none 0 0, .string ⟨#[]⟩, .int .i64 0, .string ⟨#[]⟩, .int .i64 0, .int .i64 0, .slice none 0 0, .slice none 0 0, .slice none 0 0] 37 (0, 0)) := by rw [hW]; exact heap_alloc_new w _
  have H0 : Hid (Below w.heap.size w W ∧ W.heap[w.heap.size]? = some (.cells #[.string ⟨#[]⟩, .string ⟨#[]⟩, .slice none 0 0, .string ⟨#[]⟩, .int .i64 0, .string ⟨#[]⟩, .int .i64 0, .int .i64 0, .slice none 0 0, .slice none 0 0, .slice none 0 0, .bool false, .string ⟨#[]⟩, .int .i64 0, .string ⟨#[]⟩, .int .i64 0, .int .i64 0, .slice none 0 0, .slice none 0 0, .string ⟨#[]⟩, .int .i64 0, .string ⟨#[]⟩, .int .i64 0, .int .i64 0, .slice none 0 0, .slice none 0 0, .slice none 0 0] 37 (0, 0))) := ⟨hbW, g0⟩
  have HW : Hid (W = w.alloc (.cells #[.string ⟨#[]⟩, .string ⟨#[]⟩, .slice none 0 0, .string ⟨#[]⟩, .int .i64 0, .string ⟨#[]⟩, .int .i64 0, .int .i64 0, .slice none 0 0, .slice none 0 0, .slice none 0 0, .bool false, .string ⟨#[]⟩, .int .i64 0, .string ⟨#[]⟩, .int .i64 0, .int .i64 0, .slice none 0 0, .slice none 0 0, .string ⟨#[]⟩, .int .i64 0, .string ⟨#[]⟩, .int .i64 0, .int .i64 0, .slice none 0 0, .slice none 0 0, .slice none 0 0] 37)) := hW
  clear hW hbW g0
  generalize wnewW log key = T at *
  have hno : ∀ X, Below w.heap.size w X → T = newW ⟨#[]⟩ ⟨#[]⟩ → Wt.Own w T NilQ (.returned (.agg #[.string ⟨#[]⟩, .string ⟨#[]⟩, .slice none 0 0, .string ⟨#[]⟩, .int .i64 0, .string ⟨#[]⟩, .int .i64 0, .int .i64 0, .slice none 0 0, .slice none 0 0, .slice none 0 0, .bool false, .string ⟨#[]⟩, .int .i64 0, .string ⟨#[]⟩, .int .i64 0, .int .i64 0, .slice none 0 0, .slice none 0 0, .string ⟨#[]⟩, .int .i64 0, .string ⟨#[]⟩, .int .i64 0, .int .i64 0, .slice none 0 0, .slice none 0 0, .slice none 0 0])) X ∧ (∃ lg ky, Ending.returned (.agg #[.string ⟨#[]⟩, .string ⟨#[]⟩, .slice none 0 0, .string ⟨#[]⟩, .int .i64 0, .string ⟨#[]⟩, .int .i64 0, .int .i64 0, .slice none 0 0, .slice none 0 0, .slice none 0 0, .bool false, .string ⟨#[]⟩, .int .i64 0, .string ⟨#[]⟩, .int .i64 0, .int .i64 0, .slice none 0 0, .slice none 0 0, .string ⟨#[]⟩, .int .i64 0, .string ⟨#[]⟩, .int .i64 0, .int .i64 0, .slice none 0 0, .slice none 0 0, .slice none 0 0]) = .returned (.agg #[.string lg, .string ky, .slice none 0 0, .string ⟨#[]⟩, .int .i64 0, .string ⟨#[]⟩, .int .i64 0, .int .i64 0, .slice none 0 0, .slice none 0 0, .slice none 0 0, .bool false, .string ⟨#[]⟩, .int .i64 0, .string ⟨#[]⟩, .int .i64 0, .int .i64 0, .slice none 0 0, .slice none 0 0, .string ⟨#[]⟩, .int .i64 0, .string ⟨#[]⟩, .int .i64 0, .int .i64 0, .slice none 0 0, .slice none 0 0, .slice none 0 0]) ∧ T = newW lg ky) := fun X hb h => by
    subst h
    exact ⟨newW_own _ _ w X hb, _, _, rfl, rfl⟩
  have HNO : Hid _ := hno
  clear hno
  by_cases hbig : (20000 : Int) < log.size
  · have hf : nameB log = false := by
      cases h : nameB log with
      | false => rfl
      | true => have := hn20 h; omega
    have HTN : Hid (T = newW ⟨#[]⟩ ⟨#[]⟩) := by rw [HT.out, hf]; rfl
    clear hn20 HT hf E0
    go_enter Try.func10, Try.ntmps10
    have r0 := H0.out.2
    go_wp2_with (first | (rw [← HW.out]; refine wpList_store_row rfl 37 (.tmp 4) (.tmp 18) rfl w.heap.size _ rfl rfl _ _ r0 (by kernel_rfl) rfl (by simp [Value.oneCell']) ?_))
    refine bodyPost_ret (v := .agg #[.string ⟨#[]⟩, .string ⟨#[]⟩, .slice none 0 0, .string ⟨#[]⟩, .int .i64 0, .string ⟨#[]⟩, .int .i64 0, .int .i64 0, .slice none 0 0, .slice none 0 0, .slice none 0 0, .bool false, .string ⟨#[]⟩, .int .i64 0, .string ⟨#[]⟩, .int .i64 0, .int .i64 0, .slice none 0 0, .slice none 0 0, .string ⟨#[]⟩, .int .i64 0, .string ⟨#[]⟩, .int .i64 0, .int .i64 0, .slice none 0 0, .slice none 0 0, .slice none 0 0]) (results_cell_row rfl _ _ w.heap.size _ _ _ _ rfl (setRow_heap _ _ _ _ _ _ r0) Try.underlying37 rfl (by kernel_rfl)) rfl ?_
    exact HNO.out _ (below_own H0.out.1 (setRow_grown _ _ _) (Nat.le_refl _)) HTN.out
  clear hn20
  cases hnb : nameB log with
  | false =>
    have HTN : Hid (T = newW ⟨#[]⟩ ⟨#[]⟩) := by rw [HT.out, hnb]; rfl
    rw [hnb] at E0
    clear HT hnb
    go_enter Try.func10, Try.ntmps10
    have r0 := H0.out.2
    go_wp2_with fail
    rw [← HW.out]
    refine (E0.out _).mono ?_
    rintro e w1 ⟨rfl, rfl⟩
    go_wp2_with (first | (refine wpList_store_row rfl 37 (.tmp 4) (.tmp 18) rfl w.heap.size _ rfl rfl _ _ r0 (by kernel_rfl) rfl (by simp [Value.oneCell']) ?_))
    refine bodyPost_ret (v := .agg #[.string ⟨#[]⟩, .string ⟨#[]⟩, .slice none 0 0, .string ⟨#[]⟩, .int .i64 0, .string ⟨#[]⟩, .int .i64 0, .int .i64 0, .slice none 0 0, .slice none 0 0, .slice none 0 0, .bool false, .string ⟨#[]⟩, .int .i64 0, .string ⟨#[]⟩, .int .i64 0, .int .i64 0, .slice none 0 0, .slice none 0 0, .string ⟨#[]⟩, .int .i64 0, .string ⟨#[]⟩, .int .i64 0, .int .i64 0, .slice none 0 0, .slice none 0 0, .slice none 0 0]) (results_cell_row rfl _ _ w.heap.size _ _ _ _ rfl (setRow_heap _ _ _ _ _ _ r0) Try.underlying37 rfl (by kernel_rfl)) rfl ?_
    exact HNO.out _ (below_own H0.out.1 (setRow_grown _ _ _) (Nat.le_refl _)) HTN.out
  | true =>
    by_cases h32 : (key.size : Int) = 32
    · have HTN : Hid (T = newW log key) := by rw [HT.out, hnb, decide_eq_true h32]; rfl
      rw [hnb] at E0
      clear HT hnb HNO
      go_enter Try.func10, Try.ntmps10
      have r0 := H0.out.2
      go_wp2_with fail
      rw [← HW.out]
      refine (E0.out _).mono ?_
      rintro e w1 ⟨rfl, rfl⟩
      go_wp2_with (first | (refine wpList_store_row rfl 37 (.tmp 4) (.tmp 21) rfl w.heap.size _ rfl rfl _ _ r0 (by kernel_rfl) rfl (by simp [Value.oneCell']) ?_))
      refine bodyPost_ret (v := .agg #[.string log, .string key, .slice none 0 0, .string ⟨#[]⟩, .int .i64 0, .string ⟨#[]⟩, .int .i64 0, .int .i64 0, .slice none 0 0, .slice none 0 0, .slice none 0 0, .bool false, .string ⟨#[]⟩, .int .i64 0, .string ⟨#[]⟩, .int .i64 0, .int .i64 0, .slice none 0 0, .slice none 0 0, .string ⟨#[]⟩, .int .i64 0, .string ⟨#[]⟩, .int .i64 0, .int .i64 0, .slice none 0 0, .slice none 0 0, .slice none 0 0]) (results_cell_row rfl _ _ w.heap.size _ _ _ _ rfl (setRow_heap _ _ _ _ _ _ r0) Try.underlying37 rfl (by kernel_rfl)) rfl ?_
      rw [HTN.out]
      exact ⟨newW_own _ _ w _ (below_own H0.out.1 (setRow_grown _ _ _) (Nat.le_refl _)), _, _, rfl, rfl⟩
    · have HTN : Hid (T = newW ⟨#[]⟩ ⟨#[]⟩) := by rw [HT.out, decide_eq_false h32, Bool.and_false]; rfl
      rw [hnb] at E0
      clear HT hnb
      go_enter Try.func10, Try.ntmps10
      have r0 := H0.out.2
      go_wp2_with fail
      rw [← HW.out]
      refine (E0.out _).mono ?_
      rintro e w1 ⟨rfl, rfl⟩
      go_wp2_with (first | (refine wpList_store_row rfl 37 (.tmp 4) (.tmp 18) rfl w.heap.size _ rfl rfl _ _ r0 (by kernel_rfl) rfl (by simp [Value.oneCell']) ?_))
      refine bodyPost_ret (v := .agg #[.string ⟨#[]⟩, .string ⟨#[]⟩, .slice none 0 0, .string ⟨#[]⟩, .int .i64 0, .string ⟨#[]⟩, .int .i64 0, .int .i64 0, .slice none 0 0, .slice none 0 0, .slice none 0 0, .bool false, .string ⟨#[]⟩, .int .i64 0, .string ⟨#[]⟩, .int .i64 0, .int .i64 0, .slice none 0 0, .slice none 0 0, .string ⟨#[]⟩, .int .i64 0, .string ⟨#[]⟩, .int .i64 0, .int .i64 0, .slice none 0 0, .slice none 0 0, .slice none 0 0]) (results_cell_row rfl _ _ w.heap.size _ _ _ _ rfl (setRow_heap _ _ _ _ _ _ r0) Try.underlying37 rfl (by kernel_rfl)) rfl ?_
      exact HNO.out _ (below_own H0.out.1 (setRow_grown _ _ _) (Nat.le_refl _)) HTN.out
end Go.Proofs.Ytpglcbidfghfkaa
