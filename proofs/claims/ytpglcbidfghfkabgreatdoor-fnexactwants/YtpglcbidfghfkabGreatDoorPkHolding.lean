/-
  What was read, and its head: is there one, how many, do they begin so? The program's.
-/
import Derived.Test.YtpglcbidfghfkabGreatDoorPkHdV
import Derived.Test.YtpglcbidfghfkabGreatDoorPkImplTree
import Derived.Test.YtpglcbidfghfkabGreatDoorPkRight
import Derived.Deep.RegionWith
import Derived.Deep.RegionHeld3
namespace Go.Proofs.YtpglcbidfghfkabGreatDoor
open Go.RowKit Go.Lib
set_option linter.unusedVariables false
set_option linter.unusedSimpArgs false


set_option maxHeartbeats 4000000 in
set_option maxRecDepth 10000 in
theorem headless_any (x : Hd) (a a1 a2 : Option Addr) (n c m1 c1 m2 c2 : Nat) (w : World) :
    Calls Tryz.prog 63 #[.agg #[.slice a n c, .string x.log, .int .i64 x.size, .string x.root, .int .i64 x.time, .int .i64 x.k, .slice a1 m1 c1, .slice a2 m2 c2]] w fun e w' => e = .returned (.bool (zeroX x m1 m2)) ∧ Below w.heap.size w w' := by
  have E0 : Hid (∀ X, Calls Tryz.prog 91 #[.agg #[.string x.log, .int .i64 x.size, .string x.root, .int .i64 x.time, .int .i64 x.k, .slice a1 m1 c1, .slice a2 m2 c2]] X fun e w' => e = .returned (.bool (zeroX x m1 m2)) ∧ Below X.heap.size X w') := fun X => implZero_any _ _ _ _ _ _ _ _ _ _ _ X
  have H0 : Hid (Below w.heap.size w (w.alloc (.cells #[.slice a n c, .string x.log, .int .i64 x.size, .string x.root, .int .i64 x.time, .int .i64 x.k, .slice a1 m1 c1, .slice a2 m2 c2] 90))) := (Below.refl _ _).alloc (Nat.le_refl _) _
  generalize zeroX x m1 m2 = z at *
  go_enter Tryz.func63, Tryz.ntmps63
  go_wp2_with fail
  refine (E0.out _).mono ?_
  rintro e w1 ⟨rfl, hb⟩
  have H1 : Hid (Below w.heap.size w w1) := H0.out.trans (hb.mono H0.out.size)
  clear hb H0 E0
  go_wp2
  go_ret
  exact ⟨rfl, H1.out⟩
set_option maxHeartbeats 2000000 in
theorem many_any (x : Hd) (a a1 a2 : Option Addr) (n c m1 c1 m2 c2 : Nat) (w : World) :
    Calls Tryz.prog 59 #[.agg #[.slice a n c, .string x.log, .int .i64 x.size, .string x.root, .int .i64 x.time, .int .i64 x.k, .slice a1 m1 c1, .slice a2 m2 c2]] w fun e w' => e = .returned (.int .i64 (n : Int)) ∧ Below w.heap.size w w' := by
  have H0 : Hid (Below w.heap.size w (w.alloc (.cells #[.slice a n c, .string x.log, .int .i64 x.size, .string x.root, .int .i64 x.time, .int .i64 x.k, .slice a1 m1 c1, .slice a2 m2 c2] 90))) := (Below.refl _ _).alloc (Nat.le_refl _) _
  go_enter Tryz.func59, Tryz.ntmps59
  go_wp2
  go_ret
  exact ⟨rfl, H0.out⟩
set_option maxHeartbeats 4000000 in
set_option maxRecDepth 10000 in
theorem begins_any (x : Hd) (v : Value) (en : List ByteArray) (a1 a2 : Option Addr) (m1 c1 m2 c2 : Nat) (k : Nat) (root : ByteArray) (w : World) (h : Texts w w.heap.size v en) (hk : k ≤ en.length) (hl : en.length ≤ 1048576) (hz : ∀ j (hj : j < en.length), en[j].size ≤ 100) (hK : Keys w) :
    Calls Tryz.prog 102 #[.agg #[v, .string x.log, .int .i64 x.size, .string x.root, .int .i64 x.time, .int .i64 x.k, .slice a1 m1 c1, .slice a2 m2 c2], .int .i64 (k : Int), .string root] w fun e w' => e = .returned (.bool ((treeB (en.take k)).toList == root.toList)) ∧ Below w.heap.size w w' := by
  obtain ⟨v1, hsl, ht⟩ := slice_h h k hk (k : Int) rfl
  obtain ⟨a, c, rfl, hq0⟩ := id h
  have hbW : Below w.heap.size w (w.alloc (.cells #[.slice a en.length c, .string x.log, .int .i64 x.size, .string x.root, .int .i64 x.time, .int .i64 x.k, .slice a1 m1 c1, .slice a2 m2 c2] 90)) := (Below.refl _ _).alloc (Nat.le_refl _) _
  have E0 : Hid (Calls Tryz.prog 129 #[v1] (w.alloc (.cells #[.slice a en.length c, .string x.log, .int .i64 x.size, .string x.root, .int .i64 x.time, .int .i64 x.k, .slice a1 m1 c1, .slice a2 m2 c2] 90)) fun e w' => e = .returned (.string (treeB (en.take k))) ∧ Below (w.alloc (.cells #[.slice a en.length c, .string x.log, .int .i64 x.size, .string x.root, .int .i64 x.time, .int .i64 x.k, .slice a1 m1 c1, .slice a2 m2 c2] 90)).heap.size (w.alloc (.cells #[.slice a en.length c, .string x.log, .int .i64 x.size, .string x.root, .int .i64 x.time, .int .i64 x.k, .slice a1 m1 c1, .slice a2 m2 c2] 90)) w') := treeOf_any v1 (en.take k) _ (ht.on hbW) (by rw [List.length_take]; omega) (fun j hj => by rw [List.getElem_take]; exact hz _ _) (hK.below hbW hK.lt)
  have H0 : Hid (Below w.heap.size w (w.alloc (.cells #[.slice a en.length c, .string x.log, .int .i64 x.size, .string x.root, .int .i64 x.time, .int .i64 x.k, .slice a1 m1 c1, .slice a2 m2 c2] 90))) := hbW
  clear hq0 h ht hz hK hbW hk hl
  generalize treeB (en.take k) = T at *
  generalize en.length = n at *
  go_enter Tryz.func102, Tryz.ntmps102
  go_wp2_with fail
  refine E0.out.mono ?_
  rintro e w1 ⟨rfl, hb⟩
  have H1 : Hid (Below w.heap.size w w1) := H0.out.trans (hb.mono H0.out.size)
  clear hb H0 E0
  go_wp2
  go_ret
  exact ⟨rfl, H1.out⟩
end Go.Proofs.YtpglcbidfghfkabGreatDoor

/-
  Is a head of just what was read? The program's test.
-/
namespace Go.Proofs.YtpglcbidfghfkabGreatDoor
open Go.RowKit Go.Lib
set_option linter.unusedVariables false
set_option linter.unusedSimpArgs false

/-- The head is of just these entries, or there is none of nothing. -/
def agreesB (en : List ByteArray) (x : Hd) (m1 m2 : Nat) : Bool := rightB en && (decide (x.size = (en.length : Int)) && (zeroX x m1 m2 || ((treeB en).toList == x.root.toList)))
set_option maxHeartbeats 4000000 in
set_option maxRecDepth 10000 in
theorem agrees_any (x : Hd) (v : Value) (en : List ByteArray) (a1 a2 : Option Addr) (m1 c1 m2 c2 : Nat) (w : World) (h : Texts w w.heap.size v en) (hl : en.length ≤ 1048576) (hK : Keys w) :
    Calls Tryz.prog 88 #[.agg #[v, .string x.log, .int .i64 x.size, .string x.root, .int .i64 x.time, .int .i64 x.k, .slice a1 m1 c1, .slice a2 m2 c2]] w fun e w' => e = .returned (.bool (agreesB en x m1 m2)) ∧ Below w.heap.size w w' := by
  have hT := h
  obtain ⟨a, c, rfl, hq0⟩ := id h
  obtain ⟨W, hW⟩ : ∃ W, W = w.alloc (.cells #[.slice a en.length c, .string x.log, .int .i64 x.size, .string x.root, .int .i64 x.time, .int .i64 x.k, .slice a1 m1 c1, .slice a2 m2 c2] 90) := ⟨_, rfl⟩
  have hbW : Below w.heap.size w W := by rw [hW]; exact (Below.refl _ _).alloc (Nat.le_refl _) _
  have hgW : W.heap[w.heap.size]? = some (.cells #[.slice a en.length c, .string x.log, .int .i64 x.size, .string x.root, .int .i64 x.time, .int .i64 x.k, .slice a1 m1 c1, .slice a2 m2 c2] 90 (0, 0)) := by rw [hW]; exact heap_alloc_new w _
  have hKW : Keys W := hK.below hbW hK.lt
  have E1 : Hid (∀ X, Below W.heap.size W X → Calls Tryz.prog 57 #[.slice a en.length c] X fun e w' => e = .returned (.bool (rightB en)) ∧ Below W.heap.size W w') := fun X q => (entriesRight_any _ en X X.heap.size ((hT.on hbW).on q) hl).mono fun e w' h => ⟨h.1, by rw [h.2]; exact q⟩
  have E2 : Hid (∀ X, Below W.heap.size W X → Calls Tryz.prog 59 #[.agg #[.slice a en.length c, .string x.log, .int .i64 x.size, .string x.root, .int .i64 x.time, .int .i64 x.k, .slice a1 m1 c1, .slice a2 m2 c2]] X fun e w' => e = .returned (.int .i64 (en.length : Int)) ∧ Below W.heap.size W w') := fun X q => (many_any x a a1 a2 en.length c m1 c1 m2 c2 X).mono fun e w' h => ⟨h.1, q.trans (h.2.mono q.size)⟩
  have E3 : Hid (∀ X, Below W.heap.size W X → Calls Tryz.prog 63 #[.agg #[.slice a en.length c, .string x.log, .int .i64 x.size, .string x.root, .int .i64 x.time, .int .i64 x.k, .slice a1 m1 c1, .slice a2 m2 c2]] X fun e w' => e = .returned (.bool (zeroX x m1 m2)) ∧ Below W.heap.size W w') := fun X q => (headless_any x a a1 a2 en.length c m1 c1 m2 c2 X).mono fun e w' h => ⟨h.1, q.trans (h.2.mono q.size)⟩
  have E4 : Hid (rightB en = true → ∀ X, Below W.heap.size W X → Calls Tryz.prog 102 #[.agg #[.slice a en.length c, .string x.log, .int .i64 x.size, .string x.root, .int .i64 x.time, .int .i64 x.k, .slice a1 m1 c1, .slice a2 m2 c2], .int .i64 (en.length : Int), .string x.root] X fun e w' => e = .returned (.bool ((treeB en).toList == x.root.toList)) ∧ Below W.heap.size W w') := fun hr X q => by
    have := begins_any x (.slice a en.length c) en a1 a2 m1 c1 m2 c2 en.length x.root X ((hT.on hbW).on q) (Nat.le_refl _) hl (fun j hj => rightB_at hr hj) (hKW.below q hKW.lt)
    rw [List.take_length] at this
    exact this.mono fun e w' h => ⟨h.1, q.trans (h.2.mono q.size)⟩
  have HC : Hid (∀ X, Below W.heap.size W X → X.heap[w.heap.size]? = some (.cells #[.slice a en.length c, .string x.log, .int .i64 x.size, .string x.root, .int .i64 x.time, .int .i64 x.k, .slice a1 m1 c1, .slice a2 m2 c2] 90 (0, 0))) := fun X q => (q.block _ (Array.getElem?_eq_some_iff.1 hgW).1).trans hgW
  have H0 : Hid (Below w.heap.size w W) := hbW
  have HW : Hid (W = w.alloc (.cells #[.slice a en.length c, .string x.log, .int .i64 x.size, .string x.root, .int .i64 x.time, .int .i64 x.k, .slice a1 m1 c1, .slice a2 m2 c2] 90)) := hW
  have V0d : Hid (Below W.heap.size W W.drew) := below_drew' (Below.refl _ _)
  obtain ⟨b, hb⟩ : ∃ b, b = w.heap.size := ⟨_, rfl⟩
  have HB : Hid (b = w.heap.size) := hb
  rw [← hb] at HC
  have zl : en.length ≤ 1048576 := hl
  clear hq0 h hT hl hK hKW hbW hgW hW hb
  unfold agreesB
  generalize zeroX x m1 m2 = z at *
  cases hr : rightB en with
  | false =>
    rw [hr] at E1
    clear E2 E3 E4 hr
    generalize en.length = n at *
    go_enter Tryz.func88, Tryz.ntmps88
    go_wp2_with fail
    rw [← HW.out, ← HB.out]
    clear HW
    refine wp_region_held_drew (S := (fun X => X.heap[b]? = some (.cells #[.slice a n c, .string x.log, .int .i64 x.size, .string x.root, .int .i64 x.time, .int .i64 x.k, .slice a1 m1 c1, .slice a2 m2 c2] 90 (0, 0)))) (by kernel_rfl) ?_ (fun hHeld => ?_)
    · exact HC.out _ V0d.out
    refine wpAnyH_take (i := 0) (v := ?_) rfl (by kernel_rfl) (by kernel_rfl) (by kernel_rfl) (fun _ _ _ h => h) (Or.inl ⟨by kernel_rfl, ?_⟩) (by assumption) ?_
    rotate_left
    · (intro w' hSw; clear hSw; go_simp; (try with_reducible rfl))
    (try simp only [Act.put, List.setIfInBounds_toArray, List.set_cons_zero, List.set_cons_succ])
    refine wpAnyH_take (i := 1) (v := ?_) rfl (by kernel_rfl) (by kernel_rfl) (by kernel_rfl) (fun _ _ _ h => h) (Or.inl ⟨by kernel_rfl, ?_⟩) (by assumption) ?_
    rotate_left
    · (intro w' hSw; (try dsimp only at hSw); have g0 := row_here hSw 0 _ rfl; clear hSw; go_simp; (try with_reducible rfl))
    (try simp only [Act.put, List.setIfInBounds_toArray, List.set_cons_zero, List.set_cons_succ])
    refine wpAnyH_ready (rs := [2]) (by kernel_rfl) (by simp) ?_
    refine AllReadyH.cons (by simp only [List.getElem?_toArray, List.getElem?_cons_succ, List.getElem?_cons_zero]; rfl) (fun K hK => ?_) AllReadyH.nil
    go_simp
    go_at_call 57; (with_reducible refine (E1.out _ ?_).mono ?_); exact V0d.out; rintro e w1 ⟨rfl, hb⟩; have V1 : Hid (Below W.heap.size W w1) := hb; clear hb
    go_wp2_with fail
    refine hK.out _ _ ?_ (fun hHeld => ?_)
    · exact HC.out _ V1.out
    clear hK K
    (try simp only [Act.put, List.setIfInBounds_toArray, List.set_cons_zero, List.set_cons_succ])
    refine wpAnyH_take (i := 3) (v := ?_) rfl (by kernel_rfl) (by kernel_rfl) (by kernel_rfl) (fun _ _ _ h => h) (Or.inl ⟨by kernel_rfl, ?_⟩) (by assumption) ?_
    rotate_left
    · (intro w' hSw; clear hSw; go_simp; (try with_reducible rfl))
    (try simp only [Act.put, List.setIfInBounds_toArray, List.set_cons_zero, List.set_cons_succ])
    refine wpAnyH_take (i := 4) (v := ?_) rfl (by kernel_rfl) (by kernel_rfl) (by kernel_rfl) (fun _ _ _ h => h) (Or.inl ⟨by kernel_rfl, ?_⟩) (by assumption) ?_
    rotate_left
    · (intro w' hSw; clear hSw; go_simp; (try with_reducible rfl))
    (try simp only [Act.put, List.setIfInBounds_toArray, List.set_cons_zero, List.set_cons_succ])
    refine wpAnyH_take (i := 5) (v := undef) rfl (by kernel_rfl) (by kernel_rfl) (by kernel_rfl) (fun _ _ _ h => h) (Or.inr ⟨by kernel_rfl, rfl⟩) (by assumption) ?_
    (try simp only [Act.put, List.setIfInBounds_toArray, List.set_cons_zero, List.set_cons_succ])
    refine wpAnyH_take (i := 6) (v := undef) rfl (by kernel_rfl) (by kernel_rfl) (by kernel_rfl) (fun _ _ _ h => h) (Or.inr ⟨by kernel_rfl, rfl⟩) (by assumption) ?_
    (try simp only [Act.put, List.setIfInBounds_toArray, List.set_cons_zero, List.set_cons_succ])
    refine wpAnyH_take (i := 7) (v := undef) rfl (by kernel_rfl) (by kernel_rfl) (by kernel_rfl) (fun _ _ _ h => h) (Or.inr ⟨by kernel_rfl, rfl⟩) (by assumption) ?_
    (try simp only [Act.put, List.setIfInBounds_toArray, List.set_cons_zero, List.set_cons_succ])
    refine wpAnyH_take (i := 8) (v := undef) rfl (by kernel_rfl) (by kernel_rfl) (by kernel_rfl) (fun _ _ _ h => h) (Or.inr ⟨by kernel_rfl, rfl⟩) (by assumption) ?_
    (try simp only [Act.put, List.setIfInBounds_toArray, List.set_cons_zero, List.set_cons_succ])
    refine wpAnyH_take (i := 9) (v := undef) rfl (by kernel_rfl) (by kernel_rfl) (by kernel_rfl) (fun _ _ _ h => h) (Or.inr ⟨by kernel_rfl, rfl⟩) (by assumption) ?_
    (try simp only [Act.put, List.setIfInBounds_toArray, List.set_cons_zero, List.set_cons_succ])
    refine wpAnyH_take (i := 10) (v := undef) rfl (by kernel_rfl) (by kernel_rfl) (by kernel_rfl) (fun _ _ _ h => h) (Or.inr ⟨by kernel_rfl, rfl⟩) (by assumption) ?_
    (try simp only [Act.put, List.setIfInBounds_toArray, List.set_cons_zero, List.set_cons_succ])
    refine wpAnyH_take (i := 11) (v := ?_) rfl (by kernel_rfl) (by kernel_rfl) (by kernel_rfl) (fun _ _ _ h => h) (Or.inl ⟨by kernel_rfl, ?_⟩) (by assumption) ?_
    rotate_left
    · (intro w' hSw; clear hSw; go_simp; (try with_reducible rfl))
    (try simp only [Act.put, List.setIfInBounds_toArray, List.set_cons_zero, List.set_cons_succ])
    refine wpAnyH_done (by kernel_rfl) ?_ _
    go_simp
    clear HC hHeld
    go_wp2
    go_ret
    exact ⟨rfl, H0.out.trans (V1.out.mono H0.out.size)⟩
  | true =>
    have E4' : Hid (∀ X, Below W.heap.size W X → Calls Tryz.prog 102 #[.agg #[.slice a en.length c, .string x.log, .int .i64 x.size, .string x.root, .int .i64 x.time, .int .i64 x.k, .slice a1 m1 c1, .slice a2 m2 c2], .int .i64 (en.length : Int), .string x.root] X fun e w' => e = .returned (.bool ((treeB en).toList == x.root.toList)) ∧ Below W.heap.size W w') := E4.out hr
    rw [hr] at E1
    clear E4 hr
    generalize ((treeB en).toList == x.root.toList) = G at *
    generalize en.length = n at *
    by_cases hs : x.size = (n : Int)
    · have HS : Hid (x.size = (n : Int)) := hs
      have hsd : decide (x.size = (n : Int)) = true := decide_eq_true hs
      rw [hsd]
      clear hs hsd
      go_enter Tryz.func88, Tryz.ntmps88
      go_wp2_with fail
      rw [← HW.out, ← HB.out]
      clear HW
      refine wp_region_held_drew (S := (fun X => X.heap[b]? = some (.cells #[.slice a n c, .string x.log, .int .i64 x.size, .string x.root, .int .i64 x.time, .int .i64 x.k, .slice a1 m1 c1, .slice a2 m2 c2] 90 (0, 0)))) (by kernel_rfl) ?_ (fun hHeld => ?_)
      · exact HC.out _ V0d.out
      refine wpAnyH_take (i := 0) (v := ?_) rfl (by kernel_rfl) (by kernel_rfl) (by kernel_rfl) (fun _ _ _ h => h) (Or.inl ⟨by kernel_rfl, ?_⟩) (by assumption) ?_
      rotate_left
      · (intro w' hSw; clear hSw; go_simp; (try with_reducible rfl))
      (try simp only [Act.put, List.setIfInBounds_toArray, List.set_cons_zero, List.set_cons_succ])
      refine wpAnyH_take (i := 1) (v := ?_) rfl (by kernel_rfl) (by kernel_rfl) (by kernel_rfl) (fun _ _ _ h => h) (Or.inl ⟨by kernel_rfl, ?_⟩) (by assumption) ?_
      rotate_left
      · (intro w' hSw; (try dsimp only at hSw); have g0 := row_here hSw 0 _ rfl; clear hSw; go_simp; (try with_reducible rfl))
      (try simp only [Act.put, List.setIfInBounds_toArray, List.set_cons_zero, List.set_cons_succ])
      refine wpAnyH_ready (rs := [2]) (by kernel_rfl) (by simp) ?_
      refine AllReadyH.cons (by simp only [List.getElem?_toArray, List.getElem?_cons_succ, List.getElem?_cons_zero]; rfl) (fun K hK => ?_) AllReadyH.nil
      go_simp
      go_at_call 57; (with_reducible refine (E1.out _ ?_).mono ?_); exact V0d.out; rintro e w1 ⟨rfl, hb⟩; have V1 : Hid (Below W.heap.size W w1) := hb; clear hb
      go_wp2_with fail
      refine hK.out _ _ ?_ (fun hHeld => ?_)
      · exact HC.out _ V1.out
      clear hK K
      (try simp only [Act.put, List.setIfInBounds_toArray, List.set_cons_zero, List.set_cons_succ])
      refine wpAnyH_take (i := 3) (v := ?_) rfl (by kernel_rfl) (by kernel_rfl) (by kernel_rfl) (fun _ _ _ h => h) (Or.inl ⟨by kernel_rfl, ?_⟩) (by assumption) ?_
      rotate_left
      · (intro w' hSw; clear hSw; go_simp; (try with_reducible rfl))
      (try simp only [Act.put, List.setIfInBounds_toArray, List.set_cons_zero, List.set_cons_succ])
      refine wpAnyH_take (i := 4) (v := ?_) rfl (by kernel_rfl) (by kernel_rfl) (by kernel_rfl) (fun _ _ _ h => h) (Or.inl ⟨by kernel_rfl, ?_⟩) (by assumption) ?_
      rotate_left
      · (intro w' hSw; clear hSw; go_simp; (try with_reducible rfl))
      (try simp only [Act.put, List.setIfInBounds_toArray, List.set_cons_zero, List.set_cons_succ])
      refine wpAnyH_take (i := 5) (v := ?_) rfl (by kernel_rfl) (by kernel_rfl) (by kernel_rfl) (fun _ _ _ h => h) (Or.inl ⟨by kernel_rfl, ?_⟩) (by assumption) ?_
      rotate_left
      · (intro w' hSw; clear hSw; go_simp; (try with_reducible rfl))
      (try simp only [Act.put, List.setIfInBounds_toArray, List.set_cons_zero, List.set_cons_succ])
      refine wpAnyH_take (i := 6) (v := ?_) rfl (by kernel_rfl) (by kernel_rfl) (by kernel_rfl) (fun _ _ _ h => h) (Or.inl ⟨by kernel_rfl, ?_⟩) (by assumption) ?_
      rotate_left
      · (intro w' hSw; clear hSw; go_simp; (try with_reducible rfl))
      (try simp only [Act.put, List.setIfInBounds_toArray, List.set_cons_zero, List.set_cons_succ])
      refine wpAnyH_take (i := 7) (v := ?_) rfl (by kernel_rfl) (by kernel_rfl) (by kernel_rfl) (fun _ _ _ h => h) (Or.inl ⟨by kernel_rfl, ?_⟩) (by assumption) ?_
      rotate_left
      · (intro w' hSw; (try dsimp only at hSw); have g2 := row_here hSw 2 _ rfl; clear hSw; go_simp; (try with_reducible rfl))
      (try simp only [Act.put, List.setIfInBounds_toArray, List.set_cons_zero, List.set_cons_succ])
      refine wpAnyH_take (i := 8) (v := ?_) rfl (by kernel_rfl) (by kernel_rfl) (by kernel_rfl) (fun _ _ _ h => h) (Or.inl ⟨by kernel_rfl, ?_⟩) (by assumption) ?_
      rotate_left
      · (intro w' hSw; (try dsimp only at hSw); have g0 := row_here hSw 0 _ rfl; have g1 := row_here hSw 1 _ rfl; have g2 := row_here hSw 2 _ rfl; have g3 := row_here hSw 3 _ rfl; have g4 := row_here hSw 4 _ rfl; have g5 := row_here hSw 5 _ rfl; have g6 := row_here hSw 6 _ rfl; have g7 := row_here hSw 7 _ rfl; clear hSw; go_simp; (try with_reducible rfl))
      (try simp only [Act.put, List.setIfInBounds_toArray, List.set_cons_zero, List.set_cons_succ])
      refine wpAnyH_ready (rs := [9]) (by kernel_rfl) (by simp) ?_
      refine AllReadyH.cons (by simp only [List.getElem?_toArray, List.getElem?_cons_succ, List.getElem?_cons_zero]; rfl) (fun K hK => ?_) AllReadyH.nil
      go_simp
      go_at_call 59; (with_reducible refine (E2.out _ ?_).mono ?_); exact V1.out; rintro e w2 ⟨rfl, hb⟩; have V2 : Hid (Below W.heap.size W w2) := hb; clear hb
      go_wp2_with fail
      refine hK.out _ _ ?_ (fun hHeld => ?_)
      · exact HC.out _ V2.out
      clear hK K
      (try simp only [Act.put, List.setIfInBounds_toArray, List.set_cons_zero, List.set_cons_succ])
      refine wpAnyH_take (i := 10) (v := .bool false) rfl (by kernel_rfl) (by kernel_rfl) (by kernel_rfl) (fun _ _ _ h => h) (Or.inl ⟨by kernel_rfl, ?_⟩) (by assumption) ?_
      · (intro w' hSw; clear hSw; go_simp; first | done | (with_reducible rfl) | simp [HS.out])
      (try simp only [Act.put, List.setIfInBounds_toArray, List.set_cons_zero, List.set_cons_succ])
      refine wpAnyH_take (i := 11) (v := ?_) rfl (by kernel_rfl) (by kernel_rfl) (by kernel_rfl) (fun _ _ _ h => h) (Or.inl ⟨by kernel_rfl, ?_⟩) (by assumption) ?_
      rotate_left
      · (intro w' hSw; clear hSw; go_simp; (try with_reducible rfl))
      (try simp only [Act.put, List.setIfInBounds_toArray, List.set_cons_zero, List.set_cons_succ])
      refine wpAnyH_done (by kernel_rfl) ?_ _
      go_simp
      clear hHeld
      cases z with
      | true =>
        go_wp2_with fail
        refine wp_region_held_drew (S := (fun X => X.heap[b]? = some (.cells #[.slice a n c, .string x.log, .int .i64 x.size, .string x.root, .int .i64 x.time, .int .i64 x.k, .slice a1 m1 c1, .slice a2 m2 c2] 90 (0, 0)))) (by kernel_rfl) ?_ (fun hHeld => ?_)
        · exact HC.out _ (below_drew' V2.out)
        refine wpAnyH_take (i := 0) (v := ?_) rfl (by kernel_rfl) (by kernel_rfl) (by kernel_rfl) (fun _ _ _ h => h) (Or.inl ⟨by kernel_rfl, ?_⟩) (by assumption) ?_
        rotate_left
        · (intro w' hSw; (try dsimp only at hSw); have g0 := row_here hSw 0 _ rfl; have g1 := row_here hSw 1 _ rfl; have g2 := row_here hSw 2 _ rfl; have g3 := row_here hSw 3 _ rfl; have g4 := row_here hSw 4 _ rfl; have g5 := row_here hSw 5 _ rfl; have g6 := row_here hSw 6 _ rfl; have g7 := row_here hSw 7 _ rfl; clear hSw; go_simp; (try with_reducible rfl))
        (try simp only [Act.put, List.setIfInBounds_toArray, List.set_cons_zero, List.set_cons_succ])
        refine wpAnyH_ready (rs := [1]) (by kernel_rfl) (by simp) ?_
        refine AllReadyH.cons (by simp only [List.getElem?_toArray, List.getElem?_cons_succ, List.getElem?_cons_zero]; rfl) (fun K hK => ?_) AllReadyH.nil
        go_simp
        go_at_call 63; (with_reducible refine (E3.out _ ?_).mono ?_); exact (below_drew' V2.out); rintro e w3 ⟨rfl, hb⟩; have V3 : Hid (Below W.heap.size W w3) := hb; clear hb
        go_wp2_with fail
        refine hK.out _ _ ?_ (fun hHeld => ?_)
        · exact HC.out _ V3.out
        clear hK K
        (try simp only [Act.put, List.setIfInBounds_toArray, List.set_cons_zero, List.set_cons_succ])
        refine wpAnyH_take (i := 2) (v := ?_) rfl (by kernel_rfl) (by kernel_rfl) (by kernel_rfl) (fun _ _ _ h => h) (Or.inl ⟨by kernel_rfl, ?_⟩) (by assumption) ?_
        rotate_left
        · (intro w' hSw; clear hSw; go_simp; (try with_reducible rfl))
        (try simp only [Act.put, List.setIfInBounds_toArray, List.set_cons_zero, List.set_cons_succ])
        refine wpAnyH_take (i := 3) (v := undef) rfl (by kernel_rfl) (by kernel_rfl) (by kernel_rfl) (fun _ _ _ h => h) (Or.inr ⟨by kernel_rfl, rfl⟩) (by assumption) ?_
        (try simp only [Act.put, List.setIfInBounds_toArray, List.set_cons_zero, List.set_cons_succ])
        refine wpAnyH_take (i := 4) (v := undef) rfl (by kernel_rfl) (by kernel_rfl) (by kernel_rfl) (fun _ _ _ h => h) (Or.inr ⟨by kernel_rfl, rfl⟩) (by assumption) ?_
        (try simp only [Act.put, List.setIfInBounds_toArray, List.set_cons_zero, List.set_cons_succ])
        refine wpAnyH_take (i := 5) (v := undef) rfl (by kernel_rfl) (by kernel_rfl) (by kernel_rfl) (fun _ _ _ h => h) (Or.inr ⟨by kernel_rfl, rfl⟩) (by assumption) ?_
        (try simp only [Act.put, List.setIfInBounds_toArray, List.set_cons_zero, List.set_cons_succ])
        refine wpAnyH_take (i := 6) (v := undef) rfl (by kernel_rfl) (by kernel_rfl) (by kernel_rfl) (fun _ _ _ h => h) (Or.inr ⟨by kernel_rfl, rfl⟩) (by assumption) ?_
        (try simp only [Act.put, List.setIfInBounds_toArray, List.set_cons_zero, List.set_cons_succ])
        refine wpAnyH_take (i := 7) (v := undef) rfl (by kernel_rfl) (by kernel_rfl) (by kernel_rfl) (fun _ _ _ h => h) (Or.inr ⟨by kernel_rfl, rfl⟩) (by assumption) ?_
        (try simp only [Act.put, List.setIfInBounds_toArray, List.set_cons_zero, List.set_cons_succ])
        refine wpAnyH_take (i := 8) (v := undef) rfl (by kernel_rfl) (by kernel_rfl) (by kernel_rfl) (fun _ _ _ h => h) (Or.inr ⟨by kernel_rfl, rfl⟩) (by assumption) ?_
        (try simp only [Act.put, List.setIfInBounds_toArray, List.set_cons_zero, List.set_cons_succ])
        refine wpAnyH_take (i := 9) (v := undef) rfl (by kernel_rfl) (by kernel_rfl) (by kernel_rfl) (fun _ _ _ h => h) (Or.inr ⟨by kernel_rfl, rfl⟩) (by assumption) ?_
        (try simp only [Act.put, List.setIfInBounds_toArray, List.set_cons_zero, List.set_cons_succ])
        refine wpAnyH_take (i := 10) (v := ?_) rfl (by kernel_rfl) (by kernel_rfl) (by kernel_rfl) (fun _ _ _ h => h) (Or.inl ⟨by kernel_rfl, ?_⟩) (by assumption) ?_
        rotate_left
        · (intro w' hSw; clear hSw; go_simp; (try with_reducible rfl))
        (try simp only [Act.put, List.setIfInBounds_toArray, List.set_cons_zero, List.set_cons_succ])
        refine wpAnyH_take (i := 11) (v := ?_) rfl (by kernel_rfl) (by kernel_rfl) (by kernel_rfl) (fun _ _ _ h => h) (Or.inl ⟨by kernel_rfl, ?_⟩) (by assumption) ?_
        rotate_left
        · (intro w' hSw; clear hSw; go_simp; (try with_reducible rfl))
        (try simp only [Act.put, List.setIfInBounds_toArray, List.set_cons_zero, List.set_cons_succ])
        refine wpAnyH_done (by kernel_rfl) ?_ _
        go_simp
        clear HC hHeld
        go_wp2
        go_ret
        exact ⟨rfl, H0.out.trans (V3.out.mono H0.out.size)⟩
      | false =>
        go_wp2_with fail
        refine wp_region_held_drew (S := (fun X => X.heap[b]? = some (.cells #[.slice a n c, .string x.log, .int .i64 x.size, .string x.root, .int .i64 x.time, .int .i64 x.k, .slice a1 m1 c1, .slice a2 m2 c2] 90 (0, 0)))) (by kernel_rfl) ?_ (fun hHeld => ?_)
        · exact HC.out _ (below_drew' V2.out)
        refine wpAnyH_take (i := 0) (v := ?_) rfl (by kernel_rfl) (by kernel_rfl) (by kernel_rfl) (fun _ _ _ h => h) (Or.inl ⟨by kernel_rfl, ?_⟩) (by assumption) ?_
        rotate_left
        · (intro w' hSw; (try dsimp only at hSw); have g0 := row_here hSw 0 _ rfl; have g1 := row_here hSw 1 _ rfl; have g2 := row_here hSw 2 _ rfl; have g3 := row_here hSw 3 _ rfl; have g4 := row_here hSw 4 _ rfl; have g5 := row_here hSw 5 _ rfl; have g6 := row_here hSw 6 _ rfl; have g7 := row_here hSw 7 _ rfl; clear hSw; go_simp; (try with_reducible rfl))
        (try simp only [Act.put, List.setIfInBounds_toArray, List.set_cons_zero, List.set_cons_succ])
        refine wpAnyH_ready (rs := [1]) (by kernel_rfl) (by simp) ?_
        refine AllReadyH.cons (by simp only [List.getElem?_toArray, List.getElem?_cons_succ, List.getElem?_cons_zero]; rfl) (fun K hK => ?_) AllReadyH.nil
        go_simp
        go_at_call 63; (with_reducible refine (E3.out _ ?_).mono ?_); exact (below_drew' V2.out); rintro e w3 ⟨rfl, hb⟩; have V3 : Hid (Below W.heap.size W w3) := hb; clear hb
        go_wp2_with fail
        refine hK.out _ _ ?_ (fun hHeld => ?_)
        · exact HC.out _ V3.out
        clear hK K
        (try simp only [Act.put, List.setIfInBounds_toArray, List.set_cons_zero, List.set_cons_succ])
        refine wpAnyH_take (i := 2) (v := ?_) rfl (by kernel_rfl) (by kernel_rfl) (by kernel_rfl) (fun _ _ _ h => h) (Or.inl ⟨by kernel_rfl, ?_⟩) (by assumption) ?_
        rotate_left
        · (intro w' hSw; clear hSw; go_simp; (try with_reducible rfl))
        (try simp only [Act.put, List.setIfInBounds_toArray, List.set_cons_zero, List.set_cons_succ])
        refine wpAnyH_take (i := 3) (v := ?_) rfl (by kernel_rfl) (by kernel_rfl) (by kernel_rfl) (fun _ _ _ h => h) (Or.inl ⟨by kernel_rfl, ?_⟩) (by assumption) ?_
        rotate_left
        · (intro w' hSw; (try dsimp only at hSw); have g0 := row_here hSw 0 _ rfl; have g1 := row_here hSw 1 _ rfl; have g2 := row_here hSw 2 _ rfl; have g3 := row_here hSw 3 _ rfl; have g4 := row_here hSw 4 _ rfl; have g5 := row_here hSw 5 _ rfl; have g6 := row_here hSw 6 _ rfl; have g7 := row_here hSw 7 _ rfl; clear hSw; go_simp; (try with_reducible rfl))
        (try simp only [Act.put, List.setIfInBounds_toArray, List.set_cons_zero, List.set_cons_succ])
        refine wpAnyH_take (i := 4) (v := ?_) rfl (by kernel_rfl) (by kernel_rfl) (by kernel_rfl) (fun _ _ _ h => h) (Or.inl ⟨by kernel_rfl, ?_⟩) (by assumption) ?_
        rotate_left
        · (intro w' hSw; (try dsimp only at hSw); have g0 := row_here hSw 0 _ rfl; have g1 := row_here hSw 1 _ rfl; have g2 := row_here hSw 2 _ rfl; have g3 := row_here hSw 3 _ rfl; have g4 := row_here hSw 4 _ rfl; have g5 := row_here hSw 5 _ rfl; have g6 := row_here hSw 6 _ rfl; have g7 := row_here hSw 7 _ rfl; clear hSw; go_simp; (try with_reducible rfl))
        (try simp only [Act.put, List.setIfInBounds_toArray, List.set_cons_zero, List.set_cons_succ])
        refine wpAnyH_take (i := 6) (v := ?_) rfl (by kernel_rfl) (by kernel_rfl) (by kernel_rfl) (fun _ _ _ h => h) (Or.inl ⟨by kernel_rfl, ?_⟩) (by assumption) ?_
        rotate_left
        · (intro w' hSw; clear hSw; go_simp; (try with_reducible rfl))
        (try simp only [Act.put, List.setIfInBounds_toArray, List.set_cons_zero, List.set_cons_succ])
        refine wpAnyH_take (i := 7) (v := ?_) rfl (by kernel_rfl) (by kernel_rfl) (by kernel_rfl) (fun _ _ _ h => h) (Or.inl ⟨by kernel_rfl, ?_⟩) (by assumption) ?_
        rotate_left
        · (intro w' hSw; clear hSw; go_simp; (try with_reducible rfl))
        (try simp only [Act.put, List.setIfInBounds_toArray, List.set_cons_zero, List.set_cons_succ])
        refine wpAnyH_take (i := 8) (v := ?_) rfl (by kernel_rfl) (by kernel_rfl) (by kernel_rfl) (fun _ _ _ h => h) (Or.inl ⟨by kernel_rfl, ?_⟩) (by assumption) ?_
        rotate_left
        · (intro w' hSw; (try dsimp only at hSw); have g3 := row_here hSw 3 _ rfl; clear hSw; go_simp; (try with_reducible rfl))
        (try simp only [Act.put, List.setIfInBounds_toArray, List.set_cons_zero, List.set_cons_succ])
        refine wpAnyH_ready (rs := [5]) (by kernel_rfl) (by simp) ?_
        refine AllReadyH.cons (by simp only [List.getElem?_toArray, List.getElem?_cons_succ, List.getElem?_cons_zero]; rfl) (fun K hK => ?_) AllReadyH.nil
        go_simp
        go_at_call 59; (with_reducible refine (E2.out _ ?_).mono ?_); exact V3.out; rintro e w4 ⟨rfl, hb⟩; have V4 : Hid (Below W.heap.size W w4) := hb; clear hb
        go_wp2_with fail
        refine hK.out _ _ ?_ (fun hHeld => ?_)
        · exact HC.out _ V4.out
        clear hK K
        (try simp only [Act.put, List.setIfInBounds_toArray, List.set_cons_zero, List.set_cons_succ])
        refine wpAnyH_ready (rs := [9]) (by kernel_rfl) (by simp) ?_
        refine AllReadyH.cons (by simp only [List.getElem?_toArray, List.getElem?_cons_succ, List.getElem?_cons_zero]; rfl) (fun K hK => ?_) AllReadyH.nil
        go_simp
        go_at_call 102; (with_reducible refine (E4'.out _ ?_).mono ?_); exact V4.out; rintro e w5 ⟨rfl, hb⟩; have V5 : Hid (Below W.heap.size W w5) := hb; clear hb
        go_wp2_with fail
        refine hK.out _ _ ?_ (fun hHeld => ?_)
        · exact HC.out _ V5.out
        clear hK K
        (try simp only [Act.put, List.setIfInBounds_toArray, List.set_cons_zero, List.set_cons_succ])
        refine wpAnyH_take (i := 10) (v := ?_) rfl (by kernel_rfl) (by kernel_rfl) (by kernel_rfl) (fun _ _ _ h => h) (Or.inl ⟨by kernel_rfl, ?_⟩) (by assumption) ?_
        rotate_left
        · (intro w' hSw; clear hSw; go_simp; (try with_reducible rfl))
        (try simp only [Act.put, List.setIfInBounds_toArray, List.set_cons_zero, List.set_cons_succ])
        refine wpAnyH_take (i := 11) (v := ?_) rfl (by kernel_rfl) (by kernel_rfl) (by kernel_rfl) (fun _ _ _ h => h) (Or.inl ⟨by kernel_rfl, ?_⟩) (by assumption) ?_
        rotate_left
        · (intro w' hSw; clear hSw; go_simp; (try with_reducible rfl))
        (try simp only [Act.put, List.setIfInBounds_toArray, List.set_cons_zero, List.set_cons_succ])
        refine wpAnyH_done (by kernel_rfl) ?_ _
        go_simp
        clear HC hHeld
        go_wp2
        go_ret
        exact ⟨rfl, H0.out.trans (V5.out.mono H0.out.size)⟩
    · have HS : Hid (¬ x.size = (n : Int)) := hs
      have hsd : decide (x.size = (n : Int)) = false := decide_eq_false hs
      rw [hsd]
      clear hs hsd E3 E4'
      go_enter Tryz.func88, Tryz.ntmps88
      go_wp2_with fail
      rw [← HW.out, ← HB.out]
      clear HW
      refine wp_region_held_drew (S := (fun X => X.heap[b]? = some (.cells #[.slice a n c, .string x.log, .int .i64 x.size, .string x.root, .int .i64 x.time, .int .i64 x.k, .slice a1 m1 c1, .slice a2 m2 c2] 90 (0, 0)))) (by kernel_rfl) ?_ (fun hHeld => ?_)
      · exact HC.out _ V0d.out
      refine wpAnyH_take (i := 0) (v := ?_) rfl (by kernel_rfl) (by kernel_rfl) (by kernel_rfl) (fun _ _ _ h => h) (Or.inl ⟨by kernel_rfl, ?_⟩) (by assumption) ?_
      rotate_left
      · (intro w' hSw; clear hSw; go_simp; (try with_reducible rfl))
      (try simp only [Act.put, List.setIfInBounds_toArray, List.set_cons_zero, List.set_cons_succ])
      refine wpAnyH_take (i := 1) (v := ?_) rfl (by kernel_rfl) (by kernel_rfl) (by kernel_rfl) (fun _ _ _ h => h) (Or.inl ⟨by kernel_rfl, ?_⟩) (by assumption) ?_
      rotate_left
      · (intro w' hSw; (try dsimp only at hSw); have g0 := row_here hSw 0 _ rfl; clear hSw; go_simp; (try with_reducible rfl))
      (try simp only [Act.put, List.setIfInBounds_toArray, List.set_cons_zero, List.set_cons_succ])
      refine wpAnyH_ready (rs := [2]) (by kernel_rfl) (by simp) ?_
      refine AllReadyH.cons (by simp only [List.getElem?_toArray, List.getElem?_cons_succ, List.getElem?_cons_zero]; rfl) (fun K hK => ?_) AllReadyH.nil
      go_simp
      go_at_call 57; (with_reducible refine (E1.out _ ?_).mono ?_); exact V0d.out; rintro e w1 ⟨rfl, hb⟩; have V1 : Hid (Below W.heap.size W w1) := hb; clear hb
      go_wp2_with fail
      refine hK.out _ _ ?_ (fun hHeld => ?_)
      · exact HC.out _ V1.out
      clear hK K
      (try simp only [Act.put, List.setIfInBounds_toArray, List.set_cons_zero, List.set_cons_succ])
      refine wpAnyH_take (i := 3) (v := ?_) rfl (by kernel_rfl) (by kernel_rfl) (by kernel_rfl) (fun _ _ _ h => h) (Or.inl ⟨by kernel_rfl, ?_⟩) (by assumption) ?_
      rotate_left
      · (intro w' hSw; clear hSw; go_simp; (try with_reducible rfl))
      (try simp only [Act.put, List.setIfInBounds_toArray, List.set_cons_zero, List.set_cons_succ])
      refine wpAnyH_take (i := 4) (v := ?_) rfl (by kernel_rfl) (by kernel_rfl) (by kernel_rfl) (fun _ _ _ h => h) (Or.inl ⟨by kernel_rfl, ?_⟩) (by assumption) ?_
      rotate_left
      · (intro w' hSw; clear hSw; go_simp; (try with_reducible rfl))
      (try simp only [Act.put, List.setIfInBounds_toArray, List.set_cons_zero, List.set_cons_succ])
      refine wpAnyH_take (i := 5) (v := ?_) rfl (by kernel_rfl) (by kernel_rfl) (by kernel_rfl) (fun _ _ _ h => h) (Or.inl ⟨by kernel_rfl, ?_⟩) (by assumption) ?_
      rotate_left
      · (intro w' hSw; clear hSw; go_simp; (try with_reducible rfl))
      (try simp only [Act.put, List.setIfInBounds_toArray, List.set_cons_zero, List.set_cons_succ])
      refine wpAnyH_take (i := 6) (v := ?_) rfl (by kernel_rfl) (by kernel_rfl) (by kernel_rfl) (fun _ _ _ h => h) (Or.inl ⟨by kernel_rfl, ?_⟩) (by assumption) ?_
      rotate_left
      · (intro w' hSw; clear hSw; go_simp; (try with_reducible rfl))
      (try simp only [Act.put, List.setIfInBounds_toArray, List.set_cons_zero, List.set_cons_succ])
      refine wpAnyH_take (i := 7) (v := ?_) rfl (by kernel_rfl) (by kernel_rfl) (by kernel_rfl) (fun _ _ _ h => h) (Or.inl ⟨by kernel_rfl, ?_⟩) (by assumption) ?_
      rotate_left
      · (intro w' hSw; (try dsimp only at hSw); have g2 := row_here hSw 2 _ rfl; clear hSw; go_simp; (try with_reducible rfl))
      (try simp only [Act.put, List.setIfInBounds_toArray, List.set_cons_zero, List.set_cons_succ])
      refine wpAnyH_take (i := 8) (v := ?_) rfl (by kernel_rfl) (by kernel_rfl) (by kernel_rfl) (fun _ _ _ h => h) (Or.inl ⟨by kernel_rfl, ?_⟩) (by assumption) ?_
      rotate_left
      · (intro w' hSw; (try dsimp only at hSw); have g0 := row_here hSw 0 _ rfl; have g1 := row_here hSw 1 _ rfl; have g2 := row_here hSw 2 _ rfl; have g3 := row_here hSw 3 _ rfl; have g4 := row_here hSw 4 _ rfl; have g5 := row_here hSw 5 _ rfl; have g6 := row_here hSw 6 _ rfl; have g7 := row_here hSw 7 _ rfl; clear hSw; go_simp; (try with_reducible rfl))
      (try simp only [Act.put, List.setIfInBounds_toArray, List.set_cons_zero, List.set_cons_succ])
      refine wpAnyH_ready (rs := [9]) (by kernel_rfl) (by simp) ?_
      refine AllReadyH.cons (by simp only [List.getElem?_toArray, List.getElem?_cons_succ, List.getElem?_cons_zero]; rfl) (fun K hK => ?_) AllReadyH.nil
      go_simp
      go_at_call 59; (with_reducible refine (E2.out _ ?_).mono ?_); exact V1.out; rintro e w2 ⟨rfl, hb⟩; have V2 : Hid (Below W.heap.size W w2) := hb; clear hb
      go_wp2_with fail
      refine hK.out _ _ ?_ (fun hHeld => ?_)
      · exact HC.out _ V2.out
      clear hK K
      (try simp only [Act.put, List.setIfInBounds_toArray, List.set_cons_zero, List.set_cons_succ])
      refine wpAnyH_take (i := 10) (v := .bool true) rfl (by kernel_rfl) (by kernel_rfl) (by kernel_rfl) (fun _ _ _ h => h) (Or.inl ⟨by kernel_rfl, ?_⟩) (by assumption) ?_
      · (intro w' hSw; clear hSw; go_simp; first | done | (with_reducible rfl) | simp [HS.out])
      (try simp only [Act.put, List.setIfInBounds_toArray, List.set_cons_zero, List.set_cons_succ])
      refine wpAnyH_take (i := 11) (v := ?_) rfl (by kernel_rfl) (by kernel_rfl) (by kernel_rfl) (fun _ _ _ h => h) (Or.inl ⟨by kernel_rfl, ?_⟩) (by assumption) ?_
      rotate_left
      · (intro w' hSw; clear hSw; go_simp; (try with_reducible rfl))
      (try simp only [Act.put, List.setIfInBounds_toArray, List.set_cons_zero, List.set_cons_succ])
      refine wpAnyH_done (by kernel_rfl) ?_ _
      go_simp
      clear HC hHeld
      go_wp2
      go_ret
      exact ⟨rfl, H0.out.trans (V2.out.mono H0.out.size)⟩
end Go.Proofs.YtpglcbidfghfkabGreatDoor
