/-
  Is a head of just what was read? The program's test.
-/
import Derived.Test.YtcenlgfopmahcaaGreatDoorPkHolding
import Derived.Test.YtcenlgfopmahcaaGreatDoorPkMem
import Derived.Test.YtcenlgfopmahcaaGreatDoorPkCells
import Derived.Test.YtcenlgfopmahcaaGreatDoorPkTexts
import Derived.Test.YtcenlgfopmahcaaGreatDoorPkTextRows
import Derived.Test.YtcenlgfopmahcaaGreatDoorPkMix
import Derived.Deep.RegionWith
import Derived.Deep.RegionHeld3
import Derived.Laws.BitsAllLaws
namespace Go.Proofs.YtcenlgfopmahcaaGreatDoor
open Go.RowKit Go.Lib
set_option linter.unusedVariables false
set_option linter.unusedSimpArgs false

/-- The head is of just these entries, or there is none of nothing. -/
def agreesB (en : List ByteArray) (x : Hd) (m1 m2 : Nat) : Bool := rightB en && (decide (x.size = (en.length : Int)) && (zeroX x m1 m2 || ((treeB en).toList == x.root.toList)))
set_option maxHeartbeats 4000000 in
set_option maxRecDepth 10000 in
theorem agrees_any (x : Hd) (v : Value) (en : List ByteArray) (a1 a2 : Option Addr) (m1 c1 m2 c2 : Nat) (w : World) (h : Texts w w.heap.size v en) (hl : en.length ≤ 1048576) (hK : Keys w) :
    Calls Tryz.prog 61 #[.agg #[v, .string x.log, .int .i64 x.size, .string x.root, .int .i64 x.time, .int .i64 x.k, .slice a1 m1 c1, .slice a2 m2 c2]] w fun e w' => e = .returned (.bool (agreesB en x m1 m2)) ∧ Below w.heap.size w w' := by
  have hT := h
  obtain ⟨a, c, rfl, hq0⟩ := id h
  obtain ⟨W, hW⟩ : ∃ W, W = w.alloc (.cells #[.slice a en.length c, .string x.log, .int .i64 x.size, .string x.root, .int .i64 x.time, .int .i64 x.k, .slice a1 m1 c1, .slice a2 m2 c2] 82) := ⟨_, rfl⟩
  have hbW : Below w.heap.size w W := by rw [hW]; exact (Below.refl _ _).alloc (Nat.le_refl _) _
  have hgW : W.heap[w.heap.size]? = some (.cells #[.slice a en.length c, .string x.log, .int .i64 x.size, .string x.root, .int .i64 x.time, .int .i64 x.k, .slice a1 m1 c1, .slice a2 m2 c2] 82 (0, 0)) := by rw [hW]; exact heap_alloc_new w _
  have hKW : Keys W := hK.below hbW hK.lt
  have E1 : Hid (∀ X, Below W.heap.size W X → Calls Tryz.prog 76 #[.slice a en.length c] X fun e w' => e = .returned (.bool (rightB en)) ∧ Below W.heap.size W w') := fun X q => (entriesRight_any _ en X X.heap.size ((hT.on hbW).on q) hl).mono fun e w' h => ⟨h.1, by rw [h.2]; exact q⟩
  have E2 : Hid (∀ X, Below W.heap.size W X → Calls Tryz.prog 77 #[.agg #[.slice a en.length c, .string x.log, .int .i64 x.size, .string x.root, .int .i64 x.time, .int .i64 x.k, .slice a1 m1 c1, .slice a2 m2 c2]] X fun e w' => e = .returned (.int .i64 (en.length : Int)) ∧ Below W.heap.size W w') := fun X q => (many_any x a a1 a2 en.length c m1 c1 m2 c2 X).mono fun e w' h => ⟨h.1, q.trans (h.2.mono q.size)⟩
  have E3 : Hid (∀ X, Below W.heap.size W X → Calls Tryz.prog 47 #[.agg #[.slice a en.length c, .string x.log, .int .i64 x.size, .string x.root, .int .i64 x.time, .int .i64 x.k, .slice a1 m1 c1, .slice a2 m2 c2]] X fun e w' => e = .returned (.bool (zeroX x m1 m2)) ∧ Below W.heap.size W w') := fun X q => (headless_any x a a1 a2 en.length c m1 c1 m2 c2 X).mono fun e w' h => ⟨h.1, q.trans (h.2.mono q.size)⟩
  have E4 : Hid (rightB en = true → ∀ X, Below W.heap.size W X → Calls Tryz.prog 78 #[.agg #[.slice a en.length c, .string x.log, .int .i64 x.size, .string x.root, .int .i64 x.time, .int .i64 x.k, .slice a1 m1 c1, .slice a2 m2 c2], .int .i64 (en.length : Int), .string x.root] X fun e w' => e = .returned (.bool ((treeB en).toList == x.root.toList)) ∧ Below W.heap.size W w') := fun hr X q => by
    have := begins_any x (.slice a en.length c) en a1 a2 m1 c1 m2 c2 en.length x.root X ((hT.on hbW).on q) (Nat.le_refl _) hl (fun j hj => rightB_at hr hj) (hKW.below q hKW.lt)
    rw [List.take_length] at this
    exact this.mono fun e w' h => ⟨h.1, q.trans (h.2.mono q.size)⟩
  have HC : Hid (∀ X, Below W.heap.size W X → X.heap[w.heap.size]? = some (.cells #[.slice a en.length c, .string x.log, .int .i64 x.size, .string x.root, .int .i64 x.time, .int .i64 x.k, .slice a1 m1 c1, .slice a2 m2 c2] 82 (0, 0))) := fun X q => (q.block _ (Array.getElem?_eq_some_iff.1 hgW).1).trans hgW
  have H0 : Hid (Below w.heap.size w W) := hbW
  have HW : Hid (W = w.alloc (.cells #[.slice a en.length c, .string x.log, .int .i64 x.size, .string x.root, .int .i64 x.time, .int .i64 x.k, .slice a1 m1 c1, .slice a2 m2 c2] 82)) := hW
  have V0d : Hid (Below W.heap.size W W.drew) := below_drew' (Below.refl _ _)
  obtain ⟨b, hb⟩ : ∃ b, b = w.heap.size := ⟨_, rfl⟩
  have HB : Hid (b = w.heap.size) := hb
  rw [← hb] at HC
  have zl : en.length ≤ 1048576 := hl
  clear hq0 h hT hl hK hKW hbW hgW hW hb
  unfold agreesB
  generalize zeroX x m1 m2 = z at *
  cases hr : rightB en with
  | false =>
    rw [hr] at E1
    clear E2 E3 E4 hr
    generalize en.length = n at *
    go_enter Tryz.func61, Tryz.ntmps61
    go_wp2_with fail
    rw [← HW.out, ← HB.out]
    clear HW
    refine wp_region_held_drew (S := (fun X => X.heap[b]? = some (.cells #[.slice a n c, .string x.log, .int .i64 x.size, .string x.root, .int .i64 x.time, .int .i64 x.k, .slice a1 m1 c1, .slice a2 m2 c2] 82 (0, 0)))) (by kernel_rfl) ?_ (fun hHeld => ?_)
    · exact HC.out _ V0d.out
    refine wpAnyH_take (i := 0) (v := ?_) rfl (by kernel_rfl) (by kernel_rfl) (by kernel_rfl) (fun _ _ _ h => h) (Or.inl ⟨by kernel_rfl, ?_⟩) (by assumption) ?_
    rotate_left
    · (intro w' hSw; clear hSw; go_simp; (try with_reducible rfl))
    (try simp only [Act.put, List.setIfInBounds_toArray, List.set_cons_zero, List.set_cons_succ])
    refine wpAnyH_take (i := 1) (v := ?_) rfl (by kernel_rfl) (by kernel_rfl) (by kernel_rfl) (fun _ _ _ h => h) (Or.inl ⟨by kernel_rfl, ?_⟩) (by assumption) ?_
    rotate_left
    · (intro w' hSw; (try dsimp only at hSw); have g0 := row_here hSw 0 _ rfl; clear hSw; go_simp; (try with_reducible rfl))
    (try simp only [Act.put, List.setIfInBounds_toArray, List.set_cons_zero, List.set_cons_succ])
    refine wpAnyH_ready (rs := [2]) (by kernel_rfl) (by simp) ?_
    refine AllReadyH.cons (by simp only [List.getElem?_toArray, List.getElem?_cons_succ, List.getElem?_cons_zero]; rfl) (fun K hK => ?_) AllReadyH.nil
    go_simp
    go_at_call 76; (with_reducible refine (E1.out _ ?_).mono ?_); exact V0d.out; rintro e w1 ⟨rfl, hb⟩; have V1 : Hid (Below W.heap.size W w1) := hb; clear hb
    go_wp2_with fail
    refine hK.out _ _ ?_ (fun hHeld => ?_)
    · exact HC.out _ V1.out
    clear hK K
    (try simp only [Act.put, List.setIfInBounds_toArray, List.set_cons_zero, List.set_cons_succ])
    refine wpAnyH_take (i := 3) (v := ?_) rfl (by kernel_rfl) (by kernel_rfl) (by kernel_rfl) (fun _ _ _ h => h) (Or.inl ⟨by kernel_rfl, ?_⟩) (by assumption) ?_
    rotate_left
    · (intro w' hSw; clear hSw; go_simp; (try with_reducible rfl))
    (try simp only [Act.put, List.setIfInBounds_toArray, List.set_cons_zero, List.set_cons_succ])
    refine wpAnyH_take (i := 4) (v := ?_) rfl (by kernel_rfl) (by kernel_rfl) (by kernel_rfl) (fun _ _ _ h => h) (Or.inl ⟨by kernel_rfl, ?_⟩) (by assumption) ?_
    rotate_left
    · (intro w' hSw; clear hSw; go_simp; (try with_reducible rfl))
    (try simp only [Act.put, List.setIfInBounds_toArray, List.set_cons_zero, List.set_cons_succ])
    refine wpAnyH_take (i := 5) (v := undef) rfl (by kernel_rfl) (by kernel_rfl) (by kernel_rfl) (fun _ _ _ h => h) (Or.inr ⟨by kernel_rfl, rfl⟩) (by assumption) ?_
    (try simp only [Act.put, List.setIfInBounds_toArray, List.set_cons_zero, List.set_cons_succ])
    refine wpAnyH_take (i := 6) (v := undef) rfl (by kernel_rfl) (by kernel_rfl) (by kernel_rfl) (fun _ _ _ h => h) (Or.inr ⟨by kernel_rfl, rfl⟩) (by assumption) ?_
    (try simp only [Act.put, List.setIfInBounds_toArray, List.set_cons_zero, List.set_cons_succ])
    refine wpAnyH_take (i := 7) (v := undef) rfl (by kernel_rfl) (by kernel_rfl) (by kernel_rfl) (fun _ _ _ h => h) (Or.inr ⟨by kernel_rfl, rfl⟩) (by assumption) ?_
    (try simp only [Act.put, List.setIfInBounds_toArray, List.set_cons_zero, List.set_cons_succ])
    refine wpAnyH_take (i := 8) (v := undef) rfl (by kernel_rfl) (by kernel_rfl) (by kernel_rfl) (fun _ _ _ h => h) (Or.inr ⟨by kernel_rfl, rfl⟩) (by assumption) ?_
    (try simp only [Act.put, List.setIfInBounds_toArray, List.set_cons_zero, List.set_cons_succ])
    refine wpAnyH_take (i := 9) (v := undef) rfl (by kernel_rfl) (by kernel_rfl) (by kernel_rfl) (fun _ _ _ h => h) (Or.inr ⟨by kernel_rfl, rfl⟩) (by assumption) ?_
    (try simp only [Act.put, List.setIfInBounds_toArray, List.set_cons_zero, List.set_cons_succ])
    refine wpAnyH_take (i := 10) (v := undef) rfl (by kernel_rfl) (by kernel_rfl) (by kernel_rfl) (fun _ _ _ h => h) (Or.inr ⟨by kernel_rfl, rfl⟩) (by assumption) ?_
    (try simp only [Act.put, List.setIfInBounds_toArray, List.set_cons_zero, List.set_cons_succ])
    refine wpAnyH_take (i := 11) (v := ?_) rfl (by kernel_rfl) (by kernel_rfl) (by kernel_rfl) (fun _ _ _ h => h) (Or.inl ⟨by kernel_rfl, ?_⟩) (by assumption) ?_
    rotate_left
    · (intro w' hSw; clear hSw; go_simp; (try with_reducible rfl))
    (try simp only [Act.put, List.setIfInBounds_toArray, List.set_cons_zero, List.set_cons_succ])
    refine wpAnyH_done (by kernel_rfl) ?_ _
    go_simp
    clear HC hHeld
    go_wp2
    go_ret
    exact ⟨rfl, H0.out.trans (V1.out.mono H0.out.size)⟩
  | true =>
    have E4' : Hid (∀ X, Below W.heap.size W X → Calls Tryz.prog 78 #[.agg #[.slice a en.length c, .string x.log, .int .i64 x.size, .string x.root, .int .i64 x.time, .int .i64 x.k, .slice a1 m1 c1, .slice a2 m2 c2], .int .i64 (en.length : Int), .string x.root] X fun e w' => e = .returned (.bool ((treeB en).toList == x.root.toList)) ∧ Below W.heap.size W w') := E4.out hr
    rw [hr] at E1
    clear E4 hr
    generalize ((treeB en).toList == x.root.toList) = G at *
    generalize en.length = n at *
    by_cases hs : x.size = (n : Int)
    · have HS : Hid (x.size = (n : Int)) := hs
      have hsd : decide (x.size = (n : Int)) = true := decide_eq_true hs
      rw [hsd]
      clear hs hsd
      go_enter Tryz.func61, Tryz.ntmps61
      go_wp2_with fail
      rw [← HW.out, ← HB.out]
      clear HW
      refine wp_region_held_drew (S := (fun X => X.heap[b]? = some (.cells #[.slice a n c, .string x.log, .int .i64 x.size, .string x.root, .int .i64 x.time, .int .i64 x.k, .slice a1 m1 c1, .slice a2 m2 c2] 82 (0, 0)))) (by kernel_rfl) ?_ (fun hHeld => ?_)
      · exact HC.out _ V0d.out
      refine wpAnyH_take (i := 0) (v := ?_) rfl (by kernel_rfl) (by kernel_rfl) (by kernel_rfl) (fun _ _ _ h => h) (Or.inl ⟨by kernel_rfl, ?_⟩) (by assumption) ?_
      rotate_left
      · (intro w' hSw; clear hSw; go_simp; (try with_reducible rfl))
      (try simp only [Act.put, List.setIfInBounds_toArray, List.set_cons_zero, List.set_cons_succ])
      refine wpAnyH_take (i := 1) (v := ?_) rfl (by kernel_rfl) (by kernel_rfl) (by kernel_rfl) (fun _ _ _ h => h) (Or.inl ⟨by kernel_rfl, ?_⟩) (by assumption) ?_
      rotate_left
      · (intro w' hSw; (try dsimp only at hSw); have g0 := row_here hSw 0 _ rfl; clear hSw; go_simp; (try with_reducible rfl))
      (try simp only [Act.put, List.setIfInBounds_toArray, List.set_cons_zero, List.set_cons_succ])
      refine wpAnyH_ready (rs := [2]) (by kernel_rfl) (by simp) ?_
      refine AllReadyH.cons (by simp only [List.getElem?_toArray, List.getElem?_cons_succ, List.getElem?_cons_zero]; rfl) (fun K hK => ?_) AllReadyH.nil
      go_simp
      go_at_call 76; (with_reducible refine (E1.out _ ?_).mono ?_); exact V0d.out; rintro e w1 ⟨rfl, hb⟩; have V1 : Hid (Below W.heap.size W w1) := hb; clear hb
      go_wp2_with fail
      refine hK.out _ _ ?_ (fun hHeld => ?_)
      · exact HC.out _ V1.out
      clear hK K
      (try simp only [Act.put, List.setIfInBounds_toArray, List.set_cons_zero, List.set_cons_succ])
      refine wpAnyH_take (i := 3) (v := ?_) rfl (by kernel_rfl) (by kernel_rfl) (by kernel_rfl) (fun _ _ _ h => h) (Or.inl ⟨by kernel_rfl, ?_⟩) (by assumption) ?_
      rotate_left
      · (intro w' hSw; clear hSw; go_simp; (try with_reducible rfl))
      (try simp only [Act.put, List.setIfInBounds_toArray, List.set_cons_zero, List.set_cons_succ])
      refine wpAnyH_take (i := 4) (v := ?_) rfl (by kernel_rfl) (by kernel_rfl) (by kernel_rfl) (fun _ _ _ h => h) (Or.inl ⟨by kernel_rfl, ?_⟩) (by assumption) ?_
      rotate_left
      · (intro w' hSw; clear hSw; go_simp; (try with_reducible rfl))
      (try simp only [Act.put, List.setIfInBounds_toArray, List.set_cons_zero, List.set_cons_succ])
      refine wpAnyH_take (i := 5) (v := ?_) rfl (by kernel_rfl) (by kernel_rfl) (by kernel_rfl) (fun _ _ _ h => h) (Or.inl ⟨by kernel_rfl, ?_⟩) (by assumption) ?_
      rotate_left
      · (intro w' hSw; clear hSw; go_simp; (try with_reducible rfl))
      (try simp only [Act.put, List.setIfInBounds_toArray, List.set_cons_zero, List.set_cons_succ])
      refine wpAnyH_take (i := 6) (v := ?_) rfl (by kernel_rfl) (by kernel_rfl) (by kernel_rfl) (fun _ _ _ h => h) (Or.inl ⟨by kernel_rfl, ?_⟩) (by assumption) ?_
      rotate_left
      · (intro w' hSw; clear hSw; go_simp; (try with_reducible rfl))
      (try simp only [Act.put, List.setIfInBounds_toArray, List.set_cons_zero, List.set_cons_succ])
      refine wpAnyH_take (i := 7) (v := ?_) rfl (by kernel_rfl) (by kernel_rfl) (by kernel_rfl) (fun _ _ _ h => h) (Or.inl ⟨by kernel_rfl, ?_⟩) (by assumption) ?_
      rotate_left
      · (intro w' hSw; (try dsimp only at hSw); have g2 := row_here hSw 2 _ rfl; clear hSw; go_simp; (try with_reducible rfl))
      (try simp only [Act.put, List.setIfInBounds_toArray, List.set_cons_zero, List.set_cons_succ])
      refine wpAnyH_take (i := 8) (v := ?_) rfl (by kernel_rfl) (by kernel_rfl) (by kernel_rfl) (fun _ _ _ h => h) (Or.inl ⟨by kernel_rfl, ?_⟩) (by assumption) ?_
      rotate_left
      · (intro w' hSw; (try dsimp only at hSw); have g0 := row_here hSw 0 _ rfl; have g1 := row_here hSw 1 _ rfl; have g2 := row_here hSw 2 _ rfl; have g3 := row_here hSw 3 _ rfl; have g4 := row_here hSw 4 _ rfl; have g5 := row_here hSw 5 _ rfl; have g6 := row_here hSw 6 _ rfl; have g7 := row_here hSw 7 _ rfl; clear hSw; go_simp; (try with_reducible rfl))
      (try simp only [Act.put, List.setIfInBounds_toArray, List.set_cons_zero, List.set_cons_succ])
      refine wpAnyH_ready (rs := [9]) (by kernel_rfl) (by simp) ?_
      refine AllReadyH.cons (by simp only [List.getElem?_toArray, List.getElem?_cons_succ, List.getElem?_cons_zero]; rfl) (fun K hK => ?_) AllReadyH.nil
      go_simp
      go_at_call 77; (with_reducible refine (E2.out _ ?_).mono ?_); exact V1.out; rintro e w2 ⟨rfl, hb⟩; have V2 : Hid (Below W.heap.size W w2) := hb; clear hb
      go_wp2_with fail
      refine hK.out _ _ ?_ (fun hHeld => ?_)
      · exact HC.out _ V2.out
      clear hK K
      (try simp only [Act.put, List.setIfInBounds_toArray, List.set_cons_zero, List.set_cons_succ])
      refine wpAnyH_take (i := 10) (v := .bool false) rfl (by kernel_rfl) (by kernel_rfl) (by kernel_rfl) (fun _ _ _ h => h) (Or.inl ⟨by kernel_rfl, ?_⟩) (by assumption) ?_
      · (intro w' hSw; clear hSw; go_simp; first | done | (with_reducible rfl) | simp [HS.out])
      (try simp only [Act.put, List.setIfInBounds_toArray, List.set_cons_zero, List.set_cons_succ])
      refine wpAnyH_take (i := 11) (v := ?_) rfl (by kernel_rfl) (by kernel_rfl) (by kernel_rfl) (fun _ _ _ h => h) (Or.inl ⟨by kernel_rfl, ?_⟩) (by assumption) ?_
      rotate_left
      · (intro w' hSw; clear hSw; go_simp; (try with_reducible rfl))
      (try simp only [Act.put, List.setIfInBounds_toArray, List.set_cons_zero, List.set_cons_succ])
      refine wpAnyH_done (by kernel_rfl) ?_ _
      go_simp
      clear hHeld
      cases z with
      | true =>
        go_wp2_with fail
        refine wp_region_held_drew (S := (fun X => X.heap[b]? = some (.cells #[.slice a n c, .string x.log, .int .i64 x.size, .string x.root, .int .i64 x.time, .int .i64 x.k, .slice a1 m1 c1, .slice a2 m2 c2] 82 (0, 0)))) (by kernel_rfl) ?_ (fun hHeld => ?_)
        · exact HC.out _ (below_drew' V2.out)
        refine wpAnyH_take (i := 0) (v := ?_) rfl (by kernel_rfl) (by kernel_rfl) (by kernel_rfl) (fun _ _ _ h => h) (Or.inl ⟨by kernel_rfl, ?_⟩) (by assumption) ?_
        rotate_left
        · (intro w' hSw; (try dsimp only at hSw); have g0 := row_here hSw 0 _ rfl; have g1 := row_here hSw 1 _ rfl; have g2 := row_here hSw 2 _ rfl; have g3 := row_here hSw 3 _ rfl; have g4 := row_here hSw 4 _ rfl; have g5 := row_here hSw 5 _ rfl; have g6 := row_here hSw 6 _ rfl; have g7 := row_here hSw 7 _ rfl; clear hSw; go_simp; (try with_reducible rfl))
        (try simp only [Act.put, List.setIfInBounds_toArray, List.set_cons_zero, List.set_cons_succ])
        refine wpAnyH_ready (rs := [1]) (by kernel_rfl) (by simp) ?_
        refine AllReadyH.cons (by simp only [List.getElem?_toArray, List.getElem?_cons_succ, List.getElem?_cons_zero]; rfl) (fun K hK => ?_) AllReadyH.nil
        go_simp
        go_at_call 47; (with_reducible refine (E3.out _ ?_).mono ?_); exact (below_drew' V2.out); rintro e w3 ⟨rfl, hb⟩; have V3 : Hid (Below W.heap.size W w3) := hb; clear hb
        go_wp2_with fail
        refine hK.out _ _ ?_ (fun hHeld => ?_)
        · exact HC.out _ V3.out
        clear hK K
        (try simp only [Act.put, List.setIfInBounds_toArray, List.set_cons_zero, List.set_cons_succ])
        refine wpAnyH_take (i := 2) (v := ?_) rfl (by kernel_rfl) (by kernel_rfl) (by kernel_rfl) (fun _ _ _ h => h) (Or.inl ⟨by kernel_rfl, ?_⟩) (by assumption) ?_
        rotate_left
        · (intro w' hSw; clear hSw; go_simp; (try with_reducible rfl))
        (try simp only [Act.put, List.setIfInBounds_toArray, List.set_cons_zero, List.set_cons_succ])
        refine wpAnyH_take (i := 3) (v := undef) rfl (by kernel_rfl) (by kernel_rfl) (by kernel_rfl) (fun _ _ _ h => h) (Or.inr ⟨by kernel_rfl, rfl⟩) (by assumption) ?_
        (try simp only [Act.put, List.setIfInBounds_toArray, List.set_cons_zero, List.set_cons_succ])
        refine wpAnyH_take (i := 4) (v := undef) rfl (by kernel_rfl) (by kernel_rfl) (by kernel_rfl) (fun _ _ _ h => h) (Or.inr ⟨by kernel_rfl, rfl⟩) (by assumption) ?_
        (try simp only [Act.put, List.setIfInBounds_toArray, List.set_cons_zero, List.set_cons_succ])
        refine wpAnyH_take (i := 5) (v := undef) rfl (by kernel_rfl) (by kernel_rfl) (by kernel_rfl) (fun _ _ _ h => h) (Or.inr ⟨by kernel_rfl, rfl⟩) (by assumption) ?_
        (try simp only [Act.put, List.setIfInBounds_toArray, List.set_cons_zero, List.set_cons_succ])
        refine wpAnyH_take (i := 6) (v := undef) rfl (by kernel_rfl) (by kernel_rfl) (by kernel_rfl) (fun _ _ _ h => h) (Or.inr ⟨by kernel_rfl, rfl⟩) (by assumption) ?_
        (try simp only [Act.put, List.setIfInBounds_toArray, List.set_cons_zero, List.set_cons_succ])
        refine wpAnyH_take (i := 7) (v := undef) rfl (by kernel_rfl) (by kernel_rfl) (by kernel_rfl) (fun _ _ _ h => h) (Or.inr ⟨by kernel_rfl, rfl⟩) (by assumption) ?_
        (try simp only [Act.put, List.setIfInBounds_toArray, List.set_cons_zero, List.set_cons_succ])
        refine wpAnyH_take (i := 8) (v := undef) rfl (by kernel_rfl) (by kernel_rfl) (by kernel_rfl) (fun _ _ _ h => h) (Or.inr ⟨by kernel_rfl, rfl⟩) (by assumption) ?_
        (try simp only [Act.put, List.setIfInBounds_toArray, List.set_cons_zero, List.set_cons_succ])
        refine wpAnyH_take (i := 9) (v := undef) rfl (by kernel_rfl) (by kernel_rfl) (by kernel_rfl) (fun _ _ _ h => h) (Or.inr ⟨by kernel_rfl, rfl⟩) (by assumption) ?_
        (try simp only [Act.put, List.setIfInBounds_toArray, List.set_cons_zero, List.set_cons_succ])
        refine wpAnyH_take (i := 10) (v := ?_) rfl (by kernel_rfl) (by kernel_rfl) (by kernel_rfl) (fun _ _ _ h => h) (Or.inl ⟨by kernel_rfl, ?_⟩) (by assumption) ?_
        rotate_left
        · (intro w' hSw; clear hSw; go_simp; (try with_reducible rfl))
        (try simp only [Act.put, List.setIfInBounds_toArray, List.set_cons_zero, List.set_cons_succ])
        refine wpAnyH_take (i := 11) (v := ?_) rfl (by kernel_rfl) (by kernel_rfl) (by kernel_rfl) (fun _ _ _ h => h) (Or.inl ⟨by kernel_rfl, ?_⟩) (by assumption) ?_
        rotate_left
        · (intro w' hSw; clear hSw; go_simp; (try with_reducible rfl))
        (try simp only [Act.put, List.setIfInBounds_toArray, List.set_cons_zero, List.set_cons_succ])
        refine wpAnyH_done (by kernel_rfl) ?_ _
        go_simp
        clear HC hHeld
        go_wp2
        go_ret
        exact ⟨rfl, H0.out.trans (V3.out.mono H0.out.size)⟩
      | false =>
        go_wp2_with fail
        refine wp_region_held_drew (S := (fun X => X.heap[b]? = some (.cells #[.slice a n c, .string x.log, .int .i64 x.size, .string x.root, .int .i64 x.time, .int .i64 x.k, .slice a1 m1 c1, .slice a2 m2 c2] 82 (0, 0)))) (by kernel_rfl) ?_ (fun hHeld => ?_)
        · exact HC.out _ (below_drew' V2.out)
        refine wpAnyH_take (i := 0) (v := ?_) rfl (by kernel_rfl) (by kernel_rfl) (by kernel_rfl) (fun _ _ _ h => h) (Or.inl ⟨by kernel_rfl, ?_⟩) (by assumption) ?_
        rotate_left
        · (intro w' hSw; (try dsimp only at hSw); have g0 := row_here hSw 0 _ rfl; have g1 := row_here hSw 1 _ rfl; have g2 := row_here hSw 2 _ rfl; have g3 := row_here hSw 3 _ rfl; have g4 := row_here hSw 4 _ rfl; have g5 := row_here hSw 5 _ rfl; have g6 := row_here hSw 6 _ rfl; have g7 := row_here hSw 7 _ rfl; clear hSw; go_simp; (try with_reducible rfl))
        (try simp only [Act.put, List.setIfInBounds_toArray, List.set_cons_zero, List.set_cons_succ])
        refine wpAnyH_ready (rs := [1]) (by kernel_rfl) (by simp) ?_
        refine AllReadyH.cons (by simp only [List.getElem?_toArray, List.getElem?_cons_succ, List.getElem?_cons_zero]; rfl) (fun K hK => ?_) AllReadyH.nil
        go_simp
        go_at_call 47; (with_reducible refine (E3.out _ ?_).mono ?_); exact (below_drew' V2.out); rintro e w3 ⟨rfl, hb⟩; have V3 : Hid (Below W.heap.size W w3) := hb; clear hb
        go_wp2_with fail
        refine hK.out _ _ ?_ (fun hHeld => ?_)
        · exact HC.out _ V3.out
        clear hK K
        (try simp only [Act.put, List.setIfInBounds_toArray, List.set_cons_zero, List.set_cons_succ])
        refine wpAnyH_take (i := 2) (v := ?_) rfl (by kernel_rfl) (by kernel_rfl) (by kernel_rfl) (fun _ _ _ h => h) (Or.inl ⟨by kernel_rfl, ?_⟩) (by assumption) ?_
        rotate_left
        · (intro w' hSw; clear hSw; go_simp; (try with_reducible rfl))
        (try simp only [Act.put, List.setIfInBounds_toArray, List.set_cons_zero, List.set_cons_succ])
        refine wpAnyH_take (i := 3) (v := ?_) rfl (by kernel_rfl) (by kernel_rfl) (by kernel_rfl) (fun _ _ _ h => h) (Or.inl ⟨by kernel_rfl, ?_⟩) (by assumption) ?_
        rotate_left
        · (intro w' hSw; (try dsimp only at hSw); have g0 := row_here hSw 0 _ rfl; have g1 := row_here hSw 1 _ rfl; have g2 := row_here hSw 2 _ rfl; have g3 := row_here hSw 3 _ rfl; have g4 := row_here hSw 4 _ rfl; have g5 := row_here hSw 5 _ rfl; have g6 := row_here hSw 6 _ rfl; have g7 := row_here hSw 7 _ rfl; clear hSw; go_simp; (try with_reducible rfl))
        (try simp only [Act.put, List.setIfInBounds_toArray, List.set_cons_zero, List.set_cons_succ])
        refine wpAnyH_take (i := 4) (v := ?_) rfl (by kernel_rfl) (by kernel_rfl) (by kernel_rfl) (fun _ _ _ h => h) (Or.inl ⟨by kernel_rfl, ?_⟩) (by assumption) ?_
        rotate_left
        · (intro w' hSw; (try dsimp only at hSw); have g0 := row_here hSw 0 _ rfl; have g1 := row_here hSw 1 _ rfl; have g2 := row_here hSw 2 _ rfl; have g3 := row_here hSw 3 _ rfl; have g4 := row_here hSw 4 _ rfl; have g5 := row_here hSw 5 _ rfl; have g6 := row_here hSw 6 _ rfl; have g7 := row_here hSw 7 _ rfl; clear hSw; go_simp; (try with_reducible rfl))
        (try simp only [Act.put, List.setIfInBounds_toArray, List.set_cons_zero, List.set_cons_succ])
        refine wpAnyH_take (i := 6) (v := ?_) rfl (by kernel_rfl) (by kernel_rfl) (by kernel_rfl) (fun _ _ _ h => h) (Or.inl ⟨by kernel_rfl, ?_⟩) (by assumption) ?_
        rotate_left
        · (intro w' hSw; clear hSw; go_simp; (try with_reducible rfl))
        (try simp only [Act.put, List.setIfInBounds_toArray, List.set_cons_zero, List.set_cons_succ])
        refine wpAnyH_take (i := 7) (v := ?_) rfl (by kernel_rfl) (by kernel_rfl) (by kernel_rfl) (fun _ _ _ h => h) (Or.inl ⟨by kernel_rfl, ?_⟩) (by assumption) ?_
        rotate_left
        · (intro w' hSw; clear hSw; go_simp; (try with_reducible rfl))
        (try simp only [Act.put, List.setIfInBounds_toArray, List.set_cons_zero, List.set_cons_succ])
        refine wpAnyH_take (i := 8) (v := ?_) rfl (by kernel_rfl) (by kernel_rfl) (by kernel_rfl) (fun _ _ _ h => h) (Or.inl ⟨by kernel_rfl, ?_⟩) (by assumption) ?_
        rotate_left
        · (intro w' hSw; (try dsimp only at hSw); have g3 := row_here hSw 3 _ rfl; clear hSw; go_simp; (try with_reducible rfl))
        (try simp only [Act.put, List.setIfInBounds_toArray, List.set_cons_zero, List.set_cons_succ])
        refine wpAnyH_ready (rs := [5]) (by kernel_rfl) (by simp) ?_
        refine AllReadyH.cons (by simp only [List.getElem?_toArray, List.getElem?_cons_succ, List.getElem?_cons_zero]; rfl) (fun K hK => ?_) AllReadyH.nil
        go_simp
        go_at_call 77; (with_reducible refine (E2.out _ ?_).mono ?_); exact V3.out; rintro e w4 ⟨rfl, hb⟩; have V4 : Hid (Below W.heap.size W w4) := hb; clear hb
        go_wp2_with fail
        refine hK.out _ _ ?_ (fun hHeld => ?_)
        · exact HC.out _ V4.out
        clear hK K
        (try simp only [Act.put, List.setIfInBounds_toArray, List.set_cons_zero, List.set_cons_succ])
        refine wpAnyH_ready (rs := [9]) (by kernel_rfl) (by simp) ?_
        refine AllReadyH.cons (by simp only [List.getElem?_toArray, List.getElem?_cons_succ, List.getElem?_cons_zero]; rfl) (fun K hK => ?_) AllReadyH.nil
        go_simp
        go_at_call 78; (with_reducible refine (E4'.out _ ?_).mono ?_); exact V4.out; rintro e w5 ⟨rfl, hb⟩; have V5 : Hid (Below W.heap.size W w5) := hb; clear hb
        go_wp2_with fail
        refine hK.out _ _ ?_ (fun hHeld => ?_)
        · exact HC.out _ V5.out
        clear hK K
        (try simp only [Act.put, List.setIfInBounds_toArray, List.set_cons_zero, List.set_cons_succ])
        refine wpAnyH_take (i := 10) (v := ?_) rfl (by kernel_rfl) (by kernel_rfl) (by kernel_rfl) (fun _ _ _ h => h) (Or.inl ⟨by kernel_rfl, ?_⟩) (by assumption) ?_
        rotate_left
        · (intro w' hSw; clear hSw; go_simp; (try with_reducible rfl))
        (try simp only [Act.put, List.setIfInBounds_toArray, List.set_cons_zero, List.set_cons_succ])
        refine wpAnyH_take (i := 11) (v := ?_) rfl (by kernel_rfl) (by kernel_rfl) (by kernel_rfl) (fun _ _ _ h => h) (Or.inl ⟨by kernel_rfl, ?_⟩) (by assumption) ?_
        rotate_left
        · (intro w' hSw; clear hSw; go_simp; (try with_reducible rfl))
        (try simp only [Act.put, List.setIfInBounds_toArray, List.set_cons_zero, List.set_cons_succ])
        refine wpAnyH_done (by kernel_rfl) ?_ _
        go_simp
        clear HC hHeld
        go_wp2
        go_ret
        exact ⟨rfl, H0.out.trans (V5.out.mono H0.out.size)⟩
    · have HS : Hid (¬ x.size = (n : Int)) := hs
      have hsd : decide (x.size = (n : Int)) = false := decide_eq_false hs
      rw [hsd]
      clear hs hsd E3 E4'
      go_enter Tryz.func61, Tryz.ntmps61
      go_wp2_with fail
      rw [← HW.out, ← HB.out]
      clear HW
      refine wp_region_held_drew (S := (fun X => X.heap[b]? = some (.cells #[.slice a n c, .string x.log, .int .i64 x.size, .string x.root, .int .i64 x.time, .int .i64 x.k, .slice a1 m1 c1, .slice a2 m2 c2] 82 (0, 0)))) (by kernel_rfl) ?_ (fun hHeld => ?_)
      · exact HC.out _ V0d.out
      refine wpAnyH_take (i := 0) (v := ?_) rfl (by kernel_rfl) (by kernel_rfl) (by kernel_rfl) (fun _ _ _ h => h) (Or.inl ⟨by kernel_rfl, ?_⟩) (by assumption) ?_
      rotate_left
      · (intro w' hSw; clear hSw; go_simp; (try with_reducible rfl))
      (try simp only [Act.put, List.setIfInBounds_toArray, List.set_cons_zero, List.set_cons_succ])
      refine wpAnyH_take (i := 1) (v := ?_) rfl (by kernel_rfl) (by kernel_rfl) (by kernel_rfl) (fun _ _ _ h => h) (Or.inl ⟨by kernel_rfl, ?_⟩) (by assumption) ?_
      rotate_left
      · (intro w' hSw; (try dsimp only at hSw); have g0 := row_here hSw 0 _ rfl; clear hSw; go_simp; (try with_reducible rfl))
      (try simp only [Act.put, List.setIfInBounds_toArray, List.set_cons_zero, List.set_cons_succ])
      refine wpAnyH_ready (rs := [2]) (by kernel_rfl) (by simp) ?_
      refine AllReadyH.cons (by simp only [List.getElem?_toArray, List.getElem?_cons_succ, List.getElem?_cons_zero]; rfl) (fun K hK => ?_) AllReadyH.nil
      go_simp
      go_at_call 76; (with_reducible refine (E1.out _ ?_).mono ?_); exact V0d.out; rintro e w1 ⟨rfl, hb⟩; have V1 : Hid (Below W.heap.size W w1) := hb; clear hb
      go_wp2_with fail
      refine hK.out _ _ ?_ (fun hHeld => ?_)
      · exact HC.out _ V1.out
      clear hK K
      (try simp only [Act.put, List.setIfInBounds_toArray, List.set_cons_zero, List.set_cons_succ])
      refine wpAnyH_take (i := 3) (v := ?_) rfl (by kernel_rfl) (by kernel_rfl) (by kernel_rfl) (fun _ _ _ h => h) (Or.inl ⟨by kernel_rfl, ?_⟩) (by assumption) ?_
      rotate_left
      · (intro w' hSw; clear hSw; go_simp; (try with_reducible rfl))
      (try simp only [Act.put, List.setIfInBounds_toArray, List.set_cons_zero, List.set_cons_succ])
      refine wpAnyH_take (i := 4) (v := ?_) rfl (by kernel_rfl) (by kernel_rfl) (by kernel_rfl) (fun _ _ _ h => h) (Or.inl ⟨by kernel_rfl, ?_⟩) (by assumption) ?_
      rotate_left
      · (intro w' hSw; clear hSw; go_simp; (try with_reducible rfl))
      (try simp only [Act.put, List.setIfInBounds_toArray, List.set_cons_zero, List.set_cons_succ])
      refine wpAnyH_take (i := 5) (v := ?_) rfl (by kernel_rfl) (by kernel_rfl) (by kernel_rfl) (fun _ _ _ h => h) (Or.inl ⟨by kernel_rfl, ?_⟩) (by assumption) ?_
      rotate_left
      · (intro w' hSw; clear hSw; go_simp; (try with_reducible rfl))
      (try simp only [Act.put, List.setIfInBounds_toArray, List.set_cons_zero, List.set_cons_succ])
      refine wpAnyH_take (i := 6) (v := ?_) rfl (by kernel_rfl) (by kernel_rfl) (by kernel_rfl) (fun _ _ _ h => h) (Or.inl ⟨by kernel_rfl, ?_⟩) (by assumption) ?_
      rotate_left
      · (intro w' hSw; clear hSw; go_simp; (try with_reducible rfl))
      (try simp only [Act.put, List.setIfInBounds_toArray, List.set_cons_zero, List.set_cons_succ])
      refine wpAnyH_take (i := 7) (v := ?_) rfl (by kernel_rfl) (by kernel_rfl) (by kernel_rfl) (fun _ _ _ h => h) (Or.inl ⟨by kernel_rfl, ?_⟩) (by assumption) ?_
      rotate_left
      · (intro w' hSw; (try dsimp only at hSw); have g2 := row_here hSw 2 _ rfl; clear hSw; go_simp; (try with_reducible rfl))
      (try simp only [Act.put, List.setIfInBounds_toArray, List.set_cons_zero, List.set_cons_succ])
      refine wpAnyH_take (i := 8) (v := ?_) rfl (by kernel_rfl) (by kernel_rfl) (by kernel_rfl) (fun _ _ _ h => h) (Or.inl ⟨by kernel_rfl, ?_⟩) (by assumption) ?_
      rotate_left
      · (intro w' hSw; (try dsimp only at hSw); have g0 := row_here hSw 0 _ rfl; have g1 := row_here hSw 1 _ rfl; have g2 := row_here hSw 2 _ rfl; have g3 := row_here hSw 3 _ rfl; have g4 := row_here hSw 4 _ rfl; have g5 := row_here hSw 5 _ rfl; have g6 := row_here hSw 6 _ rfl; have g7 := row_here hSw 7 _ rfl; clear hSw; go_simp; (try with_reducible rfl))
      (try simp only [Act.put, List.setIfInBounds_toArray, List.set_cons_zero, List.set_cons_succ])
      refine wpAnyH_ready (rs := [9]) (by kernel_rfl) (by simp) ?_
      refine AllReadyH.cons (by simp only [List.getElem?_toArray, List.getElem?_cons_succ, List.getElem?_cons_zero]; rfl) (fun K hK => ?_) AllReadyH.nil
      go_simp
      go_at_call 77; (with_reducible refine (E2.out _ ?_).mono ?_); exact V1.out; rintro e w2 ⟨rfl, hb⟩; have V2 : Hid (Below W.heap.size W w2) := hb; clear hb
      go_wp2_with fail
      refine hK.out _ _ ?_ (fun hHeld => ?_)
      · exact HC.out _ V2.out
      clear hK K
      (try simp only [Act.put, List.setIfInBounds_toArray, List.set_cons_zero, List.set_cons_succ])
      refine wpAnyH_take (i := 10) (v := .bool true) rfl (by kernel_rfl) (by kernel_rfl) (by kernel_rfl) (fun _ _ _ h => h) (Or.inl ⟨by kernel_rfl, ?_⟩) (by assumption) ?_
      · (intro w' hSw; clear hSw; go_simp; first | done | (with_reducible rfl) | simp [HS.out])
      (try simp only [Act.put, List.setIfInBounds_toArray, List.set_cons_zero, List.set_cons_succ])
      refine wpAnyH_take (i := 11) (v := ?_) rfl (by kernel_rfl) (by kernel_rfl) (by kernel_rfl) (fun _ _ _ h => h) (Or.inl ⟨by kernel_rfl, ?_⟩) (by assumption) ?_
      rotate_left
      · (intro w' hSw; clear hSw; go_simp; (try with_reducible rfl))
      (try simp only [Act.put, List.setIfInBounds_toArray, List.set_cons_zero, List.set_cons_succ])
      refine wpAnyH_done (by kernel_rfl) ?_ _
      go_simp
      clear HC hHeld
      go_wp2
      go_ret
      exact ⟨rfl, H0.out.trans (V2.out.mono H0.out.size)⟩
end Go.Proofs.YtcenlgfopmahcaaGreatDoor

/-
  The walks of PutNum, the document's and the program's: seven bits a byte, the lowest first.
-/
namespace Go.Proofs.YtcenlgfopmahcaaGreatDoor
open Go.RowKit Go.Lib
set_option linter.unusedVariables false

/-- The bytes of u, at most f + 1 of them. -/
def putN : Nat → Int → List UInt8
  | 0, x => [UInt8.ofNat x.toNat]
  | f + 1, x => if x < 128 then [UInt8.ofNat x.toNat] else UInt8.ofNat (x % 128 + 128).toNat :: putN f (x / 128)
/-- What n is ahead of cutting it into bytes. -/
def foldU (n : Int) : Int := if n < 0 then -2 * n - 1 else 2 * n
def putNum (n : Int) : List UInt8 := putN 10 (foldU n)
/-- 128 to the f. -/
def cap7 : Nat → Int
  | 0 => 1
  | f + 1 => 128 * cap7 f

theorem putN_last (f : Nat) {x : Int} (h : x < 128) : putN f x = [UInt8.ofNat x.toNat] := by
  cases f with
  | zero => rfl
  | succ f => simp [putN, h]
theorem putN_more {f : Nat} {x : Int} (h : 128 ≤ x) (hc : x < cap7 f) : ∃ g, f = g + 1 ∧ putN f x = UInt8.ofNat (x % 128 + 128).toNat :: putN g (x / 128) ∧ x / 128 < cap7 g := by
  cases f with
  | zero => simp [cap7] at hc; omega
  | succ f =>
    refine ⟨f, rfl, ?_, ?_⟩
    · simp only [putN]; rw [if_neg (by omega)]
    · simp only [cap7] at hc; omega
theorem cap7_10 : cap7 10 = 1180591620717411303424 := by simp [cap7]

theorem more_byte (x : Int) : (UInt8.ofNat (x % 128 + 128).toNat).toNat = x % 128 + 128 := by
  rw [UInt8.toNat_ofNat']
  omega
theorem last_byte {x : Int} (h0 : 0 ≤ x) (h : x < 128) : (UInt8.ofNat x.toNat).toNat = x := by
  rw [UInt8.toNat_ofNat']
  omega
set_option maxRecDepth 100000 in
theorem or_128 : ∀ k, k < 256 → k ||| 128 = k % 128 + 128 := by decide
theorem or_u8_128 (x : Int) : bits .or .u8 (x % 256) 128 = x % 128 + 128 := by
  have h := u8_or (x % 256) 128 (by omega) (by omega) (by omega) (by omega)
  rw [h, show (128 : Int).toNat = 128 from rfl, or_128 _ (by omega)]
  omega

set_option maxHeartbeats 400000 in
theorem fold_any (n : Int) (w : World) (h0 : -9223372036854775808 ≤ n) (h1 : n ≤ 9223372036854775807) :
    Calls Tryz.prog 107 #[.int .i64 n] w fun e w' => e = .returned (.int .u64 (foldU n)) ∧ w' = w := by
  by_cases h : n < 0
  · have e : foldU n = -2 * n - 1 := by unfold foldU; rw [if_pos h]
    rw [e]
    go_enter Tryz.func107, Tryz.ntmps107
    go_wp2
    go_ret
    refine ⟨congrArg (fun z => Ending.returned (.int .u64 z)) ?_, rfl⟩
    omega
  · have e : foldU n = 2 * n := by unfold foldU; rw [if_neg h]
    rw [e]
    go_enter Tryz.func107, Tryz.ntmps107
    go_wp2
    go_ret
    refine ⟨congrArg (fun z => Ending.returned (.int .u64 z)) ?_, rfl⟩
    omega

set_option maxHeartbeats 1000000 in
theorem specPutNum_any (n : Int) (w : World) (h0 : -9223372036854775808 ≤ n) (h1 : n ≤ 9223372036854775807) :
    Calls Tryz.prog 92 #[.int .i64 n] w fun e w' => e = .returned (.string ⟨(putNum n).toArray⟩) ∧ Below w.heap.size w w' := by
  have E := fun w => fold_any n w h0 h1
  unfold putNum
  have hx : 0 ≤ foldU n ∧ foldU n < 18446744073709551616 := by unfold foldU; split <;> omega
  generalize foldU n = x0 at *
  have HE : Hid (∀ w, Calls Tryz.prog 107 #[.int .i64 n] w fun e w' => e = .returned (.int .u64 x0) ∧ w' = w) := E
  clear E
  obtain ⟨hx0, hx1⟩ := hx
  obtain ⟨T, hT⟩ : ∃ T, T = putN 10 x0 := ⟨_, rfl⟩
  rw [← hT]
  have HT : Hid (T = putN 10 x0) := hT
  clear hT
  go_enter Tryz.func92, Tryz.ntmps92
  go_wp2_with fail
  refine (HE.out _).mono ?_
  rintro e w0 ⟨rfl, rfl⟩
  go_wp2
  go_loopw [3, 4] (fun u v wr => ∃ (f : Nat) (x : Int) (l : List UInt8), u = .int .u64 x ∧ 0 ≤ x ∧ x < 18446744073709551616 ∧ x < cap7 f ∧ l.length + f = 10 ∧ l ++ putN f x = T ∧ OwnB wr w0.heap.size v l ∧ Below w0.heap.size w0 wr)
    (fun u _ _ => (RowKit.intOf u).toNat)
  case atStart => exact ⟨10, x0, [], rfl, hx0, hx1, by rw [cap7_10]; omega, rfl, HT.out.symm, OwnB.made _ _ (Nat.le_refl _), (Below.refl _ _).alloc (Nat.le_refl _) _⟩
  case round =>
    obtain ⟨f, x, l, rfl, hp0, hp1, hcap, hlen, hput, hown, hbel⟩ := hrel
    have hsz := hbel.size
    have hll : l.length ≤ 1073741824 := by omega
    by_cases hge : 128 ≤ x
    · obtain ⟨g, rfl, hpu, hcg⟩ := putN_more hge hcap
      have HP : Hid ((l ++ [UInt8.ofNat (x % 128 + 128).toNat]) ++ putN g (x / 128) = T) := by show _ = _; rw [← hput, hpu]; simp
      have HY : Hid (x % 128 + 128 = (UInt8.ofNat (x % 128 + 128).toNat).toNat) := (more_byte x).symm
      have HC : Hid (x / 128 < cap7 g) := hcg
      clear hpu hput hcap hcg
      go_wp2_with (at_builtin; go_must (refine wp_app_byte rfl (.tmp 10) (.tmp 15) rfl w0.heap.size _ l rfl hown (UInt8.ofNat (x % 128 + 128).toNat) (x % 128 + 128) HY.out rfl hll hsz ?_); intro v1 w1 hown1 hb1)
      go_roundw
      case rel => exact ⟨g, x / 128, _, rfl, by omega, by omega, HC.out, by simp; omega, HP.out, hown1, hbel.trans hb1⟩
      case measure => simp [RowKit.intOf]; omega
    · have HP : Hid (l ++ [UInt8.ofNat x.toNat] = T) := by show _ = _; rw [← hput, putN_last f (by omega)]
      have hb := (last_byte hp0 (by omega)).symm
      have HY : Hid (x = (UInt8.ofNat x.toNat).toNat) := hb
      clear hput hcap hb
      go_wp2_with (at_builtin; go_must (refine wp_app_byte rfl (.tmp 19) (.tmp 22) rfl w0.heap.size _ l rfl hown (UInt8.ofNat x.toNat) x HY.out rfl hll hsz ?_); intro v1 w1 hown1 hb1; have hcv := own_conv hown1)
      go_ret
      exact ⟨ret_str (by rw [HP.out]), hbel.trans hb1⟩

theorem not_u64 (y : Int) (h0 : 0 ≤ y) (h1 : y < 18446744073709551616) : bits .xor .u64 IntKind.u64.max y = 18446744073709551615 - y := by
  obtain ⟨k, rfl⟩ := Int.eq_ofNat_of_zero_le h0
  show IntKind.u64.wrap ((BitVec.ofInt 64 IntKind.u64.max ^^^ BitVec.ofInt 64 (k : Int)).toNat : Int) = _
  have e : BitVec.ofInt 64 IntKind.u64.max = BitVec.allOnes 64 := by decide
  rw [e, BitVec.allOnes_xor, BitVec.toNat_not, ofInt_u64 k (by omega), IntKind.wrap_u64]
  omega
theorem fold_neg {n : Int} (h : n < 0) (h0 : -9223372036854775808 ≤ n) : bits .xor .u64 IntKind.u64.max (IntKind.u64.wrap (IntKind.u64.wrap n * 2)) = foldU n := by
  unfold foldU
  rw [if_pos h, IntKind.wrap_u64, IntKind.wrap_u64, not_u64 _ (by omega) (by omega)]
  omega
theorem fold_pos {n : Int} (h : ¬ n < 0) : n * 2 = foldU n := by
  unfold foldU
  rw [if_neg h]
  omega

set_option maxHeartbeats 1000000 in
theorem implPutNum_any (n : Int) (w : World) (h0 : -9223372036854775808 ≤ n) (h1 : n ≤ 9223372036854775807) :
    Calls Tryz.prog 134 #[.int .i64 n] w fun e w' => e = .returned (.string ⟨(putNum n).toArray⟩) ∧ Below w.heap.size w w' := by
  unfold putNum
  have hx : 0 ≤ foldU n ∧ foldU n < 18446744073709551616 := by unfold foldU; split <;> omega
  obtain ⟨T, hT⟩ : ∃ T, T = putN 10 (foldU n) := ⟨_, rfl⟩
  rw [← hT]
  have HT : Hid (T = putN 10 (foldU n)) := hT
  clear hT
  obtain ⟨x0, hX⟩ : ∃ x0, x0 = foldU n := ⟨_, rfl⟩
  rw [← hX] at hx HT
  obtain ⟨hx0, hx1⟩ := hx
  by_cases h : n < 0
  · have HX : Hid (bits .xor .u64 IntKind.u64.max (IntKind.u64.wrap (IntKind.u64.wrap n * 2)) = x0) := (fold_neg h h0).trans hX.symm
    clear hX
    go_enter Tryz.func134, Tryz.ntmps134
    go_wp2
    rw [HX.out]
    go_loopw [3, 4] (fun u v wr => ∃ (f : Nat) (x : Int) (l : List UInt8), u = .int .u64 x ∧ 0 ≤ x ∧ x < 18446744073709551616 ∧ x < cap7 f ∧ l.length + f = 10 ∧ l ++ putN f x = T ∧ OwnB wr w.heap.size v l ∧ Below w.heap.size w wr)
      (fun u _ _ => (RowKit.intOf u).toNat)
    case atStart => exact ⟨10, x0, [], rfl, hx0, hx1, by rw [cap7_10]; omega, rfl, HT.out.symm, OwnB.nil _ _, Below.refl _ _⟩
    case round =>
      obtain ⟨f, x, l, rfl, hp0, hp1, hcap, hlen, hput, hown, hbel⟩ := hrel
      have hsz := hbel.size
      have hll : l.length ≤ 1073741824 := by omega
      by_cases hge : 128 ≤ x
      · obtain ⟨g, rfl, hpu, hcg⟩ := putN_more hge hcap
        have HP : Hid ((l ++ [UInt8.ofNat (x % 128 + 128).toNat]) ++ putN g (x / 128) = T) := by show _ = _; rw [← hput, hpu]; simp
        have HY : Hid (bits .or .u8 (x % 256) 128 = (UInt8.ofNat (x % 128 + 128).toNat).toNat) := (or_u8_128 x).trans (more_byte x).symm
        have HC : Hid (x / 128 < cap7 g) := hcg
        clear hpu hput hcap hcg
        go_wp2_with (at_builtin; go_must (refine wp_app_byte rfl (.tmp 14) (.tmp 18) rfl w.heap.size _ l rfl hown (UInt8.ofNat (x % 128 + 128).toNat) (bits .or .u8 (x % 256) 128) HY.out rfl hll hsz ?_); intro v1 w1 hown1 hb1)
        go_roundw
        case rel => exact ⟨g, x / 128, _, rfl, by omega, by omega, HC.out, by simp; omega, HP.out, hown1, hbel.trans hb1⟩
        case measure => simp [RowKit.intOf]; omega
      · have HP : Hid (l ++ [UInt8.ofNat x.toNat] = T) := by show _ = _; rw [← hput, putN_last f (by omega)]
        have hb := (last_byte hp0 (by omega)).symm
        have HY : Hid (x = (UInt8.ofNat x.toNat).toNat) := hb
        clear hput hcap hb
        go_wp2_with (at_builtin; go_must (refine wp_app_byte rfl (.tmp 22) (.tmp 25) rfl w.heap.size _ l rfl hown (UInt8.ofNat x.toNat) x HY.out rfl hll hsz ?_); intro v1 w1 hown1 hb1; have hcv := own_conv hown1)
        go_ret
        exact ⟨ret_str (by rw [HP.out]), hbel.trans hb1⟩
  · have HX : Hid (n * 2 = x0) := (fold_pos h).trans hX.symm
    clear hX
    go_enter Tryz.func134, Tryz.ntmps134
    go_wp2
    rw [HX.out]
    go_loopw [3, 4] (fun u v wr => ∃ (f : Nat) (x : Int) (l : List UInt8), u = .int .u64 x ∧ 0 ≤ x ∧ x < 18446744073709551616 ∧ x < cap7 f ∧ l.length + f = 10 ∧ l ++ putN f x = T ∧ OwnB wr w.heap.size v l ∧ Below w.heap.size w wr)
      (fun u _ _ => (RowKit.intOf u).toNat)
    case atStart => exact ⟨10, x0, [], rfl, hx0, hx1, by rw [cap7_10]; omega, rfl, HT.out.symm, OwnB.nil _ _, Below.refl _ _⟩
    case round =>
      obtain ⟨f, x, l, rfl, hp0, hp1, hcap, hlen, hput, hown, hbel⟩ := hrel
      have hsz := hbel.size
      have hll : l.length ≤ 1073741824 := by omega
      by_cases hge : 128 ≤ x
      · obtain ⟨g, rfl, hpu, hcg⟩ := putN_more hge hcap
        have HP : Hid ((l ++ [UInt8.ofNat (x % 128 + 128).toNat]) ++ putN g (x / 128) = T) := by show _ = _; rw [← hput, hpu]; simp
        have HY : Hid (bits .or .u8 (x % 256) 128 = (UInt8.ofNat (x % 128 + 128).toNat).toNat) := (or_u8_128 x).trans (more_byte x).symm
        have HC : Hid (x / 128 < cap7 g) := hcg
        clear hpu hput hcap hcg
        go_wp2_with (at_builtin; go_must (refine wp_app_byte rfl (.tmp 14) (.tmp 18) rfl w.heap.size _ l rfl hown (UInt8.ofNat (x % 128 + 128).toNat) (bits .or .u8 (x % 256) 128) HY.out rfl hll hsz ?_); intro v1 w1 hown1 hb1)
        go_roundw
        case rel => exact ⟨g, x / 128, _, rfl, by omega, by omega, HC.out, by simp; omega, HP.out, hown1, hbel.trans hb1⟩
        case measure => simp [RowKit.intOf]; omega
      · have HP : Hid (l ++ [UInt8.ofNat x.toNat] = T) := by show _ = _; rw [← hput, putN_last f (by omega)]
        have hb := (last_byte hp0 (by omega)).symm
        have HY : Hid (x = (UInt8.ofNat x.toNat).toNat) := hb
        clear hput hcap hb
        go_wp2_with (at_builtin; go_must (refine wp_app_byte rfl (.tmp 22) (.tmp 25) rfl w.heap.size _ l rfl hown (UInt8.ofNat x.toNat) x HY.out rfl hll hsz ?_); intro v1 w1 hown1 hb1; have hcv := own_conv hown1)
        go_ret
        exact ⟨ret_str (by rw [HP.out]), hbel.trans hb1⟩
end Go.Proofs.YtcenlgfopmahcaaGreatDoor

/-
  What the functions of chapter 5 answer: chains of digests, the public texts of a seed, the digits of a text.
-/
namespace Go.Proofs.YtcenlgfopmahcaaGreatDoor
open Go.RowKit Go.Lib
set_option linter.unusedVariables false
set_option linter.unusedSimpArgs false

/-- n steps. -/
def stepsB : Nat → ByteArray → ByteArray
  | 0, t => t
  | n + 1, t => shaB (stepsB n t)
theorem stepsB_sha (n : Nat) (t : ByteArray) : stepsB n (shaB t) = stepsB (n + 1) t := by
  induction n with
  | zero => rfl
  | succ n ih => show shaB (stepsB n (shaB t)) = shaB (stepsB (n + 1) t); rw [ih]
theorem stepsB_more (a b : Nat) (t : ByteArray) : stepsB a (stepsB b t) = stepsB (b + a) t := by
  induction a with
  | zero => rfl
  | succ a ih => show shaB (stepsB a (stepsB b t)) = shaB (stepsB (b + a) t); rw [ih]
theorem stepsB_size (n : Nat) {t : ByteArray} (h : t.size = 32) : (stepsB n t).size = 32 := by
  cases n with
  | zero => exact h
  | succ n => exact shaB_size _
/-- The bytes of a number. -/
def numB (n : Int) : ByteArray := ⟨(putNum n).toArray⟩
theorem numN_len (f : Nat) : ∀ x, (putN f x).length ≤ f + 1 := by
  induction f with
  | zero => intro x; simp [putN]
  | succ f ih =>
    intro x
    have := ih (x / 128)
    unfold putN
    split
    · simp
    · simp; omega
theorem numB_size (n : Int) : (numB n).size ≤ 11 := by
  have := numN_len 10 (foldU n)
  simpa [numB, putNum, ByteArray.size] using this
/-- The beginning of a chain. -/
def beginB (s : ByteArray) (i j : Int) : ByteArray := macB s (numB i ++ numB j)
theorem beginB_size (s : ByteArray) (i j : Int) : (beginB s i j).size = 32 := macB_size _ _
/-- n texts one behind the other. -/
def catB (f : Nat → ByteArray) : Nat → ByteArray
  | 0 => ByteArray.empty
  | n + 1 => catB f n ++ f n
theorem catB_size (f : Nat → ByteArray) (n : Nat) (h : ∀ j, j < n → (f j).size = 32) : (catB f n).size = 32 * n := by
  induction n with
  | zero => rfl
  | succ n ih =>
    show (catB f n ++ f n).size = _
    rw [ByteArray.size_append, ih (fun j hj => h j (by omega)), h n (by omega)]
    omega
theorem catB_congr {f g : Nat → ByteArray} (n : Nat) (h : ∀ j, j < n → f j = g j) : catB f n = catB g n := by
  induction n with
  | zero => rfl
  | succ n ih =>
    show catB f n ++ f n = catB g n ++ g n
    rw [ih (fun j hj => h j (by omega)), h n (by omega)]
/-- The public text of a key whose chains are at their ends. -/
def publicOf (f : Nat → ByteArray) : ByteArray := shaB (catB f 6)
def publicB (s : ByteArray) (i : Nat) : ByteArray := publicOf fun j => stepsB 15 (beginB s i j)
theorem publicB_size (s : ByteArray) (i : Nat) : (publicB s i).size = 32 := shaB_size _
/-- The public texts of a seed's keys. -/
def pubsB (s : ByteArray) : List ByteArray := (List.range 4).map (publicB s)
theorem pubsB_len (s : ByteArray) : (pubsB s).length = 4 := by simp [pubsB]
theorem pubsB_at (s : ByteArray) (j : Nat) (hj : j < (pubsB s).length) : (pubsB s)[j] = publicB s j := by simp [pubsB]
theorem pubsB_size (s : ByteArray) (j : Nat) (hj : j < (pubsB s).length) : (pubsB s)[j].size ≤ 100 := by
  rw [pubsB_at, publicB_size]; omega

/-- The digits of two bytes. -/
def digF (x y : Int) : Nat → Int
  | 0 => x / 16
  | 1 => x % 16
  | 2 => y / 16
  | 3 => y % 16
  | 4 => (60 - x / 16 - x % 16 - y / 16 - y % 16) / 16
  | _ => (60 - x / 16 - x % 16 - y / 16 - y % 16) % 16
theorem digF_bd {x y : Int} (hx0 : 0 ≤ x) (hx1 : x < 256) (hy0 : 0 ≤ y) (hy1 : y < 256) (j : Nat) : 0 ≤ digF x y j ∧ digF x y j ≤ 15 := by
  match j with
  | 0 => show 0 ≤ x / 16 ∧ x / 16 ≤ 15; omega
  | 1 => show 0 ≤ x % 16 ∧ x % 16 ≤ 15; omega
  | 2 => show 0 ≤ y / 16 ∧ y / 16 ≤ 15; omega
  | 3 => show 0 ≤ y % 16 ∧ y % 16 ≤ 15; omega
  | 4 => show 0 ≤ (60 - x / 16 - x % 16 - y / 16 - y % 16) / 16 ∧ (60 - x / 16 - x % 16 - y / 16 - y % 16) / 16 ≤ 15; omega
  | n + 5 => show 0 ≤ (60 - x / 16 - x % 16 - y / 16 - y % 16) % 16 ∧ (60 - x / 16 - x % 16 - y / 16 - y % 16) % 16 ≤ 15; omega
/-- The digits of a text. -/
def digI (t : ByteArray) (j : Nat) : Int := digF (byteL (shaB t).data.toList 0) (byteL (shaB t).data.toList 1) j
theorem digI_bd (t : ByteArray) (j : Nat) : 0 ≤ digI t j ∧ digI t j ≤ 15 :=
  digF_bd (byteL_bd _ 0).1 (byteL_bd _ 0).2 (byteL_bd _ 1).1 (byteL_bd _ 1).2 j
def digB (t : ByteArray) (j : Nat) : Nat := (digI t j).toNat
theorem digB_cast (t : ByteArray) (j : Nat) : ((digB t j : Nat) : Int) = digI t j := by have := digI_bd t j; unfold digB; omega
theorem digB_le (t : ByteArray) (j : Nat) : digB t j ≤ 15 := by have := digI_bd t j; unfold digB; omega
/-- Is it a seed? -/
def seedB (s : ByteArray) : Bool := decide (1 ≤ (s.size : Int) ∧ (s.size : Int) ≤ 64)
theorem seedB_yes {s : ByteArray} (h : seedB s = true) : 1 ≤ (s.size : Int) ∧ (s.size : Int) ≤ 64 := by unfold seedB at h; simpa using h
theorem seedB_no {s : ByteArray} (h : ¬ seedB s = true) : ¬ (1 ≤ (s.size : Int) ∧ (s.size : Int) ≤ 64) := by unfold seedB at h; simpa using h
/-- The Ends of a signature. -/
def endsB (s : ByteArray) (k : Int) (t : ByteArray) : List ByteArray := (List.range 6).map fun j => stepsB (digB t j) (beginB s k j)
/-- The Ends, each taken as far as it is left to go. -/
def leftB (t : ByteArray) (l : List ByteArray) : ByteArray := publicOf fun j => stepsB (15 - digB t j) (l.getD j ByteArray.empty)
/-- WHAT IS SIGNED COMES TO THE KEY'S PUBLIC TEXT. -/
theorem left_ends (s : ByteArray) (k : Nat) (t : ByteArray) : leftB t (endsB s k t) = publicB s k := by
  unfold leftB publicB publicOf
  refine congrArg shaB (catB_congr 6 fun j hj => ?_)
  have hg : (endsB s k t).getD j ByteArray.empty = stepsB (digB t j) (beginB s k j) := by simp [endsB, List.getD, hj]
  have hd := digB_le t j
  rw [hg, stepsB_more, show digB t j + (15 - digB t j) = 15 by omega]
end Go.Proofs.YtcenlgfopmahcaaGreatDoor

/-
  What Verify answers.
-/
namespace Go.Proofs.YtcenlgfopmahcaaGreatDoor
open Go.RowKit Go.Lib
set_option linter.unusedVariables false
set_option linter.unusedSimpArgs false

def verB (root text : ByteArray) (k : Int) (el pl : List ByteArray) : Bool := sigRB k el pl && decide ((root.size : Int) = 32) && decide ((text.size : Int) ≤ 20000) && inclB (leafB (leftB text el)) k 4 pl root
theorem verB_sig {root text : ByteArray} {k : Int} {el pl : List ByteArray} (h : sigRB k el pl = false) : verB root text k el pl = false := by unfold verB; rw [h]; rfl
theorem verB_root {root text : ByteArray} {k : Int} {el pl : List ByteArray} (h : sigRB k el pl = true) (h1 : ¬ (root.size : Int) = 32) : verB root text k el pl = false := by unfold verB; rw [h, decide_eq_false h1]; rfl
theorem verB_text {root text : ByteArray} {k : Int} {el pl : List ByteArray} (h : sigRB k el pl = true) (h1 : (root.size : Int) = 32) (h2 : ¬ (text.size : Int) ≤ 20000) : verB root text k el pl = false := by unfold verB; rw [h, decide_eq_true h1, decide_eq_false h2]; rfl
theorem verB_rest {root text : ByteArray} {k : Int} {el pl : List ByteArray} (h : sigRB k el pl = true) (h1 : (root.size : Int) = 32) (h2 : (text.size : Int) ≤ 20000) : verB root text k el pl = inclB (leafB (leftB text el)) k 4 pl root := by unfold verB; rw [h, decide_eq_true h1, decide_eq_true h2]; rfl
theorem leftB_size (t : ByteArray) (l : List ByteArray) : (leftB t l).size = 32 := shaB_size _
theorem wide_get {l : List ByteArray} (h : wideB l = true) (h6 : l.length = 6) (j : Nat) (hj : j < 6) : (l.getD j ByteArray.empty).size = 32 := by
  have hjl : j < l.length := by omega
  have e : l.getD j ByteArray.empty = l[j] := by simp [List.getD, hjl]
  rw [e]
  exact wideB_at h hjl
end Go.Proofs.YtcenlgfopmahcaaGreatDoor

/-
  The program's chains: a step, all of them taken further, their texts, their public text.
-/
namespace Go.Proofs.YtcenlgfopmahcaaGreatDoor
open Go.RowKit Go.Lib
set_option linter.unusedVariables false
set_option linter.unusedSimpArgs false

theorem digV_lo {s : ByteArray} (h : s.size ≤ 20000) : digV s = shaB s := by unfold digV; rw [if_neg (by omega)]
theorem cellsT_one (n : Nat) (f : Nat → ByteArray) : (cellsT n f).all (·.oneCell') = true := by simp [cellsT, Value.oneCell']
theorem info6 : (Tryz.prog.info? 152).map (·.size) = some 6 := by kernel_rfl
theorem rowT_cell {w : World} {g n : Nat} {f : Nat → ByteArray} {t : TypeId} (hg : w.heap[g]? = some (.cells (cellsT n f) t (0, 0))) {j : Nat} (hj : j < n) :
    w.cell? ⟨g, j, none⟩ = some (.string (f j)) ∧ w.frozen? ⟨g, j, none⟩ = false :=
  ⟨by rw [cell_of_row w g j _ _ _ hg, cellsT_get _ hj], frozen_of_row w g j _ _ hg⟩
theorem rowT_set {w : World} {g n : Nat} {f : Nat → ByteArray} {t : TypeId} (hg : w.heap[g]? = some (.cells (cellsT n f) t (0, 0))) (j : Nat) (v : ByteArray) (f' : Nat → ByteArray) (h : ∀ i, i < n → f' i = if i = j then v else f i) :
    (w.setCell ⟨g, j, none⟩ (.string v)).heap[g]? = some (.cells (cellsT n f') t (0, 0)) := by
  rw [heap_setCell_same w g j _ _ _ hg, cellsT_set, cellsT_congr h]

set_option maxHeartbeats 400000 in
theorem step_any (g k : Nat) (t : ByteArray) (w : World) (hc : w.cell? ⟨g, k, none⟩ = some (.string t)) (hf : w.frozen? ⟨g, k, none⟩ = false) (hg : g < w.heap.size) (ht : t.size = 32) (hK : Keys w) :
    Calls Tryz.prog 129 #[.pointer (some ⟨g, k, none⟩)] w fun e w' => e = .returned (.tuple #[]) ∧ ∃ w1, Below w.heap.size w w1 ∧ w' = w1.setCell ⟨g, k, none⟩ (.string (shaB t)) := by
  have E := implDigest_any t w (by omega) hK
  rw [digV_lo (by omega)] at E
  generalize shaB t = V at *
  have HE : Hid (Calls Tryz.prog 126 #[.string t] w fun e w' => e = .returned (.string V) ∧ Below w.heap.size w w') := E
  clear E hK
  go_enter Tryz.func129, Tryz.ntmps129
  go_wp2_with fail
  refine HE.out.mono ?_
  rintro e w1 ⟨rfl, hb⟩
  have hc1 : w1.cell? ⟨g, k, none⟩ = some (.string t) := (hb.cell (p := ⟨g, k, none⟩) hg).trans hc
  have hf1 : w1.frozen? ⟨g, k, none⟩ = false := (hb.frozen (p := ⟨g, k, none⟩) hg).trans hf
  have HB : Hid (Below w.heap.size w w1) := hb
  clear hb
  go_wp2
  go_end0
  exact ⟨rfl, w1, HB.out, rfl⟩

/-- Chains behind: the first k at their ends, the next one behind i steps. -/
def tk (f : Nat → ByteArray) (m : Nat → Nat) (k i : Nat) : Nat → ByteArray := fun j => if j < k then stepsB (m j) (f j) else if j = k then stepsB i (f j) else f j
theorem tk_start (f : Nat → ByteArray) (m : Nat → Nat) : ∀ j, j < 6 → tk f m 0 0 j = f j := fun j _ => by
  unfold tk
  rw [if_neg (by omega)]
  split <;> rfl
theorem tk_next (f : Nat → ByteArray) (m : Nat → Nat) (k : Nat) : ∀ j, j < 6 → tk f m (k + 1) 0 j = tk f m k (m k) j := fun j _ => by
  unfold tk
  by_cases h : j < k
  · rw [if_pos h, if_pos (by omega)]
  · rw [if_neg h]
    by_cases h2 : j = k
    · subst h2; rw [if_pos (by omega), if_pos rfl]
    · rw [if_neg (by omega), if_neg h2]
      split <;> rfl
theorem tk_step (f : Nat → ByteArray) (m : Nat → Nat) (k i : Nat) : ∀ j, j < 6 → tk f m k (i + 1) j = if j = k then shaB (tk f m k i k) else tk f m k i j := fun j _ => by
  unfold tk
  by_cases h2 : j = k
  · subst h2; simp [stepsB]
  · rw [if_neg h2, if_neg h2, if_neg h2]
theorem tk_end (f : Nat → ByteArray) (m : Nat → Nat) : ∀ j, j < 6 → tk f m 6 0 j = stepsB (m j) (f j) := fun j hj => by
  unfold tk
  rw [if_pos hj]
theorem tk_size {f : Nat → ByteArray} (m : Nat → Nat) (k i : Nat) (hf : ∀ j, j < 6 → (f j).size = 32) (j : Nat) (hj : j < 6) : (tk f m k i j).size = 32 := by
  unfold tk
  split
  · exact stepsB_size _ (hf j hj)
  · split
    · exact stepsB_size _ (hf j hj)
    · exact hf j hj

/-- In between: the chains in block H, the answer's block behind it. -/
def TakenAt (w wr : World) (f : Nat → ByteArray) : Prop :=
  wr.heap[w.heap.size]? = some (.cells (cellsT 6 f) 152 (0, 0)) ∧ wr.heap[w.heap.size + 1]? = some (.cells (cellsT 6 fun _ => ByteArray.empty) 152 (0, 0)) ∧ Below w.heap.size w wr ∧ Keys wr
theorem TakenAt.congr {w wr : World} {f g : Nat → ByteArray} (h : TakenAt w wr f) (e : ∀ j, j < 6 → g j = f j) : TakenAt w wr g := by
  obtain ⟨h1, h2, h3, h4⟩ := h
  exact ⟨by rw [cellsT_congr e]; exact h1, h2, h3, h4⟩
theorem TakenAt.lt {w wr : World} {f : Nat → ByteArray} (h : TakenAt w wr f) : w.heap.size + 1 < wr.heap.size := (Array.getElem?_eq_some_iff.1 h.2.1).1
theorem TakenAt.put {w wr w1 : World} {f f' : Nat → ByteArray} (h : TakenAt w wr f) (hb : Below wr.heap.size wr w1) (k : Nat) (v : ByteArray) (hK : 1 < w.heap.size) (e : ∀ i, i < 6 → f' i = if i = k then v else f i) : TakenAt w (w1.setCell ⟨w.heap.size, k, none⟩ (.string v)) f' := by
  have hl := h.lt
  obtain ⟨h1, h2, h3, h4⟩ := h
  have g1 := (hb.block _ (by omega)).trans h1
  have g2 := (hb.block _ hl).trans h2
  have hb1 : Below w.heap.size w w1 := h3.trans (hb.mono (by omega))
  refine ⟨rowT_set g1 k v f' e, ?_, hb1.setCell (Nat.le_refl _) _, ?_⟩
  · rw [heap_setCell_other _ _ _ _ (by simp)]
    exact g2
  · exact (h4.below hb (by omega)).below ((Below.refl w.heap.size w1).setCell (p := ⟨w.heap.size, k, none⟩) (Nat.le_refl _) _) hK
end Go.Proofs.YtcenlgfopmahcaaGreatDoor

/-
  The program's chains ahead of their first step, their texts, their public text.
-/
namespace Go.Proofs.YtcenlgfopmahcaaGreatDoor
open Go.RowKit Go.Lib
set_option linter.unusedVariables false
set_option linter.unusedSimpArgs false

theorem heap_alloc2_keys {w : World} (hK : Keys w) (a b : Obj) : Keys ((w.alloc a).alloc b) := hK.below (((Below.refl w.heap.size w).alloc (Nat.le_refl _) a).alloc (by simp) b) hK.lt
/-- The first k chains are laid. -/
def laidTo (f : Nat → ByteArray) (k : Nat) : Nat → ByteArray := fun j => if j < k then f j else ByteArray.empty
theorem laidTo_next (f : Nat → ByteArray) (k : Nat) : ∀ j, j < 6 → laidTo f (k + 1) j = if j = k then f k else laidTo f k j := fun j _ => by
  unfold laidTo
  by_cases h : j = k
  · subst h; simp
  · rw [if_neg h]
    by_cases h2 : j < k
    · rw [if_pos h2, if_pos (by omega)]
    · rw [if_neg h2, if_neg (by omega)]
/-- In between: the answer's block, the chains' block behind it. -/
def LaidAt (w wr : World) (f : Nat → ByteArray) : Prop :=
  wr.heap[w.heap.size]? = some (.cells (cellsT 6 fun _ => ByteArray.empty) 152 (0, 0)) ∧ wr.heap[w.heap.size + 1]? = some (.cells (cellsT 6 f) 152 (0, 0)) ∧ Below w.heap.size w wr ∧ Keys wr
theorem LaidAt.lt {w wr : World} {f : Nat → ByteArray} (h : LaidAt w wr f) : w.heap.size + 1 < wr.heap.size := (Array.getElem?_eq_some_iff.1 h.2.1).1
theorem LaidAt.below {w wr w1 : World} {f : Nat → ByteArray} (h : LaidAt w wr f) (hb : Below wr.heap.size wr w1) : LaidAt w w1 f := by
  have hl := h.lt
  obtain ⟨h1, h2, h3, h4⟩ := h
  exact ⟨(hb.block _ (by omega)).trans h1, (hb.block _ hl).trans h2, h3.trans (hb.mono (by omega)), h4.below hb h4.lt⟩
theorem LaidAt.put {w wr : World} {f f' : Nat → ByteArray} (h : LaidAt w wr f) (k : Nat) (v : ByteArray) (hK : 1 < w.heap.size) (e : ∀ i, i < 6 → f' i = if i = k then v else f i) : LaidAt w (wr.setCell ⟨w.heap.size + 1, k, none⟩ (.string v)) f' := by
  obtain ⟨h1, h2, h3, h4⟩ := h
  refine ⟨?_, rowT_set h2 k v f' e, h3.setCell (by simp) _, h4.below ((Below.refl w.heap.size wr).setCell (p := ⟨w.heap.size + 1, k, none⟩) (by simp) _) hK⟩
  rw [heap_setCell_other _ _ _ _ (by simp)]
  exact h1

theorem index6 (f : Nat → ByteArray) (k : Nat) (hk : k < 6) (w : World) : (Instr.index 152 (.agg (cellsT 6 f)) (.int .i64 k)).run Tryz.prog w = .ok (.agg #[.string (f k)]) w := by
  have h := cellsT_get f hk
  have hx : (cellsT 6 f).extract k (k + 1) = #[.string (f k)] := by
    apply Array.ext_getElem?
    intro j
    by_cases hj : j = 0
    · subst hj; simp [Array.getElem?_extract, cellsT_size, h]; omega
    · rw [Array.getElem?_eq_none (by simp [cellsT_size]; omega), Array.getElem?_eq_none (by simp; omega)]
  simp [Instr.index, asIntOf, run_underlying Tryz.underlying152, part, hk, h, hx, go_sem]

set_option maxHeartbeats 1000000 in
set_option maxRecDepth 10000 in
theorem public_any (f : Nat → ByteArray) (w : World) (hf : ∀ j, j < 6 → (f j).size = 32) (hK : Keys w) :
    Calls Tryz.prog 118 #[.agg (cellsT 6 f)] w fun e w' => e = .returned (.string (publicOf f)) ∧ Below w.heap.size w w' := by
  have EJ : Hid (∀ a b w, a.size ≤ 192 → b.size ≤ 32 → Calls Tryz.prog 67 #[.string a, .string b] w fun e w' => e = .returned (.string (a ++ b)) ∧ Below w.heap.size w w') := fun a b w ha hb => joined_any a b w (by omega) (by omega)
  have ED : Hid (∀ t w, t.size ≤ 192 → Keys w → Calls Tryz.prog 126 #[.string t] w fun e w' => e = .returned (.string (shaB t)) ∧ Below w.heap.size w w') := fun t w ht hK => by
    have := implDigest_any t w (by omega) hK
    rw [digV_lo (by omega)] at this
    exact this
  have HF : Hid (∀ j, j < 6 → (f j).size = 32) := hf
  have HK : Hid (Keys w ∧ 1 < w.heap.size) := ⟨hK, hK.lt⟩
  have hg0 : (w.alloc (.cells (cellsT 6 f) 152)).heap[w.heap.size]? = some (.cells (cellsT 6 f) 152 (0, 0)) := heap_alloc_new w _
  clear hf hK
  go_enter Tryz.func118, Tryz.ntmps118
  go_wp2_with (first | (refine wpList_load_row rfl 152 (.tmp 1) rfl w.heap.size rfl _ _ _ _ hg0 Tryz.underlying152 rfl (by rw [cellsT_size]; exact info6) ?_))
  go_loopw [3, 7] (fun a x wr => ∃ k : Nat, k ≤ 6 ∧ x = .int .i64 k ∧ a = .string (catB f k) ∧ Below w.heap.size w wr) (fun _ x _ => 6 - (RowKit.intOf x).toNat)
  case atStart => exact ⟨0, by omega, rfl, rfl, (Below.refl _ _).alloc (Nat.le_refl _) _⟩
  case round =>
    obtain ⟨k, hk, rfl, rfl, hb⟩ := hrel
    have HB : Hid (Below w.heap.size w wr) := hb
    have hcs := catB_size f k (fun j hj => HF.out j (by omega))
    by_cases hlt : k < 6
    · have hi := index6 f k hlt
      have HS : Hid (catB f k ++ f k = catB f (k + 1)) := rfl
      have hfs := HF.out k hlt
      have E := fun w => EJ.out (catB f k) (f k) w (by omega) (by omega)
      rw [HS.out] at E
      have HE : Hid (∀ w, Calls Tryz.prog 67 #[.string (catB f k), .string (f k)] w fun e w' => e = .returned (.string (catB f (k + 1))) ∧ Below w.heap.size w w') := E
      obtain ⟨c1, hc1⟩ : ∃ c1, c1 = catB f (k + 1) := ⟨_, rfl⟩
      rw [← hc1] at HE
      have HC1 : Hid (c1 = catB f (k + 1)) := hc1
      clear hb hcs HS hfs E hc1
      have hkI : (k : Int) < 6 := by omega
      have hk0 : (0 : Int) ≤ (k : Int) := by omega
      go_wp2_with fail
      refine (HE.out _).mono ?_
      rintro e w1 ⟨rfl, hb1⟩
      have HB1 : Hid (Below w.heap.size w w1) := (HB.out.alloc HB.out.size _).trans (hb1.mono (by have := HB.out.size; simp; omega))
      clear hb1 HE
      go_wp2
      go_roundw
      case rel => exact ⟨k + 1, by omega, by go_num, by rw [HC1.out], HB1.out⟩
      case measure => simp [RowKit.intOf]; omega
    · have e6 : k = 6 := by omega
      have E := fun w hK => ED.out (catB f k) w (by omega) hK
      have HE : Hid (∀ w, Keys w → Calls Tryz.prog 126 #[.string (catB f k)] w fun e w' => e = .returned (.string (publicOf f)) ∧ Below w.heap.size w w') := by
        rw [e6] at E ⊢
        exact E
      have HKr : Hid (Keys wr) := HK.out.1.below hb HK.out.2
      generalize catB f k = c at *
      have hkI : ¬ (k : Int) < 6 := by omega
      clear e6 E hb hcs
      go_wp2_with fail
      refine (HE.out _ HKr.out).mono ?_
      rintro e w1 ⟨rfl, hb1⟩
      have HB1 : Hid (Below w.heap.size w w1) := HB.out.trans (hb1.mono HB.out.size)
      clear hb1 HE
      go_wp2
      go_ret
      exact ⟨rfl, HB1.out⟩
end Go.Proofs.YtcenlgfopmahcaaGreatDoor

/-
  The program's chains that begin with the Ends of a signature.
-/
namespace Go.Proofs.YtcenlgfopmahcaaGreatDoor
open Go.RowKit Go.Lib
set_option linter.unusedVariables false
set_option linter.unusedSimpArgs false

set_option maxHeartbeats 1000000 in
set_option maxRecDepth 10000 in
theorem chainsAt_any (v : Value) (l : List ByteArray) (w : World) (h : Texts w w.heap.size v l) (h6 : l.length = 6) (hK : Keys w) :
    Calls Tryz.prog 116 #[v] w fun e w' => e = .returned (.agg (cellsT 6 fun j => l.getD j ByteArray.empty)) ∧ Below w.heap.size w w' := by
  have HT : Hid (∀ W, Below w.heap.size w W → Texts W w.heap.size v l) := fun W hb => h.below hb
  obtain ⟨a, cap, rfl, hcap, hc⟩ := h.at
  rw [h6] at HT ⊢
  have HG : Hid (∀ (W : World), Below w.heap.size w W → ∀ j, j < 6 → ∃ b off, a = some ⟨b, off, none⟩ ∧ W.cell? ⟨b, off + j, none⟩ = some (.string (l.getD j ByteArray.empty))) := fun W hb j hj => by
    have hjl : j < l.length := by omega
    obtain ⟨b, off, ha, hB, hcell⟩ := hc j hjl
    refine ⟨b, off, ha, (hb.cell (p := ⟨b, off + j, none⟩) hB).trans ?_⟩
    rw [hcell]
    simp [List.getD, hjl]
  have HK : Hid (Keys w ∧ 1 < w.heap.size) := ⟨hK, hK.lt⟩
  clear hc hcap h HT hK h6
  obtain ⟨f, hf⟩ : ∃ f : Nat → ByteArray, f = fun j : Nat => l.getD j ByteArray.empty := ⟨_, rfl⟩
  have HF : Hid (∀ j : Nat, l.getD j ByteArray.empty = f j) := fun j => by rw [hf]
  rw [← hf]
  clear hf
  go_enter Tryz.func116, Tryz.ntmps116
  go_wp2
  go_loopw [5] (fun x wr => ∃ k : Nat, k ≤ 6 ∧ x = .int .i64 k ∧ LaidAt w wr (laidTo f k)) (fun x _ => 6 - (RowKit.intOf x).toNat)
  case atStart => exact ⟨0, by omega, rfl, heap_alloc2_old w _ _, heap_alloc2_new w _ _, ((Below.refl _ _).alloc (Nat.le_refl _) _).alloc (by simp) _, heap_alloc2_keys HK.out.1 _ _⟩
  case round =>
    obtain ⟨k, hk, rfl, hL⟩ := hrel
    by_cases hlt : k < 6
    · obtain ⟨b, off, rfl, hcell⟩ := HG.out wr hL.2.2.1 k hlt
      rw [HF.out k] at hcell
      obtain ⟨hc, hfz⟩ := rowT_cell hL.2.1 (j := k) hlt
      have HL5 : Hid (LaidAt w (wr.setCell ⟨w.heap.size + 1, k, none⟩ (.string (f k))) (laidTo f (k + 1))) := hL.put k (f k) HK.out.2 (laidTo_next f k)
      generalize f k = V at *
      have hkI : (k : Int) < 6 := by omega
      have hk0 : (0 : Int) ≤ (k : Int) := by omega
      clear hL
      go_wp2
      go_roundw
      case rel => exact ⟨k + 1, by omega, by go_num, HL5.out⟩
      case measure => simp [RowKit.intOf]; omega
    · have e6 : k = 6 := by omega
      obtain ⟨h1, h2, h3, h4⟩ := hL
      have hg : cellsT 6 (laidTo f k) = cellsT 6 f := cellsT_congr fun j hj => by unfold laidTo; rw [if_pos (by omega)]
      rw [hg] at h2
      have hkI : ¬ (k : Int) < 6 := by omega
      clear e6 hg h4 HG HK HF
      go_wp2_with (first | (refine wpList_load_row rfl 152 (.tmp 3) rfl (w.heap.size + 1) rfl _ _ _ _ h2 Tryz.underlying152 rfl (by rw [cellsT_size]; exact info6) ?_) | (refine wpList_store_row rfl 152 (.tmp 2) (.tmp 16) rfl w.heap.size _ rfl rfl _ _ h1 (by rw [cellsT_size]; exact info6) (by rw [cellsT_size, cellsT_size]) (cellsT_one _ _) ?_))
      exact bodyPost_ret (results_cell_row Tryz.results116 _ _ w.heap.size _ _ _ _ rfl (setRow_heap wr _ _ _ _ _ h1) Tryz.underlying152 rfl (by rw [cellsT_size]; exact info6)) rfl ⟨rfl, below_setRow h3 (Nat.le_refl _) _⟩
end Go.Proofs.YtcenlgfopmahcaaGreatDoor

/-
  The program's chains taken further, each as far as a closure tells.
-/
namespace Go.Proofs.YtcenlgfopmahcaaGreatDoor
open Go.RowKit Go.Lib
set_option linter.unusedVariables false
set_option linter.unusedSimpArgs false

set_option maxHeartbeats 1000000 in
set_option maxRecDepth 10000 in
theorem takenLeft_any (f : Nat → ByteArray) (m : Nat → Nat) (d : Nat) (w : World) (hf : ∀ j, j < 6 → (f j).size = 32) (hm : ∀ j, j < 6 → m j ≤ 15) (hK : Keys w)
    (EF : ∀ (k : Nat) (W : World), k < 6 → Below w.heap.size w W → Calls Tryz.prog 115 #[.int .i64 k, .pointer (some ⟨d, 0, none⟩)] W fun e W' => e = .returned (.int .i64 (m k : Nat)) ∧ W' = W) :
    Calls Tryz.prog 117 #[.agg (cellsT 6 f), .func (.func 115) #[] #[.pointer (some ⟨d, 0, none⟩)]] w fun e w' => e = .returned (.agg (cellsT 6 fun j => stepsB (m j) (f j))) ∧ Below w.heap.size w w' := by
  have HEF : Hid (∀ (k : Nat) (W : World), k < 6 → Below w.heap.size w W → Calls Tryz.prog 115 #[.int .i64 k, .pointer (some ⟨d, 0, none⟩)] W fun e W' => e = .returned (.int .i64 (m k : Nat)) ∧ W' = W) := EF
  have HF : Hid (∀ j, j < 6 → (f j).size = 32) := hf
  have HM : Hid (∀ j, j < 6 → m j ≤ 15) := hm
  have HK : Hid (Keys w ∧ 1 < w.heap.size) := ⟨hK, hK.lt⟩
  have hmf : ∀ (fn : Fn) (first cap : Array Value) (w : World), (Instr.makeFunc fn first cap).run Tryz.prog w = .ok (.func fn first cap) w := fun _ _ _ _ => rfl
  clear EF hf hm hK
  go_enter Tryz.func117, Tryz.ntmps117
  go_wp2
  go_loopw [7] (fun x wr => ∃ k : Nat, k ≤ 6 ∧ x = .int .i64 k ∧ TakenAt w wr (tk f m k 0)) (fun x _ => 6 - (RowKit.intOf x).toNat)
  case atStart =>
    refine ⟨0, by omega, rfl, ?_⟩
    refine TakenAt.congr ⟨heap_alloc2_old w _ _, heap_alloc2_new w _ _, ((Below.refl _ _).alloc (Nat.le_refl _) _).alloc (by simp) _, ?_⟩ (tk_start f m)
    exact HK.out.1.below (((Below.refl w.heap.size w).alloc (Nat.le_refl _) _).alloc (by simp) _) HK.out.2
  case round =>
    obtain ⟨k, hk, rfl, hT⟩ := hrel
    by_cases hlt : k < 6
    · have HT : Hid (TakenAt w wr (tk f m k 0)) := hT
      have EK := HEF.out k wr hlt hT.2.2.1
      have hmk := HM.out k hlt
      have HN : Hid (∀ j, j < 6 → tk f m (k + 1) 0 j = tk f m k (m k) j) := tk_next f m k
      obtain ⟨mk, hM⟩ : ∃ mk, mk = m k := ⟨_, rfl⟩
      rw [← hM] at EK hmk HN
      have HE : Hid (Calls Tryz.prog 115 #[.int .i64 k, .pointer (some ⟨d, 0, none⟩)] wr fun e W' => e = .returned (.int .i64 (mk : Nat)) ∧ W' = wr) := EK
      clear EK hM hT
      have hkI : (k : Int) < 6 := by omega
      have hk0 : (0 : Int) ≤ (k : Int) := by omega
      go_wp2_with fail
      refine HE.out.mono ?_
      rintro e w0 ⟨rfl, rfl⟩
      go_wp2
      go_loopw [16] (fun x wr => ∃ i : Nat, i ≤ mk ∧ x = .int .i64 i ∧ TakenAt w wr (tk f m k i)) (fun x _ => mk - (RowKit.intOf x).toNat)
      case atStart => exact ⟨0, by omega, rfl, HT.out⟩
      case round =>
        clear HT HE
        obtain ⟨i, hi, rfl, hT⟩ := hrel
        have HT : Hid (TakenAt w wr (tk f m k i)) := hT
        by_cases hil : i < mk
        · have hl := hT.lt
          obtain ⟨hc, hfz⟩ := rowT_cell hT.1 (j := k) hlt
          have E := step_any w.heap.size k (tk f m k i k) wr hc hfz (by omega) (tk_size m k i HF.out k hlt) hT.2.2.2
          have HE : Hid (Calls Tryz.prog 129 #[.pointer (some ⟨w.heap.size, k, none⟩)] wr fun e w' => e = .returned (.tuple #[]) ∧ ∃ w1, Below wr.heap.size wr w1 ∧ w' = w1.setCell ⟨w.heap.size, k, none⟩ (.string (shaB (tk f m k i k)))) := E
          have HP : Hid (∀ w1, Below wr.heap.size wr w1 → TakenAt w (w1.setCell ⟨w.heap.size, k, none⟩ (.string (shaB (tk f m k i k)))) (tk f m k (i + 1))) := fun w1 hb => hT.put hb k _ HK.out.2 (tk_step f m k i)
          have hiI : (i : Int) < (mk : Int) := by omega
          clear E hc hfz hT hl HT
          go_wp2_with fail
          refine HE.out.mono ?_
          rintro e w2 ⟨rfl, w1, hb, rfl⟩
          have HT2 := HP.out w1 hb
          have HT3 : Hid (TakenAt w (w1.setCell ⟨w.heap.size, k, none⟩ (.string (shaB (tk f m k i k)))) (tk f m k (i + 1))) := HT2
          generalize w1.setCell ⟨w.heap.size, k, none⟩ (.string (shaB (tk f m k i k))) = w3 at *
          clear hb HT2 HP HE
          go_wp2
          go_roundw
          case rel => exact ⟨i + 1, by omega, by go_num, HT3.out⟩
          case measure => simp [RowKit.intOf]; omega
        · have ei : i = mk := by omega
          have HT2 : Hid (TakenAt w wr (tk f m (k + 1) 0)) := hT.congr (by rw [ei]; exact HN.out)
          have hiI : ¬ (i : Int) < (mk : Int) := by omega
          clear hT HT ei
          go_wp2
          go_roundw
          case rel => exact ⟨k + 1, by omega, by go_num, HT2.out⟩
          case measure => simp [RowKit.intOf]; omega
    · have e6 : k = 6 := by omega
      have hT6 := hT.congr (g := fun j => stepsB (m j) (f j)) (by rw [e6]; exact fun j hj => (tk_end f m j hj).symm)
      obtain ⟨h1, h2, h3, h4⟩ := hT6
      have hkI : ¬ (k : Int) < 6 := by omega
      clear hT e6 h4 HEF HF HM HK
      obtain ⟨g, hg⟩ : ∃ g, g = fun j => stepsB (m j) (f j) := ⟨_, rfl⟩
      rw [← hg] at h1
      have HG : Hid (g = fun j => stepsB (m j) (f j)) := hg
      clear hg
      go_wp2_with (first | (refine wpList_load_row rfl 152 (.tmp 2) rfl w.heap.size rfl _ _ _ _ h1 Tryz.underlying152 rfl (by rw [cellsT_size]; exact info6) ?_) | (refine wpList_store_row rfl 152 (.tmp 4) (.tmp 22) rfl (w.heap.size + 1) _ rfl rfl _ _ h2 (by rw [cellsT_size]; exact info6) (by rw [cellsT_size, cellsT_size]) (cellsT_one _ _) ?_))
      exact bodyPost_ret (results_cell_row Tryz.results117 _ _ (w.heap.size + 1) _ _ _ _ rfl (setRow_heap wr _ _ _ _ _ h2) Tryz.underlying152 rfl (by rw [cellsT_size]; exact info6)) rfl ⟨ret_agg (by rw [HG.out]), below_setRow h3 (by omega) _⟩
end Go.Proofs.YtcenlgfopmahcaaGreatDoor
