/-
  The program's copy of a head.
-/
import Derived.Test.YtpglcbidfghfkaaPkTextRows
import Derived.Test.YtpglcbidfghfkaaPkHdV
import Derived.Deep.RegionWith
import Derived.Deep.RegionHeld3
namespace Go.Proofs.Ytpglcbidfghfkaa
open Go.RowKit Go.Lib
set_option linter.unusedVariables false
set_option linter.unusedSimpArgs false

set_option maxHeartbeats 4000000 in
set_option maxRecDepth 10000 in
theorem headCopied_any (x : Hd) (ve vp : Value) (w : World) (h : x.In ve vp w w.heap.size) (hl : x.Lim) (hz : ∀ j (hj : j < x.el.length), x.el[j].size ≤ 1048576) (hz2 : ∀ j (hj : j < x.pl.length), x.pl[j].size ≤ 1048576) :
    Calls Try.prog 56 #[.agg #[.string x.log, .int .i64 x.size, .string x.root, .int .i64 x.time, .int .i64 x.k, ve, vp]] w fun e w' => HeadOwn w x.log x.size x.root x.time x.k x.el x.pl e w' := by
  obtain ⟨a, c, b, d, rfl, rfl⟩ := h.parts
  obtain ⟨W, hW⟩ : ∃ W, W = (w.alloc (.cells #[.string x.log, .int .i64 x.size, .string x.root, .int .i64 x.time, .int .i64 x.k, .slice a x.el.length c, .slice b x.pl.length d] 26)).alloc (.cells #[.string ⟨#[]⟩, .int .i64 0, .string ⟨#[]⟩, .int .i64 0, .int .i64 0, .slice none 0 0, .slice none 0 0] 26) := ⟨_, rfl⟩
  have hbW : Below w.heap.size w W := by rw [hW]; exact ((Below.refl _ _).alloc (Nat.le_refl _) _).alloc (by simp) _
  have hzW : W.heap.size = w.heap.size + 2 := by rw [hW]; simp
  have g0 : W.heap[w.heap.size]? = some (.cells #[.string x.log, .int .i64 x.size, .string x.root, .int .i64 x.time, .int .i64 x.k, .slice a x.el.length c, .slice b x.pl.length d] 26 (0, 0)) := by
    rw [hW]
    exact heap_alloc2_old w _ _
  have g1 : W.heap[w.heap.size + 1]? = some (.cells #[.string ⟨#[]⟩, .int .i64 0, .string ⟨#[]⟩, .int .i64 0, .int .i64 0, .slice none 0 0, .slice none 0 0] 26 (0, 0)) := by
    rw [hW]
    exact heap_alloc2_new w _ _
  have EJ : Hid (∀ t w, t.size ≤ 1048576 → Calls Try.prog 48 #[.string t, .string ⟨#[]⟩] w fun e w' => e = .returned (.string t) ∧ Below w.heap.size w w') := fun t w ht => by
    have := joined_any t ByteArray.empty w ht (by simp)
    rw [ByteArray.append_empty] at this
    exact this
  have EC1 : Hid (∀ W', Below W.heap.size W W' → Calls Try.prog 55 #[.slice a x.el.length c] W' fun e w' => ∃ v', e = .returned v' ∧ OwnT w' W'.heap.size v' x.el ∧ Below W'.heap.size W' w') := fun W' hb => copied_any _ x.el W' ((h.1.on hbW).on hb) hl.2.2.1 hz
  have EC2 : Hid (∀ W', Below W.heap.size W W' → Calls Try.prog 55 #[.slice b x.pl.length d] W' fun e w' => ∃ v', e = .returned v' ∧ OwnT w' W'.heap.size v' x.pl ∧ Below W'.heap.size W' w') := fun W' hb => copied_any _ x.pl W' ((h.2.on hbW).on hb) hl.2.2.2 hz2
  have HC : Hid (∀ X, Below W.heap.size W X → X.cell? ⟨w.heap.size, 0, none⟩ = some (.string x.log) ∧ X.cell? ⟨w.heap.size, 1, none⟩ = some (.int .i64 x.size) ∧ X.cell? ⟨w.heap.size, 2, none⟩ = some (.string x.root) ∧ X.cell? ⟨w.heap.size, 3, none⟩ = some (.int .i64 x.time) ∧ X.cell? ⟨w.heap.size, 4, none⟩ = some (.int .i64 x.k) ∧ X.cell? ⟨w.heap.size, 5, none⟩ = some (.slice a x.el.length c) ∧ X.cell? ⟨w.heap.size, 6, none⟩ = some (.slice b x.pl.length d)) := fun X hb => by
    have q := row_cells hb (Array.getElem?_eq_some_iff.1 g0).1 g0
    exact ⟨q 0 _ rfl, q 1 _ rfl, q 2 _ rfl, q 3 _ rfl, q 4 _ rfl, q 5 _ rfl, q 6 _ rfl⟩
  have H0 : Hid (Below w.heap.size w W ∧ W.heap.size = w.heap.size + 2 ∧ W.heap[w.heap.size + 1]? = some (.cells #[.string ⟨#[]⟩, .int .i64 0, .string ⟨#[]⟩, .int .i64 0, .int .i64 0, .slice none 0 0, .slice none 0 0] 26 (0, 0))) := ⟨hbW, hzW, g1⟩
  have HW : Hid (W = (w.alloc (.cells #[.string x.log, .int .i64 x.size, .string x.root, .int .i64 x.time, .int .i64 x.k, .slice a x.el.length c, .slice b x.pl.length d] 26)).alloc (.cells #[.string ⟨#[]⟩, .int .i64 0, .string ⟨#[]⟩, .int .i64 0, .int .i64 0, .slice none 0 0, .slice none 0 0] 26)) := hW
  have HL : Hid (x.log.size ≤ 1048576 ∧ x.root.size ≤ 1048576) := ⟨hl.1, hl.2.1⟩
  clear h hl hz hz2 hW hbW hzW g0 g1
  obtain ⟨log, root, size, time, k, el, pl⟩ := x
  dsimp only at *
  generalize hne : el.length = ne at *
  generalize hnp : pl.length = np at *
  have V0 : Hid (Below W.heap.size W W) := Below.refl _ _
  have V0d : Hid (Below W.heap.size W W.drew) := below_drew' (Below.refl _ _)
  have G1 : Hid (∀ X, Below W.heap.size W X → Calls Try.prog 48 #[.string log, .string ⟨#[]⟩] X fun e w' => e = .returned (.string log) ∧ Below W.heap.size W w') := fun X q => (EJ.out log X HL.out.1).mono fun e w' r => ⟨r.1, q.trans (r.2.mono q.size)⟩
  have G2 : Hid (∀ X, Below W.heap.size W X → Calls Try.prog 48 #[.string root, .string ⟨#[]⟩] X fun e w' => e = .returned (.string root) ∧ Below W.heap.size W w') := fun X q => (EJ.out root X HL.out.2).mono fun e w' r => ⟨r.1, q.trans (r.2.mono q.size)⟩
  have G3 : Hid (∀ X, Below W.heap.size W X → Calls Try.prog 55 #[.slice a ne c] X fun e w' => ∃ a' c', e = .returned (.slice a' ne c') ∧ OwnT w' X.heap.size (.slice a' ne c') el ∧ Below X.heap.size X w' ∧ Below W.heap.size W w') := fun X q => (EC1.out X q).mono fun e w' r => by
    obtain ⟨v', he, ho, hb⟩ := r
    obtain ⟨a', c', rfl⟩ := ho.len
    rw [hne] at he ho
    exact ⟨a', c', he, ho, hb, q.trans (hb.mono q.size)⟩
  have G4 : Hid (∀ X, Below W.heap.size W X → Calls Try.prog 55 #[.slice b np d] X fun e w' => ∃ a' c', e = .returned (.slice a' np c') ∧ OwnT w' X.heap.size (.slice a' np c') pl ∧ Below X.heap.size X w' ∧ Below W.heap.size W w') := fun X q => (EC2.out X q).mono fun e w' r => by
    obtain ⟨v', he, ho, hb⟩ := r
    obtain ⟨a', c', rfl⟩ := ho.len
    rw [hnp] at he ho
    exact ⟨a', c', he, ho, hb, q.trans (hb.mono q.size)⟩
  obtain ⟨x0, x1, x2, x3, x4, x5, x6⟩ := HC.out W V0.out
  clear EJ EC1 EC2
  go_enter Try.func56, Try.ntmps56
  go_wp2_with fail
  rw [← HW.out]
  clear HW
  refine wp_region_held_drew (S := (fun X => X.cell? ⟨w.heap.size, 0, none⟩ = some (.string log) ∧ X.cell? ⟨w.heap.size, 1, none⟩ = some (.int .i64 size) ∧ X.cell? ⟨w.heap.size, 2, none⟩ = some (.string root) ∧ X.cell? ⟨w.heap.size, 3, none⟩ = some (.int .i64 time) ∧ X.cell? ⟨w.heap.size, 4, none⟩ = some (.int .i64 k) ∧ X.cell? ⟨w.heap.size, 5, none⟩ = some (.slice a ne c) ∧ X.cell? ⟨w.heap.size, 6, none⟩ = some (.slice b np d))) (by kernel_rfl) ?_ (fun hHeld => ?_)
  · exact HC.out _ V0d.out
  refine wpAnyH_take (i := 0) (v := ?_) rfl (by kernel_rfl) (by kernel_rfl) (by kernel_rfl) (fun _ _ _ h => h) (Or.inl ⟨by kernel_rfl, ?_⟩) (by assumption) ?_
  rotate_left
  · (intro w' hSw; clear hSw; go_simp; (try with_reducible rfl))
  (try simp only [Act.put, List.setIfInBounds_toArray, List.set_cons_zero, List.set_cons_succ])
  refine wpAnyH_take (i := 1) (v := ?_) rfl (by kernel_rfl) (by kernel_rfl) (by kernel_rfl) (fun _ _ _ h => h) (Or.inl ⟨by kernel_rfl, ?_⟩) (by assumption) ?_
  rotate_left
  · (intro w' hSw; (try dsimp only at hSw); obtain ⟨g0, g1, g2, g3, g4, g5, g6⟩ := hSw; go_simp; (try with_reducible rfl))
  (try simp only [Act.put, List.setIfInBounds_toArray, List.set_cons_zero, List.set_cons_succ])
  refine wpAnyH_take (i := 3) (v := ?_) rfl (by kernel_rfl) (by kernel_rfl) (by kernel_rfl) (fun _ _ _ h => h) (Or.inl ⟨by kernel_rfl, ?_⟩) (by assumption) ?_
  rotate_left
  · (intro w' hSw; clear hSw; go_simp; (try with_reducible rfl))
  (try simp only [Act.put, List.setIfInBounds_toArray, List.set_cons_zero, List.set_cons_succ])
  refine wpAnyH_take (i := 4) (v := ?_) rfl (by kernel_rfl) (by kernel_rfl) (by kernel_rfl) (fun _ _ _ h => h) (Or.inl ⟨by kernel_rfl, ?_⟩) (by assumption) ?_
  rotate_left
  · (intro w' hSw; (try dsimp only at hSw); obtain ⟨g0, g1, g2, g3, g4, g5, g6⟩ := hSw; go_simp; (try with_reducible rfl))
  (try simp only [Act.put, List.setIfInBounds_toArray, List.set_cons_zero, List.set_cons_succ])
  refine wpAnyH_take (i := 5) (v := ?_) rfl (by kernel_rfl) (by kernel_rfl) (by kernel_rfl) (fun _ _ _ h => h) (Or.inl ⟨by kernel_rfl, ?_⟩) (by assumption) ?_
  rotate_left
  · (intro w' hSw; clear hSw; go_simp; (try with_reducible rfl))
  (try simp only [Act.put, List.setIfInBounds_toArray, List.set_cons_zero, List.set_cons_succ])
  refine wpAnyH_take (i := 6) (v := ?_) rfl (by kernel_rfl) (by kernel_rfl) (by kernel_rfl) (fun _ _ _ h => h) (Or.inl ⟨by kernel_rfl, ?_⟩) (by assumption) ?_
  rotate_left
  · (intro w' hSw; (try dsimp only at hSw); obtain ⟨g0, g1, g2, g3, g4, g5, g6⟩ := hSw; go_simp; (try with_reducible rfl))
  (try simp only [Act.put, List.setIfInBounds_toArray, List.set_cons_zero, List.set_cons_succ])
  refine wpAnyH_take (i := 8) (v := ?_) rfl (by kernel_rfl) (by kernel_rfl) (by kernel_rfl) (fun _ _ _ h => h) (Or.inl ⟨by kernel_rfl, ?_⟩) (by assumption) ?_
  rotate_left
  · (intro w' hSw; clear hSw; go_simp; (try with_reducible rfl))
  (try simp only [Act.put, List.setIfInBounds_toArray, List.set_cons_zero, List.set_cons_succ])
  refine wpAnyH_take (i := 9) (v := ?_) rfl (by kernel_rfl) (by kernel_rfl) (by kernel_rfl) (fun _ _ _ h => h) (Or.inl ⟨by kernel_rfl, ?_⟩) (by assumption) ?_
  rotate_left
  · (intro w' hSw; (try dsimp only at hSw); obtain ⟨g0, g1, g2, g3, g4, g5, g6⟩ := hSw; go_simp; (try with_reducible rfl))
  (try simp only [Act.put, List.setIfInBounds_toArray, List.set_cons_zero, List.set_cons_succ])
  refine wpAnyH_take (i := 10) (v := ?_) rfl (by kernel_rfl) (by kernel_rfl) (by kernel_rfl) (fun _ _ _ h => h) (Or.inl ⟨by kernel_rfl, ?_⟩) (by assumption) ?_
  rotate_left
  · (intro w' hSw; clear hSw; go_simp; (try with_reducible rfl))
  (try simp only [Act.put, List.setIfInBounds_toArray, List.set_cons_zero, List.set_cons_succ])
  refine wpAnyH_take (i := 11) (v := ?_) rfl (by kernel_rfl) (by kernel_rfl) (by kernel_rfl) (fun _ _ _ h => h) (Or.inl ⟨by kernel_rfl, ?_⟩) (by assumption) ?_
  rotate_left
  · (intro w' hSw; clear hSw; go_simp; (try with_reducible rfl))
  (try simp only [Act.put, List.setIfInBounds_toArray, List.set_cons_zero, List.set_cons_succ])
  refine wpAnyH_take (i := 12) (v := ?_) rfl (by kernel_rfl) (by kernel_rfl) (by kernel_rfl) (fun _ _ _ h => h) (Or.inl ⟨by kernel_rfl, ?_⟩) (by assumption) ?_
  rotate_left
  · (intro w' hSw; (try dsimp only at hSw); obtain ⟨g0, g1, g2, g3, g4, g5, g6⟩ := hSw; go_simp; (try with_reducible rfl))
  (try simp only [Act.put, List.setIfInBounds_toArray, List.set_cons_zero, List.set_cons_succ])
  refine wpAnyH_take (i := 13) (v := ?_) rfl (by kernel_rfl) (by kernel_rfl) (by kernel_rfl) (fun _ _ _ h => h) (Or.inl ⟨by kernel_rfl, ?_⟩) (by assumption) ?_
  rotate_left
  · (intro w' hSw; clear hSw; go_simp; (try with_reducible rfl))
  (try simp only [Act.put, List.setIfInBounds_toArray, List.set_cons_zero, List.set_cons_succ])
  refine wpAnyH_take (i := 14) (v := ?_) rfl (by kernel_rfl) (by kernel_rfl) (by kernel_rfl) (fun _ _ _ h => h) (Or.inl ⟨by kernel_rfl, ?_⟩) (by assumption) ?_
  rotate_left
  · (intro w' hSw; clear hSw; go_simp; (try with_reducible rfl))
  (try simp only [Act.put, List.setIfInBounds_toArray, List.set_cons_zero, List.set_cons_succ])
  refine wpAnyH_take (i := 15) (v := ?_) rfl (by kernel_rfl) (by kernel_rfl) (by kernel_rfl) (fun _ _ _ h => h) (Or.inl ⟨by kernel_rfl, ?_⟩) (by assumption) ?_
  rotate_left
  · (intro w' hSw; (try dsimp only at hSw); obtain ⟨g0, g1, g2, g3, g4, g5, g6⟩ := hSw; go_simp; (try with_reducible rfl))
  (try simp only [Act.put, List.setIfInBounds_toArray, List.set_cons_zero, List.set_cons_succ])
  refine wpAnyH_take (i := 17) (v := ?_) rfl (by kernel_rfl) (by kernel_rfl) (by kernel_rfl) (fun _ _ _ h => h) (Or.inl ⟨by kernel_rfl, ?_⟩) (by assumption) ?_
  rotate_left
  · (intro w' hSw; clear hSw; go_simp; (try with_reducible rfl))
  (try simp only [Act.put, List.setIfInBounds_toArray, List.set_cons_zero, List.set_cons_succ])
  refine wpAnyH_take (i := 18) (v := ?_) rfl (by kernel_rfl) (by kernel_rfl) (by kernel_rfl) (fun _ _ _ h => h) (Or.inl ⟨by kernel_rfl, ?_⟩) (by assumption) ?_
  rotate_left
  · (intro w' hSw; clear hSw; go_simp; (try with_reducible rfl))
  (try simp only [Act.put, List.setIfInBounds_toArray, List.set_cons_zero, List.set_cons_succ])
  refine wpAnyH_take (i := 19) (v := ?_) rfl (by kernel_rfl) (by kernel_rfl) (by kernel_rfl) (fun _ _ _ h => h) (Or.inl ⟨by kernel_rfl, ?_⟩) (by assumption) ?_
  rotate_left
  · (intro w' hSw; (try dsimp only at hSw); obtain ⟨g0, g1, g2, g3, g4, g5, g6⟩ := hSw; go_simp; (try with_reducible rfl))
  (try simp only [Act.put, List.setIfInBounds_toArray, List.set_cons_zero, List.set_cons_succ])
  refine wpAnyH_ready (rs := [2]) (by kernel_rfl) (by simp) ?_
  refine AllReadyH.cons (by simp only [List.getElem?_toArray, List.getElem?_cons_succ, List.getElem?_cons_zero]; rfl) (fun K hK => ?_) AllReadyH.nil
  go_simp
  go_at_call 48; (with_reducible refine (G1.out _ ?_).mono ?_); exact V0d.out; rintro e wa ⟨rfl, hb⟩; have V1 : Hid (Below W.heap.size W wa) := hb; clear hb
  go_wp2_with fail
  refine hK.out _ _ ?_ (fun hHeld => ?_)
  · exact HC.out _ V1.out
  clear hK K
  (try simp only [Act.put, List.setIfInBounds_toArray, List.set_cons_zero, List.set_cons_succ])
  refine wpAnyH_ready (rs := [7]) (by kernel_rfl) (by simp) ?_
  refine AllReadyH.cons (by simp only [List.getElem?_toArray, List.getElem?_cons_succ, List.getElem?_cons_zero]; rfl) (fun K hK => ?_) AllReadyH.nil
  go_simp
  go_at_call 48; (with_reducible refine (G2.out _ ?_).mono ?_); exact V1.out; rintro e wb ⟨rfl, hb⟩; have V2 : Hid (Below W.heap.size W wb) := hb; clear hb
  go_wp2_with fail
  refine hK.out _ _ ?_ (fun hHeld => ?_)
  · exact HC.out _ V2.out
  clear hK K
  (try simp only [Act.put, List.setIfInBounds_toArray, List.set_cons_zero, List.set_cons_succ])
  refine wpAnyH_ready (rs := [16]) (by kernel_rfl) (by simp) ?_
  refine AllReadyH.cons (by simp only [List.getElem?_toArray, List.getElem?_cons_succ, List.getElem?_cons_zero]; rfl) (fun K hK => ?_) AllReadyH.nil
  go_simp
  go_at_call 55; (with_reducible refine (G3.out _ ?_).mono ?_); exact V2.out; rintro e wc ⟨a3, c3, rfl, ho3, hb3, hb⟩; have V3 : Hid (Below W.heap.size W wc) := hb; have O3 : Hid (OwnT wc wb.heap.size (.slice a3 ne c3) el ∧ ∀ g, (Value.slice a3 ne c3).ownBlock = some g → g < wc.heap.size) := ⟨ho3, fun g hg => (World.ownsRow.lt ho3 g hg).2⟩; clear hb hb3 ho3
  go_wp2_with fail
  refine hK.out _ _ ?_ (fun hHeld => ?_)
  · exact HC.out _ V3.out
  clear hK K
  (try simp only [Act.put, List.setIfInBounds_toArray, List.set_cons_zero, List.set_cons_succ])
  refine wpAnyH_ready (rs := [20]) (by kernel_rfl) (by simp) ?_
  refine AllReadyH.cons (by simp only [List.getElem?_toArray, List.getElem?_cons_succ, List.getElem?_cons_zero]; rfl) (fun K hK => ?_) AllReadyH.nil
  go_simp
  go_at_call 55; (with_reducible refine (G4.out _ ?_).mono ?_); exact V3.out; rintro e wd ⟨a4, c4, rfl, ho4, hb4, hb⟩; have V4 : Hid (Below W.heap.size W wd) := hb; have O4 : Hid (OwnT wd wc.heap.size (.slice a4 np c4) pl ∧ Below wc.heap.size wc wd) := ⟨ho4, hb4⟩; clear hb hb4 ho4
  go_wp2_with fail
  refine hK.out _ _ ?_ (fun hHeld => ?_)
  · exact HC.out _ V4.out
  clear hK K
  (try simp only [Act.put, List.setIfInBounds_toArray, List.set_cons_zero, List.set_cons_succ])
  obtain ⟨⟨r0, r1, r2, r3, r4, r5, r6⟩, fr⟩ := seven_cells V4.out (show w.heap.size + 1 < W.heap.size by have := H0.out.2.1; omega) H0.out.2.2
  have f0 := fr 0
  have f1 := fr 1
  have f2 := fr 2
  have f3 := fr 3
  have f4 := fr 4
  have f5 := fr 5
  have f6 := fr 6
  clear fr
  refine wpAnyH_take (i := 21) (v := ?_) rfl (by kernel_rfl) (by kernel_rfl) (by kernel_rfl) (fun _ _ _ h => h) (Or.inl ⟨by kernel_rfl, ?_⟩) (by assumption) ?_
  rotate_left
  · (intro w' hSw; clear hSw; go_simp; (try with_reducible rfl))
  (try simp only [Act.put, List.setIfInBounds_toArray, List.set_cons_zero, List.set_cons_succ])
  refine wpAnyH_take (i := 22) (v := ?_) rfl (by kernel_rfl) (by kernel_rfl) (by kernel_rfl) (fun _ _ _ h => h) (Or.inl ⟨by kernel_rfl, ?_⟩) (by assumption) ?_
  rotate_left
  · (intro w' hSw; clear hSw; go_simp; (try with_reducible rfl))
  (try simp only [Act.put, List.setIfInBounds_toArray, List.set_cons_zero, List.set_cons_succ])
  refine wpAnyH_ready (rs := [23]) (by kernel_rfl) (by simp) ?_
  refine AllReadyH.cons (by simp only [List.getElem?_toArray, List.getElem?_cons_succ, List.getElem?_cons_zero]; rfl) (fun K hK => ?_) AllReadyH.nil
  go_simp
  refine hK.out _ _ ?_ (fun hHeld => ?_)
  · obtain ⟨u0, u1, u2, u3, u4, u5, u6⟩ := HC.out _ V4.out; go_keep
  clear hK K
  (try simp only [Act.put, List.setIfInBounds_toArray, List.set_cons_zero, List.set_cons_succ])
  refine wpAnyH_done (by kernel_rfl) ?_ _
  go_simp
  go_wp2
  refine bodyPost_ret (v := .agg #[.string log, .int .i64 size, .string root, .int .i64 time, .int .i64 k, .slice a3 ne c3, .slice a4 np c4]) (by simp [results, Try.results56, go_sem, r0, r1, r2, r3, r4, r5, r6, f0, f1, f2, f3, f4, f5, f6]) rfl ⟨_, _, wc.heap.size, rfl, ?_, ?_, ?_, ?_, ?_, ?_⟩
  · have z2 := V2.out.size
    have z0 := H0.out.2.1
    refine OwnT.lower (B := wb.heap.size) ?_ (by omega)
    iterate 7 (refine OwnT.far ?_ (by omega))
    exact O3.out.1.below O4.out.2 (Nat.le_refl _)
  · have z2 := V3.out.size
    have z0 := H0.out.2.1
    iterate 7 (refine OwnT.far ?_ (by omega))
    exact O4.out.1
  · exact fun g hg => O3.out.2 g hg
  · have z2 := V3.out.size
    have z0 := H0.out.2.1
    omega
  · simp only [size_put]
    exact O4.out.2.size
  · iterate 7 (refine Below.setCell ?_ (by simp <;> omega) _)
    exact H0.out.1.trans (V4.out.mono H0.out.1.size)
end Go.Proofs.Ytpglcbidfghfkaa

/-
  The program's copy of a fraud.
-/
namespace Go.Proofs.Ytpglcbidfghfkaa
open Go.RowKit Go.Lib
set_option linter.unusedVariables false
set_option linter.unusedSimpArgs false

/-- A fraud in memory that the call has made. -/
def FraudOwn (w : World) (x y : Hd) (l : List ByteArray) (e : Ending) (w' : World) : Prop :=
  ∃ (vex vpx vey vpy vl : Value) (n1 n2 n3 n4 : Nat), e = .returned (.agg #[.string x.log, .int .i64 x.size, .string x.root, .int .i64 x.time, .int .i64 x.k, vex, vpx, .string y.log, .int .i64 y.size, .string y.root, .int .i64 y.time, .int .i64 y.k, vey, vpy, vl]) ∧ Owns5 w' w.heap.size n1 n2 n3 n4 vex vpx vey vpy vl x.el x.pl y.el y.pl l ∧ Below w.heap.size w w'
/-- The texts of a head are of no more than the law looks at. -/
def Hd.Fits (x : Hd) : Prop := x.Lim ∧ (∀ j (hj : j < x.el.length), x.el[j].size ≤ 1048576) ∧ (∀ j (hj : j < x.pl.length), x.pl[j].size ≤ 1048576)

set_option maxHeartbeats 4000000 in
set_option maxRecDepth 10000 in
theorem fraudCopied_any (x y : Hd) (vex vpx vey vpy vl : Value) (l : List ByteArray) (w : World) (hx : x.In vex vpx w w.heap.size) (hy : y.In vey vpy w w.heap.size) (h3 : Texts w w.heap.size vl l) (hlx : x.Fits) (hly : y.Fits) (hll : l.length ≤ 1048576) (hlz : ∀ j (hj : j < l.length), l[j].size ≤ 1048576) :
    Calls Try.prog 58 #[.agg #[.string x.log, .int .i64 x.size, .string x.root, .int .i64 x.time, .int .i64 x.k, vex, vpx, .string y.log, .int .i64 y.size, .string y.root, .int .i64 y.time, .int .i64 y.k, vey, vpy, vl]] w fun e w' => FraudOwn w x y l e w' := by
  obtain ⟨a, ca, b, cb, rfl, rfl⟩ := hx.parts
  obtain ⟨a', ca', b', cb', rfl, rfl⟩ := hy.parts
  obtain ⟨ae, ce, rfl, hq0⟩ := id h3
  obtain ⟨W, hW⟩ : ∃ W, W = (w.alloc (.cells #[.string x.log, .int .i64 x.size, .string x.root, .int .i64 x.time, .int .i64 x.k, .slice a x.el.length ca, .slice b x.pl.length cb, .string y.log, .int .i64 y.size, .string y.root, .int .i64 y.time, .int .i64 y.k, .slice a' y.el.length ca', .slice b' y.pl.length cb', .slice ae l.length ce] 28)).alloc (.cells #[.string ⟨#[]⟩, .int .i64 0, .string ⟨#[]⟩, .int .i64 0, .int .i64 0, .slice none 0 0, .slice none 0 0, .string ⟨#[]⟩, .int .i64 0, .string ⟨#[]⟩, .int .i64 0, .int .i64 0, .slice none 0 0, .slice none 0 0, .slice none 0 0] 28) := ⟨_, rfl⟩
  have hbW : Below w.heap.size w W := by rw [hW]; exact ((Below.refl _ _).alloc (Nat.le_refl _) _).alloc (by simp) _
  have hzW : W.heap.size = w.heap.size + 2 := by rw [hW]; simp
  have g0 : W.heap[w.heap.size]? = some (.cells #[.string x.log, .int .i64 x.size, .string x.root, .int .i64 x.time, .int .i64 x.k, .slice a x.el.length ca, .slice b x.pl.length cb, .string y.log, .int .i64 y.size, .string y.root, .int .i64 y.time, .int .i64 y.k, .slice a' y.el.length ca', .slice b' y.pl.length cb', .slice ae l.length ce] 28 (0, 0)) := by rw [hW]; exact heap_alloc2_old w _ _
  have g1 : W.heap[w.heap.size + 1]? = some (.cells #[.string ⟨#[]⟩, .int .i64 0, .string ⟨#[]⟩, .int .i64 0, .int .i64 0, .slice none 0 0, .slice none 0 0, .string ⟨#[]⟩, .int .i64 0, .string ⟨#[]⟩, .int .i64 0, .int .i64 0, .slice none 0 0, .slice none 0 0, .slice none 0 0] 28 (0, 0)) := by rw [hW]; exact heap_alloc2_new w _ _
  have G1 : Hid (∀ X, Below W.heap.size W X → Calls Try.prog 56 #[.agg #[.string x.log, .int .i64 x.size, .string x.root, .int .i64 x.time, .int .i64 x.k, .slice a x.el.length ca, .slice b x.pl.length cb]] X fun e w' => ∃ a1 c1 b1 d1 n1, e = .returned (.agg #[.string x.log, .int .i64 x.size, .string x.root, .int .i64 x.time, .int .i64 x.k, .slice a1 x.el.length c1, .slice b1 x.pl.length d1]) ∧ (OwnT w' W.heap.size (.slice a1 x.el.length c1) x.el ∧ OwnT w' n1 (.slice b1 x.pl.length d1) x.pl ∧ (∀ g, (Value.slice a1 x.el.length c1).ownBlock = some g → g < n1) ∧ (∀ g, (Value.slice b1 x.pl.length d1).ownBlock = some g → g < w'.heap.size) ∧ W.heap.size ≤ n1 ∧ n1 ≤ w'.heap.size) ∧ Below W.heap.size W w') := fun X q => (headCopied_any x _ _ X ((hx.on hbW).on q) hlx.1 hlx.2.1 hlx.2.2).mono fun e w' r => by
    obtain ⟨ve, vp, n, he, o1, o2, k1, k2, k3, hb⟩ := r
    obtain ⟨a1, c1, rfl⟩ := o1.len
    obtain ⟨b1, d1, rfl⟩ := o2.len
    have := q.size
    exact ⟨a1, c1, b1, d1, n, he, ⟨o1.lower (by omega), o2, k1, fun g hg => (World.ownsRow.lt o2 g hg).2, by omega, k3⟩, q.trans (hb.mono q.size)⟩
  have G2 : Hid (∀ X, Below W.heap.size W X → Calls Try.prog 56 #[.agg #[.string y.log, .int .i64 y.size, .string y.root, .int .i64 y.time, .int .i64 y.k, .slice a' y.el.length ca', .slice b' y.pl.length cb']] X fun e w' => ∃ a1 c1 b1 d1 n1, e = .returned (.agg #[.string y.log, .int .i64 y.size, .string y.root, .int .i64 y.time, .int .i64 y.k, .slice a1 y.el.length c1, .slice b1 y.pl.length d1]) ∧ (OwnT w' X.heap.size (.slice a1 y.el.length c1) y.el ∧ OwnT w' n1 (.slice b1 y.pl.length d1) y.pl ∧ (∀ g, (Value.slice a1 y.el.length c1).ownBlock = some g → g < n1) ∧ (∀ g, (Value.slice b1 y.pl.length d1).ownBlock = some g → g < w'.heap.size) ∧ X.heap.size ≤ n1 ∧ n1 ≤ w'.heap.size ∧ Below X.heap.size X w') ∧ Below W.heap.size W w') := fun X q => (headCopied_any y _ _ X ((hy.on hbW).on q) hly.1 hly.2.1 hly.2.2).mono fun e w' r => by
    obtain ⟨ve, vp, n, he, o1, o2, k1, k2, k3, hb⟩ := r
    obtain ⟨a1, c1, rfl⟩ := o1.len
    obtain ⟨b1, d1, rfl⟩ := o2.len
    exact ⟨a1, c1, b1, d1, n, he, ⟨o1, o2, k1, fun g hg => (World.ownsRow.lt o2 g hg).2, k2, k3, hb⟩, q.trans (hb.mono q.size)⟩
  have G3 : Hid (∀ X, Below W.heap.size W X → Calls Try.prog 55 #[.slice ae l.length ce] X fun e w' => ∃ a3 c3, e = .returned (.slice a3 l.length c3) ∧ (OwnT w' X.heap.size (.slice a3 l.length c3) l ∧ Below X.heap.size X w') ∧ Below W.heap.size W w') := fun X q => (copied_any _ l X ((h3.on hbW).on q) hll hlz).mono fun e w' r => by
    obtain ⟨v', he, ho, hb⟩ := r
    obtain ⟨a', c', rfl⟩ := ho.len
    exact ⟨a', c', he, ⟨ho, hb⟩, q.trans (hb.mono q.size)⟩
  have HC : Hid (∀ X, Below W.heap.size W X → X.cell? ⟨w.heap.size, 0, none⟩ = some (.string x.log) ∧ X.cell? ⟨w.heap.size, 1, none⟩ = some (.int .i64 x.size) ∧ X.cell? ⟨w.heap.size, 2, none⟩ = some (.string x.root) ∧ X.cell? ⟨w.heap.size, 3, none⟩ = some (.int .i64 x.time) ∧ X.cell? ⟨w.heap.size, 4, none⟩ = some (.int .i64 x.k) ∧ X.cell? ⟨w.heap.size, 5, none⟩ = some (.slice a x.el.length ca) ∧ X.cell? ⟨w.heap.size, 6, none⟩ = some (.slice b x.pl.length cb) ∧ X.cell? ⟨w.heap.size, 7, none⟩ = some (.string y.log) ∧ X.cell? ⟨w.heap.size, 8, none⟩ = some (.int .i64 y.size) ∧ X.cell? ⟨w.heap.size, 9, none⟩ = some (.string y.root) ∧ X.cell? ⟨w.heap.size, 10, none⟩ = some (.int .i64 y.time) ∧ X.cell? ⟨w.heap.size, 11, none⟩ = some (.int .i64 y.k) ∧ X.cell? ⟨w.heap.size, 12, none⟩ = some (.slice a' y.el.length ca') ∧ X.cell? ⟨w.heap.size, 13, none⟩ = some (.slice b' y.pl.length cb') ∧ X.cell? ⟨w.heap.size, 14, none⟩ = some (.slice ae l.length ce)) := fun X hb => by
    have q := row_cells hb (Array.getElem?_eq_some_iff.1 g0).1 g0
    exact ⟨q 0 _ rfl, q 1 _ rfl, q 2 _ rfl, q 3 _ rfl, q 4 _ rfl, q 5 _ rfl, q 6 _ rfl, q 7 _ rfl, q 8 _ rfl, q 9 _ rfl, q 10 _ rfl, q 11 _ rfl, q 12 _ rfl, q 13 _ rfl, q 14 _ rfl⟩
  have H0 : Hid (Below w.heap.size w W ∧ W.heap.size = w.heap.size + 2 ∧ W.heap[w.heap.size + 1]? = some (.cells #[.string ⟨#[]⟩, .int .i64 0, .string ⟨#[]⟩, .int .i64 0, .int .i64 0, .slice none 0 0, .slice none 0 0, .string ⟨#[]⟩, .int .i64 0, .string ⟨#[]⟩, .int .i64 0, .int .i64 0, .slice none 0 0, .slice none 0 0, .slice none 0 0] 28 (0, 0))) := ⟨hbW, hzW, g1⟩
  have HW : Hid (W = (w.alloc (.cells #[.string x.log, .int .i64 x.size, .string x.root, .int .i64 x.time, .int .i64 x.k, .slice a x.el.length ca, .slice b x.pl.length cb, .string y.log, .int .i64 y.size, .string y.root, .int .i64 y.time, .int .i64 y.k, .slice a' y.el.length ca', .slice b' y.pl.length cb', .slice ae l.length ce] 28)).alloc (.cells #[.string ⟨#[]⟩, .int .i64 0, .string ⟨#[]⟩, .int .i64 0, .int .i64 0, .slice none 0 0, .slice none 0 0, .string ⟨#[]⟩, .int .i64 0, .string ⟨#[]⟩, .int .i64 0, .int .i64 0, .slice none 0 0, .slice none 0 0, .slice none 0 0] 28)) := hW
  have V0d : Hid (Below W.heap.size W W.drew) := below_drew' (Below.refl _ _)
  obtain ⟨x0, x1, x2, x3, x4, x5, x6, x7, x8, x9, x10, x11, x12, x13, x14⟩ := HC.out W (Below.refl _ _)
  clear hq0 hx hy h3 hlx hly hll hlz hW hbW hzW g0 g1
  generalize x.el.length = m1 at *
  generalize x.pl.length = m2 at *
  generalize y.el.length = m3 at *
  generalize y.pl.length = m4 at *
  generalize l.length = m5 at *
  go_enter Try.func58, Try.ntmps58
  go_wp2_with fail
  rw [← HW.out]
  clear HW
  refine wp_region_held_drew (S := (fun X => X.cell? ⟨w.heap.size, 0, none⟩ = some (.string x.log) ∧ X.cell? ⟨w.heap.size, 1, none⟩ = some (.int .i64 x.size) ∧ X.cell? ⟨w.heap.size, 2, none⟩ = some (.string x.root) ∧ X.cell? ⟨w.heap.size, 3, none⟩ = some (.int .i64 x.time) ∧ X.cell? ⟨w.heap.size, 4, none⟩ = some (.int .i64 x.k) ∧ X.cell? ⟨w.heap.size, 5, none⟩ = some (.slice a m1 ca) ∧ X.cell? ⟨w.heap.size, 6, none⟩ = some (.slice b m2 cb) ∧ X.cell? ⟨w.heap.size, 7, none⟩ = some (.string y.log) ∧ X.cell? ⟨w.heap.size, 8, none⟩ = some (.int .i64 y.size) ∧ X.cell? ⟨w.heap.size, 9, none⟩ = some (.string y.root) ∧ X.cell? ⟨w.heap.size, 10, none⟩ = some (.int .i64 y.time) ∧ X.cell? ⟨w.heap.size, 11, none⟩ = some (.int .i64 y.k) ∧ X.cell? ⟨w.heap.size, 12, none⟩ = some (.slice a' m3 ca') ∧ X.cell? ⟨w.heap.size, 13, none⟩ = some (.slice b' m4 cb') ∧ X.cell? ⟨w.heap.size, 14, none⟩ = some (.slice ae m5 ce))) (by kernel_rfl) ?_ (fun hHeld => ?_)
  · exact HC.out _ V0d.out
  refine wpAnyH_take (i := 0) (v := ?_) rfl (by kernel_rfl) (by kernel_rfl) (by kernel_rfl) (fun _ _ _ h => h) (Or.inl ⟨by kernel_rfl, ?_⟩) (by assumption) ?_
  rotate_left
  · (intro w' hSw; clear hSw; go_simp; (try with_reducible rfl))
  (try simp only [Act.put, List.setIfInBounds_toArray, List.set_cons_zero, List.set_cons_succ])
  refine wpAnyH_take (i := 1) (v := ?_) rfl (by kernel_rfl) (by kernel_rfl) (by kernel_rfl) (fun _ _ _ h => h) (Or.inl ⟨by kernel_rfl, ?_⟩) (by assumption) ?_
  rotate_left
  · (intro w' hSw; (try dsimp only at hSw); obtain ⟨g0, g1, g2, g3, g4, g5, g6, g7, g8, g9, g10, g11, g12, g13, g14⟩ := hSw; go_simp; (try with_reducible rfl))
  (try simp only [Act.put, List.setIfInBounds_toArray, List.set_cons_zero, List.set_cons_succ])
  refine wpAnyH_take (i := 3) (v := ?_) rfl (by kernel_rfl) (by kernel_rfl) (by kernel_rfl) (fun _ _ _ h => h) (Or.inl ⟨by kernel_rfl, ?_⟩) (by assumption) ?_
  rotate_left
  · (intro w' hSw; clear hSw; go_simp; (try with_reducible rfl))
  (try simp only [Act.put, List.setIfInBounds_toArray, List.set_cons_zero, List.set_cons_succ])
  refine wpAnyH_take (i := 4) (v := ?_) rfl (by kernel_rfl) (by kernel_rfl) (by kernel_rfl) (fun _ _ _ h => h) (Or.inl ⟨by kernel_rfl, ?_⟩) (by assumption) ?_
  rotate_left
  · (intro w' hSw; (try dsimp only at hSw); obtain ⟨g0, g1, g2, g3, g4, g5, g6, g7, g8, g9, g10, g11, g12, g13, g14⟩ := hSw; go_simp; (try with_reducible rfl))
  (try simp only [Act.put, List.setIfInBounds_toArray, List.set_cons_zero, List.set_cons_succ])
  refine wpAnyH_take (i := 6) (v := ?_) rfl (by kernel_rfl) (by kernel_rfl) (by kernel_rfl) (fun _ _ _ h => h) (Or.inl ⟨by kernel_rfl, ?_⟩) (by assumption) ?_
  rotate_left
  · (intro w' hSw; clear hSw; go_simp; (try with_reducible rfl))
  (try simp only [Act.put, List.setIfInBounds_toArray, List.set_cons_zero, List.set_cons_succ])
  refine wpAnyH_take (i := 7) (v := ?_) rfl (by kernel_rfl) (by kernel_rfl) (by kernel_rfl) (fun _ _ _ h => h) (Or.inl ⟨by kernel_rfl, ?_⟩) (by assumption) ?_
  rotate_left
  · (intro w' hSw; (try dsimp only at hSw); obtain ⟨g0, g1, g2, g3, g4, g5, g6, g7, g8, g9, g10, g11, g12, g13, g14⟩ := hSw; go_simp; (try with_reducible rfl))
  (try simp only [Act.put, List.setIfInBounds_toArray, List.set_cons_zero, List.set_cons_succ])
  refine wpAnyH_ready (rs := [2]) (by kernel_rfl) (by simp) ?_
  refine AllReadyH.cons (by simp only [List.getElem?_toArray, List.getElem?_cons_succ, List.getElem?_cons_zero]; rfl) (fun K hK => ?_) AllReadyH.nil
  go_simp
  go_at_call 56; (with_reducible refine (G1.out _ ?_).mono ?_); exact V0d.out; rintro e w1 ⟨a1, ca1, b1, cb1, n1, rfl, ho, hb⟩; have V1 : Hid (Below W.heap.size W w1) := hb; have O1 : Hid (OwnT w1 W.heap.size (.slice a1 m1 ca1) x.el ∧ OwnT w1 n1 (.slice b1 m2 cb1) x.pl ∧ (∀ g, (Value.slice a1 m1 ca1).ownBlock = some g → g < n1) ∧ (∀ g, (Value.slice b1 m2 cb1).ownBlock = some g → g < w1.heap.size) ∧ W.heap.size ≤ n1 ∧ n1 ≤ w1.heap.size) := ho; clear hb ho
  go_wp2_with fail
  refine hK.out _ _ ?_ (fun hHeld => ?_)
  · exact HC.out _ V1.out
  clear hK K
  (try simp only [Act.put, List.setIfInBounds_toArray, List.set_cons_zero, List.set_cons_succ])
  refine wpAnyH_ready (rs := [5]) (by kernel_rfl) (by simp) ?_
  refine AllReadyH.cons (by simp only [List.getElem?_toArray, List.getElem?_cons_succ, List.getElem?_cons_zero]; rfl) (fun K hK => ?_) AllReadyH.nil
  go_simp
  go_at_call 56; (with_reducible refine (G2.out _ ?_).mono ?_); exact V1.out; rintro e w2 ⟨a2, ca2, b2, cb2, n2, rfl, ho, hb⟩; have V2 : Hid (Below W.heap.size W w2) := hb; have O2 : Hid (OwnT w2 w1.heap.size (.slice a2 m3 ca2) y.el ∧ OwnT w2 n2 (.slice b2 m4 cb2) y.pl ∧ (∀ g, (Value.slice a2 m3 ca2).ownBlock = some g → g < n2) ∧ (∀ g, (Value.slice b2 m4 cb2).ownBlock = some g → g < w2.heap.size) ∧ w1.heap.size ≤ n2 ∧ n2 ≤ w2.heap.size ∧ Below w1.heap.size w1 w2) := ho; clear hb ho
  go_wp2_with fail
  refine hK.out _ _ ?_ (fun hHeld => ?_)
  · exact HC.out _ V2.out
  clear hK K
  (try simp only [Act.put, List.setIfInBounds_toArray, List.set_cons_zero, List.set_cons_succ])
  refine wpAnyH_ready (rs := [8]) (by kernel_rfl) (by simp) ?_
  refine AllReadyH.cons (by simp only [List.getElem?_toArray, List.getElem?_cons_succ, List.getElem?_cons_zero]; rfl) (fun K hK => ?_) AllReadyH.nil
  go_simp
  go_at_call 55; (with_reducible refine (G3.out _ ?_).mono ?_); exact V2.out; rintro e w3 ⟨a3, c3, rfl, ho, hb⟩; have V3 : Hid (Below W.heap.size W w3) := hb; have O3 : Hid (OwnT w3 w2.heap.size (.slice a3 m5 c3) l ∧ Below w2.heap.size w2 w3) := ho; clear hb ho
  go_wp2_with fail
  refine hK.out _ _ ?_ (fun hHeld => ?_)
  · exact HC.out _ V3.out
  clear hK K
  (try simp only [Act.put, List.setIfInBounds_toArray, List.set_cons_zero, List.set_cons_succ])
  have kR := (V3.out.block _ (show w.heap.size + 1 < W.heap.size by have := H0.out.2.1; omega)).trans H0.out.2.2
  have qr := row_here kR
  have qf := row_free kR
  obtain ⟨r0, r1, r2, r3, r4, r5, r6, r7, r8, r9, r10, r11, r12, r13, r14⟩ : w3.cell? ⟨(w.heap.size + 1), 0, none⟩ = some (.string ⟨#[]⟩) ∧ w3.cell? ⟨(w.heap.size + 1), 1, none⟩ = some (.int .i64 0) ∧ w3.cell? ⟨(w.heap.size + 1), 2, none⟩ = some (.string ⟨#[]⟩) ∧ w3.cell? ⟨(w.heap.size + 1), 3, none⟩ = some (.int .i64 0) ∧ w3.cell? ⟨(w.heap.size + 1), 4, none⟩ = some (.int .i64 0) ∧ w3.cell? ⟨(w.heap.size + 1), 5, none⟩ = some (.slice none 0 0) ∧ w3.cell? ⟨(w.heap.size + 1), 6, none⟩ = some (.slice none 0 0) ∧ w3.cell? ⟨(w.heap.size + 1), 7, none⟩ = some (.string ⟨#[]⟩) ∧ w3.cell? ⟨(w.heap.size + 1), 8, none⟩ = some (.int .i64 0) ∧ w3.cell? ⟨(w.heap.size + 1), 9, none⟩ = some (.string ⟨#[]⟩) ∧ w3.cell? ⟨(w.heap.size + 1), 10, none⟩ = some (.int .i64 0) ∧ w3.cell? ⟨(w.heap.size + 1), 11, none⟩ = some (.int .i64 0) ∧ w3.cell? ⟨(w.heap.size + 1), 12, none⟩ = some (.slice none 0 0) ∧ w3.cell? ⟨(w.heap.size + 1), 13, none⟩ = some (.slice none 0 0) ∧ w3.cell? ⟨(w.heap.size + 1), 14, none⟩ = some (.slice none 0 0) := ⟨qr 0 _ rfl, qr 1 _ rfl, qr 2 _ rfl, qr 3 _ rfl, qr 4 _ rfl, qr 5 _ rfl, qr 6 _ rfl, qr 7 _ rfl, qr 8 _ rfl, qr 9 _ rfl, qr 10 _ rfl, qr 11 _ rfl, qr 12 _ rfl, qr 13 _ rfl, qr 14 _ rfl⟩
  obtain ⟨f0, f1, f2, f3, f4, f5, f6, f7, f8, f9, f10, f11, f12, f13, f14⟩ : w3.frozen? ⟨w.heap.size + 1, 0, none⟩ = false ∧ w3.frozen? ⟨w.heap.size + 1, 1, none⟩ = false ∧ w3.frozen? ⟨w.heap.size + 1, 2, none⟩ = false ∧ w3.frozen? ⟨w.heap.size + 1, 3, none⟩ = false ∧ w3.frozen? ⟨w.heap.size + 1, 4, none⟩ = false ∧ w3.frozen? ⟨w.heap.size + 1, 5, none⟩ = false ∧ w3.frozen? ⟨w.heap.size + 1, 6, none⟩ = false ∧ w3.frozen? ⟨w.heap.size + 1, 7, none⟩ = false ∧ w3.frozen? ⟨w.heap.size + 1, 8, none⟩ = false ∧ w3.frozen? ⟨w.heap.size + 1, 9, none⟩ = false ∧ w3.frozen? ⟨w.heap.size + 1, 10, none⟩ = false ∧ w3.frozen? ⟨w.heap.size + 1, 11, none⟩ = false ∧ w3.frozen? ⟨w.heap.size + 1, 12, none⟩ = false ∧ w3.frozen? ⟨w.heap.size + 1, 13, none⟩ = false ∧ w3.frozen? ⟨w.heap.size + 1, 14, none⟩ = false := ⟨qf 0, qf 1, qf 2, qf 3, qf 4, qf 5, qf 6, qf 7, qf 8, qf 9, qf 10, qf 11, qf 12, qf 13, qf 14⟩
  clear kR qr qf
  refine wpAnyH_take (i := 9) (v := ?_) rfl (by kernel_rfl) (by kernel_rfl) (by kernel_rfl) (fun _ _ _ h => h) (Or.inl ⟨by kernel_rfl, ?_⟩) (by assumption) ?_
  rotate_left
  · (intro w' hSw; clear hSw; go_simp; (try with_reducible rfl))
  (try simp only [Act.put, List.setIfInBounds_toArray, List.set_cons_zero, List.set_cons_succ])
  refine wpAnyH_ready (rs := [10]) (by kernel_rfl) (by simp) ?_
  refine AllReadyH.cons (by simp only [List.getElem?_toArray, List.getElem?_cons_succ, List.getElem?_cons_zero]; rfl) (fun K hK => ?_) AllReadyH.nil
  go_simp
  refine hK.out _ _ ?_ (fun hHeld => ?_)
  · obtain ⟨u0, u1, u2, u3, u4, u5, u6, u7, u8, u9, u10, u11, u12, u13, u14⟩ := HC.out _ V3.out; go_keep
  clear hK K
  (try simp only [Act.put, List.setIfInBounds_toArray, List.set_cons_zero, List.set_cons_succ])
  refine wpAnyH_done (by kernel_rfl) ?_ _
  go_simp
  go_wp2
  refine bodyPost_ret (v := .agg #[.string x.log, .int .i64 x.size, .string x.root, .int .i64 x.time, .int .i64 x.k, .slice a1 m1 ca1, .slice b1 m2 cb1, .string y.log, .int .i64 y.size, .string y.root, .int .i64 y.time, .int .i64 y.k, .slice a2 m3 ca2, .slice b2 m4 cb2, .slice a3 m5 c3]) (by simp [results, Try.results58, go_sem, r0, r1, r2, r3, r4, r5, r6, r7, r8, r9, r10, r11, r12, r13, r14, f0, f1, f2, f3, f4, f5, f6, f7, f8, f9, f10, f11, f12, f13, f14]) rfl ⟨_, _, _, _, _, n1, w1.heap.size, n2, w2.heap.size, rfl, ?_, ?_⟩
  · have z0 := H0.out.2.1
    have z1 := V1.out.size
    have z2 := V2.out.size
    obtain ⟨p1, p2, p3, p4, p5, p6⟩ := O1.out
    obtain ⟨q1, q2, q3, q4, q5, q6, q7⟩ := O2.out
    obtain ⟨s1, s2⟩ := O3.out
    have hb13 := q7.trans (s2.mono q7.size)
    have hz3 := s2.size
    refine ⟨⟨?_, ?_, ?_, ?_, ?_⟩, ⟨p3, p4, q3, q4⟩, by omega, p6, q5, q6, by simp only [size_put]; exact hz3⟩
    · refine OwnT.lower (B := W.heap.size) ?_ (by omega)
      iterate 15 (refine OwnT.far ?_ (by omega))
      exact p1.below hb13 (Nat.le_refl _)
    · iterate 15 (refine OwnT.far ?_ (by omega))
      exact p2.below hb13 (Nat.le_refl _)
    · iterate 15 (refine OwnT.far ?_ (by omega))
      exact q1.below s2 (Nat.le_refl _)
    · iterate 15 (refine OwnT.far ?_ (by omega))
      exact q2.below s2 (Nat.le_refl _)
    · iterate 15 (refine OwnT.far ?_ (by omega))
      exact s1
  · iterate 15 (refine Below.setCell ?_ (by simp <;> omega) _)
    exact H0.out.1.trans (V3.out.mono H0.out.1.size)
end Go.Proofs.Ytpglcbidfghfkaa

/-
  A watch as a record; a watch in memory that a call has made.
-/
namespace Go.Proofs.Ytpglcbidfghfkaa
open Go.RowKit Go.Lib
set_option linter.unusedVariables false
set_option linter.unusedSimpArgs false

/-- A watch: its log and key, what it read and its head, whether it found a fraud, and that one (its pool stands beside it). -/
structure Wt where
  log : ByteArray
  key : ByteArray
  en : List ByteArray
  h : Hd
  found : Bool
  a : Hd
  b : Hd
  fl : List ByteArray
/-- Its rows can be read. -/
def Wt.In (t : Wt) (v0 v1 v2 v3 v4 v5 v6 v7 : Value) (w : World) (B : Nat) : Prop := Texts w B v0 t.en ∧ t.h.In v1 v2 w B ∧ t.a.In v3 v4 w B ∧ t.b.In v5 v6 w B ∧ Texts w B v7 t.fl
theorem Wt.In.on {t : Wt} {v0 v1 v2 v3 v4 v5 v6 v7 : Value} {w w' : World} (h : t.In v0 v1 v2 v3 v4 v5 v6 v7 w w.heap.size) (hb : Below w.heap.size w w') : t.In v0 v1 v2 v3 v4 v5 v6 v7 w' w'.heap.size := ⟨h.1.on hb, h.2.1.on hb, h.2.2.1.on hb, h.2.2.2.1.on hb, h.2.2.2.2.on hb⟩
def FitL (l : List ByteArray) : Prop := l.length ≤ 1048576 ∧ ∀ j (hj : j < l.length), l[j].size ≤ 1048576
theorem FitL.nil : FitL [] := ⟨by simp, fun j hj => absurd hj (by simp)⟩
/-- It is of no more than the law looks at. -/
def Wt.Fits (t : Wt) : Prop := t.log.size ≤ 1048576 ∧ t.key.size ≤ 1048576 ∧ FitL t.en ∧ t.h.Fits ∧ t.a.Fits ∧ t.b.Fits ∧ FitL t.fl
/-- What holds of blocks from lo to below hi, and of nothing else. -/
def Local (Q : World → Nat → Nat → Value → Prop) : Prop := ∀ X X' lo hi v, Q X lo hi v → (∀ b, lo ≤ b → b < hi → X'.heap[b]? = X.heap[b]?) → Q X' lo hi v
/-- A watch in memory that the call has made: its rows one behind the other, its pool (of which Q is told) among them. -/
def Wt.Own (w : World) (t : Wt) (Q : World → Nat → Nat → Value → Prop) (e : Ending) (w' : World) : Prop :=
  ∃ (u0 u1 u2 up u3 u4 u5 u6 u7 : Value) (n1 n2 n3 n4 n5 n6 n7 n8 : Nat), e = .returned (.agg #[.string t.log, .string t.key, u0, .string t.h.log, .int .i64 t.h.size, .string t.h.root, .int .i64 t.h.time, .int .i64 t.h.k, u1, u2, up, .bool t.found, .string t.a.log, .int .i64 t.a.size, .string t.a.root, .int .i64 t.a.time, .int .i64 t.a.k, u3, u4, .string t.b.log, .int .i64 t.b.size, .string t.b.root, .int .i64 t.b.time, .int .i64 t.b.k, u5, u6, u7]) ∧
    (OwnT w' w.heap.size u0 t.en ∧ OwnT w' n1 u1 t.h.el ∧ OwnT w' n2 u2 t.h.pl ∧ Q w' n3 n4 up ∧ Owns5 w' n4 n5 n6 n7 n8 u3 u4 u5 u6 u7 t.a.el t.a.pl t.b.el t.b.pl t.fl) ∧
    ((∀ g, u0.ownBlock = some g → g < n1) ∧ (∀ g, u1.ownBlock = some g → g < n2) ∧ (∀ g, u2.ownBlock = some g → g < n3)) ∧ (w.heap.size ≤ n1 ∧ n1 ≤ n2 ∧ n2 ≤ n3 ∧ n3 ≤ n4) ∧ (∃ a n c, up = .slice a n c) ∧ Below w.heap.size w w'
/-- What is written ahead of it leaves it. -/
theorem Wt.Own.passed {w W0 w' w'' : World} {t : Wt} {Q : World → Nat → Nat → Value → Prop} {e : Ending} {b : Nat} (h : Wt.Own W0 t Q e w') (hQ : Local Q) (hb : Below w.heap.size w W0) (hg : w'.grownBy w'' (some b)) (h1 : w.heap.size ≤ b) (h2 : b < W0.heap.size) : Wt.Own w t Q e w'' := by
  obtain ⟨u0, u1, u2, up, u3, u4, u5, u6, u7, n1, n2, n3, n4, n5, n6, n7, n8, rfl, ⟨o0, o1, o2, q, ⟨y1, y2, y3, y4, y5⟩, y6, l1, l2, l3, l4, l5⟩, k, ⟨z1, z2, z3, z4⟩, hs, hbb⟩ := h
  have hin : Inside w' w'' b (b + 1) := ⟨hg.os, hg.tape, hg.output, hg.size, fun i hi ho => hg.block i hi (by simp; omega)⟩
  have aside : ∀ (B : Nat) (v : Value) (l : List ByteArray), OwnT w' B v l → W0.heap.size ≤ B → OwnT w'' B v l := fun B v l ho hB => ho.aside hin (fun g hg => .inr (by have := (World.ownsRow.lt ho g hg).1; omega))
  have hz := hb.size
  exact ⟨u0, u1, u2, up, u3, u4, u5, u6, u7, n1, n2, n3, n4, n5, n6, n7, n8, rfl, ⟨(aside _ _ _ o0 (Nat.le_refl _)).lower hz, aside _ _ _ o1 z1, aside _ _ _ o2 (by omega), hQ _ _ _ _ _ q (fun i i1 i2 => hg.block i (by omega) (by simp; omega)), ⟨aside _ _ _ y1 (by omega), aside _ _ _ y2 (by omega), aside _ _ _ y3 (by omega), aside _ _ _ y4 (by omega), aside _ _ _ y5 (by omega)⟩, y6, l1, l2, l3, l4, Nat.le_trans l5 hg.size⟩, k, ⟨by omega, z2, z3, z4⟩, hs, below_own (hb.trans (hbb.mono hz)) hg h1⟩
/-- The empty pool. -/
def NilQ (X : World) (lo hi : Nat) (v : Value) : Prop := v = .slice none 0 0
theorem NilQ.loc : Local NilQ := fun X X' lo hi v h _ => h
theorem setRow_grown (w : World) (g : Nat) (cs : Array Value) : w.grownBy (w.setRow g cs) (some g) :=
  ⟨rfl, rfl, rfl, by simp, fun k hk hne => setRow_other w g k cs (fun e => hne (by rw [e]))⟩
end Go.Proofs.Ytpglcbidfghfkaa

/-
  Watches held against each other, marked, and held to their marks; of their parts contracts are laid.
-/
namespace Go.Proofs.Ytpglcbidfghfkaa
open Go.RowKit Go.Lib
set_option linter.unusedVariables false
set_option linter.unusedSimpArgs false

/-- What hangs on the blocks from lo to below hi alone. -/
def LocalP (A : World → Prop) (lo hi : Nat) : Prop := ∀ X X' : World, A X → X.heap.size ≤ X'.heap.size → (∀ b, lo ≤ b → b < hi → X'.heap[b]? = X.heap[b]?) → A X'
theorem LocalP.inside {A : World → Prop} {lo hi B C : Nat} (h : LocalP A lo hi) {X X' : World} (hA : A X) (hi' : Inside X X' B C) (hz : hi ≤ X.heap.size) (ho : hi ≤ B ∨ C ≤ lo) : A X' :=
  h X X' hA hi'.2.2.2.1 (fun b h1 h2 => hi'.2.2.2.2 b (by omega) (by omega))
theorem LocalP.below {A : World → Prop} {lo hi : Nat} (h : LocalP A lo hi) {X X' : World} (hA : A X) (hb : Below X.heap.size X X') (hz : hi ≤ X.heap.size) : A X' :=
  h X X' hA hb.size (fun b h1 h2 => hb.block b (by omega))
set_option maxHeartbeats 4000000 in
set_option maxRecDepth 10000 in
theorem eqWatch_ab (t : Wt) (a0 a1 a2 ap a3 a4 a5 a6 a7 : Option Addr) (m0 m1 m2 mp m3 m4 m5 m6 m7 c0 c1 c2 cp c3 c4 c5 c6 c7 : Nat) (b0 b1 b2 bp b3 b4 b5 b6 b7 : Option Addr) (l0 l1 l2 lp l3 l4 l5 l6 l7 d0 d1 d2 dp d3 d4 d5 d6 d7 : Nat) (w : World)
    (E1 : ∀ X, Below w.heap.size w X → Calls Try.prog 27 #[.slice a0 m0 c0, .slice b0 l0 d0] X fun e w' => e = .returned (.bool true) ∧ Below X.heap.size X w')
    (E2 : ∀ X, Below w.heap.size w X → Calls Try.prog 28 #[.agg #[.string t.h.log, .int .i64 t.h.size, .string t.h.root, .int .i64 t.h.time, .int .i64 t.h.k, .slice a1 m1 c1, .slice a2 m2 c2], .agg #[.string t.h.log, .int .i64 t.h.size, .string t.h.root, .int .i64 t.h.time, .int .i64 t.h.k, .slice b1 l1 d1, .slice b2 l2 d2]] X fun e w' => e = .returned (.bool true) ∧ Below X.heap.size X w')
    (E3 : ∀ X, Below w.heap.size w X → Calls Try.prog 29 #[.slice ap mp cp, .slice bp lp dp] X fun e w' => e = .returned (.bool true) ∧ Below X.heap.size X w')
    (E4 : ∀ X, Below w.heap.size w X → Calls Try.prog 21 #[.agg #[.string t.a.log, .int .i64 t.a.size, .string t.a.root, .int .i64 t.a.time, .int .i64 t.a.k, .slice a3 m3 c3, .slice a4 m4 c4, .string t.b.log, .int .i64 t.b.size, .string t.b.root, .int .i64 t.b.time, .int .i64 t.b.k, .slice a5 m5 c5, .slice a6 m6 c6, .slice a7 m7 c7], .agg #[.string t.a.log, .int .i64 t.a.size, .string t.a.root, .int .i64 t.a.time, .int .i64 t.a.k, .slice b3 l3 d3, .slice b4 l4 d4, .string t.b.log, .int .i64 t.b.size, .string t.b.root, .int .i64 t.b.time, .int .i64 t.b.k, .slice b5 l5 d5, .slice b6 l6 d6, .slice b7 l7 d7]] X fun e w' => e = .returned (.bool true) ∧ Below X.heap.size X w') :
    Calls Try.prog 12 #[.agg #[.string t.log, .string t.key, .slice a0 m0 c0, .string t.h.log, .int .i64 t.h.size, .string t.h.root, .int .i64 t.h.time, .int .i64 t.h.k, .slice a1 m1 c1, .slice a2 m2 c2, .slice ap mp cp, .bool t.found, .string t.a.log, .int .i64 t.a.size, .string t.a.root, .int .i64 t.a.time, .int .i64 t.a.k, .slice a3 m3 c3, .slice a4 m4 c4, .string t.b.log, .int .i64 t.b.size, .string t.b.root, .int .i64 t.b.time, .int .i64 t.b.k, .slice a5 m5 c5, .slice a6 m6 c6, .slice a7 m7 c7], .agg #[.string t.log, .string t.key, .slice b0 l0 d0, .string t.h.log, .int .i64 t.h.size, .string t.h.root, .int .i64 t.h.time, .int .i64 t.h.k, .slice b1 l1 d1, .slice b2 l2 d2, .slice bp lp dp, .bool t.found, .string t.a.log, .int .i64 t.a.size, .string t.a.root, .int .i64 t.a.time, .int .i64 t.a.k, .slice b3 l3 d3, .slice b4 l4 d4, .string t.b.log, .int .i64 t.b.size, .string t.b.root, .int .i64 t.b.time, .int .i64 t.b.k, .slice b5 l5 d5, .slice b6 l6 d6, .slice b7 l7 d7]] w fun e w' => e = .returned (.bool true) ∧ Below w.heap.size w w' := by
  obtain ⟨W, hW⟩ : ∃ W, W = (w.alloc (.cells #[.string t.log, .string t.key, .slice a0 m0 c0, .string t.h.log, .int .i64 t.h.size, .string t.h.root, .int .i64 t.h.time, .int .i64 t.h.k, .slice a1 m1 c1, .slice a2 m2 c2, .slice ap mp cp, .bool t.found, .string t.a.log, .int .i64 t.a.size, .string t.a.root, .int .i64 t.a.time, .int .i64 t.a.k, .slice a3 m3 c3, .slice a4 m4 c4, .string t.b.log, .int .i64 t.b.size, .string t.b.root, .int .i64 t.b.time, .int .i64 t.b.k, .slice a5 m5 c5, .slice a6 m6 c6, .slice a7 m7 c7] 37)).alloc (.cells #[.string t.log, .string t.key, .slice b0 l0 d0, .string t.h.log, .int .i64 t.h.size, .string t.h.root, .int .i64 t.h.time, .int .i64 t.h.k, .slice b1 l1 d1, .slice b2 l2 d2, .slice bp lp dp, .bool t.found, .string t.a.log, .int .i64 t.a.size, .string t.a.root, .int .i64 t.a.time, .int .i64 t.a.k, .slice b3 l3 d3, .slice b4 l4 d4, .string t.b.log, .int .i64 t.b.size, .string t.b.root, .int .i64 t.b.time, .int .i64 t.b.k, .slice b5 l5 d5, .slice b6 l6 d6, .slice b7 l7 d7] 37) := ⟨_, rfl⟩
  have hbW : Below w.heap.size w W := by rw [hW]; exact ((Below.refl _ _).alloc (Nat.le_refl _) _).alloc (by simp) _
  have hgW : W.heap[w.heap.size]? = some (.cells #[.string t.log, .string t.key, .slice a0 m0 c0, .string t.h.log, .int .i64 t.h.size, .string t.h.root, .int .i64 t.h.time, .int .i64 t.h.k, .slice a1 m1 c1, .slice a2 m2 c2, .slice ap mp cp, .bool t.found, .string t.a.log, .int .i64 t.a.size, .string t.a.root, .int .i64 t.a.time, .int .i64 t.a.k, .slice a3 m3 c3, .slice a4 m4 c4, .string t.b.log, .int .i64 t.b.size, .string t.b.root, .int .i64 t.b.time, .int .i64 t.b.k, .slice a5 m5 c5, .slice a6 m6 c6, .slice a7 m7 c7] 37 (0, 0)) := by rw [hW]; exact heap_alloc2_old w _ _
  have hoW : W.heap[w.heap.size + 1]? = some (.cells #[.string t.log, .string t.key, .slice b0 l0 d0, .string t.h.log, .int .i64 t.h.size, .string t.h.root, .int .i64 t.h.time, .int .i64 t.h.k, .slice b1 l1 d1, .slice b2 l2 d2, .slice bp lp dp, .bool t.found, .string t.a.log, .int .i64 t.a.size, .string t.a.root, .int .i64 t.a.time, .int .i64 t.a.k, .slice b3 l3 d3, .slice b4 l4 d4, .string t.b.log, .int .i64 t.b.size, .string t.b.root, .int .i64 t.b.time, .int .i64 t.b.k, .slice b5 l5 d5, .slice b6 l6 d6, .slice b7 l7 d7] 37 (0, 0)) := by rw [hW]; exact heap_alloc2_new w _ _
  have HW : Hid (W = (w.alloc (.cells #[.string t.log, .string t.key, .slice a0 m0 c0, .string t.h.log, .int .i64 t.h.size, .string t.h.root, .int .i64 t.h.time, .int .i64 t.h.k, .slice a1 m1 c1, .slice a2 m2 c2, .slice ap mp cp, .bool t.found, .string t.a.log, .int .i64 t.a.size, .string t.a.root, .int .i64 t.a.time, .int .i64 t.a.k, .slice a3 m3 c3, .slice a4 m4 c4, .string t.b.log, .int .i64 t.b.size, .string t.b.root, .int .i64 t.b.time, .int .i64 t.b.k, .slice a5 m5 c5, .slice a6 m6 c6, .slice a7 m7 c7] 37)).alloc (.cells #[.string t.log, .string t.key, .slice b0 l0 d0, .string t.h.log, .int .i64 t.h.size, .string t.h.root, .int .i64 t.h.time, .int .i64 t.h.k, .slice b1 l1 d1, .slice b2 l2 d2, .slice bp lp dp, .bool t.found, .string t.a.log, .int .i64 t.a.size, .string t.a.root, .int .i64 t.a.time, .int .i64 t.a.k, .slice b3 l3 d3, .slice b4 l4 d4, .string t.b.log, .int .i64 t.b.size, .string t.b.root, .int .i64 t.b.time, .int .i64 t.b.k, .slice b5 l5 d5, .slice b6 l6 d6, .slice b7 l7 d7] 37)) := hW
  have HR : Hid (∀ X, Below W.heap.size W X → X.heap[w.heap.size]? = some (.cells #[.string t.log, .string t.key, .slice a0 m0 c0, .string t.h.log, .int .i64 t.h.size, .string t.h.root, .int .i64 t.h.time, .int .i64 t.h.k, .slice a1 m1 c1, .slice a2 m2 c2, .slice ap mp cp, .bool t.found, .string t.a.log, .int .i64 t.a.size, .string t.a.root, .int .i64 t.a.time, .int .i64 t.a.k, .slice a3 m3 c3, .slice a4 m4 c4, .string t.b.log, .int .i64 t.b.size, .string t.b.root, .int .i64 t.b.time, .int .i64 t.b.k, .slice a5 m5 c5, .slice a6 m6 c6, .slice a7 m7 c7] 37 (0, 0)) ∧ X.heap[w.heap.size + 1]? = some (.cells #[.string t.log, .string t.key, .slice b0 l0 d0, .string t.h.log, .int .i64 t.h.size, .string t.h.root, .int .i64 t.h.time, .int .i64 t.h.k, .slice b1 l1 d1, .slice b2 l2 d2, .slice bp lp dp, .bool t.found, .string t.a.log, .int .i64 t.a.size, .string t.a.root, .int .i64 t.a.time, .int .i64 t.a.k, .slice b3 l3 d3, .slice b4 l4 d4, .string t.b.log, .int .i64 t.b.size, .string t.b.root, .int .i64 t.b.time, .int .i64 t.b.k, .slice b5 l5 d5, .slice b6 l6 d6, .slice b7 l7 d7] 37 (0, 0))) := fun X hb => ⟨(hb.block _ (Array.getElem?_eq_some_iff.1 hgW).1).trans hgW, (hb.block _ (Array.getElem?_eq_some_iff.1 hoW).1).trans hoW⟩
  have H0 : Hid (Below w.heap.size w W) := hbW
  have G1 : Hid _ := E1
  have G2 : Hid _ := E2
  have G3 : Hid _ := E3
  have G4 : Hid _ := E4
  have B0 : Hid (Below W.heap.size W W) := Below.refl _ _
  have q1 : (t.log.toList == t.log.toList) = true := by simp
  have q2 : (t.key.toList == t.key.toList) = true := by simp
  have q3 : (t.found == t.found) = true := by simp
  obtain ⟨r1, r2⟩ := HR.out _ B0.out
  have x0 : W.cell? ⟨w.heap.size, 0, none⟩ = some (.string t.log) := row_here r1 0 _ rfl
  have x1 : W.cell? ⟨w.heap.size, 1, none⟩ = some (.string t.key) := row_here r1 1 _ rfl
  have x2 : W.cell? ⟨w.heap.size, 2, none⟩ = some (.slice a0 m0 c0) := row_here r1 2 _ rfl
  have y0 : W.cell? ⟨w.heap.size + 1, 0, none⟩ = some (.string t.log) := row_here r2 0 _ rfl
  have y1 : W.cell? ⟨w.heap.size + 1, 1, none⟩ = some (.string t.key) := row_here r2 1 _ rfl
  have y2 : W.cell? ⟨w.heap.size + 1, 2, none⟩ = some (.slice b0 l0 d0) := row_here r2 2 _ rfl
  clear r1 r2 hW hbW hgW hoW E1 E2 E3 E4
  go_enter Try.func12, Try.ntmps12
  go_wp2_with fail
  rw [← HW.out]
  clear HW
  refine (G1.out _ (H0.out.trans (B0.out.mono H0.out.size))).mono ?_
  rintro e w1 ⟨rfl, hb⟩
  have B1 : Hid (Below W.heap.size W w1) := B0.out.trans (hb.mono B0.out.size)
  clear x0 y0 x1 y1 x2 y2
  obtain ⟨r1, r2⟩ := HR.out _ B1.out
  have x3 : w1.cell? ⟨w.heap.size, 3, none⟩ = some (.string t.h.log) := row_here r1 3 _ rfl
  have x4 : w1.cell? ⟨w.heap.size, 4, none⟩ = some (.int .i64 t.h.size) := row_here r1 4 _ rfl
  have x5 : w1.cell? ⟨w.heap.size, 5, none⟩ = some (.string t.h.root) := row_here r1 5 _ rfl
  have x6 : w1.cell? ⟨w.heap.size, 6, none⟩ = some (.int .i64 t.h.time) := row_here r1 6 _ rfl
  have x7 : w1.cell? ⟨w.heap.size, 7, none⟩ = some (.int .i64 t.h.k) := row_here r1 7 _ rfl
  have x8 : w1.cell? ⟨w.heap.size, 8, none⟩ = some (.slice a1 m1 c1) := row_here r1 8 _ rfl
  have x9 : w1.cell? ⟨w.heap.size, 9, none⟩ = some (.slice a2 m2 c2) := row_here r1 9 _ rfl
  have y3 : w1.cell? ⟨w.heap.size + 1, 3, none⟩ = some (.string t.h.log) := row_here r2 3 _ rfl
  have y4 : w1.cell? ⟨w.heap.size + 1, 4, none⟩ = some (.int .i64 t.h.size) := row_here r2 4 _ rfl
  have y5 : w1.cell? ⟨w.heap.size + 1, 5, none⟩ = some (.string t.h.root) := row_here r2 5 _ rfl
  have y6 : w1.cell? ⟨w.heap.size + 1, 6, none⟩ = some (.int .i64 t.h.time) := row_here r2 6 _ rfl
  have y7 : w1.cell? ⟨w.heap.size + 1, 7, none⟩ = some (.int .i64 t.h.k) := row_here r2 7 _ rfl
  have y8 : w1.cell? ⟨w.heap.size + 1, 8, none⟩ = some (.slice b1 l1 d1) := row_here r2 8 _ rfl
  have y9 : w1.cell? ⟨w.heap.size + 1, 9, none⟩ = some (.slice b2 l2 d2) := row_here r2 9 _ rfl
  clear hb r1 r2
  go_wp2_with fail
  refine (G2.out _ (H0.out.trans (B1.out.mono H0.out.size))).mono ?_
  rintro e w2 ⟨rfl, hb⟩
  have B2 : Hid (Below W.heap.size W w2) := B1.out.trans (hb.mono B1.out.size)
  clear x3 y3 x4 y4 x5 y5 x6 y6 x7 y7 x8 y8 x9 y9
  obtain ⟨r1, r2⟩ := HR.out _ B2.out
  have x10 : w2.cell? ⟨w.heap.size, 10, none⟩ = some (.slice ap mp cp) := row_here r1 10 _ rfl
  have y10 : w2.cell? ⟨w.heap.size + 1, 10, none⟩ = some (.slice bp lp dp) := row_here r2 10 _ rfl
  clear hb r1 r2
  go_wp2_with fail
  refine (G3.out _ (H0.out.trans (B2.out.mono H0.out.size))).mono ?_
  rintro e w3 ⟨rfl, hb⟩
  have B3 : Hid (Below W.heap.size W w3) := B2.out.trans (hb.mono B2.out.size)
  clear x10 y10
  obtain ⟨r1, r2⟩ := HR.out _ B3.out
  have x11 : w3.cell? ⟨w.heap.size, 11, none⟩ = some (.bool t.found) := row_here r1 11 _ rfl
  have x12 : w3.cell? ⟨w.heap.size, 12, none⟩ = some (.string t.a.log) := row_here r1 12 _ rfl
  have x13 : w3.cell? ⟨w.heap.size, 13, none⟩ = some (.int .i64 t.a.size) := row_here r1 13 _ rfl
  have x14 : w3.cell? ⟨w.heap.size, 14, none⟩ = some (.string t.a.root) := row_here r1 14 _ rfl
  have x15 : w3.cell? ⟨w.heap.size, 15, none⟩ = some (.int .i64 t.a.time) := row_here r1 15 _ rfl
  have x16 : w3.cell? ⟨w.heap.size, 16, none⟩ = some (.int .i64 t.a.k) := row_here r1 16 _ rfl
  have x17 : w3.cell? ⟨w.heap.size, 17, none⟩ = some (.slice a3 m3 c3) := row_here r1 17 _ rfl
  have x18 : w3.cell? ⟨w.heap.size, 18, none⟩ = some (.slice a4 m4 c4) := row_here r1 18 _ rfl
  have x19 : w3.cell? ⟨w.heap.size, 19, none⟩ = some (.string t.b.log) := row_here r1 19 _ rfl
  have x20 : w3.cell? ⟨w.heap.size, 20, none⟩ = some (.int .i64 t.b.size) := row_here r1 20 _ rfl
  have x21 : w3.cell? ⟨w.heap.size, 21, none⟩ = some (.string t.b.root) := row_here r1 21 _ rfl
  have x22 : w3.cell? ⟨w.heap.size, 22, none⟩ = some (.int .i64 t.b.time) := row_here r1 22 _ rfl
  have x23 : w3.cell? ⟨w.heap.size, 23, none⟩ = some (.int .i64 t.b.k) := row_here r1 23 _ rfl
  have x24 : w3.cell? ⟨w.heap.size, 24, none⟩ = some (.slice a5 m5 c5) := row_here r1 24 _ rfl
  have x25 : w3.cell? ⟨w.heap.size, 25, none⟩ = some (.slice a6 m6 c6) := row_here r1 25 _ rfl
  have x26 : w3.cell? ⟨w.heap.size, 26, none⟩ = some (.slice a7 m7 c7) := row_here r1 26 _ rfl
  have y11 : w3.cell? ⟨w.heap.size + 1, 11, none⟩ = some (.bool t.found) := row_here r2 11 _ rfl
  have y12 : w3.cell? ⟨w.heap.size + 1, 12, none⟩ = some (.string t.a.log) := row_here r2 12 _ rfl
  have y13 : w3.cell? ⟨w.heap.size + 1, 13, none⟩ = some (.int .i64 t.a.size) := row_here r2 13 _ rfl
  have y14 : w3.cell? ⟨w.heap.size + 1, 14, none⟩ = some (.string t.a.root) := row_here r2 14 _ rfl
  have y15 : w3.cell? ⟨w.heap.size + 1, 15, none⟩ = some (.int .i64 t.a.time) := row_here r2 15 _ rfl
  have y16 : w3.cell? ⟨w.heap.size + 1, 16, none⟩ = some (.int .i64 t.a.k) := row_here r2 16 _ rfl
  have y17 : w3.cell? ⟨w.heap.size + 1, 17, none⟩ = some (.slice b3 l3 d3) := row_here r2 17 _ rfl
  have y18 : w3.cell? ⟨w.heap.size + 1, 18, none⟩ = some (.slice b4 l4 d4) := row_here r2 18 _ rfl
  have y19 : w3.cell? ⟨w.heap.size + 1, 19, none⟩ = some (.string t.b.log) := row_here r2 19 _ rfl
  have y20 : w3.cell? ⟨w.heap.size + 1, 20, none⟩ = some (.int .i64 t.b.size) := row_here r2 20 _ rfl
  have y21 : w3.cell? ⟨w.heap.size + 1, 21, none⟩ = some (.string t.b.root) := row_here r2 21 _ rfl
  have y22 : w3.cell? ⟨w.heap.size + 1, 22, none⟩ = some (.int .i64 t.b.time) := row_here r2 22 _ rfl
  have y23 : w3.cell? ⟨w.heap.size + 1, 23, none⟩ = some (.int .i64 t.b.k) := row_here r2 23 _ rfl
  have y24 : w3.cell? ⟨w.heap.size + 1, 24, none⟩ = some (.slice b5 l5 d5) := row_here r2 24 _ rfl
  have y25 : w3.cell? ⟨w.heap.size + 1, 25, none⟩ = some (.slice b6 l6 d6) := row_here r2 25 _ rfl
  have y26 : w3.cell? ⟨w.heap.size + 1, 26, none⟩ = some (.slice b7 l7 d7) := row_here r2 26 _ rfl
  clear hb r1 r2
  go_wp2_with fail
  refine (G4.out _ (H0.out.trans (B3.out.mono H0.out.size))).mono ?_
  rintro e w4 ⟨rfl, hb⟩
  have B4 : Hid (Below w.heap.size w w4) := H0.out.trans ((B3.out.trans (hb.mono B3.out.size)).mono H0.out.size)
  clear x11 y11 x12 y12 x13 y13 x14 y14 x15 y15 x16 y16 x17 y17 x18 y18 x19 y19 x20 y20 x21 y21 x22 y22 x23 y23 x24 y24 x25 y25 x26 y26
  clear hb
  go_wp2
  go_ret
  exact ⟨rfl, B4.out⟩

set_option maxHeartbeats 4000000 in
set_option maxRecDepth 10000 in
theorem markWatch_ab (t : Wt) (a0 a1 a2 ap a3 a4 a5 a6 a7 : Option Addr) (m0 m1 m2 mp m3 m4 m5 m6 m7 c0 c1 c2 cp c3 c4 c5 c6 c7 : Nat) (w : World) (A0 A1 A2 A3 B0 B1 B2 B3 : World → Prop) (n0 n1 n2 n3 n4 : Nat) (k0 k1 k2 k3 k4 : Int) (hn : n0 ≤ n1 ∧ n1 ≤ n2 ∧ n2 ≤ n3 ∧ n3 ≤ n4 ∧ n4 ≤ w.heap.size)
    (hA : A0 w ∧ A1 w ∧ A2 w ∧ A3 w) (lA : LocalP A0 n0 n1 ∧ LocalP A1 n1 n2 ∧ LocalP A2 n2 n3 ∧ LocalP A3 n3 n4) (lB : LocalP B0 n0 n1 ∧ LocalP B1 n1 n2 ∧ LocalP B2 n2 n3 ∧ LocalP B3 n3 n4)
    (M0 : ∀ X, A0 X → n4 ≤ X.heap.size → Calls Try.prog 30 #[.slice a0 m0 c0, .int .i64 k0] X fun e w' => e = .returned (.int .i64 k1) ∧ B0 w' ∧ Inside X w' n0 n1)
    (M1 : ∀ X, A1 X → n4 ≤ X.heap.size → Calls Try.prog 31 #[.agg #[.string t.h.log, .int .i64 t.h.size, .string t.h.root, .int .i64 t.h.time, .int .i64 t.h.k, .slice a1 m1 c1, .slice a2 m2 c2], .int .i64 k1] X fun e w' => e = .returned (.int .i64 k2) ∧ B1 w' ∧ Inside X w' n1 n2)
    (M2 : ∀ X, A2 X → n4 ≤ X.heap.size → Calls Try.prog 32 #[.slice ap mp cp, .int .i64 k2] X fun e w' => e = .returned (.int .i64 k3) ∧ B2 w' ∧ Inside X w' n2 n3)
    (M3 : ∀ X, A3 X → n4 ≤ X.heap.size → Calls Try.prog 22 #[.agg #[.string t.a.log, .int .i64 t.a.size, .string t.a.root, .int .i64 t.a.time, .int .i64 t.a.k, .slice a3 m3 c3, .slice a4 m4 c4, .string t.b.log, .int .i64 t.b.size, .string t.b.root, .int .i64 t.b.time, .int .i64 t.b.k, .slice a5 m5 c5, .slice a6 m6 c6, .slice a7 m7 c7], .int .i64 k3] X fun e w' => e = .returned (.int .i64 k4) ∧ B3 w' ∧ Inside X w' n3 n4) :
    Calls Try.prog 13 #[.agg #[.string t.log, .string t.key, .slice a0 m0 c0, .string t.h.log, .int .i64 t.h.size, .string t.h.root, .int .i64 t.h.time, .int .i64 t.h.k, .slice a1 m1 c1, .slice a2 m2 c2, .slice ap mp cp, .bool t.found, .string t.a.log, .int .i64 t.a.size, .string t.a.root, .int .i64 t.a.time, .int .i64 t.a.k, .slice a3 m3 c3, .slice a4 m4 c4, .string t.b.log, .int .i64 t.b.size, .string t.b.root, .int .i64 t.b.time, .int .i64 t.b.k, .slice a5 m5 c5, .slice a6 m6 c6, .slice a7 m7 c7], .int .i64 k0] w fun e w' => e = .returned (.int .i64 k4) ∧ (B0 w' ∧ B1 w' ∧ B2 w' ∧ B3 w') ∧ Inside w w' n0 n4 := by
  obtain ⟨W, hW⟩ : ∃ W, W = w.alloc (.cells #[.string t.log, .string t.key, .slice a0 m0 c0, .string t.h.log, .int .i64 t.h.size, .string t.h.root, .int .i64 t.h.time, .int .i64 t.h.k, .slice a1 m1 c1, .slice a2 m2 c2, .slice ap mp cp, .bool t.found, .string t.a.log, .int .i64 t.a.size, .string t.a.root, .int .i64 t.a.time, .int .i64 t.a.k, .slice a3 m3 c3, .slice a4 m4 c4, .string t.b.log, .int .i64 t.b.size, .string t.b.root, .int .i64 t.b.time, .int .i64 t.b.k, .slice a5 m5 c5, .slice a6 m6 c6, .slice a7 m7 c7] 37) := ⟨_, rfl⟩
  have hbW : Below w.heap.size w W := by rw [hW]; exact (Below.refl _ _).alloc (Nat.le_refl _) _
  have hgW : W.heap[w.heap.size]? = some (.cells #[.string t.log, .string t.key, .slice a0 m0 c0, .string t.h.log, .int .i64 t.h.size, .string t.h.root, .int .i64 t.h.time, .int .i64 t.h.k, .slice a1 m1 c1, .slice a2 m2 c2, .slice ap mp cp, .bool t.found, .string t.a.log, .int .i64 t.a.size, .string t.a.root, .int .i64 t.a.time, .int .i64 t.a.k, .slice a3 m3 c3, .slice a4 m4 c4, .string t.b.log, .int .i64 t.b.size, .string t.b.root, .int .i64 t.b.time, .int .i64 t.b.k, .slice a5 m5 c5, .slice a6 m6 c6, .slice a7 m7 c7] 37 (0, 0)) := by rw [hW]; exact heap_alloc_new w _
  have HW : Hid (W = w.alloc (.cells #[.string t.log, .string t.key, .slice a0 m0 c0, .string t.h.log, .int .i64 t.h.size, .string t.h.root, .int .i64 t.h.time, .int .i64 t.h.k, .slice a1 m1 c1, .slice a2 m2 c2, .slice ap mp cp, .bool t.found, .string t.a.log, .int .i64 t.a.size, .string t.a.root, .int .i64 t.a.time, .int .i64 t.a.k, .slice a3 m3 c3, .slice a4 m4 c4, .string t.b.log, .int .i64 t.b.size, .string t.b.root, .int .i64 t.b.time, .int .i64 t.b.k, .slice a5 m5 c5, .slice a6 m6 c6, .slice a7 m7 c7] 37)) := hW
  have HR : Hid (∀ X, Inside W X n0 n4 → X.heap[w.heap.size]? = some (.cells #[.string t.log, .string t.key, .slice a0 m0 c0, .string t.h.log, .int .i64 t.h.size, .string t.h.root, .int .i64 t.h.time, .int .i64 t.h.k, .slice a1 m1 c1, .slice a2 m2 c2, .slice ap mp cp, .bool t.found, .string t.a.log, .int .i64 t.a.size, .string t.a.root, .int .i64 t.a.time, .int .i64 t.a.k, .slice a3 m3 c3, .slice a4 m4 c4, .string t.b.log, .int .i64 t.b.size, .string t.b.root, .int .i64 t.b.time, .int .i64 t.b.k, .slice a5 m5 c5, .slice a6 m6 c6, .slice a7 m7 c7] 37 (0, 0))) := fun X hb => (hb.2.2.2.2 _ (Array.getElem?_eq_some_iff.1 hgW).1 (.inr hn.2.2.2.2)).trans hgW
  have hs := hbW.size
  have I0 : Hid (Inside W W n0 n4 ∧ A0 W ∧ A1 W ∧ A2 W ∧ A3 W) := ⟨Inside.refl _ _ _, lA.1.below hA.1 hbW (by omega), lA.2.1.below hA.2.1 hbW (by omega), lA.2.2.1.below hA.2.2.1 hbW (by omega), lA.2.2.2.below hA.2.2.2 hbW (by omega)⟩
  have H0 : Hid (Below w.heap.size w W ∧ n4 ≤ W.heap.size ∧ n0 ≤ n1 ∧ n1 ≤ n2 ∧ n2 ≤ n3 ∧ n3 ≤ n4) := ⟨hbW, by omega, hn.1, hn.2.1, hn.2.2.1, hn.2.2.2.1⟩
  have LA : Hid _ := lA
  have LB : Hid _ := lB
  have G0 : Hid _ := M0
  have G1 : Hid _ := M1
  have G2 : Hid _ := M2
  have G3 : Hid _ := M3
  have r1 := HR.out _ I0.out.1
  have x2 : W.cell? ⟨w.heap.size, 2, none⟩ = some (.slice a0 m0 c0) := row_here r1 2 _ rfl
  clear r1 hW hbW hgW hs hn hA lA lB M0 M1 M2 M3
  go_enter Try.func13, Try.ntmps13
  go_wp2_with fail
  rw [← HW.out]
  clear HW
  refine (G0.out _ I0.out.2.1 H0.out.2.1).mono ?_
  rintro e w1 ⟨rfl, hB, hin⟩
  have I1 : Hid (Inside W w1 n0 n4 ∧ B0 w1 ∧ A1 w1 ∧ A2 w1 ∧ A3 w1) := by
    obtain ⟨_, z, _⟩ := H0.out
    have o := H0.out.2.2
    exact ⟨hin.wide (Nat.le_refl _) (by omega), hB, LA.out.2.1.inside I0.out.2.2.1 hin (by omega) (.inr (by omega)), LA.out.2.2.1.inside I0.out.2.2.2.1 hin (by omega) (.inr (by omega)), LA.out.2.2.2.inside I0.out.2.2.2.2 hin (by omega) (.inr (by omega))⟩
  clear x2
  have r1 := HR.out _ I1.out.1
  have x3 : w1.cell? ⟨w.heap.size, 3, none⟩ = some (.string t.h.log) := row_here r1 3 _ rfl
  have x4 : w1.cell? ⟨w.heap.size, 4, none⟩ = some (.int .i64 t.h.size) := row_here r1 4 _ rfl
  have x5 : w1.cell? ⟨w.heap.size, 5, none⟩ = some (.string t.h.root) := row_here r1 5 _ rfl
  have x6 : w1.cell? ⟨w.heap.size, 6, none⟩ = some (.int .i64 t.h.time) := row_here r1 6 _ rfl
  have x7 : w1.cell? ⟨w.heap.size, 7, none⟩ = some (.int .i64 t.h.k) := row_here r1 7 _ rfl
  have x8 : w1.cell? ⟨w.heap.size, 8, none⟩ = some (.slice a1 m1 c1) := row_here r1 8 _ rfl
  have x9 : w1.cell? ⟨w.heap.size, 9, none⟩ = some (.slice a2 m2 c2) := row_here r1 9 _ rfl
  clear r1 hB hin
  go_wp2_with fail
  refine (G1.out _ I1.out.2.2.1 (Nat.le_trans H0.out.2.1 I1.out.1.2.2.2.1)).mono ?_
  rintro e w2 ⟨rfl, hB, hin⟩
  have I2 : Hid (Inside W w2 n0 n4 ∧ B0 w2 ∧ B1 w2 ∧ A2 w2 ∧ A3 w2) := by
    have z := H0.out.2.1
    have o := H0.out.2.2
    have y := I1.out.1.2.2.2.1
    exact ⟨I1.out.1.trans (hin.wide (by omega) (by omega)), LB.out.1.inside I1.out.2.1 hin (by omega) (.inl (by omega)), hB, LA.out.2.2.1.inside I1.out.2.2.2.1 hin (by omega) (.inr (by omega)), LA.out.2.2.2.inside I1.out.2.2.2.2 hin (by omega) (.inr (by omega))⟩
  clear x3 x4 x5 x6 x7 x8 x9
  have r1 := HR.out _ I2.out.1
  have x10 : w2.cell? ⟨w.heap.size, 10, none⟩ = some (.slice ap mp cp) := row_here r1 10 _ rfl
  clear r1 hB hin
  go_wp2_with fail
  refine (G2.out _ I2.out.2.2.2.1 (Nat.le_trans H0.out.2.1 I2.out.1.2.2.2.1)).mono ?_
  rintro e w3 ⟨rfl, hB, hin⟩
  have I3 : Hid (Inside W w3 n0 n4 ∧ B0 w3 ∧ B1 w3 ∧ B2 w3 ∧ A3 w3) := by
    have z := H0.out.2.1
    have o := H0.out.2.2
    have y := I2.out.1.2.2.2.1
    exact ⟨I2.out.1.trans (hin.wide (by omega) (by omega)), LB.out.1.inside I2.out.2.1 hin (by omega) (.inl (by omega)), LB.out.2.1.inside I2.out.2.2.1 hin (by omega) (.inl (by omega)), hB, LA.out.2.2.2.inside I2.out.2.2.2.2 hin (by omega) (.inr (by omega))⟩
  clear x10
  have r1 := HR.out _ I3.out.1
  have x12 : w3.cell? ⟨w.heap.size, 12, none⟩ = some (.string t.a.log) := row_here r1 12 _ rfl
  have x13 : w3.cell? ⟨w.heap.size, 13, none⟩ = some (.int .i64 t.a.size) := row_here r1 13 _ rfl
  have x14 : w3.cell? ⟨w.heap.size, 14, none⟩ = some (.string t.a.root) := row_here r1 14 _ rfl
  have x15 : w3.cell? ⟨w.heap.size, 15, none⟩ = some (.int .i64 t.a.time) := row_here r1 15 _ rfl
  have x16 : w3.cell? ⟨w.heap.size, 16, none⟩ = some (.int .i64 t.a.k) := row_here r1 16 _ rfl
  have x17 : w3.cell? ⟨w.heap.size, 17, none⟩ = some (.slice a3 m3 c3) := row_here r1 17 _ rfl
  have x18 : w3.cell? ⟨w.heap.size, 18, none⟩ = some (.slice a4 m4 c4) := row_here r1 18 _ rfl
  have x19 : w3.cell? ⟨w.heap.size, 19, none⟩ = some (.string t.b.log) := row_here r1 19 _ rfl
  have x20 : w3.cell? ⟨w.heap.size, 20, none⟩ = some (.int .i64 t.b.size) := row_here r1 20 _ rfl
  have x21 : w3.cell? ⟨w.heap.size, 21, none⟩ = some (.string t.b.root) := row_here r1 21 _ rfl
  have x22 : w3.cell? ⟨w.heap.size, 22, none⟩ = some (.int .i64 t.b.time) := row_here r1 22 _ rfl
  have x23 : w3.cell? ⟨w.heap.size, 23, none⟩ = some (.int .i64 t.b.k) := row_here r1 23 _ rfl
  have x24 : w3.cell? ⟨w.heap.size, 24, none⟩ = some (.slice a5 m5 c5) := row_here r1 24 _ rfl
  have x25 : w3.cell? ⟨w.heap.size, 25, none⟩ = some (.slice a6 m6 c6) := row_here r1 25 _ rfl
  have x26 : w3.cell? ⟨w.heap.size, 26, none⟩ = some (.slice a7 m7 c7) := row_here r1 26 _ rfl
  clear r1 hB hin
  go_wp2_with fail
  refine (G3.out _ I3.out.2.2.2.2 (Nat.le_trans H0.out.2.1 I3.out.1.2.2.2.1)).mono ?_
  rintro e w4 ⟨rfl, hB, hin⟩
  have I4 : Hid ((B0 w4 ∧ B1 w4 ∧ B2 w4 ∧ B3 w4) ∧ Inside w w4 n0 n4) := by
    have z := H0.out.2.1
    have o := H0.out.2.2
    have y := I3.out.1.2.2.2.1
    exact ⟨⟨LB.out.1.inside I3.out.2.1 hin (by omega) (.inl (by omega)), LB.out.2.1.inside I3.out.2.2.1 hin (by omega) (.inl (by omega)), LB.out.2.2.1.inside I3.out.2.2.2.1 hin (by omega) (.inl (by omega)), hB⟩, Inside.on H0.out.1 (I3.out.1.trans (hin.wide (by omega) (by omega)))⟩
  clear x12 x13 x14 x15 x16 x17 x18 x19 x20 x21 x22 x23 x24 x25 x26
  clear hB hin
  go_wp2
  go_ret
  exact ⟨rfl, I4.out⟩

set_option maxHeartbeats 4000000 in
set_option maxRecDepth 10000 in
theorem heldWatch_ab (t : Wt) (a0 a1 a2 ap a3 a4 a5 a6 a7 : Option Addr) (m0 m1 m2 mp m3 m4 m5 m6 m7 c0 c1 c2 cp c3 c4 c5 c6 c7 : Nat) (w : World) (k0 k1 k2 k3 k4 : Int) (hk : 0 ≤ k1 ∧ 0 ≤ k2 ∧ 0 ≤ k3 ∧ 0 ≤ k4)
    (M0 : ∀ X, Below w.heap.size w X → Calls Try.prog 33 #[.slice a0 m0 c0, .int .i64 k0] X fun e w' => e = .returned (.int .i64 k1) ∧ Below X.heap.size X w')
    (M1 : ∀ X, Below w.heap.size w X → Calls Try.prog 34 #[.agg #[.string t.h.log, .int .i64 t.h.size, .string t.h.root, .int .i64 t.h.time, .int .i64 t.h.k, .slice a1 m1 c1, .slice a2 m2 c2], .int .i64 k1] X fun e w' => e = .returned (.int .i64 k2) ∧ Below X.heap.size X w')
    (M2 : ∀ X, Below w.heap.size w X → Calls Try.prog 35 #[.slice ap mp cp, .int .i64 k2] X fun e w' => e = .returned (.int .i64 k3) ∧ Below X.heap.size X w')
    (M3 : ∀ X, Below w.heap.size w X → Calls Try.prog 23 #[.agg #[.string t.a.log, .int .i64 t.a.size, .string t.a.root, .int .i64 t.a.time, .int .i64 t.a.k, .slice a3 m3 c3, .slice a4 m4 c4, .string t.b.log, .int .i64 t.b.size, .string t.b.root, .int .i64 t.b.time, .int .i64 t.b.k, .slice a5 m5 c5, .slice a6 m6 c6, .slice a7 m7 c7], .int .i64 k3] X fun e w' => e = .returned (.int .i64 k4) ∧ Below X.heap.size X w') :
    Calls Try.prog 14 #[.agg #[.string t.log, .string t.key, .slice a0 m0 c0, .string t.h.log, .int .i64 t.h.size, .string t.h.root, .int .i64 t.h.time, .int .i64 t.h.k, .slice a1 m1 c1, .slice a2 m2 c2, .slice ap mp cp, .bool t.found, .string t.a.log, .int .i64 t.a.size, .string t.a.root, .int .i64 t.a.time, .int .i64 t.a.k, .slice a3 m3 c3, .slice a4 m4 c4, .string t.b.log, .int .i64 t.b.size, .string t.b.root, .int .i64 t.b.time, .int .i64 t.b.k, .slice a5 m5 c5, .slice a6 m6 c6, .slice a7 m7 c7], .int .i64 k0] w fun e w' => e = .returned (.int .i64 k4) ∧ Below w.heap.size w w' := by
  obtain ⟨W, hW⟩ : ∃ W, W = w.alloc (.cells #[.string t.log, .string t.key, .slice a0 m0 c0, .string t.h.log, .int .i64 t.h.size, .string t.h.root, .int .i64 t.h.time, .int .i64 t.h.k, .slice a1 m1 c1, .slice a2 m2 c2, .slice ap mp cp, .bool t.found, .string t.a.log, .int .i64 t.a.size, .string t.a.root, .int .i64 t.a.time, .int .i64 t.a.k, .slice a3 m3 c3, .slice a4 m4 c4, .string t.b.log, .int .i64 t.b.size, .string t.b.root, .int .i64 t.b.time, .int .i64 t.b.k, .slice a5 m5 c5, .slice a6 m6 c6, .slice a7 m7 c7] 37) := ⟨_, rfl⟩
  have hbW : Below w.heap.size w W := by rw [hW]; exact (Below.refl _ _).alloc (Nat.le_refl _) _
  have hgW : W.heap[w.heap.size]? = some (.cells #[.string t.log, .string t.key, .slice a0 m0 c0, .string t.h.log, .int .i64 t.h.size, .string t.h.root, .int .i64 t.h.time, .int .i64 t.h.k, .slice a1 m1 c1, .slice a2 m2 c2, .slice ap mp cp, .bool t.found, .string t.a.log, .int .i64 t.a.size, .string t.a.root, .int .i64 t.a.time, .int .i64 t.a.k, .slice a3 m3 c3, .slice a4 m4 c4, .string t.b.log, .int .i64 t.b.size, .string t.b.root, .int .i64 t.b.time, .int .i64 t.b.k, .slice a5 m5 c5, .slice a6 m6 c6, .slice a7 m7 c7] 37 (0, 0)) := by rw [hW]; exact heap_alloc_new w _
  have HW : Hid (W = w.alloc (.cells #[.string t.log, .string t.key, .slice a0 m0 c0, .string t.h.log, .int .i64 t.h.size, .string t.h.root, .int .i64 t.h.time, .int .i64 t.h.k, .slice a1 m1 c1, .slice a2 m2 c2, .slice ap mp cp, .bool t.found, .string t.a.log, .int .i64 t.a.size, .string t.a.root, .int .i64 t.a.time, .int .i64 t.a.k, .slice a3 m3 c3, .slice a4 m4 c4, .string t.b.log, .int .i64 t.b.size, .string t.b.root, .int .i64 t.b.time, .int .i64 t.b.k, .slice a5 m5 c5, .slice a6 m6 c6, .slice a7 m7 c7] 37)) := hW
  have HR : Hid (∀ X, Below W.heap.size W X → X.heap[w.heap.size]? = some (.cells #[.string t.log, .string t.key, .slice a0 m0 c0, .string t.h.log, .int .i64 t.h.size, .string t.h.root, .int .i64 t.h.time, .int .i64 t.h.k, .slice a1 m1 c1, .slice a2 m2 c2, .slice ap mp cp, .bool t.found, .string t.a.log, .int .i64 t.a.size, .string t.a.root, .int .i64 t.a.time, .int .i64 t.a.k, .slice a3 m3 c3, .slice a4 m4 c4, .string t.b.log, .int .i64 t.b.size, .string t.b.root, .int .i64 t.b.time, .int .i64 t.b.k, .slice a5 m5 c5, .slice a6 m6 c6, .slice a7 m7 c7] 37 (0, 0))) := fun X hb => (hb.block _ (Array.getElem?_eq_some_iff.1 hgW).1).trans hgW
  have H0 : Hid (Below w.heap.size w W) := hbW
  have B0 : Hid (Below W.heap.size W W) := Below.refl _ _
  have G0 : Hid _ := M0
  have G1 : Hid _ := M1
  have G2 : Hid _ := M2
  have G3 : Hid _ := M3
  have hk1 : ¬ k1 < 0 := by omega
  have hk2 : ¬ k2 < 0 := by omega
  have hk3 : ¬ k3 < 0 := by omega
  have hk4 : ¬ k4 < 0 := by omega
  have r1 := HR.out _ B0.out
  have x2 : W.cell? ⟨w.heap.size, 2, none⟩ = some (.slice a0 m0 c0) := row_here r1 2 _ rfl
  clear r1 hW hbW hgW M0 M1 M2 M3 hk
  go_enter Try.func14, Try.ntmps14
  go_wp2_with fail
  rw [← HW.out]
  clear HW
  refine (G0.out _ (H0.out.trans (B0.out.mono H0.out.size))).mono ?_
  rintro e w1 ⟨rfl, hb⟩
  have B1 : Hid (Below W.heap.size W w1) := B0.out.trans (hb.mono B0.out.size)
  clear x2
  have r1 := HR.out _ B1.out
  have x3 : w1.cell? ⟨w.heap.size, 3, none⟩ = some (.string t.h.log) := row_here r1 3 _ rfl
  have x4 : w1.cell? ⟨w.heap.size, 4, none⟩ = some (.int .i64 t.h.size) := row_here r1 4 _ rfl
  have x5 : w1.cell? ⟨w.heap.size, 5, none⟩ = some (.string t.h.root) := row_here r1 5 _ rfl
  have x6 : w1.cell? ⟨w.heap.size, 6, none⟩ = some (.int .i64 t.h.time) := row_here r1 6 _ rfl
  have x7 : w1.cell? ⟨w.heap.size, 7, none⟩ = some (.int .i64 t.h.k) := row_here r1 7 _ rfl
  have x8 : w1.cell? ⟨w.heap.size, 8, none⟩ = some (.slice a1 m1 c1) := row_here r1 8 _ rfl
  have x9 : w1.cell? ⟨w.heap.size, 9, none⟩ = some (.slice a2 m2 c2) := row_here r1 9 _ rfl
  clear r1 hb
  go_wp2_with fail
  refine (G1.out _ (H0.out.trans (B1.out.mono H0.out.size))).mono ?_
  rintro e w2 ⟨rfl, hb⟩
  have B2 : Hid (Below W.heap.size W w2) := B1.out.trans (hb.mono B1.out.size)
  clear x3 x4 x5 x6 x7 x8 x9
  have r1 := HR.out _ B2.out
  have x10 : w2.cell? ⟨w.heap.size, 10, none⟩ = some (.slice ap mp cp) := row_here r1 10 _ rfl
  clear r1 hb
  go_wp2_with fail
  refine (G2.out _ (H0.out.trans (B2.out.mono H0.out.size))).mono ?_
  rintro e w3 ⟨rfl, hb⟩
  have B3 : Hid (Below W.heap.size W w3) := B2.out.trans (hb.mono B2.out.size)
  clear x10
  have r1 := HR.out _ B3.out
  have x12 : w3.cell? ⟨w.heap.size, 12, none⟩ = some (.string t.a.log) := row_here r1 12 _ rfl
  have x13 : w3.cell? ⟨w.heap.size, 13, none⟩ = some (.int .i64 t.a.size) := row_here r1 13 _ rfl
  have x14 : w3.cell? ⟨w.heap.size, 14, none⟩ = some (.string t.a.root) := row_here r1 14 _ rfl
  have x15 : w3.cell? ⟨w.heap.size, 15, none⟩ = some (.int .i64 t.a.time) := row_here r1 15 _ rfl
  have x16 : w3.cell? ⟨w.heap.size, 16, none⟩ = some (.int .i64 t.a.k) := row_here r1 16 _ rfl
  have x17 : w3.cell? ⟨w.heap.size, 17, none⟩ = some (.slice a3 m3 c3) := row_here r1 17 _ rfl
  have x18 : w3.cell? ⟨w.heap.size, 18, none⟩ = some (.slice a4 m4 c4) := row_here r1 18 _ rfl
  have x19 : w3.cell? ⟨w.heap.size, 19, none⟩ = some (.string t.b.log) := row_here r1 19 _ rfl
  have x20 : w3.cell? ⟨w.heap.size, 20, none⟩ = some (.int .i64 t.b.size) := row_here r1 20 _ rfl
  have x21 : w3.cell? ⟨w.heap.size, 21, none⟩ = some (.string t.b.root) := row_here r1 21 _ rfl
  have x22 : w3.cell? ⟨w.heap.size, 22, none⟩ = some (.int .i64 t.b.time) := row_here r1 22 _ rfl
  have x23 : w3.cell? ⟨w.heap.size, 23, none⟩ = some (.int .i64 t.b.k) := row_here r1 23 _ rfl
  have x24 : w3.cell? ⟨w.heap.size, 24, none⟩ = some (.slice a5 m5 c5) := row_here r1 24 _ rfl
  have x25 : w3.cell? ⟨w.heap.size, 25, none⟩ = some (.slice a6 m6 c6) := row_here r1 25 _ rfl
  have x26 : w3.cell? ⟨w.heap.size, 26, none⟩ = some (.slice a7 m7 c7) := row_here r1 26 _ rfl
  clear r1 hb
  go_wp2_with fail
  refine (G3.out _ (H0.out.trans (B3.out.mono H0.out.size))).mono ?_
  rintro e w4 ⟨rfl, hb⟩
  have B4 : Hid (Below w.heap.size w w4) := H0.out.trans ((B3.out.trans (hb.mono B3.out.size)).mono H0.out.size)
  clear x12 x13 x14 x15 x16 x17 x18 x19 x20 x21 x22 x23 x24 x25 x26
  clear hb
  go_wp2
  go_ret
  exact ⟨rfl, B4.out⟩
end Go.Proofs.Ytpglcbidfghfkaa

/-
  What a watcher tells: a copy of all that it has.
-/
namespace Go.Proofs.Ytpglcbidfghfkaa
open Go.RowKit Go.Lib
set_option linter.unusedVariables false
set_option linter.unusedSimpArgs false

set_option maxHeartbeats 4000000 in
set_option maxRecDepth 10000 in
theorem told_any (t : Wt) (g : Nat) (v0 v1 v2 v3 v4 v5 v6 v7 : Value) (pm : Option Nat) (Q : World → Nat → Nat → Value → Prop) (hQ : Local Q) (w : World) (hg : w.heap[g]? = some (.cells #[.string t.log, .string t.key, v0, .string t.h.log, .int .i64 t.h.size, .string t.h.root, .int .i64 t.h.time, .int .i64 t.h.k, v1, v2, .map pm, .bool t.found, .string t.a.log, .int .i64 t.a.size, .string t.a.root, .int .i64 t.a.time, .int .i64 t.a.k, v3, v4, .string t.b.log, .int .i64 t.b.size, .string t.b.root, .int .i64 t.b.time, .int .i64 t.b.k, v5, v6, v7] 64 (0, 0))) (hi : t.In v0 v1 v2 v3 v4 v5 v6 v7 w w.heap.size) (hf : t.Fits)
    (EW : ∀ X, Below w.heap.size w X → Calls Try.prog 57 #[.pointer (some ⟨g, 0, none⟩)] X fun e w' => ∃ a n c, e = .returned (.slice a n c) ∧ Q w' X.heap.size w'.heap.size (.slice a n c) ∧ Below X.heap.size X w') :
    Calls Try.prog 26 #[.pointer (some ⟨g, 0, none⟩)] w fun e w' => Wt.Own w t Q e w' := by
  obtain ⟨s0, k0, rfl, hq0⟩ := id hi.1
  obtain ⟨s1, k1, s2, k2, rfl, rfl⟩ := hi.2.1.parts
  obtain ⟨s3, k3, s4, k4, rfl, rfl⟩ := hi.2.2.1.parts
  obtain ⟨s5, k5, s6, k6, rfl, rfl⟩ := hi.2.2.2.1.parts
  obtain ⟨s7, k7, rfl, hq7⟩ := id hi.2.2.2.2
  clear hq0 hq7
  have hgl := (Array.getElem?_eq_some_iff.1 hg).1
  obtain ⟨W, hW⟩ : ∃ W, W = w.alloc (.cells #[.string ⟨#[]⟩, .string ⟨#[]⟩, .slice none 0 0, .string ⟨#[]⟩, .int .i64 0, .string ⟨#[]⟩, .int .i64 0, .int .i64 0, .slice none 0 0, .slice none 0 0, .slice none 0 0, .bool false, .string ⟨#[]⟩, .int .i64 0, .string ⟨#[]⟩, .int .i64 0, .int .i64 0, .slice none 0 0, .slice none 0 0, .string ⟨#[]⟩, .int .i64 0, .string ⟨#[]⟩, .int .i64 0, .int .i64 0, .slice none 0 0, .slice none 0 0, .slice none 0 0] 37) := ⟨_, rfl⟩
  have hbW : Below w.heap.size w W := by rw [hW]; exact (Below.refl _ _).alloc (Nat.le_refl _) _
  have hzW : W.heap.size = w.heap.size + 1 := by rw [hW]; simp
  have g0 : W.heap[w.heap.size]? = some (.cells #[.string ⟨#[]⟩, .string ⟨#[]⟩, .slice none 0 0, .string ⟨#[]⟩, .int .i64 0, .string ⟨#[]⟩, .int .i64 0, .int .i64 0, .slice none 0 0, .slice none 0 0, .slice none 0 0, .bool false, .string ⟨#[]⟩, .int .i64 0, .string ⟨#[]⟩, .int .i64 0, .int .i64 0, .slice none 0 0, .slice none 0 0, .string ⟨#[]⟩, .int .i64 0, .string ⟨#[]⟩, .int .i64 0, .int .i64 0, .slice none 0 0, .slice none 0 0, .slice none 0 0] 37 (0, 0)) := by rw [hW]; exact heap_alloc_new w _
  have g1 : W.heap[g]? = some (.cells #[.string t.log, .string t.key, .slice s0 t.en.length k0, .string t.h.log, .int .i64 t.h.size, .string t.h.root, .int .i64 t.h.time, .int .i64 t.h.k, .slice s1 t.h.el.length k1, .slice s2 t.h.pl.length k2, .map pm, .bool t.found, .string t.a.log, .int .i64 t.a.size, .string t.a.root, .int .i64 t.a.time, .int .i64 t.a.k, .slice s3 t.a.el.length k3, .slice s4 t.a.pl.length k4, .string t.b.log, .int .i64 t.b.size, .string t.b.root, .int .i64 t.b.time, .int .i64 t.b.k, .slice s5 t.b.el.length k5, .slice s6 t.b.pl.length k6, .slice s7 t.fl.length k7] 64 (0, 0)) := (hbW.block _ hgl).trans hg
  have EJ : ∀ s w, s.size ≤ 1048576 → Calls Try.prog 48 #[.string s, .string ⟨#[]⟩] w fun e w' => e = .returned (.string s) ∧ Below w.heap.size w w' := fun s w hs => by
    have := joined_any s ByteArray.empty w hs (by simp)
    rw [ByteArray.append_empty] at this
    exact this
  have G1 : Hid (∀ X, Below W.heap.size W X → Calls Try.prog 48 #[.string t.log, .string ⟨#[]⟩] X fun e w' => e = .returned (.string t.log) ∧ Below W.heap.size W w') := fun X q => (EJ t.log X hf.1).mono fun e w' r => ⟨r.1, q.trans (r.2.mono q.size)⟩
  have G2 : Hid (∀ X, Below W.heap.size W X → Calls Try.prog 48 #[.string t.key, .string ⟨#[]⟩] X fun e w' => e = .returned (.string t.key) ∧ Below W.heap.size W w') := fun X q => (EJ t.key X hf.2.1).mono fun e w' r => ⟨r.1, q.trans (r.2.mono q.size)⟩
  have G3 : Hid (∀ X, Below W.heap.size W X → Calls Try.prog 55 #[.slice s0 t.en.length k0] X fun e w' => ∃ a c, e = .returned (.slice a t.en.length c) ∧ OwnT w' X.heap.size (.slice a t.en.length c) t.en ∧ Below W.heap.size W w') := fun X q => (copied_any _ t.en X ((hi.1.on hbW).on q) hf.2.2.1.1 hf.2.2.1.2).mono fun e w' r => by
    obtain ⟨v', he, ho, hb⟩ := r
    obtain ⟨a', c', rfl⟩ := ho.len
    exact ⟨a', c', he, ho, q.trans (hb.mono q.size)⟩
  have G4 : Hid (∀ X, Below W.heap.size W X → Calls Try.prog 56 #[.agg #[.string t.h.log, .int .i64 t.h.size, .string t.h.root, .int .i64 t.h.time, .int .i64 t.h.k, .slice s1 t.h.el.length k1, .slice s2 t.h.pl.length k2]] X fun e w' => ∃ a c b d n, e = .returned (.agg #[.string t.h.log, .int .i64 t.h.size, .string t.h.root, .int .i64 t.h.time, .int .i64 t.h.k, .slice a t.h.el.length c, .slice b t.h.pl.length d]) ∧ (OwnT w' X.heap.size (.slice a t.h.el.length c) t.h.el ∧ OwnT w' n (.slice b t.h.pl.length d) t.h.pl ∧ (∀ g, (Value.slice a t.h.el.length c).ownBlock = some g → g < n) ∧ X.heap.size ≤ n ∧ n ≤ w'.heap.size ∧ Below X.heap.size X w') ∧ Below W.heap.size W w') := fun X q => (headCopied_any t.h _ _ X ((hi.2.1.on hbW).on q) hf.2.2.2.1.1 hf.2.2.2.1.2.1 hf.2.2.2.1.2.2).mono fun e w' r => by
    obtain ⟨ve, vp, n, he, o1, o2, k1, k2, k3, hb⟩ := r
    obtain ⟨a1, c1, rfl⟩ := o1.len
    obtain ⟨b1, d1, rfl⟩ := o2.len
    exact ⟨a1, c1, b1, d1, n, he, ⟨o1, o2, k1, k2, k3, hb⟩, q.trans (hb.mono q.size)⟩
  have G5 : Hid (∀ X, Below W.heap.size W X → Calls Try.prog 57 #[.pointer (some ⟨g, 0, none⟩)] X fun e w' => ∃ a n c, e = .returned (.slice a n c) ∧ (Q w' X.heap.size w'.heap.size (.slice a n c) ∧ Below X.heap.size X w') ∧ Below W.heap.size W w') := fun X q => (EW X (hbW.trans (q.mono hbW.size))).mono fun e w' r => by
    obtain ⟨a, n, c, he, h1, h2⟩ := r
    exact ⟨a, n, c, he, ⟨h1, h2⟩, q.trans (h2.mono q.size)⟩
  have G6 : Hid (∀ X, Below W.heap.size W X → Calls Try.prog 58 #[.agg #[.string t.a.log, .int .i64 t.a.size, .string t.a.root, .int .i64 t.a.time, .int .i64 t.a.k, .slice s3 t.a.el.length k3, .slice s4 t.a.pl.length k4, .string t.b.log, .int .i64 t.b.size, .string t.b.root, .int .i64 t.b.time, .int .i64 t.b.k, .slice s5 t.b.el.length k5, .slice s6 t.b.pl.length k6, .slice s7 t.fl.length k7]] X fun e w' => ∃ a3 c3 a4 c4 a5 c5 a6 c6 a7 c7 n4 n5 n6 n7, e = .returned (.agg #[.string t.a.log, .int .i64 t.a.size, .string t.a.root, .int .i64 t.a.time, .int .i64 t.a.k, .slice a3 t.a.el.length c3, .slice a4 t.a.pl.length c4, .string t.b.log, .int .i64 t.b.size, .string t.b.root, .int .i64 t.b.time, .int .i64 t.b.k, .slice a5 t.b.el.length c5, .slice a6 t.b.pl.length c6, .slice a7 t.fl.length c7]) ∧ (Owns5 w' X.heap.size n4 n5 n6 n7 (.slice a3 t.a.el.length c3) (.slice a4 t.a.pl.length c4) (.slice a5 t.b.el.length c5) (.slice a6 t.b.pl.length c6) (.slice a7 t.fl.length c7) t.a.el t.a.pl t.b.el t.b.pl t.fl ∧ Below X.heap.size X w') ∧ Below W.heap.size W w') := fun X q => (fraudCopied_any t.a t.b _ _ _ _ _ t.fl X ((hi.2.2.1.on hbW).on q) ((hi.2.2.2.1.on hbW).on q) ((hi.2.2.2.2.on hbW).on q) hf.2.2.2.2.1 hf.2.2.2.2.2.1 hf.2.2.2.2.2.2.1 hf.2.2.2.2.2.2.2).mono fun e w' r => by
    obtain ⟨vex, vpx, vey, vpy, vl, n1, n2, n3, n4, he, ho, hb⟩ := r
    obtain ⟨a3, c3, rfl⟩ := ho.1.1.len
    obtain ⟨a4, c4, rfl⟩ := ho.1.2.1.len
    obtain ⟨a5, c5, rfl⟩ := ho.1.2.2.1.len
    obtain ⟨a6, c6, rfl⟩ := ho.1.2.2.2.1.len
    obtain ⟨a7, c7, rfl⟩ := ho.1.2.2.2.2.len
    exact ⟨a3, c3, a4, c4, a5, c5, a6, c6, a7, c7, n1, n2, n3, n4, he, ⟨ho, hb⟩, q.trans (hb.mono q.size)⟩
  have HC : Hid (∀ X, Below W.heap.size W X → X.heap[g]? = some (.cells #[.string t.log, .string t.key, .slice s0 t.en.length k0, .string t.h.log, .int .i64 t.h.size, .string t.h.root, .int .i64 t.h.time, .int .i64 t.h.k, .slice s1 t.h.el.length k1, .slice s2 t.h.pl.length k2, .map pm, .bool t.found, .string t.a.log, .int .i64 t.a.size, .string t.a.root, .int .i64 t.a.time, .int .i64 t.a.k, .slice s3 t.a.el.length k3, .slice s4 t.a.pl.length k4, .string t.b.log, .int .i64 t.b.size, .string t.b.root, .int .i64 t.b.time, .int .i64 t.b.k, .slice s5 t.b.el.length k5, .slice s6 t.b.pl.length k6, .slice s7 t.fl.length k7] 64 (0, 0))) := fun X hb => (hb.block _ (Nat.lt_of_lt_of_le hgl hbW.size)).trans g1
  have H0 : Hid (Below w.heap.size w W ∧ W.heap.size = w.heap.size + 1 ∧ W.heap[w.heap.size]? = some (.cells #[.string ⟨#[]⟩, .string ⟨#[]⟩, .slice none 0 0, .string ⟨#[]⟩, .int .i64 0, .string ⟨#[]⟩, .int .i64 0, .int .i64 0, .slice none 0 0, .slice none 0 0, .slice none 0 0, .bool false, .string ⟨#[]⟩, .int .i64 0, .string ⟨#[]⟩, .int .i64 0, .int .i64 0, .slice none 0 0, .slice none 0 0, .string ⟨#[]⟩, .int .i64 0, .string ⟨#[]⟩, .int .i64 0, .int .i64 0, .slice none 0 0, .slice none 0 0, .slice none 0 0] 37 (0, 0)) ∧ ¬ w.heap.size = g) := ⟨hbW, hzW, g0, by omega⟩
  have HANS : Hid (∀ a0 c0 a1 c1 a2 c2 ap mp cp a3 c3 a4 c4 a5 c5 a6 c6 a7 c7 w2 w3 w4 w5 w6 n2 n4 n5 n6 n7, Below W.heap.size W w2 → Below W.heap.size W w3 → Below W.heap.size W w4 → Below W.heap.size W w5 → Below W.heap.size W w6 → OwnT w3 w2.heap.size (.slice a0 t.en.length c0) t.en → (OwnT w4 w3.heap.size (.slice a1 t.h.el.length c1) t.h.el ∧ OwnT w4 n2 (.slice a2 t.h.pl.length c2) t.h.pl ∧ (∀ g, (Value.slice a1 t.h.el.length c1).ownBlock = some g → g < n2) ∧ w3.heap.size ≤ n2 ∧ n2 ≤ w4.heap.size ∧ Below w3.heap.size w3 w4) → (Q w5 w4.heap.size w5.heap.size (.slice ap mp cp) ∧ Below w4.heap.size w4 w5) → (Owns5 w6 w5.heap.size n4 n5 n6 n7 (.slice a3 t.a.el.length c3) (.slice a4 t.a.pl.length c4) (.slice a5 t.b.el.length c5) (.slice a6 t.b.pl.length c6) (.slice a7 t.fl.length c7) t.a.el t.a.pl t.b.el t.b.pl t.fl ∧ Below w5.heap.size w5 w6) → ∀ W', w6.grownBy W' (some w.heap.size) → Wt.Own w t Q (.returned (.agg #[.string t.log, .string t.key, .slice a0 t.en.length c0, .string t.h.log, .int .i64 t.h.size, .string t.h.root, .int .i64 t.h.time, .int .i64 t.h.k, .slice a1 t.h.el.length c1, .slice a2 t.h.pl.length c2, .slice ap mp cp, .bool t.found, .string t.a.log, .int .i64 t.a.size, .string t.a.root, .int .i64 t.a.time, .int .i64 t.a.k, .slice a3 t.a.el.length c3, .slice a4 t.a.pl.length c4, .string t.b.log, .int .i64 t.b.size, .string t.b.root, .int .i64 t.b.time, .int .i64 t.b.k, .slice a5 t.b.el.length c5, .slice a6 t.b.pl.length c6, .slice a7 t.fl.length c7])) W') := by
    intro a0 c0 a1 c1 a2 c2 ap mp cp a3 c3 a4 c4 a5 c5 a6 c6 a7 c7 w2 w3 w4 w5 w6 n2 n4 n5 n6 n7 V2 V3 V4 V5 V6 o3 ⟨p1, p2, p3, p4, p5, p6⟩ ⟨q1, q2⟩ ⟨z1, z2⟩ W' hw
    have e2 := V2.size
    have b46 : Below w4.heap.size w4 w6 := q2.trans (z2.mono q2.size)
    have b36 : Below w3.heap.size w3 w6 := p6.trans (b46.mono p6.size)
    have hin : Inside w6 W' w.heap.size (w.heap.size + 1) := ⟨hw.os, hw.tape, hw.output, hw.size, fun b hb ho => hw.block b hb (by simp; omega)⟩
    have aside : ∀ (B : Nat) (v : Value) (l : List ByteArray), OwnT w6 B v l → w.heap.size + 1 ≤ B → OwnT W' B v l := fun B v l ho hB => ho.aside hin (fun g hg => .inr (Nat.le_trans hB (World.ownsRow.lt ho g hg).1))
    refine ⟨_, _, _, _, _, _, _, _, _, w3.heap.size, n2, w4.heap.size, w5.heap.size, n4, n5, n6, n7, rfl, ⟨?_, ?_, ?_, ?_, ?_⟩, ⟨fun g hg => (World.ownsRow.lt o3 g hg).2, p3, fun g hg => (World.ownsRow.lt p2 g hg).2⟩, ⟨by have := V3.size; omega, p4, p5, q2.size⟩, ⟨_, _, _, rfl⟩, ?_⟩
    · exact (aside w2.heap.size _ _ (o3.below b36 (Nat.le_refl _)) (by omega)).lower (by omega)
    · exact aside _ _ _ (p1.below b46 (Nat.le_refl _)) (by have := V3.size; omega)
    · exact aside _ _ _ (p2.below b46 (Nat.le_refl _)) (by have := V3.size; omega)
    · exact hQ _ _ _ _ _ (hQ _ _ _ _ _ q1 (fun b h1 h2 => z2.block b h2)) (fun b h1 h2 => hw.block b (Nat.lt_of_lt_of_le h2 z2.size) (by have := V4.size; simp; omega))
    · obtain ⟨⟨y1, y2, y3, y4, y5⟩, y6, l1, l2, l3, l4, l5⟩ := z1
      have := V5.size
      exact ⟨⟨aside _ _ _ y1 (by omega), aside _ _ _ y2 (by omega), aside _ _ _ y3 (by omega), aside _ _ _ y4 (by omega), aside _ _ _ y5 (by omega)⟩, y6, l1, l2, l3, l4, Nat.le_trans l5 hw.size⟩
    · exact below_own (hbW.trans (V6.mono hbW.size)) hw (Nat.le_refl _)
  have HW : Hid (W = w.alloc (.cells #[.string ⟨#[]⟩, .string ⟨#[]⟩, .slice none 0 0, .string ⟨#[]⟩, .int .i64 0, .string ⟨#[]⟩, .int .i64 0, .int .i64 0, .slice none 0 0, .slice none 0 0, .slice none 0 0, .bool false, .string ⟨#[]⟩, .int .i64 0, .string ⟨#[]⟩, .int .i64 0, .int .i64 0, .slice none 0 0, .slice none 0 0, .string ⟨#[]⟩, .int .i64 0, .string ⟨#[]⟩, .int .i64 0, .int .i64 0, .slice none 0 0, .slice none 0 0, .slice none 0 0] 37)) := hW
  have V0d : Hid (Below W.heap.size W W.drew) := below_drew' (Below.refl _ _)
  clear hi hf EW hg hgl hW hbW hzW g0 g1 EJ hQ
  generalize t.en.length = m0 at *
  generalize t.h.el.length = m1 at *
  generalize t.h.pl.length = m2 at *
  generalize t.a.el.length = m3 at *
  generalize t.a.pl.length = m4 at *
  generalize t.b.el.length = m5 at *
  generalize t.b.pl.length = m6 at *
  generalize t.fl.length = m7 at *
  go_enter Try.func26, Try.ntmps26
  go_wp2_with fail
  rw [← HW.out]
  clear HW
  refine wp_region_held_drew (S := (fun X => X.heap[g]? = some (.cells #[.string t.log, .string t.key, .slice s0 m0 k0, .string t.h.log, .int .i64 t.h.size, .string t.h.root, .int .i64 t.h.time, .int .i64 t.h.k, .slice s1 m1 k1, .slice s2 m2 k2, .map pm, .bool t.found, .string t.a.log, .int .i64 t.a.size, .string t.a.root, .int .i64 t.a.time, .int .i64 t.a.k, .slice s3 m3 k3, .slice s4 m4 k4, .string t.b.log, .int .i64 t.b.size, .string t.b.root, .int .i64 t.b.time, .int .i64 t.b.k, .slice s5 m5 k5, .slice s6 m6 k6, .slice s7 m7 k7] 64 (0, 0)))) (by kernel_rfl) ?_ (fun hHeld => ?_)
  · exact HC.out _ V0d.out
  refine wpAnyH_take (i := 0) (v := ?_) rfl (by kernel_rfl) (by kernel_rfl) (by kernel_rfl) (fun _ _ _ h => h) (Or.inl ⟨by kernel_rfl, ?_⟩) (by assumption) ?_
  rotate_left
  · (intro w' hSw; clear hSw; go_simp; (try with_reducible rfl))
  (try simp only [Act.put, List.setIfInBounds_toArray, List.set_cons_zero, List.set_cons_succ])
  refine wpAnyH_take (i := 1) (v := ?_) rfl (by kernel_rfl) (by kernel_rfl) (by kernel_rfl) (fun _ _ _ h => h) (Or.inl ⟨by kernel_rfl, ?_⟩) (by assumption) ?_
  rotate_left
  · (intro w' hSw; clear hSw; go_simp; (try with_reducible rfl))
  (try simp only [Act.put, List.setIfInBounds_toArray, List.set_cons_zero, List.set_cons_succ])
  refine wpAnyH_take (i := 2) (v := ?_) rfl (by kernel_rfl) (by kernel_rfl) (by kernel_rfl) (fun _ _ _ h => h) (Or.inl ⟨by kernel_rfl, ?_⟩) (by assumption) ?_
  rotate_left
  · (intro w' hSw; clear hSw; go_simp; (try with_reducible rfl))
  (try simp only [Act.put, List.setIfInBounds_toArray, List.set_cons_zero, List.set_cons_succ])
  refine wpAnyH_take (i := 3) (v := ?_) rfl (by kernel_rfl) (by kernel_rfl) (by kernel_rfl) (fun _ _ _ h => h) (Or.inl ⟨by kernel_rfl, ?_⟩) (by assumption) ?_
  rotate_left
  · (intro w' hSw; clear hSw; go_simp; (try with_reducible rfl))
  (try simp only [Act.put, List.setIfInBounds_toArray, List.set_cons_zero, List.set_cons_succ])
  refine wpAnyH_take (i := 4) (v := ?_) rfl (by kernel_rfl) (by kernel_rfl) (by kernel_rfl) (fun _ _ _ h => h) (Or.inl ⟨by kernel_rfl, ?_⟩) (by assumption) ?_
  rotate_left
  · (intro w' hSw; (try dsimp only at hSw); have g0 := row_here hSw 0 _ rfl; clear hSw; go_simp; (try with_reducible rfl))
  (try simp only [Act.put, List.setIfInBounds_toArray, List.set_cons_zero, List.set_cons_succ])
  refine wpAnyH_take (i := 6) (v := ?_) rfl (by kernel_rfl) (by kernel_rfl) (by kernel_rfl) (fun _ _ _ h => h) (Or.inl ⟨by kernel_rfl, ?_⟩) (by assumption) ?_
  rotate_left
  · (intro w' hSw; clear hSw; go_simp; (try with_reducible rfl))
  (try simp only [Act.put, List.setIfInBounds_toArray, List.set_cons_zero, List.set_cons_succ])
  refine wpAnyH_take (i := 7) (v := ?_) rfl (by kernel_rfl) (by kernel_rfl) (by kernel_rfl) (fun _ _ _ h => h) (Or.inl ⟨by kernel_rfl, ?_⟩) (by assumption) ?_
  rotate_left
  · (intro w' hSw; clear hSw; go_simp; (try with_reducible rfl))
  (try simp only [Act.put, List.setIfInBounds_toArray, List.set_cons_zero, List.set_cons_succ])
  refine wpAnyH_take (i := 8) (v := ?_) rfl (by kernel_rfl) (by kernel_rfl) (by kernel_rfl) (fun _ _ _ h => h) (Or.inl ⟨by kernel_rfl, ?_⟩) (by assumption) ?_
  rotate_left
  · (intro w' hSw; clear hSw; go_simp; (try with_reducible rfl))
  (try simp only [Act.put, List.setIfInBounds_toArray, List.set_cons_zero, List.set_cons_succ])
  refine wpAnyH_take (i := 9) (v := ?_) rfl (by kernel_rfl) (by kernel_rfl) (by kernel_rfl) (fun _ _ _ h => h) (Or.inl ⟨by kernel_rfl, ?_⟩) (by assumption) ?_
  rotate_left
  · (intro w' hSw; clear hSw; go_simp; (try with_reducible rfl))
  (try simp only [Act.put, List.setIfInBounds_toArray, List.set_cons_zero, List.set_cons_succ])
  refine wpAnyH_take (i := 10) (v := ?_) rfl (by kernel_rfl) (by kernel_rfl) (by kernel_rfl) (fun _ _ _ h => h) (Or.inl ⟨by kernel_rfl, ?_⟩) (by assumption) ?_
  rotate_left
  · (intro w' hSw; (try dsimp only at hSw); have g1 := row_here hSw 1 _ rfl; clear hSw; go_simp; (try with_reducible rfl))
  (try simp only [Act.put, List.setIfInBounds_toArray, List.set_cons_zero, List.set_cons_succ])
  refine wpAnyH_take (i := 12) (v := ?_) rfl (by kernel_rfl) (by kernel_rfl) (by kernel_rfl) (fun _ _ _ h => h) (Or.inl ⟨by kernel_rfl, ?_⟩) (by assumption) ?_
  rotate_left
  · (intro w' hSw; clear hSw; go_simp; (try with_reducible rfl))
  (try simp only [Act.put, List.setIfInBounds_toArray, List.set_cons_zero, List.set_cons_succ])
  refine wpAnyH_take (i := 13) (v := ?_) rfl (by kernel_rfl) (by kernel_rfl) (by kernel_rfl) (fun _ _ _ h => h) (Or.inl ⟨by kernel_rfl, ?_⟩) (by assumption) ?_
  rotate_left
  · (intro w' hSw; clear hSw; go_simp; (try with_reducible rfl))
  (try simp only [Act.put, List.setIfInBounds_toArray, List.set_cons_zero, List.set_cons_succ])
  refine wpAnyH_take (i := 14) (v := ?_) rfl (by kernel_rfl) (by kernel_rfl) (by kernel_rfl) (fun _ _ _ h => h) (Or.inl ⟨by kernel_rfl, ?_⟩) (by assumption) ?_
  rotate_left
  · (intro w' hSw; clear hSw; go_simp; (try with_reducible rfl))
  (try simp only [Act.put, List.setIfInBounds_toArray, List.set_cons_zero, List.set_cons_succ])
  refine wpAnyH_take (i := 15) (v := ?_) rfl (by kernel_rfl) (by kernel_rfl) (by kernel_rfl) (fun _ _ _ h => h) (Or.inl ⟨by kernel_rfl, ?_⟩) (by assumption) ?_
  rotate_left
  · (intro w' hSw; clear hSw; go_simp; (try with_reducible rfl))
  (try simp only [Act.put, List.setIfInBounds_toArray, List.set_cons_zero, List.set_cons_succ])
  refine wpAnyH_take (i := 16) (v := ?_) rfl (by kernel_rfl) (by kernel_rfl) (by kernel_rfl) (fun _ _ _ h => h) (Or.inl ⟨by kernel_rfl, ?_⟩) (by assumption) ?_
  rotate_left
  · (intro w' hSw; (try dsimp only at hSw); have g2 := row_here hSw 2 _ rfl; clear hSw; go_simp; (try with_reducible rfl))
  (try simp only [Act.put, List.setIfInBounds_toArray, List.set_cons_zero, List.set_cons_succ])
  refine wpAnyH_take (i := 18) (v := ?_) rfl (by kernel_rfl) (by kernel_rfl) (by kernel_rfl) (fun _ _ _ h => h) (Or.inl ⟨by kernel_rfl, ?_⟩) (by assumption) ?_
  rotate_left
  · (intro w' hSw; clear hSw; go_simp; (try with_reducible rfl))
  (try simp only [Act.put, List.setIfInBounds_toArray, List.set_cons_zero, List.set_cons_succ])
  refine wpAnyH_take (i := 19) (v := ?_) rfl (by kernel_rfl) (by kernel_rfl) (by kernel_rfl) (fun _ _ _ h => h) (Or.inl ⟨by kernel_rfl, ?_⟩) (by assumption) ?_
  rotate_left
  · (intro w' hSw; clear hSw; go_simp; (try with_reducible rfl))
  (try simp only [Act.put, List.setIfInBounds_toArray, List.set_cons_zero, List.set_cons_succ])
  refine wpAnyH_take (i := 20) (v := ?_) rfl (by kernel_rfl) (by kernel_rfl) (by kernel_rfl) (fun _ _ _ h => h) (Or.inl ⟨by kernel_rfl, ?_⟩) (by assumption) ?_
  rotate_left
  · (intro w' hSw; clear hSw; go_simp; (try with_reducible rfl))
  (try simp only [Act.put, List.setIfInBounds_toArray, List.set_cons_zero, List.set_cons_succ])
  refine wpAnyH_take (i := 21) (v := ?_) rfl (by kernel_rfl) (by kernel_rfl) (by kernel_rfl) (fun _ _ _ h => h) (Or.inl ⟨by kernel_rfl, ?_⟩) (by assumption) ?_
  rotate_left
  · (intro w' hSw; clear hSw; go_simp; (try with_reducible rfl))
  (try simp only [Act.put, List.setIfInBounds_toArray, List.set_cons_zero, List.set_cons_succ])
  refine wpAnyH_take (i := 22) (v := ?_) rfl (by kernel_rfl) (by kernel_rfl) (by kernel_rfl) (fun _ _ _ h => h) (Or.inl ⟨by kernel_rfl, ?_⟩) (by assumption) ?_
  rotate_left
  · (intro w' hSw; (try dsimp only at hSw); have g3 := row_here hSw 3 _ rfl; have g4 := row_here hSw 4 _ rfl; have g5 := row_here hSw 5 _ rfl; have g6 := row_here hSw 6 _ rfl; have g7 := row_here hSw 7 _ rfl; have g8 := row_here hSw 8 _ rfl; have g9 := row_here hSw 9 _ rfl; clear hSw; go_simp; (try with_reducible rfl))
  (try simp only [Act.put, List.setIfInBounds_toArray, List.set_cons_zero, List.set_cons_succ])
  refine wpAnyH_take (i := 24) (v := ?_) rfl (by kernel_rfl) (by kernel_rfl) (by kernel_rfl) (fun _ _ _ h => h) (Or.inl ⟨by kernel_rfl, ?_⟩) (by assumption) ?_
  rotate_left
  · (intro w' hSw; clear hSw; go_simp; (try with_reducible rfl))
  (try simp only [Act.put, List.setIfInBounds_toArray, List.set_cons_zero, List.set_cons_succ])
  refine wpAnyH_take (i := 26) (v := ?_) rfl (by kernel_rfl) (by kernel_rfl) (by kernel_rfl) (fun _ _ _ h => h) (Or.inl ⟨by kernel_rfl, ?_⟩) (by assumption) ?_
  rotate_left
  · (intro w' hSw; clear hSw; go_simp; (try with_reducible rfl))
  (try simp only [Act.put, List.setIfInBounds_toArray, List.set_cons_zero, List.set_cons_succ])
  refine wpAnyH_take (i := 27) (v := ?_) rfl (by kernel_rfl) (by kernel_rfl) (by kernel_rfl) (fun _ _ _ h => h) (Or.inl ⟨by kernel_rfl, ?_⟩) (by assumption) ?_
  rotate_left
  · (intro w' hSw; clear hSw; go_simp; (try with_reducible rfl))
  (try simp only [Act.put, List.setIfInBounds_toArray, List.set_cons_zero, List.set_cons_succ])
  refine wpAnyH_take (i := 28) (v := ?_) rfl (by kernel_rfl) (by kernel_rfl) (by kernel_rfl) (fun _ _ _ h => h) (Or.inl ⟨by kernel_rfl, ?_⟩) (by assumption) ?_
  rotate_left
  · (intro w' hSw; clear hSw; go_simp; (try with_reducible rfl))
  (try simp only [Act.put, List.setIfInBounds_toArray, List.set_cons_zero, List.set_cons_succ])
  refine wpAnyH_take (i := 29) (v := ?_) rfl (by kernel_rfl) (by kernel_rfl) (by kernel_rfl) (fun _ _ _ h => h) (Or.inl ⟨by kernel_rfl, ?_⟩) (by assumption) ?_
  rotate_left
  · (intro w' hSw; (try dsimp only at hSw); have g11 := row_here hSw 11 _ rfl; clear hSw; go_simp; (try with_reducible rfl))
  (try simp only [Act.put, List.setIfInBounds_toArray, List.set_cons_zero, List.set_cons_succ])
  refine wpAnyH_take (i := 30) (v := ?_) rfl (by kernel_rfl) (by kernel_rfl) (by kernel_rfl) (fun _ _ _ h => h) (Or.inl ⟨by kernel_rfl, ?_⟩) (by assumption) ?_
  rotate_left
  · (intro w' hSw; clear hSw; go_simp; (try with_reducible rfl))
  (try simp only [Act.put, List.setIfInBounds_toArray, List.set_cons_zero, List.set_cons_succ])
  refine wpAnyH_take (i := 31) (v := ?_) rfl (by kernel_rfl) (by kernel_rfl) (by kernel_rfl) (fun _ _ _ h => h) (Or.inl ⟨by kernel_rfl, ?_⟩) (by assumption) ?_
  rotate_left
  · (intro w' hSw; clear hSw; go_simp; (try with_reducible rfl))
  (try simp only [Act.put, List.setIfInBounds_toArray, List.set_cons_zero, List.set_cons_succ])
  refine wpAnyH_take (i := 32) (v := ?_) rfl (by kernel_rfl) (by kernel_rfl) (by kernel_rfl) (fun _ _ _ h => h) (Or.inl ⟨by kernel_rfl, ?_⟩) (by assumption) ?_
  rotate_left
  · (intro w' hSw; clear hSw; go_simp; (try with_reducible rfl))
  (try simp only [Act.put, List.setIfInBounds_toArray, List.set_cons_zero, List.set_cons_succ])
  refine wpAnyH_take (i := 33) (v := ?_) rfl (by kernel_rfl) (by kernel_rfl) (by kernel_rfl) (fun _ _ _ h => h) (Or.inl ⟨by kernel_rfl, ?_⟩) (by assumption) ?_
  rotate_left
  · (intro w' hSw; (try dsimp only at hSw); have g12 := row_here hSw 12 _ rfl; have g13 := row_here hSw 13 _ rfl; have g14 := row_here hSw 14 _ rfl; have g15 := row_here hSw 15 _ rfl; have g16 := row_here hSw 16 _ rfl; have g17 := row_here hSw 17 _ rfl; have g18 := row_here hSw 18 _ rfl; have g19 := row_here hSw 19 _ rfl; have g20 := row_here hSw 20 _ rfl; have g21 := row_here hSw 21 _ rfl; have g22 := row_here hSw 22 _ rfl; have g23 := row_here hSw 23 _ rfl; have g24 := row_here hSw 24 _ rfl; have g25 := row_here hSw 25 _ rfl; have g26 := row_here hSw 26 _ rfl; clear hSw; go_simp; (try with_reducible rfl))
  (try simp only [Act.put, List.setIfInBounds_toArray, List.set_cons_zero, List.set_cons_succ])
  refine wpAnyH_ready (rs := [5]) (by kernel_rfl) (by simp) ?_
  refine AllReadyH.cons (by simp only [List.getElem?_toArray, List.getElem?_cons_succ, List.getElem?_cons_zero]; rfl) (fun K hK => ?_) AllReadyH.nil
  go_simp
  go_at_call 48; (with_reducible refine (G1.out _ ?_).mono ?_); exact V0d.out; rintro e w1 ⟨rfl, hb⟩; have V1 : Hid (Below W.heap.size W w1) := hb; clear hb
  go_wp2_with fail
  refine hK.out _ _ ?_ (fun hHeld => ?_)
  · exact HC.out _ V1.out
  clear hK K
  (try simp only [Act.put, List.setIfInBounds_toArray, List.set_cons_zero, List.set_cons_succ])
  refine wpAnyH_ready (rs := [11]) (by kernel_rfl) (by simp) ?_
  refine AllReadyH.cons (by simp only [List.getElem?_toArray, List.getElem?_cons_succ, List.getElem?_cons_zero]; rfl) (fun K hK => ?_) AllReadyH.nil
  go_simp
  go_at_call 48; (with_reducible refine (G2.out _ ?_).mono ?_); exact V1.out; rintro e w2 ⟨rfl, hb⟩; have V2 : Hid (Below W.heap.size W w2) := hb; clear hb
  go_wp2_with fail
  refine hK.out _ _ ?_ (fun hHeld => ?_)
  · exact HC.out _ V2.out
  clear hK K
  (try simp only [Act.put, List.setIfInBounds_toArray, List.set_cons_zero, List.set_cons_succ])
  refine wpAnyH_ready (rs := [17]) (by kernel_rfl) (by simp) ?_
  refine AllReadyH.cons (by simp only [List.getElem?_toArray, List.getElem?_cons_succ, List.getElem?_cons_zero]; rfl) (fun K hK => ?_) AllReadyH.nil
  go_simp
  go_at_call 55; (with_reducible refine (G3.out _ ?_).mono ?_); exact V2.out; rintro e w3 ⟨a0, c0, rfl, ho, hb⟩; have V3 : Hid (Below W.heap.size W w3) := hb; have O3 : Hid (OwnT w3 w2.heap.size (.slice a0 m0 c0) t.en) := ho; clear ho; clear hb
  go_wp2_with fail
  refine hK.out _ _ ?_ (fun hHeld => ?_)
  · exact HC.out _ V3.out
  clear hK K
  (try simp only [Act.put, List.setIfInBounds_toArray, List.set_cons_zero, List.set_cons_succ])
  refine wpAnyH_ready (rs := [23]) (by kernel_rfl) (by simp) ?_
  refine AllReadyH.cons (by simp only [List.getElem?_toArray, List.getElem?_cons_succ, List.getElem?_cons_zero]; rfl) (fun K hK => ?_) AllReadyH.nil
  go_simp
  go_at_call 56; (with_reducible refine (G4.out _ ?_).mono ?_); exact V3.out; rintro e w4 ⟨a1, c1, a2, c2, n2, rfl, ho, hb⟩; have V4 : Hid (Below W.heap.size W w4) := hb; have O4 : Hid (OwnT w4 w3.heap.size (.slice a1 m1 c1) t.h.el ∧ OwnT w4 n2 (.slice a2 m2 c2) t.h.pl ∧ (∀ g, (Value.slice a1 m1 c1).ownBlock = some g → g < n2) ∧ w3.heap.size ≤ n2 ∧ n2 ≤ w4.heap.size ∧ Below w3.heap.size w3 w4) := ho; clear ho; clear hb
  go_wp2_with fail
  refine hK.out _ _ ?_ (fun hHeld => ?_)
  · exact HC.out _ V4.out
  clear hK K
  (try simp only [Act.put, List.setIfInBounds_toArray, List.set_cons_zero, List.set_cons_succ])
  refine wpAnyH_ready (rs := [25]) (by kernel_rfl) (by simp) ?_
  refine AllReadyH.cons (by simp only [List.getElem?_toArray, List.getElem?_cons_succ, List.getElem?_cons_zero]; rfl) (fun K hK => ?_) AllReadyH.nil
  go_simp
  go_at_call 57; (with_reducible refine (G5.out _ ?_).mono ?_); exact V4.out; rintro e w5 ⟨ap, mp, cp, rfl, ho, hb⟩; have V5 : Hid (Below W.heap.size W w5) := hb; have O5 : Hid (Q w5 w4.heap.size w5.heap.size (.slice ap mp cp) ∧ Below w4.heap.size w4 w5) := ho; clear ho; clear hb
  go_wp2_with fail
  refine hK.out _ _ ?_ (fun hHeld => ?_)
  · exact HC.out _ V5.out
  clear hK K
  (try simp only [Act.put, List.setIfInBounds_toArray, List.set_cons_zero, List.set_cons_succ])
  refine wpAnyH_ready (rs := [34]) (by kernel_rfl) (by simp) ?_
  refine AllReadyH.cons (by simp only [List.getElem?_toArray, List.getElem?_cons_succ, List.getElem?_cons_zero]; rfl) (fun K hK => ?_) AllReadyH.nil
  go_simp
  go_at_call 58; (with_reducible refine (G6.out _ ?_).mono ?_); exact V5.out; rintro e w6 ⟨a3, c3, a4, c4, a5, c5, a6, c6, a7, c7, n4, n5, n6, n7, rfl, ho, hb⟩; have V6 : Hid (Below W.heap.size W w6) := hb; have O6 : Hid (Owns5 w6 w5.heap.size n4 n5 n6 n7 (.slice a3 m3 c3) (.slice a4 m4 c4) (.slice a5 m5 c5) (.slice a6 m6 c6) (.slice a7 m7 c7) t.a.el t.a.pl t.b.el t.b.pl t.fl ∧ Below w5.heap.size w5 w6) := ho; clear ho; clear hb
  go_wp2_with fail
  refine hK.out _ _ ?_ (fun hHeld => ?_)
  · exact HC.out _ V6.out
  clear hK K
  (try simp only [Act.put, List.setIfInBounds_toArray, List.set_cons_zero, List.set_cons_succ])
  have kR := (V6.out.block _ (show w.heap.size < W.heap.size by have := H0.out.2.1; omega)).trans H0.out.2.2.1
  refine wpAnyH_take (i := 35) (v := ?_) rfl (by kernel_rfl) (by kernel_rfl) (by kernel_rfl) (fun _ _ _ h => h) (Or.inl ⟨by kernel_rfl, ?_⟩) (by assumption) ?_
  rotate_left
  · (intro w' hSw; clear hSw; go_simp; (try with_reducible rfl))
  (try simp only [Act.put, List.setIfInBounds_toArray, List.set_cons_zero, List.set_cons_succ])
  refine wpAnyH_ready (rs := [36]) (by kernel_rfl) (by simp) ?_
  refine AllReadyH.cons (by simp only [List.getElem?_toArray, List.getElem?_cons_succ, List.getElem?_cons_zero]; rfl) (fun K hK => ?_) AllReadyH.nil
  refine wp_store_row _ _ _ rfl (w.heap.size) _ rfl rfl _ _ kR (by kernel_rfl) rfl (by simp [Value.oneCell']) ?_
  go_simp
  refine hK.out _ _ ?_ (fun hHeld => ?_)
  · exact (setRow_other _ _ _ _ (fun e => H0.out.2.2.2 e.symm)).trans (HC.out _ V6.out)
  clear hK K
  (try simp only [Act.put, List.setIfInBounds_toArray, List.set_cons_zero, List.set_cons_succ])
  refine wpAnyH_done (by kernel_rfl) ?_ _
  go_simp
  go_wp2
  refine bodyPost_ret (v := .agg #[.string t.log, .string t.key, .slice a0 m0 c0, .string t.h.log, .int .i64 t.h.size, .string t.h.root, .int .i64 t.h.time, .int .i64 t.h.k, .slice a1 m1 c1, .slice a2 m2 c2, .slice ap mp cp, .bool t.found, .string t.a.log, .int .i64 t.a.size, .string t.a.root, .int .i64 t.a.time, .int .i64 t.a.k, .slice a3 m3 c3, .slice a4 m4 c4, .string t.b.log, .int .i64 t.b.size, .string t.b.root, .int .i64 t.b.time, .int .i64 t.b.k, .slice a5 m5 c5, .slice a6 m6 c6, .slice a7 m7 c7]) (results_cell_row rfl _ _ w.heap.size _ _ _ _ rfl (setRow_heap _ _ _ _ _ _ kR) Try.underlying37 rfl (by kernel_rfl)) rfl ?_
  refine HANS.out a0 c0 a1 c1 a2 c2 ap mp cp a3 c3 a4 c4 a5 c5 a6 c6 a7 c7 w2 w3 w4 w5 w6 n2 n4 n5 n6 n7 V2.out V3.out V4.out V5.out V6.out O3.out O4.out O5.out O6.out _ ?_
  exact setRow_grown _ _ _
end Go.Proofs.Ytpglcbidfghfkaa
