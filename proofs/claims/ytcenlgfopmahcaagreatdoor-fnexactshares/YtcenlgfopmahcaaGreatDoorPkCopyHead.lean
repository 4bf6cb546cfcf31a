/-
  The program's copy of a head.
-/
import Derived.Test.YtcenlgfopmahcaaGreatDoorPkTextRows
import Derived.Test.YtcenlgfopmahcaaGreatDoorPkHdV
import Derived.Deep.RegionWith
import Derived.Deep.RegionHeld3
namespace Go.Proofs.YtcenlgfopmahcaaGreatDoor
open Go.RowKit Go.Lib
set_option linter.unusedVariables false
set_option linter.unusedSimpArgs false

set_option maxHeartbeats 4000000 in
set_option maxRecDepth 10000 in
theorem headCopied_any (x : Hd) (ve vp : Value) (w : World) (h : x.In ve vp w w.heap.size) (hl : x.Lim) (hz : ∀ j (hj : j < x.el.length), x.el[j].size ≤ 1048576) (hz2 : ∀ j (hj : j < x.pl.length), x.pl[j].size ≤ 1048576) :
    Calls Tryz.prog 49 #[.agg #[.string x.log, .int .i64 x.size, .string x.root, .int .i64 x.time, .int .i64 x.k, ve, vp]] w fun e w' => HeadOwn w x.log x.size x.root x.time x.k x.el x.pl e w' := by
  obtain ⟨a, c, b, d, rfl, rfl⟩ := h.parts
  obtain ⟨W, hW⟩ : ∃ W, W = (w.alloc (.cells #[.string x.log, .int .i64 x.size, .string x.root, .int .i64 x.time, .int .i64 x.k, .slice a x.el.length c, .slice b x.pl.length d] 37)).alloc (.cells #[.string ⟨#[]⟩, .int .i64 0, .string ⟨#[]⟩, .int .i64 0, .int .i64 0, .slice none 0 0, .slice none 0 0] 37) := ⟨_, rfl⟩
  have hbW : Below w.heap.size w W := by rw [hW]; exact ((Below.refl _ _).alloc (Nat.le_refl _) _).alloc (by simp) _
  have hzW : W.heap.size = w.heap.size + 2 := by rw [hW]; simp
  have g0 : W.heap[w.heap.size]? = some (.cells #[.string x.log, .int .i64 x.size, .string x.root, .int .i64 x.time, .int .i64 x.k, .slice a x.el.length c, .slice b x.pl.length d] 37 (0, 0)) := by
    rw [hW]
    exact heap_alloc2_old w _ _
  have g1 : W.heap[w.heap.size + 1]? = some (.cells #[.string ⟨#[]⟩, .int .i64 0, .string ⟨#[]⟩, .int .i64 0, .int .i64 0, .slice none 0 0, .slice none 0 0] 37 (0, 0)) := by
    rw [hW]
    exact heap_alloc2_new w _ _
  have EJ : Hid (∀ t w, t.size ≤ 1048576 → Calls Tryz.prog 67 #[.string t, .string ⟨#[]⟩] w fun e w' => e = .returned (.string t) ∧ Below w.heap.size w w') := fun t w ht => by
    have := joined_any t ByteArray.empty w ht (by simp)
    rw [ByteArray.append_empty] at this
    exact this
  have EC1 : Hid (∀ W', Below W.heap.size W W' → Calls Tryz.prog 68 #[.slice a x.el.length c] W' fun e w' => ∃ v', e = .returned v' ∧ OwnT w' W'.heap.size v' x.el ∧ Below W'.heap.size W' w') := fun W' hb => copied_any _ x.el W' ((h.1.on hbW).on hb) hl.2.2.1 hz
  have EC2 : Hid (∀ W', Below W.heap.size W W' → Calls Tryz.prog 68 #[.slice b x.pl.length d] W' fun e w' => ∃ v', e = .returned v' ∧ OwnT w' W'.heap.size v' x.pl ∧ Below W'.heap.size W' w') := fun W' hb => copied_any _ x.pl W' ((h.2.on hbW).on hb) hl.2.2.2 hz2
  have HC : Hid (∀ X, Below W.heap.size W X → X.cell? ⟨w.heap.size, 0, none⟩ = some (.string x.log) ∧ X.cell? ⟨w.heap.size, 1, none⟩ = some (.int .i64 x.size) ∧ X.cell? ⟨w.heap.size, 2, none⟩ = some (.string x.root) ∧ X.cell? ⟨w.heap.size, 3, none⟩ = some (.int .i64 x.time) ∧ X.cell? ⟨w.heap.size, 4, none⟩ = some (.int .i64 x.k) ∧ X.cell? ⟨w.heap.size, 5, none⟩ = some (.slice a x.el.length c) ∧ X.cell? ⟨w.heap.size, 6, none⟩ = some (.slice b x.pl.length d)) := fun X hb => by
    have q := row_cells hb (Array.getElem?_eq_some_iff.1 g0).1 g0
    exact ⟨q 0 _ rfl, q 1 _ rfl, q 2 _ rfl, q 3 _ rfl, q 4 _ rfl, q 5 _ rfl, q 6 _ rfl⟩
  have H0 : Hid (Below w.heap.size w W ∧ W.heap.size = w.heap.size + 2 ∧ W.heap[w.heap.size + 1]? = some (.cells #[.string ⟨#[]⟩, .int .i64 0, .string ⟨#[]⟩, .int .i64 0, .int .i64 0, .slice none 0 0, .slice none 0 0] 37 (0, 0))) := ⟨hbW, hzW, g1⟩
  have HW : Hid (W = (w.alloc (.cells #[.string x.log, .int .i64 x.size, .string x.root, .int .i64 x.time, .int .i64 x.k, .slice a x.el.length c, .slice b x.pl.length d] 37)).alloc (.cells #[.string ⟨#[]⟩, .int .i64 0, .string ⟨#[]⟩, .int .i64 0, .int .i64 0, .slice none 0 0, .slice none 0 0] 37)) := hW
  have HL : Hid (x.log.size ≤ 1048576 ∧ x.root.size ≤ 1048576) := ⟨hl.1, hl.2.1⟩
  clear h hl hz hz2 hW hbW hzW g0 g1
  obtain ⟨log, root, size, time, k, el, pl⟩ := x
  dsimp only at *
  generalize hne : el.length = ne at *
  generalize hnp : pl.length = np at *
  have V0 : Hid (Below W.heap.size W W) := Below.refl _ _
  have V0d : Hid (Below W.heap.size W W.drew) := below_drew' (Below.refl _ _)
  have G1 : Hid (∀ X, Below W.heap.size W X → Calls Tryz.prog 67 #[.string log, .string ⟨#[]⟩] X fun e w' => e = .returned (.string log) ∧ Below W.heap.size W w') := fun X q => (EJ.out log X HL.out.1).mono fun e w' r => ⟨r.1, q.trans (r.2.mono q.size)⟩
  have G2 : Hid (∀ X, Below W.heap.size W X → Calls Tryz.prog 67 #[.string root, .string ⟨#[]⟩] X fun e w' => e = .returned (.string root) ∧ Below W.heap.size W w') := fun X q => (EJ.out root X HL.out.2).mono fun e w' r => ⟨r.1, q.trans (r.2.mono q.size)⟩
  have G3 : Hid (∀ X, Below W.heap.size W X → Calls Tryz.prog 68 #[.slice a ne c] X fun e w' => ∃ a' c', e = .returned (.slice a' ne c') ∧ OwnT w' X.heap.size (.slice a' ne c') el ∧ Below X.heap.size X w' ∧ Below W.heap.size W w') := fun X q => (EC1.out X q).mono fun e w' r => by
    obtain ⟨v', he, ho, hb⟩ := r
    obtain ⟨a', c', rfl⟩ := ho.len
    rw [hne] at he ho
    exact ⟨a', c', he, ho, hb, q.trans (hb.mono q.size)⟩
  have G4 : Hid (∀ X, Below W.heap.size W X → Calls Tryz.prog 68 #[.slice b np d] X fun e w' => ∃ a' c', e = .returned (.slice a' np c') ∧ OwnT w' X.heap.size (.slice a' np c') pl ∧ Below X.heap.size X w' ∧ Below W.heap.size W w') := fun X q => (EC2.out X q).mono fun e w' r => by
    obtain ⟨v', he, ho, hb⟩ := r
    obtain ⟨a', c', rfl⟩ := ho.len
    rw [hnp] at he ho
    exact ⟨a', c', he, ho, hb, q.trans (hb.mono q.size)⟩
  obtain ⟨x0, x1, x2, x3, x4, x5, x6⟩ := HC.out W V0.out
  clear EJ EC1 EC2
  go_enter Tryz.func49, Tryz.ntmps49
  go_wp2_with fail
  rw [← HW.out]
  clear HW
  refine wp_region_held_drew (S := (fun X => X.cell? ⟨w.heap.size, 0, none⟩ = some (.string log) ∧ X.cell? ⟨w.heap.size, 1, none⟩ = some (.int .i64 size) ∧ X.cell? ⟨w.heap.size, 2, none⟩ = some (.string root) ∧ X.cell? ⟨w.heap.size, 3, none⟩ = some (.int .i64 time) ∧ X.cell? ⟨w.heap.size, 4, none⟩ = some (.int .i64 k) ∧ X.cell? ⟨w.heap.size, 5, none⟩ = some (.slice a ne c) ∧ X.cell? ⟨w.heap.size, 6, none⟩ = some (.slice b np d))) (by kernel_rfl) ?_ (fun hHeld => ?_)
  · exact HC.out _ V0d.out
  refine wpAnyH_take (i := 0) (v := ?_) rfl (by kernel_rfl) (by kernel_rfl) (by kernel_rfl) (fun _ _ _ h => h) (Or.inl ⟨by kernel_rfl, ?_⟩) (by assumption) ?_
  rotate_left
  · (intro w' hSw; clear hSw; go_simp; (try with_reducible rfl))
  (try simp only [Act.put, List.setIfInBounds_toArray, List.set_cons_zero, List.set_cons_succ])
  refine wpAnyH_take (i := 1) (v := ?_) rfl (by kernel_rfl) (by kernel_rfl) (by kernel_rfl) (fun _ _ _ h => h) (Or.inl ⟨by kernel_rfl, ?_⟩) (by assumption) ?_
  rotate_left
  · (intro w' hSw; (try dsimp only at hSw); obtain ⟨g0, g1, g2, g3, g4, g5, g6⟩ := hSw; go_simp; (try with_reducible rfl))
  (try simp only [Act.put, List.setIfInBounds_toArray, List.set_cons_zero, List.set_cons_succ])
  refine wpAnyH_take (i := 3) (v := ?_) rfl (by kernel_rfl) (by kernel_rfl) (by kernel_rfl) (fun _ _ _ h => h) (Or.inl ⟨by kernel_rfl, ?_⟩) (by assumption) ?_
  rotate_left
  · (intro w' hSw; clear hSw; go_simp; (try with_reducible rfl))
  (try simp only [Act.put, List.setIfInBounds_toArray, List.set_cons_zero, List.set_cons_succ])
  refine wpAnyH_take (i := 4) (v := ?_) rfl (by kernel_rfl) (by kernel_rfl) (by kernel_rfl) (fun _ _ _ h => h) (Or.inl ⟨by kernel_rfl, ?_⟩) (by assumption) ?_
  rotate_left
  · (intro w' hSw; (try dsimp only at hSw); obtain ⟨g0, g1, g2, g3, g4, g5, g6⟩ := hSw; go_simp; (try with_reducible rfl))
  (try simp only [Act.put, List.setIfInBounds_toArray, List.set_cons_zero, List.set_cons_succ])
  refine wpAnyH_take (i := 5) (v := ?_) rfl (by kernel_rfl) (by kernel_rfl) (by kernel_rfl) (fun _ _ _ h => h) (Or.inl ⟨by kernel_rfl, ?_⟩) (by assumption) ?_
  rotate_left
  · (intro w' hSw; clear hSw; go_simp; (try with_reducible rfl))
  (try simp only [Act.put, List.setIfInBounds_toArray, List.set_cons_zero, List.set_cons_succ])
  refine wpAnyH_take (i := 6) (v := ?_) rfl (by kernel_rfl) (by kernel_rfl) (by kernel_rfl) (fun _ _ _ h => h) (Or.inl ⟨by kernel_rfl, ?_⟩) (by assumption) ?_
  rotate_left
  · (intro w' hSw; (try dsimp only at hSw); obtain ⟨g0, g1, g2, g3, g4, g5, g6⟩ := hSw; go_simp; (try with_reducible rfl))
  (try simp only [Act.put, List.setIfInBounds_toArray, List.set_cons_zero, List.set_cons_succ])
  refine wpAnyH_take (i := 8) (v := ?_) rfl (by kernel_rfl) (by kernel_rfl) (by kernel_rfl) (fun _ _ _ h => h) (Or.inl ⟨by kernel_rfl, ?_⟩) (by assumption) ?_
  rotate_left
  · (intro w' hSw; clear hSw; go_simp; (try with_reducible rfl))
  (try simp only [Act.put, List.setIfInBounds_toArray, List.set_cons_zero, List.set_cons_succ])
  refine wpAnyH_take (i := 9) (v := ?_) rfl (by kernel_rfl) (by kernel_rfl) (by kernel_rfl) (fun _ _ _ h => h) (Or.inl ⟨by kernel_rfl, ?_⟩) (by assumption) ?_
  rotate_left
  · (intro w' hSw; (try dsimp only at hSw); obtain ⟨g0, g1, g2, g3, g4, g5, g6⟩ := hSw; go_simp; (try with_reducible rfl))
  (try simp only [Act.put, List.setIfInBounds_toArray, List.set_cons_zero, List.set_cons_succ])
  refine wpAnyH_take (i := 10) (v := ?_) rfl (by kernel_rfl) (by kernel_rfl) (by kernel_rfl) (fun _ _ _ h => h) (Or.inl ⟨by kernel_rfl, ?_⟩) (by assumption) ?_
  rotate_left
  · (intro w' hSw; clear hSw; go_simp; (try with_reducible rfl))
  (try simp only [Act.put, List.setIfInBounds_toArray, List.set_cons_zero, List.set_cons_succ])
  refine wpAnyH_take (i := 11) (v := ?_) rfl (by kernel_rfl) (by kernel_rfl) (by kernel_rfl) (fun _ _ _ h => h) (Or.inl ⟨by kernel_rfl, ?_⟩) (by assumption) ?_
  rotate_left
  · (intro w' hSw; clear hSw; go_simp; (try with_reducible rfl))
  (try simp only [Act.put, List.setIfInBounds_toArray, List.set_cons_zero, List.set_cons_succ])
  refine wpAnyH_take (i := 12) (v := ?_) rfl (by kernel_rfl) (by kernel_rfl) (by kernel_rfl) (fun _ _ _ h => h) (Or.inl ⟨by kernel_rfl, ?_⟩) (by assumption) ?_
  rotate_left
  · (intro w' hSw; (try dsimp only at hSw); obtain ⟨g0, g1, g2, g3, g4, g5, g6⟩ := hSw; go_simp; (try with_reducible rfl))
  (try simp only [Act.put, List.setIfInBounds_toArray, List.set_cons_zero, List.set_cons_succ])
  refine wpAnyH_take (i := 13) (v := ?_) rfl (by kernel_rfl) (by kernel_rfl) (by kernel_rfl) (fun _ _ _ h => h) (Or.inl ⟨by kernel_rfl, ?_⟩) (by assumption) ?_
  rotate_left
  · (intro w' hSw; clear hSw; go_simp; (try with_reducible rfl))
  (try simp only [Act.put, List.setIfInBounds_toArray, List.set_cons_zero, List.set_cons_succ])
  refine wpAnyH_take (i := 14) (v := ?_) rfl (by kernel_rfl) (by kernel_rfl) (by kernel_rfl) (fun _ _ _ h => h) (Or.inl ⟨by kernel_rfl, ?_⟩) (by assumption) ?_
  rotate_left
  · (intro w' hSw; clear hSw; go_simp; (try with_reducible rfl))
  (try simp only [Act.put, List.setIfInBounds_toArray, List.set_cons_zero, List.set_cons_succ])
  refine wpAnyH_take (i := 15) (v := ?_) rfl (by kernel_rfl) (by kernel_rfl) (by kernel_rfl) (fun _ _ _ h => h) (Or.inl ⟨by kernel_rfl, ?_⟩) (by assumption) ?_
  rotate_left
  · (intro w' hSw; (try dsimp only at hSw); obtain ⟨g0, g1, g2, g3, g4, g5, g6⟩ := hSw; go_simp; (try with_reducible rfl))
  (try simp only [Act.put, List.setIfInBounds_toArray, List.set_cons_zero, List.set_cons_succ])
  refine wpAnyH_take (i := 17) (v := ?_) rfl (by kernel_rfl) (by kernel_rfl) (by kernel_rfl) (fun _ _ _ h => h) (Or.inl ⟨by kernel_rfl, ?_⟩) (by assumption) ?_
  rotate_left
  · (intro w' hSw; clear hSw; go_simp; (try with_reducible rfl))
  (try simp only [Act.put, List.setIfInBounds_toArray, List.set_cons_zero, List.set_cons_succ])
  refine wpAnyH_take (i := 18) (v := ?_) rfl (by kernel_rfl) (by kernel_rfl) (by kernel_rfl) (fun _ _ _ h => h) (Or.inl ⟨by kernel_rfl, ?_⟩) (by assumption) ?_
  rotate_left
  · (intro w' hSw; clear hSw; go_simp; (try with_reducible rfl))
  (try simp only [Act.put, List.setIfInBounds_toArray, List.set_cons_zero, List.set_cons_succ])
  refine wpAnyH_take (i := 19) (v := ?_) rfl (by kernel_rfl) (by kernel_rfl) (by kernel_rfl) (fun _ _ _ h => h) (Or.inl ⟨by kernel_rfl, ?_⟩) (by assumption) ?_
  rotate_left
  · (intro w' hSw; (try dsimp only at hSw); obtain ⟨g0, g1, g2, g3, g4, g5, g6⟩ := hSw; go_simp; (try with_reducible rfl))
  (try simp only [Act.put, List.setIfInBounds_toArray, List.set_cons_zero, List.set_cons_succ])
  refine wpAnyH_ready (rs := [2]) (by kernel_rfl) (by simp) ?_
  refine AllReadyH.cons (by simp only [List.getElem?_toArray, List.getElem?_cons_succ, List.getElem?_cons_zero]; rfl) (fun K hK => ?_) AllReadyH.nil
  go_simp
  go_at_call 67; (with_reducible refine (G1.out _ ?_).mono ?_); exact V0d.out; rintro e wa ⟨rfl, hb⟩; have V1 : Hid (Below W.heap.size W wa) := hb; clear hb
  go_wp2_with fail
  refine hK.out _ _ ?_ (fun hHeld => ?_)
  · exact HC.out _ V1.out
  clear hK K
  (try simp only [Act.put, List.setIfInBounds_toArray, List.set_cons_zero, List.set_cons_succ])
  refine wpAnyH_ready (rs := [7]) (by kernel_rfl) (by simp) ?_
  refine AllReadyH.cons (by simp only [List.getElem?_toArray, List.getElem?_cons_succ, List.getElem?_cons_zero]; rfl) (fun K hK => ?_) AllReadyH.nil
  go_simp
  go_at_call 67; (with_reducible refine (G2.out _ ?_).mono ?_); exact V1.out; rintro e wb ⟨rfl, hb⟩; have V2 : Hid (Below W.heap.size W wb) := hb; clear hb
  go_wp2_with fail
  refine hK.out _ _ ?_ (fun hHeld => ?_)
  · exact HC.out _ V2.out
  clear hK K
  (try simp only [Act.put, List.setIfInBounds_toArray, List.set_cons_zero, List.set_cons_succ])
  refine wpAnyH_ready (rs := [16]) (by kernel_rfl) (by simp) ?_
  refine AllReadyH.cons (by simp only [List.getElem?_toArray, List.getElem?_cons_succ, List.getElem?_cons_zero]; rfl) (fun K hK => ?_) AllReadyH.nil
  go_simp
  go_at_call 68; (with_reducible refine (G3.out _ ?_).mono ?_); exact V2.out; rintro e wc ⟨a3, c3, rfl, ho3, hb3, hb⟩; have V3 : Hid (Below W.heap.size W wc) := hb; have O3 : Hid (OwnT wc wb.heap.size (.slice a3 ne c3) el ∧ ∀ g, (Value.slice a3 ne c3).ownBlock = some g → g < wc.heap.size) := ⟨ho3, fun g hg => (World.ownsRow.lt ho3 g hg).2⟩; clear hb hb3 ho3
  go_wp2_with fail
  refine hK.out _ _ ?_ (fun hHeld => ?_)
  · exact HC.out _ V3.out
  clear hK K
  (try simp only [Act.put, List.setIfInBounds_toArray, List.set_cons_zero, List.set_cons_succ])
  refine wpAnyH_ready (rs := [20]) (by kernel_rfl) (by simp) ?_
  refine AllReadyH.cons (by simp only [List.getElem?_toArray, List.getElem?_cons_succ, List.getElem?_cons_zero]; rfl) (fun K hK => ?_) AllReadyH.nil
  go_simp
  go_at_call 68; (with_reducible refine (G4.out _ ?_).mono ?_); exact V3.out; rintro e wd ⟨a4, c4, rfl, ho4, hb4, hb⟩; have V4 : Hid (Below W.heap.size W wd) := hb; have O4 : Hid (OwnT wd wc.heap.size (.slice a4 np c4) pl ∧ Below wc.heap.size wc wd) := ⟨ho4, hb4⟩; clear hb hb4 ho4
  go_wp2_with fail
  refine hK.out _ _ ?_ (fun hHeld => ?_)
  · exact HC.out _ V4.out
  clear hK K
  (try simp only [Act.put, List.setIfInBounds_toArray, List.set_cons_zero, List.set_cons_succ])
  obtain ⟨⟨r0, r1, r2, r3, r4, r5, r6⟩, fr⟩ := seven_cells V4.out (show w.heap.size + 1 < W.heap.size by have := H0.out.2.1; omega) H0.out.2.2
  have f0 := fr 0
  have f1 := fr 1
  have f2 := fr 2
  have f3 := fr 3
  have f4 := fr 4
  have f5 := fr 5
  have f6 := fr 6
  clear fr
  refine wpAnyH_take (i := 21) (v := ?_) rfl (by kernel_rfl) (by kernel_rfl) (by kernel_rfl) (fun _ _ _ h => h) (Or.inl ⟨by kernel_rfl, ?_⟩) (by assumption) ?_
  rotate_left
  · (intro w' hSw; clear hSw; go_simp; (try with_reducible rfl))
  (try simp only [Act.put, List.setIfInBounds_toArray, List.set_cons_zero, List.set_cons_succ])
  refine wpAnyH_take (i := 22) (v := ?_) rfl (by kernel_rfl) (by kernel_rfl) (by kernel_rfl) (fun _ _ _ h => h) (Or.inl ⟨by kernel_rfl, ?_⟩) (by assumption) ?_
  rotate_left
  · (intro w' hSw; clear hSw; go_simp; (try with_reducible rfl))
  (try simp only [Act.put, List.setIfInBounds_toArray, List.set_cons_zero, List.set_cons_succ])
  refine wpAnyH_ready (rs := [23]) (by kernel_rfl) (by simp) ?_
  refine AllReadyH.cons (by simp only [List.getElem?_toArray, List.getElem?_cons_succ, List.getElem?_cons_zero]; rfl) (fun K hK => ?_) AllReadyH.nil
  go_simp
  refine hK.out _ _ ?_ (fun hHeld => ?_)
  · obtain ⟨u0, u1, u2, u3, u4, u5, u6⟩ := HC.out _ V4.out; go_keep
  clear hK K
  (try simp only [Act.put, List.setIfInBounds_toArray, List.set_cons_zero, List.set_cons_succ])
  refine wpAnyH_done (by kernel_rfl) ?_ _
  go_simp
  go_wp2
  refine bodyPost_ret (v := .agg #[.string log, .int .i64 size, .string root, .int .i64 time, .int .i64 k, .slice a3 ne c3, .slice a4 np c4]) (by simp [results, Tryz.results49, go_sem, r0, r1, r2, r3, r4, r5, r6, f0, f1, f2, f3, f4, f5, f6]) rfl ⟨_, _, wc.heap.size, rfl, ?_, ?_, ?_, ?_, ?_, ?_⟩
  · have z2 := V2.out.size
    have z0 := H0.out.2.1
    refine OwnT.lower (B := wb.heap.size) ?_ (by omega)
    iterate 7 (refine OwnT.far ?_ (by omega))
    exact O3.out.1.below O4.out.2 (Nat.le_refl _)
  · have z2 := V3.out.size
    have z0 := H0.out.2.1
    iterate 7 (refine OwnT.far ?_ (by omega))
    exact O4.out.1
  · exact fun g hg => O3.out.2 g hg
  · have z2 := V3.out.size
    have z0 := H0.out.2.1
    omega
  · simp only [size_put]
    exact O4.out.2.size
  · iterate 7 (refine Below.setCell ?_ (by simp <;> omega) _)
    exact H0.out.1.trans (V4.out.mono H0.out.1.size)
end Go.Proofs.YtcenlgfopmahcaaGreatDoor

/-
  The program's copy of a fraud.
-/
namespace Go.Proofs.YtcenlgfopmahcaaGreatDoor
open Go.RowKit Go.Lib
set_option linter.unusedVariables false
set_option linter.unusedSimpArgs false

/-- A fraud in memory that the call has made. -/
def FraudOwn (w : World) (x y : Hd) (l : List ByteArray) (e : Ending) (w' : World) : Prop :=
  ∃ (vex vpx vey vpy vl : Value) (n1 n2 n3 n4 : Nat), e = .returned (.agg #[.string x.log, .int .i64 x.size, .string x.root, .int .i64 x.time, .int .i64 x.k, vex, vpx, .string y.log, .int .i64 y.size, .string y.root, .int .i64 y.time, .int .i64 y.k, vey, vpy, vl]) ∧ Owns5 w' w.heap.size n1 n2 n3 n4 vex vpx vey vpy vl x.el x.pl y.el y.pl l ∧ Below w.heap.size w w'
/-- The texts of a head are of no more than the law looks at. -/
def Hd.Fits (x : Hd) : Prop := x.Lim ∧ (∀ j (hj : j < x.el.length), x.el[j].size ≤ 1048576) ∧ (∀ j (hj : j < x.pl.length), x.pl[j].size ≤ 1048576)

end Go.Proofs.YtcenlgfopmahcaaGreatDoor

/-
  A watch as a record; a watch in memory that a call has made.
-/
namespace Go.Proofs.YtcenlgfopmahcaaGreatDoor
open Go.RowKit Go.Lib
set_option linter.unusedVariables false
set_option linter.unusedSimpArgs false

/-- A watch: its log and key, what it read and its head, whether it found a fraud, and that one (its pool stands beside it). -/
structure Wt where
  log : ByteArray
  key : ByteArray
  en : List ByteArray
  h : Hd
  found : Bool
  a : Hd
  b : Hd
  fl : List ByteArray
/-- Its rows can be read. -/
def Wt.In (t : Wt) (v0 v1 v2 v3 v4 v5 v6 v7 : Value) (w : World) (B : Nat) : Prop := Texts w B v0 t.en ∧ t.h.In v1 v2 w B ∧ t.a.In v3 v4 w B ∧ t.b.In v5 v6 w B ∧ Texts w B v7 t.fl
theorem Wt.In.on {t : Wt} {v0 v1 v2 v3 v4 v5 v6 v7 : Value} {w w' : World} (h : t.In v0 v1 v2 v3 v4 v5 v6 v7 w w.heap.size) (hb : Below w.heap.size w w') : t.In v0 v1 v2 v3 v4 v5 v6 v7 w' w'.heap.size := ⟨h.1.on hb, h.2.1.on hb, h.2.2.1.on hb, h.2.2.2.1.on hb, h.2.2.2.2.on hb⟩
def FitL (l : List ByteArray) : Prop := l.length ≤ 1048576 ∧ ∀ j (hj : j < l.length), l[j].size ≤ 1048576
theorem FitL.nil : FitL [] := ⟨by simp, fun j hj => absurd hj (by simp)⟩
/-- It is of no more than the law looks at. -/
def Wt.Fits (t : Wt) : Prop := t.log.size ≤ 1048576 ∧ t.key.size ≤ 1048576 ∧ FitL t.en ∧ t.h.Fits ∧ t.a.Fits ∧ t.b.Fits ∧ FitL t.fl
/-- Its rows are of no more than the law looks at. -/
def Wt.Lens (t : Wt) : Prop := t.log.size ≤ 1048576 ∧ t.key.size ≤ 1048576 ∧ t.en.length ≤ 1048576 ∧ t.h.Lim ∧ t.a.Lim ∧ t.b.Lim ∧ t.fl.length ≤ 1048576
theorem Wt.Fits.lens {t : Wt} (h : t.Fits) : t.Lens := ⟨h.1, h.2.1, h.2.2.1.1, h.2.2.2.1.1, h.2.2.2.2.1.1, h.2.2.2.2.2.1.1, h.2.2.2.2.2.2.1⟩
/-- What holds of blocks from lo to below hi, and of nothing else. -/
def Local (Q : World → Nat → Nat → Value → Prop) : Prop := ∀ X X' lo hi v, Q X lo hi v → (∀ b, lo ≤ b → b < hi → X'.heap[b]? = X.heap[b]?) → Q X' lo hi v
/-- A watch in memory that the call has made: its rows one behind the other, its pool (of which Q is told) among them. -/
def Wt.Own (w : World) (t : Wt) (Q : World → Nat → Nat → Value → Prop) (e : Ending) (w' : World) : Prop :=
  ∃ (u0 u1 u2 up u3 u4 u5 u6 u7 : Value) (n1 n2 n3 n4 n5 n6 n7 n8 : Nat), e = .returned (.agg #[.string t.log, .string t.key, u0, .string t.h.log, .int .i64 t.h.size, .string t.h.root, .int .i64 t.h.time, .int .i64 t.h.k, u1, u2, up, .bool t.found, .string t.a.log, .int .i64 t.a.size, .string t.a.root, .int .i64 t.a.time, .int .i64 t.a.k, u3, u4, .string t.b.log, .int .i64 t.b.size, .string t.b.root, .int .i64 t.b.time, .int .i64 t.b.k, u5, u6, u7]) ∧
    (OwnT w' w.heap.size u0 t.en ∧ OwnT w' n1 u1 t.h.el ∧ OwnT w' n2 u2 t.h.pl ∧ Q w' n3 n4 up ∧ Owns5 w' n4 n5 n6 n7 n8 u3 u4 u5 u6 u7 t.a.el t.a.pl t.b.el t.b.pl t.fl) ∧
    ((∀ g, u0.ownBlock = some g → g < n1) ∧ (∀ g, u1.ownBlock = some g → g < n2) ∧ (∀ g, u2.ownBlock = some g → g < n3)) ∧ (w.heap.size ≤ n1 ∧ n1 ≤ n2 ∧ n2 ≤ n3 ∧ n3 ≤ n4) ∧ (∃ a n c, up = .slice a n c) ∧ Below w.heap.size w w'
/-- What is written ahead of it leaves it. -/
theorem Wt.Own.passed {w W0 w' w'' : World} {t : Wt} {Q : World → Nat → Nat → Value → Prop} {e : Ending} {b : Nat} (h : Wt.Own W0 t Q e w') (hQ : Local Q) (hb : Below w.heap.size w W0) (hg : w'.grownBy w'' (some b)) (h1 : w.heap.size ≤ b) (h2 : b < W0.heap.size) : Wt.Own w t Q e w'' := by
  obtain ⟨u0, u1, u2, up, u3, u4, u5, u6, u7, n1, n2, n3, n4, n5, n6, n7, n8, rfl, ⟨o0, o1, o2, q, ⟨y1, y2, y3, y4, y5⟩, y6, l1, l2, l3, l4, l5⟩, k, ⟨z1, z2, z3, z4⟩, hs, hbb⟩ := h
  have hin : Inside w' w'' b (b + 1) := ⟨hg.os, hg.tape, hg.output, hg.size, fun i hi ho => hg.block i hi (by simp; omega)⟩
  have aside : ∀ (B : Nat) (v : Value) (l : List ByteArray), OwnT w' B v l → W0.heap.size ≤ B → OwnT w'' B v l := fun B v l ho hB => ho.aside hin (fun g hg => .inr (by have := (World.ownsRow.lt ho g hg).1; omega))
  have hz := hb.size
  exact ⟨u0, u1, u2, up, u3, u4, u5, u6, u7, n1, n2, n3, n4, n5, n6, n7, n8, rfl, ⟨(aside _ _ _ o0 (Nat.le_refl _)).lower hz, aside _ _ _ o1 z1, aside _ _ _ o2 (by omega), hQ _ _ _ _ _ q (fun i i1 i2 => hg.block i (by omega) (by simp; omega)), ⟨aside _ _ _ y1 (by omega), aside _ _ _ y2 (by omega), aside _ _ _ y3 (by omega), aside _ _ _ y4 (by omega), aside _ _ _ y5 (by omega)⟩, y6, l1, l2, l3, l4, Nat.le_trans l5 hg.size⟩, k, ⟨by omega, z2, z3, z4⟩, hs, below_own (hb.trans (hbb.mono hz)) hg h1⟩
/-- The empty pool. -/
def NilQ (X : World) (lo hi : Nat) (v : Value) : Prop := v = .slice none 0 0
theorem NilQ.loc : Local NilQ := fun X X' lo hi v h _ => h
theorem setRow_grown (w : World) (g : Nat) (cs : Array Value) : w.grownBy (w.setRow g cs) (some g) :=
  ⟨rfl, rfl, rfl, by simp, fun k hk hne => setRow_other w g k cs (fun e => hne (by rw [e]))⟩
end Go.Proofs.YtcenlgfopmahcaaGreatDoor

/-
  Rows of heads: a slice of structs, seven cells each.
-/
namespace Go.Proofs.YtcenlgfopmahcaaGreatDoor
open Go.RowKit Go.Lib
set_option linter.unusedVariables false
set_option linter.unusedSimpArgs false
open Go.ChangeShapes Go.WideShapes

/-- A head and its rows as values. -/
structure Hv where
  x : Hd
  e : Value
  p : Value
/-- Its cells. -/
def Hv.cells (q : Hv) : List Value := [.string q.x.log, .int .i64 q.x.size, .string q.x.root, .int .i64 q.x.time, .int .i64 q.x.k, q.e, q.p]
/-- It lies in the block b from the cell o on. -/
def Hv.At (q : Hv) (w : World) (b o : Nat) : Prop := ∀ i v, q.cells[i]? = some v → w.cell? ⟨b, o + i, none⟩ = some v
/-- The slice v holds the heads l, in a row that lies ahead of B. -/
def Heads (w : World) (B : Nat) (v : Value) (l : List Hv) : Prop :=
  (∃ a cap, v = .slice a l.length cap ∧ l.length ≤ cap ∧ (l.length = 0 ∨ ∃ b off, a = some ⟨b, off, none⟩ ∧ b < B ∧ ∀ j (hj : j < l.length), l[j].At w b (off + j * 7))) ∧ ∀ j (hj : j < l.length), l[j].x.In l[j].e l[j].p w B
theorem Hv.At.same {q : Hv} {w w' : World} {b o : Nat} (h : q.At w b o) (hs : w'.heap[b]? = w.heap[b]?) : q.At w' b o := fun i v hv => by
  have := h i v hv
  simp only [World.cell?, hs] at this ⊢
  exact this
theorem Heads.below {w w' : World} {B : Nat} {v : Value} {l : List Hv} (h : Heads w B v l) (hb : Below B w w') : Heads w' B v l := by
  obtain ⟨⟨a, cap, hv, hc, h1⟩, h2⟩ := h
  refine ⟨⟨a, cap, hv, hc, ?_⟩, fun j hj => (h2 j hj).below hb⟩
  rcases h1 with h1 | ⟨b, off, ha, hB, h1⟩
  · exact .inl h1
  · exact .inr ⟨b, off, ha, hB, fun j hj => (h1 j hj).same (hb.block b hB)⟩
theorem Heads.up {w : World} {B B' : Nat} {v : Value} {l : List Hv} (h : Heads w B v l) (hB : B ≤ B') : Heads w B' v l := by
  obtain ⟨⟨a, cap, hv, hc, h1⟩, h2⟩ := h
  refine ⟨⟨a, cap, hv, hc, ?_⟩, fun j hj => (h2 j hj).up hB⟩
  rcases h1 with h1 | ⟨b, off, ha, hb, h1⟩
  · exact .inl h1
  · exact .inr ⟨b, off, ha, Nat.lt_of_lt_of_le hb hB, h1⟩
theorem Heads.on {w w' : World} {v : Value} {l : List Hv} (h : Heads w w.heap.size v l) (hb : Below w.heap.size w w') : Heads w' w'.heap.size v l := (h.below hb).up hb.size
/-- They are of no more than the law looks at. -/
def HdsLim (l : List Hv) : Prop := l.length ≤ 1048576 ∧ ∀ j (hj : j < l.length), l[j].x.Lim
/-- A row of heads that came in. -/
def HeadsArg (w : World) (v : Value) (l : List Hv) : Prop := Heads w w.heap.size v l ∧ l.length ≤ 9223372036854775807 ∧ ∀ j (hj : j < l.length), l[j].x.Arg l[j].e l[j].p w
theorem heads_nil (w : World) (B : Nat) : Heads w B (.slice none 0 0) [] := ⟨⟨none, 0, rfl, by simp, .inl rfl⟩, fun j hj => absurd hj (by simp)⟩
/-- Of a cell that a head is read from, the cells. -/
theorem Hv.At.seven {q : Hv} {w : World} {b o : Nat} (h : q.At w b o) : w.cell? ⟨b, o, none⟩ = some (.string q.x.log) ∧ w.cell? ⟨b, o + 1, none⟩ = some (.int .i64 q.x.size) ∧ w.cell? ⟨b, o + 2, none⟩ = some (.string q.x.root) ∧ w.cell? ⟨b, o + 3, none⟩ = some (.int .i64 q.x.time) ∧ w.cell? ⟨b, o + 4, none⟩ = some (.int .i64 q.x.k) ∧ w.cell? ⟨b, o + 5, none⟩ = some q.e ∧ w.cell? ⟨b, o + 6, none⟩ = some q.p :=
  ⟨h 0 _ rfl, h 1 _ rfl, h 2 _ rfl, h 3 _ rfl, h 4 _ rfl, h 5 _ rfl, h 6 _ rfl⟩
theorem heads_open {H : Type} {enc : TypeId × Value → H} {W : World} {n : Nat} {cs : List Value} {x : DataW H × List MemPlace} (h : DataW.trod enc Tryz.prog W 0 (fun _ => true) true n 27 cs = some x) : ∃ (v : Value) (l : List Hv), cs = [v] ∧ HeadsArg W v l := by
  rcases DataW.trod_slice Tryz.underlying27 h with ⟨hcs, _⟩ | ⟨a, len, cap, elems, rest, n, _, hcs, _, _, hl, hm, hlen, hel, _, _⟩
  · exact ⟨_, [], hcs, heads_nil W _, by simp, fun j hj => absurd hj (by simp)⟩
  have q7 : Tryz.prog.cellsOf 26 = 7 := by kernel_rfl
  have each : ∀ i : Fin len, ∃ q : Hv, (∀ k, k < 7 → W.cell? ((a.add (i.val * 7)).add k) = q.cells[k]?) ∧ q.x.Arg q.e q.p W := fun i => by
    have hi := hel i.val i.isLt
    rw [q7, List.getElem?_eq_getElem (by omega)] at hi
    obtain ⟨ds, h1, h2⟩ := Option.bind_eq_some_iff.1 hi
    obtain ⟨x, ve, vp, e, hx⟩ := hd_open h2
    obtain ⟨_, _, h3⟩ := World.cells?_some h1
    exact ⟨⟨x, ve, vp⟩, fun k hk => by rw [h3 k hk, e]; rfl, hx⟩
  obtain ⟨f, hf⟩ : ∃ f : Fin len → Hv, ∀ i, (∀ k, k < 7 → W.cell? ((a.add (i.val * 7)).add k) = (f i).cells[k]?) ∧ (f i).x.Arg (f i).e (f i).p W := ⟨fun i => (each i).choose, fun i => (each i).choose_spec⟩
  have hll : (List.ofFn f).length = len := List.length_ofFn
  unfold maxLen at hm
  refine ⟨_, List.ofFn f, hcs, ⟨⟨some a, cap, by rw [hll], by omega, ?_⟩, fun j hj => ?_⟩, by omega, fun j hj => ?_⟩
  · by_cases h0 : len = 0
    · exact .inl (by omega)
    obtain ⟨b, off, spot⟩ := a
    have hc := (hf ⟨0, by omega⟩).1 0 (by omega)
    have hc' : W.cell? (((⟨b, off, spot⟩ : Addr).add (0 * 7)).add 0) = some (.string (f ⟨0, by omega⟩).x.log) := hc
    have hspot : spot = none := by simpa [Addr.add] using World.cell?_spot hc'
    subst hspot
    have hadd : ∀ o i, (⟨b, o, none⟩ : Addr).add i = ⟨b, o + i, none⟩ := fun o i => by unfold Addr.add; split <;> simp_all
    rw [hadd, hadd] at hc'
    refine .inr ⟨b, off, rfl, World.block_lt_of_cell? W _ hc', fun j hj => ?_⟩
    intro i v hv
    have hk : i < 7 := by
      have := (List.getElem?_eq_some_iff.1 hv).1
      simpa [Hv.cells] using this
    have h1 := (hf ⟨j, by omega⟩).1 i hk
    rw [hadd, hadd] at h1
    rw [h1, ← hv, List.getElem_ofFn]
  · rw [List.getElem_ofFn]
    exact (hf _).2.1
  · rw [List.getElem_ofFn]
    exact (hf _).2
/-- A watch that came in. -/
def Wt.Arg (t : Wt) (l : List Hv) (v0 v1 v2 vp v3 v4 v5 v6 v7 : Value) (w : World) : Prop := t.log.size ≤ 9223372036854775807 ∧ t.key.size ≤ 9223372036854775807 ∧ TextsArg w v0 t.en ∧ t.h.Arg v1 v2 w ∧ HeadsArg w vp l ∧ t.a.Arg v3 v4 w ∧ t.b.Arg v5 v6 w ∧ TextsArg w v7 t.fl
theorem watch_open {H : Type} {enc : TypeId × Value → H} {W : World} {n : Nat} {cs : List Value} {x : DataW H × List MemPlace} (h : DataW.trod enc Tryz.prog W 0 (fun _ => true) true n 31 cs = some x) :
    ∃ (t : Wt) (l : List Hv) (v0 v1 v2 vp v3 v4 v5 v6 v7 : Value), cs = [.string t.log, .string t.key, v0, .string t.h.log, .int .i64 t.h.size, .string t.h.root, .int .i64 t.h.time, .int .i64 t.h.k, v1, v2, vp, .bool t.found, .string t.a.log, .int .i64 t.a.size, .string t.a.root, .int .i64 t.a.time, .int .i64 t.a.k, v3, v4, .string t.b.log, .int .i64 t.b.size, .string t.b.root, .int .i64 t.b.time, .int .i64 t.b.k, v5, v6, v7] ∧ t.Arg l v0 v1 v2 vp v3 v4 v5 v6 v7 W := by
  obtain ⟨xs, n, _, _, hl, hlen, hf⟩ := DataW.trod_struct Tryz.underlying31 h
  match xs, hlen with
  | [y0, y1, y2, y3, y4, y5, y6], _ =>
    have qs : Tryz.prog.cellsOf 9 = 1 := by kernel_rfl
    have ql : Tryz.prog.cellsOf 22 = 1 := by kernel_rfl
    have qh : Tryz.prog.cellsOf 26 = 7 := by kernel_rfl
    have qp : Tryz.prog.cellsOf 27 = 1 := by kernel_rfl
    have qb : Tryz.prog.cellsOf 4 = 1 := by kernel_rfl
    have qf : Tryz.prog.cellsOf 29 = 15 := by kernel_rfl
    have qw : Tryz.prog.cellsOf 31 = 27 := by kernel_rfl
    have t0 : DataW.trod enc Tryz.prog W 0 (fun _ => true) true n 9 ((cs.drop 0).take (Tryz.prog.cellsOf 9)) = some y0 := hf 0 _ rfl
    have t1 : DataW.trod enc Tryz.prog W 0 (fun _ => true) true n 9 ((cs.drop 1).take (Tryz.prog.cellsOf 9)) = some y1 := hf 1 _ rfl
    have t2 : DataW.trod enc Tryz.prog W 0 (fun _ => true) true n 22 ((cs.drop 2).take (Tryz.prog.cellsOf 22)) = some y2 := hf 2 _ rfl
    have t3 : DataW.trod enc Tryz.prog W 0 (fun _ => true) true n 26 ((cs.drop 3).take (Tryz.prog.cellsOf 26)) = some y3 := hf 3 _ rfl
    have t4 : DataW.trod enc Tryz.prog W 0 (fun _ => true) true n 27 ((cs.drop 10).take (Tryz.prog.cellsOf 27)) = some y4 := hf 4 _ rfl
    have t5 : DataW.trod enc Tryz.prog W 0 (fun _ => true) true n 4 ((cs.drop 11).take (Tryz.prog.cellsOf 4)) = some y5 := hf 5 _ rfl
    have t6 : DataW.trod enc Tryz.prog W 0 (fun _ => true) true n 29 ((cs.drop 12).take (Tryz.prog.cellsOf 29)) = some y6 := hf 6 _ rfl
    obtain ⟨log, e0, _, wl⟩ := DataW.trod_string Tryz.underlying9 t0
    obtain ⟨key, e1, _, wk⟩ := DataW.trod_string Tryz.underlying9 t1
    obtain ⟨v0, en, e2, a0⟩ := texts_open t2
    obtain ⟨hh, v1, v2, e3, a1⟩ := hd_open t3
    obtain ⟨vp, l, e4, a2⟩ := heads_open t4
    obtain ⟨fd, e5, _⟩ := DataW.trod_bool Tryz.underlying4 t5
    obtain ⟨xa, xb, v3, v4, v5, v6, v7, fl, e6, a3, a4, a5⟩ := fraud_open t6
    rw [qs] at e0 e1
    rw [ql] at e2
    rw [qh] at e3
    rw [qp] at e4
    rw [qb] at e5
    rw [qf] at e6
    rw [qw] at hl
    refine ⟨⟨log, key, en, hh, fd, xa, xb, fl⟩, l, v0, v1, v2, vp, v3, v4, v5, v6, v7, ?_, wl, wk, a0, a1, a2, a3, a4, a5⟩
    exact (seg (o := 0) e0).trans (congrArg ([_] ++ ·) ((seg e1).trans (congrArg ([_] ++ ·) ((seg e2).trans (congrArg ([_] ++ ·) ((seg e3).trans (congrArg ([_, _, _, _, _, _, _] ++ ·) ((seg e4).trans (congrArg ([_] ++ ·) ((seg e5).trans (congrArg ([_] ++ ·) ((seg e6).trans (congrArg ([_, _, _, _, _, _, _, _, _, _, _, _, _, _, _] ++ ·) (seg_end hl))))))))))))))
theorem watch_arg {H : Type} {enc : TypeId × Value → H} {W : World} {n : Nat} {cs : Array Value} {x : DataW H × List MemPlace} (h : DataW.trod enc Tryz.prog W 0 (fun _ => true) true n 31 (Value.agg cs).cells.toList = some x) :
    ∃ (t : Wt) (l : List Hv) (v0 v1 v2 vp v3 v4 v5 v6 v7 : Value), cs = #[.string t.log, .string t.key, v0, .string t.h.log, .int .i64 t.h.size, .string t.h.root, .int .i64 t.h.time, .int .i64 t.h.k, v1, v2, vp, .bool t.found, .string t.a.log, .int .i64 t.a.size, .string t.a.root, .int .i64 t.a.time, .int .i64 t.a.k, v3, v4, .string t.b.log, .int .i64 t.b.size, .string t.b.root, .int .i64 t.b.time, .int .i64 t.b.k, v5, v6, v7] ∧ t.Arg l v0 v1 v2 vp v3 v4 v5 v6 v7 W := by
  obtain ⟨t, l, v0, v1, v2, vp, v3, v4, v5, v6, v7, e, h⟩ := watch_open h
  exact ⟨t, l, v0, v1, v2, vp, v3, v4, v5, v6, v7, Array.toList_inj.1 e, h⟩
end Go.Proofs.YtcenlgfopmahcaaGreatDoor

/-
  Watches marked, and held to their marks; of their parts contracts are laid.
-/
namespace Go.Proofs.YtcenlgfopmahcaaGreatDoor
open Go.RowKit Go.Lib
set_option linter.unusedVariables false
set_option linter.unusedSimpArgs false

/-- What hangs on the blocks from lo to below hi alone. -/
def LocalP (A : World → Prop) (lo hi : Nat) : Prop := ∀ X X' : World, A X → X.heap.size ≤ X'.heap.size → (∀ b, lo ≤ b → b < hi → X'.heap[b]? = X.heap[b]?) → A X'
theorem LocalP.inside {A : World → Prop} {lo hi B C : Nat} (h : LocalP A lo hi) {X X' : World} (hA : A X) (hi' : Inside X X' B C) (hz : hi ≤ X.heap.size) (ho : hi ≤ B ∨ C ≤ lo) : A X' :=
  h X X' hA hi'.2.2.2.1 (fun b h1 h2 => hi'.2.2.2.2 b (by omega) (by omega))
theorem LocalP.below {A : World → Prop} {lo hi : Nat} (h : LocalP A lo hi) {X X' : World} (hA : A X) (hb : Below X.heap.size X X') (hz : hi ≤ X.heap.size) : A X' :=
  h X X' hA hb.size (fun b h1 h2 => hb.block b (by omega))
set_option maxHeartbeats 4000000 in
set_option maxRecDepth 10000 in
theorem markWatch_ab (t : Wt) (a0 a1 a2 ap a3 a4 a5 a6 a7 : Option Addr) (m0 m1 m2 mp m3 m4 m5 m6 m7 c0 c1 c2 cp c3 c4 c5 c6 c7 : Nat) (w : World) (A0 A1 A2 A3 B0 B1 B2 B3 : World → Prop) (n0 n1 n2 n3 n4 : Nat) (k0 k1 k2 k3 k4 : Int) (hn : n0 ≤ n1 ∧ n1 ≤ n2 ∧ n2 ≤ n3 ∧ n3 ≤ n4 ∧ n4 ≤ w.heap.size)
    (hA : A0 w ∧ A1 w ∧ A2 w ∧ A3 w) (lA : LocalP A0 n0 n1 ∧ LocalP A1 n1 n2 ∧ LocalP A2 n2 n3 ∧ LocalP A3 n3 n4) (lB : LocalP B0 n0 n1 ∧ LocalP B1 n1 n2 ∧ LocalP B2 n2 n3 ∧ LocalP B3 n3 n4)
    (M0 : ∀ X, A0 X → n4 ≤ X.heap.size → Calls Tryz.prog 30 #[.slice a0 m0 c0, .int .i64 k0] X fun e w' => e = .returned (.int .i64 k1) ∧ B0 w' ∧ Inside X w' n0 n1)
    (M1 : ∀ X, A1 X → n4 ≤ X.heap.size → Calls Tryz.prog 31 #[.agg #[.string t.h.log, .int .i64 t.h.size, .string t.h.root, .int .i64 t.h.time, .int .i64 t.h.k, .slice a1 m1 c1, .slice a2 m2 c2], .int .i64 k1] X fun e w' => e = .returned (.int .i64 k2) ∧ B1 w' ∧ Inside X w' n1 n2)
    (M2 : ∀ X, A2 X → n4 ≤ X.heap.size → Calls Tryz.prog 11 #[.slice ap mp cp, .int .i64 k2] X fun e w' => e = .returned (.int .i64 k3) ∧ B2 w' ∧ Inside X w' n2 n3)
    (M3 : ∀ X, A3 X → n4 ≤ X.heap.size → Calls Tryz.prog 32 #[.agg #[.string t.a.log, .int .i64 t.a.size, .string t.a.root, .int .i64 t.a.time, .int .i64 t.a.k, .slice a3 m3 c3, .slice a4 m4 c4, .string t.b.log, .int .i64 t.b.size, .string t.b.root, .int .i64 t.b.time, .int .i64 t.b.k, .slice a5 m5 c5, .slice a6 m6 c6, .slice a7 m7 c7], .int .i64 k3] X fun e w' => e = .returned (.int .i64 k4) ∧ B3 w' ∧ Inside X w' n3 n4) :
    Calls Tryz.prog 10 #[.agg #[.string t.log, .string t.key, .slice a0 m0 c0, .string t.h.log, .int .i64 t.h.size, .string t.h.root, .int .i64 t.h.time, .int .i64 t.h.k, .slice a1 m1 c1, .slice a2 m2 c2, .slice ap mp cp, .bool t.found, .string t.a.log, .int .i64 t.a.size, .string t.a.root, .int .i64 t.a.time, .int .i64 t.a.k, .slice a3 m3 c3, .slice a4 m4 c4, .string t.b.log, .int .i64 t.b.size, .string t.b.root, .int .i64 t.b.time, .int .i64 t.b.k, .slice a5 m5 c5, .slice a6 m6 c6, .slice a7 m7 c7], .int .i64 k0] w fun e w' => e = .returned (.int .i64 k4) ∧ (B0 w' ∧ B1 w' ∧ B2 w' ∧ B3 w') ∧ Inside w w' n0 n4 := by
  obtain ⟨W, hW⟩ : ∃ W, W = w.alloc (.cells #[.string t.log, .string t.key, .slice a0 m0 c0, .string t.h.log, .int .i64 t.h.size, .string t.h.root, .int .i64 t.h.time, .int .i64 t.h.k, .slice a1 m1 c1, .slice a2 m2 c2, .slice ap mp cp, .bool t.found, .string t.a.log, .int .i64 t.a.size, .string t.a.root, .int .i64 t.a.time, .int .i64 t.a.k, .slice a3 m3 c3, .slice a4 m4 c4, .string t.b.log, .int .i64 t.b.size, .string t.b.root, .int .i64 t.b.time, .int .i64 t.b.k, .slice a5 m5 c5, .slice a6 m6 c6, .slice a7 m7 c7] 41) := ⟨_, rfl⟩
  have hbW : Below w.heap.size w W := by rw [hW]; exact (Below.refl _ _).alloc (Nat.le_refl _) _
  have hgW : W.heap[w.heap.size]? = some (.cells #[.string t.log, .string t.key, .slice a0 m0 c0, .string t.h.log, .int .i64 t.h.size, .string t.h.root, .int .i64 t.h.time, .int .i64 t.h.k, .slice a1 m1 c1, .slice a2 m2 c2, .slice ap mp cp, .bool t.found, .string t.a.log, .int .i64 t.a.size, .string t.a.root, .int .i64 t.a.time, .int .i64 t.a.k, .slice a3 m3 c3, .slice a4 m4 c4, .string t.b.log, .int .i64 t.b.size, .string t.b.root, .int .i64 t.b.time, .int .i64 t.b.k, .slice a5 m5 c5, .slice a6 m6 c6, .slice a7 m7 c7] 41 (0, 0)) := by rw [hW]; exact heap_alloc_new w _
  have HW : Hid (W = w.alloc (.cells #[.string t.log, .string t.key, .slice a0 m0 c0, .string t.h.log, .int .i64 t.h.size, .string t.h.root, .int .i64 t.h.time, .int .i64 t.h.k, .slice a1 m1 c1, .slice a2 m2 c2, .slice ap mp cp, .bool t.found, .string t.a.log, .int .i64 t.a.size, .string t.a.root, .int .i64 t.a.time, .int .i64 t.a.k, .slice a3 m3 c3, .slice a4 m4 c4, .string t.b.log, .int .i64 t.b.size, .string t.b.root, .int .i64 t.b.time, .int .i64 t.b.k, .slice a5 m5 c5, .slice a6 m6 c6, .slice a7 m7 c7] 41)) := hW
  have HR : Hid (∀ X, Inside W X n0 n4 → X.heap[w.heap.size]? = some (.cells #[.string t.log, .string t.key, .slice a0 m0 c0, .string t.h.log, .int .i64 t.h.size, .string t.h.root, .int .i64 t.h.time, .int .i64 t.h.k, .slice a1 m1 c1, .slice a2 m2 c2, .slice ap mp cp, .bool t.found, .string t.a.log, .int .i64 t.a.size, .string t.a.root, .int .i64 t.a.time, .int .i64 t.a.k, .slice a3 m3 c3, .slice a4 m4 c4, .string t.b.log, .int .i64 t.b.size, .string t.b.root, .int .i64 t.b.time, .int .i64 t.b.k, .slice a5 m5 c5, .slice a6 m6 c6, .slice a7 m7 c7] 41 (0, 0))) := fun X hb => (hb.2.2.2.2 _ (Array.getElem?_eq_some_iff.1 hgW).1 (.inr hn.2.2.2.2)).trans hgW
  have hs := hbW.size
  have I0 : Hid (Inside W W n0 n4 ∧ A0 W ∧ A1 W ∧ A2 W ∧ A3 W) := ⟨Inside.refl _ _ _, lA.1.below hA.1 hbW (by omega), lA.2.1.below hA.2.1 hbW (by omega), lA.2.2.1.below hA.2.2.1 hbW (by omega), lA.2.2.2.below hA.2.2.2 hbW (by omega)⟩
  have H0 : Hid (Below w.heap.size w W ∧ n4 ≤ W.heap.size ∧ n0 ≤ n1 ∧ n1 ≤ n2 ∧ n2 ≤ n3 ∧ n3 ≤ n4) := ⟨hbW, by omega, hn.1, hn.2.1, hn.2.2.1, hn.2.2.2.1⟩
  have LA : Hid _ := lA
  have LB : Hid _ := lB
  have G0 : Hid _ := M0
  have G1 : Hid _ := M1
  have G2 : Hid _ := M2
  have G3 : Hid _ := M3
  have r1 := HR.out _ I0.out.1
  have x2 : W.cell? ⟨w.heap.size, 2, none⟩ = some (.slice a0 m0 c0) := row_here r1 2 _ rfl
  clear r1 hW hbW hgW hs hn hA lA lB M0 M1 M2 M3
  go_enter Tryz.func10, Tryz.ntmps10
  go_wp2_with fail
  rw [← HW.out]
  clear HW
  refine (G0.out _ I0.out.2.1 H0.out.2.1).mono ?_
  rintro e w1 ⟨rfl, hB, hin⟩
  have I1 : Hid (Inside W w1 n0 n4 ∧ B0 w1 ∧ A1 w1 ∧ A2 w1 ∧ A3 w1) := by
    obtain ⟨_, z, _⟩ := H0.out
    have o := H0.out.2.2
    exact ⟨hin.wide (Nat.le_refl _) (by omega), hB, LA.out.2.1.inside I0.out.2.2.1 hin (by omega) (.inr (by omega)), LA.out.2.2.1.inside I0.out.2.2.2.1 hin (by omega) (.inr (by omega)), LA.out.2.2.2.inside I0.out.2.2.2.2 hin (by omega) (.inr (by omega))⟩
  clear x2
  have r1 := HR.out _ I1.out.1
  have x3 : w1.cell? ⟨w.heap.size, 3, none⟩ = some (.string t.h.log) := row_here r1 3 _ rfl
  have x4 : w1.cell? ⟨w.heap.size, 4, none⟩ = some (.int .i64 t.h.size) := row_here r1 4 _ rfl
  have x5 : w1.cell? ⟨w.heap.size, 5, none⟩ = some (.string t.h.root) := row_here r1 5 _ rfl
  have x6 : w1.cell? ⟨w.heap.size, 6, none⟩ = some (.int .i64 t.h.time) := row_here r1 6 _ rfl
  have x7 : w1.cell? ⟨w.heap.size, 7, none⟩ = some (.int .i64 t.h.k) := row_here r1 7 _ rfl
  have x8 : w1.cell? ⟨w.heap.size, 8, none⟩ = some (.slice a1 m1 c1) := row_here r1 8 _ rfl
  have x9 : w1.cell? ⟨w.heap.size, 9, none⟩ = some (.slice a2 m2 c2) := row_here r1 9 _ rfl
  clear r1 hB hin
  go_wp2_with fail
  refine (G1.out _ I1.out.2.2.1 (Nat.le_trans H0.out.2.1 I1.out.1.2.2.2.1)).mono ?_
  rintro e w2 ⟨rfl, hB, hin⟩
  have I2 : Hid (Inside W w2 n0 n4 ∧ B0 w2 ∧ B1 w2 ∧ A2 w2 ∧ A3 w2) := by
    have z := H0.out.2.1
    have o := H0.out.2.2
    have y := I1.out.1.2.2.2.1
    exact ⟨I1.out.1.trans (hin.wide (by omega) (by omega)), LB.out.1.inside I1.out.2.1 hin (by omega) (.inl (by omega)), hB, LA.out.2.2.1.inside I1.out.2.2.2.1 hin (by omega) (.inr (by omega)), LA.out.2.2.2.inside I1.out.2.2.2.2 hin (by omega) (.inr (by omega))⟩
  clear x3 x4 x5 x6 x7 x8 x9
  have r1 := HR.out _ I2.out.1
  have x10 : w2.cell? ⟨w.heap.size, 10, none⟩ = some (.slice ap mp cp) := row_here r1 10 _ rfl
  clear r1 hB hin
  go_wp2_with fail
  refine (G2.out _ I2.out.2.2.2.1 (Nat.le_trans H0.out.2.1 I2.out.1.2.2.2.1)).mono ?_
  rintro e w3 ⟨rfl, hB, hin⟩
  have I3 : Hid (Inside W w3 n0 n4 ∧ B0 w3 ∧ B1 w3 ∧ B2 w3 ∧ A3 w3) := by
    have z := H0.out.2.1
    have o := H0.out.2.2
    have y := I2.out.1.2.2.2.1
    exact ⟨I2.out.1.trans (hin.wide (by omega) (by omega)), LB.out.1.inside I2.out.2.1 hin (by omega) (.inl (by omega)), LB.out.2.1.inside I2.out.2.2.1 hin (by omega) (.inl (by omega)), hB, LA.out.2.2.2.inside I2.out.2.2.2.2 hin (by omega) (.inr (by omega))⟩
  clear x10
  have r1 := HR.out _ I3.out.1
  have x12 : w3.cell? ⟨w.heap.size, 12, none⟩ = some (.string t.a.log) := row_here r1 12 _ rfl
  have x13 : w3.cell? ⟨w.heap.size, 13, none⟩ = some (.int .i64 t.a.size) := row_here r1 13 _ rfl
  have x14 : w3.cell? ⟨w.heap.size, 14, none⟩ = some (.string t.a.root) := row_here r1 14 _ rfl
  have x15 : w3.cell? ⟨w.heap.size, 15, none⟩ = some (.int .i64 t.a.time) := row_here r1 15 _ rfl
  have x16 : w3.cell? ⟨w.heap.size, 16, none⟩ = some (.int .i64 t.a.k) := row_here r1 16 _ rfl
  have x17 : w3.cell? ⟨w.heap.size, 17, none⟩ = some (.slice a3 m3 c3) := row_here r1 17 _ rfl
  have x18 : w3.cell? ⟨w.heap.size, 18, none⟩ = some (.slice a4 m4 c4) := row_here r1 18 _ rfl
  have x19 : w3.cell? ⟨w.heap.size, 19, none⟩ = some (.string t.b.log) := row_here r1 19 _ rfl
  have x20 : w3.cell? ⟨w.heap.size, 20, none⟩ = some (.int .i64 t.b.size) := row_here r1 20 _ rfl
  have x21 : w3.cell? ⟨w.heap.size, 21, none⟩ = some (.string t.b.root) := row_here r1 21 _ rfl
  have x22 : w3.cell? ⟨w.heap.size, 22, none⟩ = some (.int .i64 t.b.time) := row_here r1 22 _ rfl
  have x23 : w3.cell? ⟨w.heap.size, 23, none⟩ = some (.int .i64 t.b.k) := row_here r1 23 _ rfl
  have x24 : w3.cell? ⟨w.heap.size, 24, none⟩ = some (.slice a5 m5 c5) := row_here r1 24 _ rfl
  have x25 : w3.cell? ⟨w.heap.size, 25, none⟩ = some (.slice a6 m6 c6) := row_here r1 25 _ rfl
  have x26 : w3.cell? ⟨w.heap.size, 26, none⟩ = some (.slice a7 m7 c7) := row_here r1 26 _ rfl
  clear r1 hB hin
  go_wp2_with fail
  refine (G3.out _ I3.out.2.2.2.2 (Nat.le_trans H0.out.2.1 I3.out.1.2.2.2.1)).mono ?_
  rintro e w4 ⟨rfl, hB, hin⟩
  have I4 : Hid ((B0 w4 ∧ B1 w4 ∧ B2 w4 ∧ B3 w4) ∧ Inside w w4 n0 n4) := by
    have z := H0.out.2.1
    have o := H0.out.2.2
    have y := I3.out.1.2.2.2.1
    exact ⟨⟨LB.out.1.inside I3.out.2.1 hin (by omega) (.inl (by omega)), LB.out.2.1.inside I3.out.2.2.1 hin (by omega) (.inl (by omega)), LB.out.2.2.1.inside I3.out.2.2.2.1 hin (by omega) (.inl (by omega)), hB⟩, Inside.on H0.out.1 (I3.out.1.trans (hin.wide (by omega) (by omega)))⟩
  clear x12 x13 x14 x15 x16 x17 x18 x19 x20 x21 x22 x23 x24 x25 x26
  clear hB hin
  go_wp2
  go_ret
  exact ⟨rfl, I4.out⟩

end Go.Proofs.YtcenlgfopmahcaaGreatDoor

/-
  Watches held against each other; of their parts contracts are laid.
-/
namespace Go.Proofs.YtcenlgfopmahcaaGreatDoor
open Go.RowKit Go.Lib
set_option linter.unusedVariables false
set_option linter.unusedSimpArgs false

set_option maxHeartbeats 4000000 in
set_option maxRecDepth 10000 in
theorem eqWatch_ab (t : Wt) (a0 a1 a2 ap a3 a4 a5 a6 a7 : Option Addr) (m0 m1 m2 mp m3 m4 m5 m6 m7 c0 c1 c2 cp c3 c4 c5 c6 c7 : Nat) (b0 b1 b2 bp b3 b4 b5 b6 b7 : Option Addr) (l0 l1 l2 lp l3 l4 l5 l6 l7 d0 d1 d2 dp d3 d4 d5 d6 d7 : Nat) (w : World)
    (E1 : ∀ X, Below w.heap.size w X → Calls Tryz.prog 28 #[.slice a0 m0 c0, .slice b0 l0 d0] X fun e w' => e = .returned (.bool true) ∧ Below X.heap.size X w')
    (E2 : ∀ X, Below w.heap.size w X → Calls Tryz.prog 27 #[.agg #[.string t.h.log, .int .i64 t.h.size, .string t.h.root, .int .i64 t.h.time, .int .i64 t.h.k, .slice a1 m1 c1, .slice a2 m2 c2], .agg #[.string t.h.log, .int .i64 t.h.size, .string t.h.root, .int .i64 t.h.time, .int .i64 t.h.k, .slice b1 l1 d1, .slice b2 l2 d2]] X fun e w' => e = .returned (.bool true) ∧ Below X.heap.size X w')
    (E3 : ∀ X, Below w.heap.size w X → Calls Tryz.prog 8 #[.slice ap mp cp, .slice bp lp dp] X fun e w' => e = .returned (.bool true) ∧ Below X.heap.size X w')
    (E4 : ∀ X, Below w.heap.size w X → Calls Tryz.prog 29 #[.agg #[.string t.a.log, .int .i64 t.a.size, .string t.a.root, .int .i64 t.a.time, .int .i64 t.a.k, .slice a3 m3 c3, .slice a4 m4 c4, .string t.b.log, .int .i64 t.b.size, .string t.b.root, .int .i64 t.b.time, .int .i64 t.b.k, .slice a5 m5 c5, .slice a6 m6 c6, .slice a7 m7 c7], .agg #[.string t.a.log, .int .i64 t.a.size, .string t.a.root, .int .i64 t.a.time, .int .i64 t.a.k, .slice b3 l3 d3, .slice b4 l4 d4, .string t.b.log, .int .i64 t.b.size, .string t.b.root, .int .i64 t.b.time, .int .i64 t.b.k, .slice b5 l5 d5, .slice b6 l6 d6, .slice b7 l7 d7]] X fun e w' => e = .returned (.bool true) ∧ Below X.heap.size X w') :
    Calls Tryz.prog 9 #[.agg #[.string t.log, .string t.key, .slice a0 m0 c0, .string t.h.log, .int .i64 t.h.size, .string t.h.root, .int .i64 t.h.time, .int .i64 t.h.k, .slice a1 m1 c1, .slice a2 m2 c2, .slice ap mp cp, .bool t.found, .string t.a.log, .int .i64 t.a.size, .string t.a.root, .int .i64 t.a.time, .int .i64 t.a.k, .slice a3 m3 c3, .slice a4 m4 c4, .string t.b.log, .int .i64 t.b.size, .string t.b.root, .int .i64 t.b.time, .int .i64 t.b.k, .slice a5 m5 c5, .slice a6 m6 c6, .slice a7 m7 c7], .agg #[.string t.log, .string t.key, .slice b0 l0 d0, .string t.h.log, .int .i64 t.h.size, .string t.h.root, .int .i64 t.h.time, .int .i64 t.h.k, .slice b1 l1 d1, .slice b2 l2 d2, .slice bp lp dp, .bool t.found, .string t.a.log, .int .i64 t.a.size, .string t.a.root, .int .i64 t.a.time, .int .i64 t.a.k, .slice b3 l3 d3, .slice b4 l4 d4, .string t.b.log, .int .i64 t.b.size, .string t.b.root, .int .i64 t.b.time, .int .i64 t.b.k, .slice b5 l5 d5, .slice b6 l6 d6, .slice b7 l7 d7]] w fun e w' => e = .returned (.bool true) ∧ Below w.heap.size w w' := by
  obtain ⟨W, hW⟩ : ∃ W, W = (w.alloc (.cells #[.string t.log, .string t.key, .slice a0 m0 c0, .string t.h.log, .int .i64 t.h.size, .string t.h.root, .int .i64 t.h.time, .int .i64 t.h.k, .slice a1 m1 c1, .slice a2 m2 c2, .slice ap mp cp, .bool t.found, .string t.a.log, .int .i64 t.a.size, .string t.a.root, .int .i64 t.a.time, .int .i64 t.a.k, .slice a3 m3 c3, .slice a4 m4 c4, .string t.b.log, .int .i64 t.b.size, .string t.b.root, .int .i64 t.b.time, .int .i64 t.b.k, .slice a5 m5 c5, .slice a6 m6 c6, .slice a7 m7 c7] 41)).alloc (.cells #[.string t.log, .string t.key, .slice b0 l0 d0, .string t.h.log, .int .i64 t.h.size, .string t.h.root, .int .i64 t.h.time, .int .i64 t.h.k, .slice b1 l1 d1, .slice b2 l2 d2, .slice bp lp dp, .bool t.found, .string t.a.log, .int .i64 t.a.size, .string t.a.root, .int .i64 t.a.time, .int .i64 t.a.k, .slice b3 l3 d3, .slice b4 l4 d4, .string t.b.log, .int .i64 t.b.size, .string t.b.root, .int .i64 t.b.time, .int .i64 t.b.k, .slice b5 l5 d5, .slice b6 l6 d6, .slice b7 l7 d7] 41) := ⟨_, rfl⟩
  have hbW : Below w.heap.size w W := by rw [hW]; exact ((Below.refl _ _).alloc (Nat.le_refl _) _).alloc (by simp) _
  have hgW : W.heap[w.heap.size]? = some (.cells #[.string t.log, .string t.key, .slice a0 m0 c0, .string t.h.log, .int .i64 t.h.size, .string t.h.root, .int .i64 t.h.time, .int .i64 t.h.k, .slice a1 m1 c1, .slice a2 m2 c2, .slice ap mp cp, .bool t.found, .string t.a.log, .int .i64 t.a.size, .string t.a.root, .int .i64 t.a.time, .int .i64 t.a.k, .slice a3 m3 c3, .slice a4 m4 c4, .string t.b.log, .int .i64 t.b.size, .string t.b.root, .int .i64 t.b.time, .int .i64 t.b.k, .slice a5 m5 c5, .slice a6 m6 c6, .slice a7 m7 c7] 41 (0, 0)) := by rw [hW]; exact heap_alloc2_old w _ _
  have hoW : W.heap[w.heap.size + 1]? = some (.cells #[.string t.log, .string t.key, .slice b0 l0 d0, .string t.h.log, .int .i64 t.h.size, .string t.h.root, .int .i64 t.h.time, .int .i64 t.h.k, .slice b1 l1 d1, .slice b2 l2 d2, .slice bp lp dp, .bool t.found, .string t.a.log, .int .i64 t.a.size, .string t.a.root, .int .i64 t.a.time, .int .i64 t.a.k, .slice b3 l3 d3, .slice b4 l4 d4, .string t.b.log, .int .i64 t.b.size, .string t.b.root, .int .i64 t.b.time, .int .i64 t.b.k, .slice b5 l5 d5, .slice b6 l6 d6, .slice b7 l7 d7] 41 (0, 0)) := by rw [hW]; exact heap_alloc2_new w _ _
  have HW : Hid (W = (w.alloc (.cells #[.string t.log, .string t.key, .slice a0 m0 c0, .string t.h.log, .int .i64 t.h.size, .string t.h.root, .int .i64 t.h.time, .int .i64 t.h.k, .slice a1 m1 c1, .slice a2 m2 c2, .slice ap mp cp, .bool t.found, .string t.a.log, .int .i64 t.a.size, .string t.a.root, .int .i64 t.a.time, .int .i64 t.a.k, .slice a3 m3 c3, .slice a4 m4 c4, .string t.b.log, .int .i64 t.b.size, .string t.b.root, .int .i64 t.b.time, .int .i64 t.b.k, .slice a5 m5 c5, .slice a6 m6 c6, .slice a7 m7 c7] 41)).alloc (.cells #[.string t.log, .string t.key, .slice b0 l0 d0, .string t.h.log, .int .i64 t.h.size, .string t.h.root, .int .i64 t.h.time, .int .i64 t.h.k, .slice b1 l1 d1, .slice b2 l2 d2, .slice bp lp dp, .bool t.found, .string t.a.log, .int .i64 t.a.size, .string t.a.root, .int .i64 t.a.time, .int .i64 t.a.k, .slice b3 l3 d3, .slice b4 l4 d4, .string t.b.log, .int .i64 t.b.size, .string t.b.root, .int .i64 t.b.time, .int .i64 t.b.k, .slice b5 l5 d5, .slice b6 l6 d6, .slice b7 l7 d7] 41)) := hW
  have HR : Hid (∀ X, Below W.heap.size W X → X.heap[w.heap.size]? = some (.cells #[.string t.log, .string t.key, .slice a0 m0 c0, .string t.h.log, .int .i64 t.h.size, .string t.h.root, .int .i64 t.h.time, .int .i64 t.h.k, .slice a1 m1 c1, .slice a2 m2 c2, .slice ap mp cp, .bool t.found, .string t.a.log, .int .i64 t.a.size, .string t.a.root, .int .i64 t.a.time, .int .i64 t.a.k, .slice a3 m3 c3, .slice a4 m4 c4, .string t.b.log, .int .i64 t.b.size, .string t.b.root, .int .i64 t.b.time, .int .i64 t.b.k, .slice a5 m5 c5, .slice a6 m6 c6, .slice a7 m7 c7] 41 (0, 0)) ∧ X.heap[w.heap.size + 1]? = some (.cells #[.string t.log, .string t.key, .slice b0 l0 d0, .string t.h.log, .int .i64 t.h.size, .string t.h.root, .int .i64 t.h.time, .int .i64 t.h.k, .slice b1 l1 d1, .slice b2 l2 d2, .slice bp lp dp, .bool t.found, .string t.a.log, .int .i64 t.a.size, .string t.a.root, .int .i64 t.a.time, .int .i64 t.a.k, .slice b3 l3 d3, .slice b4 l4 d4, .string t.b.log, .int .i64 t.b.size, .string t.b.root, .int .i64 t.b.time, .int .i64 t.b.k, .slice b5 l5 d5, .slice b6 l6 d6, .slice b7 l7 d7] 41 (0, 0))) := fun X hb => ⟨(hb.block _ (Array.getElem?_eq_some_iff.1 hgW).1).trans hgW, (hb.block _ (Array.getElem?_eq_some_iff.1 hoW).1).trans hoW⟩
  have H0 : Hid (Below w.heap.size w W) := hbW
  have G1 : Hid _ := E1
  have G2 : Hid _ := E2
  have G3 : Hid _ := E3
  have G4 : Hid _ := E4
  have B0 : Hid (Below W.heap.size W W) := Below.refl _ _
  have q1 : (t.log.toList == t.log.toList) = true := by simp
  have q2 : (t.key.toList == t.key.toList) = true := by simp
  have q3 : (t.found == t.found) = true := by simp
  obtain ⟨r1, r2⟩ := HR.out _ B0.out
  have x0 : W.cell? ⟨w.heap.size, 0, none⟩ = some (.string t.log) := row_here r1 0 _ rfl
  have x1 : W.cell? ⟨w.heap.size, 1, none⟩ = some (.string t.key) := row_here r1 1 _ rfl
  have x2 : W.cell? ⟨w.heap.size, 2, none⟩ = some (.slice a0 m0 c0) := row_here r1 2 _ rfl
  have y0 : W.cell? ⟨w.heap.size + 1, 0, none⟩ = some (.string t.log) := row_here r2 0 _ rfl
  have y1 : W.cell? ⟨w.heap.size + 1, 1, none⟩ = some (.string t.key) := row_here r2 1 _ rfl
  have y2 : W.cell? ⟨w.heap.size + 1, 2, none⟩ = some (.slice b0 l0 d0) := row_here r2 2 _ rfl
  clear r1 r2 hW hbW hgW hoW E1 E2 E3 E4
  go_enter Tryz.func9, Tryz.ntmps9
  go_wp2_with fail
  rw [← HW.out]
  clear HW
  refine (G1.out _ (H0.out.trans (B0.out.mono H0.out.size))).mono ?_
  rintro e w1 ⟨rfl, hb⟩
  have B1 : Hid (Below W.heap.size W w1) := B0.out.trans (hb.mono B0.out.size)
  clear x0 y0 x1 y1 x2 y2
  obtain ⟨r1, r2⟩ := HR.out _ B1.out
  have x3 : w1.cell? ⟨w.heap.size, 3, none⟩ = some (.string t.h.log) := row_here r1 3 _ rfl
  have x4 : w1.cell? ⟨w.heap.size, 4, none⟩ = some (.int .i64 t.h.size) := row_here r1 4 _ rfl
  have x5 : w1.cell? ⟨w.heap.size, 5, none⟩ = some (.string t.h.root) := row_here r1 5 _ rfl
  have x6 : w1.cell? ⟨w.heap.size, 6, none⟩ = some (.int .i64 t.h.time) := row_here r1 6 _ rfl
  have x7 : w1.cell? ⟨w.heap.size, 7, none⟩ = some (.int .i64 t.h.k) := row_here r1 7 _ rfl
  have x8 : w1.cell? ⟨w.heap.size, 8, none⟩ = some (.slice a1 m1 c1) := row_here r1 8 _ rfl
  have x9 : w1.cell? ⟨w.heap.size, 9, none⟩ = some (.slice a2 m2 c2) := row_here r1 9 _ rfl
  have y3 : w1.cell? ⟨w.heap.size + 1, 3, none⟩ = some (.string t.h.log) := row_here r2 3 _ rfl
  have y4 : w1.cell? ⟨w.heap.size + 1, 4, none⟩ = some (.int .i64 t.h.size) := row_here r2 4 _ rfl
  have y5 : w1.cell? ⟨w.heap.size + 1, 5, none⟩ = some (.string t.h.root) := row_here r2 5 _ rfl
  have y6 : w1.cell? ⟨w.heap.size + 1, 6, none⟩ = some (.int .i64 t.h.time) := row_here r2 6 _ rfl
  have y7 : w1.cell? ⟨w.heap.size + 1, 7, none⟩ = some (.int .i64 t.h.k) := row_here r2 7 _ rfl
  have y8 : w1.cell? ⟨w.heap.size + 1, 8, none⟩ = some (.slice b1 l1 d1) := row_here r2 8 _ rfl
  have y9 : w1.cell? ⟨w.heap.size + 1, 9, none⟩ = some (.slice b2 l2 d2) := row_here r2 9 _ rfl
  clear hb r1 r2
  go_wp2_with fail
  refine (G2.out _ (H0.out.trans (B1.out.mono H0.out.size))).mono ?_
  rintro e w2 ⟨rfl, hb⟩
  have B2 : Hid (Below W.heap.size W w2) := B1.out.trans (hb.mono B1.out.size)
  clear x3 y3 x4 y4 x5 y5 x6 y6 x7 y7 x8 y8 x9 y9
  obtain ⟨r1, r2⟩ := HR.out _ B2.out
  have x10 : w2.cell? ⟨w.heap.size, 10, none⟩ = some (.slice ap mp cp) := row_here r1 10 _ rfl
  have y10 : w2.cell? ⟨w.heap.size + 1, 10, none⟩ = some (.slice bp lp dp) := row_here r2 10 _ rfl
  clear hb r1 r2
  go_wp2_with fail
  refine (G3.out _ (H0.out.trans (B2.out.mono H0.out.size))).mono ?_
  rintro e w3 ⟨rfl, hb⟩
  have B3 : Hid (Below W.heap.size W w3) := B2.out.trans (hb.mono B2.out.size)
  clear x10 y10
  obtain ⟨r1, r2⟩ := HR.out _ B3.out
  have x11 : w3.cell? ⟨w.heap.size, 11, none⟩ = some (.bool t.found) := row_here r1 11 _ rfl
  have x12 : w3.cell? ⟨w.heap.size, 12, none⟩ = some (.string t.a.log) := row_here r1 12 _ rfl
  have x13 : w3.cell? ⟨w.heap.size, 13, none⟩ = some (.int .i64 t.a.size) := row_here r1 13 _ rfl
  have x14 : w3.cell? ⟨w.heap.size, 14, none⟩ = some (.string t.a.root) := row_here r1 14 _ rfl
  have x15 : w3.cell? ⟨w.heap.size, 15, none⟩ = some (.int .i64 t.a.time) := row_here r1 15 _ rfl
  have x16 : w3.cell? ⟨w.heap.size, 16, none⟩ = some (.int .i64 t.a.k) := row_here r1 16 _ rfl
  have x17 : w3.cell? ⟨w.heap.size, 17, none⟩ = some (.slice a3 m3 c3) := row_here r1 17 _ rfl
  have x18 : w3.cell? ⟨w.heap.size, 18, none⟩ = some (.slice a4 m4 c4) := row_here r1 18 _ rfl
  have x19 : w3.cell? ⟨w.heap.size, 19, none⟩ = some (.string t.b.log) := row_here r1 19 _ rfl
  have x20 : w3.cell? ⟨w.heap.size, 20, none⟩ = some (.int .i64 t.b.size) := row_here r1 20 _ rfl
  have x21 : w3.cell? ⟨w.heap.size, 21, none⟩ = some (.string t.b.root) := row_here r1 21 _ rfl
  have x22 : w3.cell? ⟨w.heap.size, 22, none⟩ = some (.int .i64 t.b.time) := row_here r1 22 _ rfl
  have x23 : w3.cell? ⟨w.heap.size, 23, none⟩ = some (.int .i64 t.b.k) := row_here r1 23 _ rfl
  have x24 : w3.cell? ⟨w.heap.size, 24, none⟩ = some (.slice a5 m5 c5) := row_here r1 24 _ rfl
  have x25 : w3.cell? ⟨w.heap.size, 25, none⟩ = some (.slice a6 m6 c6) := row_here r1 25 _ rfl
  have x26 : w3.cell? ⟨w.heap.size, 26, none⟩ = some (.slice a7 m7 c7) := row_here r1 26 _ rfl
  have y11 : w3.cell? ⟨w.heap.size + 1, 11, none⟩ = some (.bool t.found) := row_here r2 11 _ rfl
  have y12 : w3.cell? ⟨w.heap.size + 1, 12, none⟩ = some (.string t.a.log) := row_here r2 12 _ rfl
  have y13 : w3.cell? ⟨w.heap.size + 1, 13, none⟩ = some (.int .i64 t.a.size) := row_here r2 13 _ rfl
  have y14 : w3.cell? ⟨w.heap.size + 1, 14, none⟩ = some (.string t.a.root) := row_here r2 14 _ rfl
  have y15 : w3.cell? ⟨w.heap.size + 1, 15, none⟩ = some (.int .i64 t.a.time) := row_here r2 15 _ rfl
  have y16 : w3.cell? ⟨w.heap.size + 1, 16, none⟩ = some (.int .i64 t.a.k) := row_here r2 16 _ rfl
  have y17 : w3.cell? ⟨w.heap.size + 1, 17, none⟩ = some (.slice b3 l3 d3) := row_here r2 17 _ rfl
  have y18 : w3.cell? ⟨w.heap.size + 1, 18, none⟩ = some (.slice b4 l4 d4) := row_here r2 18 _ rfl
  have y19 : w3.cell? ⟨w.heap.size + 1, 19, none⟩ = some (.string t.b.log) := row_here r2 19 _ rfl
  have y20 : w3.cell? ⟨w.heap.size + 1, 20, none⟩ = some (.int .i64 t.b.size) := row_here r2 20 _ rfl
  have y21 : w3.cell? ⟨w.heap.size + 1, 21, none⟩ = some (.string t.b.root) := row_here r2 21 _ rfl
  have y22 : w3.cell? ⟨w.heap.size + 1, 22, none⟩ = some (.int .i64 t.b.time) := row_here r2 22 _ rfl
  have y23 : w3.cell? ⟨w.heap.size + 1, 23, none⟩ = some (.int .i64 t.b.k) := row_here r2 23 _ rfl
  have y24 : w3.cell? ⟨w.heap.size + 1, 24, none⟩ = some (.slice b5 l5 d5) := row_here r2 24 _ rfl
  have y25 : w3.cell? ⟨w.heap.size + 1, 25, none⟩ = some (.slice b6 l6 d6) := row_here r2 25 _ rfl
  have y26 : w3.cell? ⟨w.heap.size + 1, 26, none⟩ = some (.slice b7 l7 d7) := row_here r2 26 _ rfl
  clear hb r1 r2
  go_wp2_with fail
  refine (G4.out _ (H0.out.trans (B3.out.mono H0.out.size))).mono ?_
  rintro e w4 ⟨rfl, hb⟩
  have B4 : Hid (Below w.heap.size w w4) := H0.out.trans ((B3.out.trans (hb.mono B3.out.size)).mono H0.out.size)
  clear x11 y11 x12 y12 x13 y13 x14 y14 x15 y15 x16 y16 x17 y17 x18 y18 x19 y19 x20 y20 x21 y21 x22 y22 x23 y23 x24 y24 x25 y25 x26 y26
  clear hb
  go_wp2
  go_ret
  exact ⟨rfl, B4.out⟩

end Go.Proofs.YtcenlgfopmahcaaGreatDoor

/-
  Whole watches held against each other; of the pool a contract is laid.
-/
namespace Go.Proofs.YtcenlgfopmahcaaGreatDoor
open Go.RowKit Go.Lib
set_option linter.unusedVariables false
set_option linter.unusedSimpArgs false

set_option maxHeartbeats 4000000 in
set_option maxRecDepth 10000 in
theorem eqW_any (t : Wt) (a0 a1 a2 a3 a4 a5 a6 a7 : Option Addr) (c0 c1 c2 c3 c4 c5 c6 c7 : Nat) (b0 b1 b2 b3 b4 b5 b6 b7 : Option Addr) (d0 d1 d2 d3 d4 d5 d6 d7 : Nat) (ap bp : Option Addr) (mp cp lp dp : Nat) (w : World) (h1 : t.In (.slice a0 t.en.length c0) (.slice a1 t.h.el.length c1) (.slice a2 t.h.pl.length c2) (.slice a3 t.a.el.length c3) (.slice a4 t.a.pl.length c4) (.slice a5 t.b.el.length c5) (.slice a6 t.b.pl.length c6) (.slice a7 t.fl.length c7) w w.heap.size) (h2 : t.In (.slice b0 t.en.length d0) (.slice b1 t.h.el.length d1) (.slice b2 t.h.pl.length d2) (.slice b3 t.a.el.length d3) (.slice b4 t.a.pl.length d4) (.slice b5 t.b.el.length d5) (.slice b6 t.b.pl.length d6) (.slice b7 t.fl.length d7) w w.heap.size) (hf : t.Lens)
    (EP : ∀ X, Below w.heap.size w X → Calls Tryz.prog 8 #[.slice ap mp cp, .slice bp lp dp] X fun e w' => e = .returned (.bool true) ∧ Below X.heap.size X w') :
    Calls Tryz.prog 9 #[.agg #[.string t.log, .string t.key, .slice a0 t.en.length c0, .string t.h.log, .int .i64 t.h.size, .string t.h.root, .int .i64 t.h.time, .int .i64 t.h.k, .slice a1 t.h.el.length c1, .slice a2 t.h.pl.length c2, .slice ap mp cp, .bool t.found, .string t.a.log, .int .i64 t.a.size, .string t.a.root, .int .i64 t.a.time, .int .i64 t.a.k, .slice a3 t.a.el.length c3, .slice a4 t.a.pl.length c4, .string t.b.log, .int .i64 t.b.size, .string t.b.root, .int .i64 t.b.time, .int .i64 t.b.k, .slice a5 t.b.el.length c5, .slice a6 t.b.pl.length c6, .slice a7 t.fl.length c7], .agg #[.string t.log, .string t.key, .slice b0 t.en.length d0, .string t.h.log, .int .i64 t.h.size, .string t.h.root, .int .i64 t.h.time, .int .i64 t.h.k, .slice b1 t.h.el.length d1, .slice b2 t.h.pl.length d2, .slice bp lp dp, .bool t.found, .string t.a.log, .int .i64 t.a.size, .string t.a.root, .int .i64 t.a.time, .int .i64 t.a.k, .slice b3 t.a.el.length d3, .slice b4 t.a.pl.length d4, .string t.b.log, .int .i64 t.b.size, .string t.b.root, .int .i64 t.b.time, .int .i64 t.b.k, .slice b5 t.b.el.length d5, .slice b6 t.b.pl.length d6, .slice b7 t.fl.length d7]] w fun e w' => e = .returned (.bool true) ∧ Below w.heap.size w w' := by
  have f := hf
  obtain ⟨f1, f2, f3, f4, f5, f6, f7⟩ := f
  refine eqWatch_ab t _ _ _ _ _ _ _ _ _ _ _ _ _ _ _ _ _ _ _ _ _ _ _ _ _ _ _ _ _ _ _ _ _ _ _ _ _ _ _ _ _ _ _ _ _ _ _ _ _ _ _ _ _ _ w ?_ ?_ EP ?_
  · intro X hb
    exact eqTexts_any _ _ t.en X X.heap.size (h1.1.on hb) (h2.1.on hb) (by omega)
  · intro X hb
    exact eqHead_any _ _ _ _ _ _ _ _ _ t.h.el t.h.pl X (h1.2.1.on hb).1 (h1.2.1.on hb).2 (h2.2.1.on hb).1 (h2.2.1.on hb).2 (by have := f4.2.2.1; omega) (by have := f4.2.2.2; omega)
  · intro X hb
    exact eqFraud_any t.a t.b t.fl _ _ _ _ _ _ _ _ _ _ _ _ _ _ _ _ _ _ _ _ X (h1.2.2.1.on hb) (h1.2.2.2.1.on hb) (h1.2.2.2.2.on hb) (h2.2.2.1.on hb) (h2.2.2.2.1.on hb) (h2.2.2.2.2.on hb) f5 f6 (by omega)
end Go.Proofs.YtcenlgfopmahcaaGreatDoor

/-
  Rows of heads held against each other.
-/
namespace Go.Proofs.YtcenlgfopmahcaaGreatDoor
open Go.RowKit Go.Lib
set_option linter.unusedVariables false
set_option linter.unusedSimpArgs false

set_option maxHeartbeats 4000000 in
set_option maxRecDepth 10000 in
theorem eqHeads_any (v1 v2 : Value) (l1 l2 : List Hv) (w : World) (h1 : Heads w w.heap.size v1 l1) (h2 : Heads w w.heap.size v2 l2) (hx : l1.map Hv.x = l2.map Hv.x) (hl : l1.length ≤ 1048576) (hlx : ∀ j (hj : j < l1.length), l1[j].x.Lim) :
    Calls Tryz.prog 8 #[v1, v2] w fun e w' => e = .returned (.bool true) ∧ Below w.heap.size w w' := by
  obtain ⟨⟨p1, cap1, rfl, _, hc1⟩, hin1⟩ := h1
  obtain ⟨⟨p2, cap2, rfl, _, hc2⟩, hin2⟩ := h2
  have hlen : l1.length = l2.length := by have := congrArg List.length hx; simpa using this
  have HX : Hid (∀ j (hj : j < l1.length) (hj2 : j < l2.length), l1[j].x = l2[j].x) := fun j hj hj2 => by
    have h1 : (l1.map Hv.x)[j]? = (l2.map Hv.x)[j]? := by rw [hx]
    simpa [hj, hj2] using h1
  have HC1 : Hid (l1.length = 0 ∨ ∃ b off, p1 = some ⟨b, off, none⟩ ∧ b < w.heap.size ∧ ∀ j (hj : j < l1.length), l1[j].At w b (off + j * 7)) := hc1
  have HC2 : Hid (l2.length = 0 ∨ ∃ b off, p2 = some ⟨b, off, none⟩ ∧ b < w.heap.size ∧ ∀ j (hj : j < l2.length), l2[j].At w b (off + j * 7)) := hc2
  have HI1 : Hid (∀ j (hj : j < l1.length), l1[j].x.In l1[j].e l1[j].p w w.heap.size) := hin1
  have HI2 : Hid (∀ j (hj : j < l2.length), l2[j].x.In l2[j].e l2[j].p w w.heap.size) := hin2
  have HLX : Hid (∀ j (hj : j < l1.length), l1[j].x.Lim) := hlx
  obtain ⟨n, hn⟩ : ∃ n, n = l1.length := ⟨_, rfl⟩
  have hn2 : n = l2.length := hn.trans hlen
  have HN : Hid (n = l1.length ∧ n = l2.length) := ⟨hn, hn2⟩
  rw [← hn] at hl
  rw [← hn, ← hn2]
  clear hn hn2 hlen hx hc1 hc2 hin1 hin2 hlx
  go_enter Tryz.func8, Tryz.ntmps8
  go_wp2
  go_loopw [5] (fun i wr => ∃ k : Nat, k ≤ n ∧ i = .int .i64 k ∧ Below w.heap.size w wr) (fun i _ => n - (RowKit.intOf i).toNat)
  case atStart => exact ⟨0, Nat.zero_le _, rfl, Below.refl _ _⟩
  case round =>
    obtain ⟨k, hk, rfl, hb⟩ := hrel
    have HB : Hid (Below w.heap.size w wr) := hb
    by_cases hkn : k < n
    · have hk1 : k < l1.length := by rw [← HN.out.1]; exact hkn
      have hk2 : k < l2.length := by rw [← HN.out.2]; exact hkn
      rcases HC1.out with h0 | ⟨g1, f1, rfl, hB1, hat1⟩
      · omega
      rcases HC2.out with h0 | ⟨g2, f2, rfl, hB2, hat2⟩
      · omega
      have q1 := ((hat1 k hk1).same (hb.block g1 hB1))
      have q2 := ((hat2 k hk2).same (hb.block g2 hB2))
      have hgl1 := Nat.lt_of_lt_of_le hB1 hb.size
      have hgl2 := Nat.lt_of_lt_of_le hB2 hb.size
      have i1 := (HI1.out k hk1).on hb
      have i2 := (HI2.out k hk2).on hb
      have hxe := HX.out k hk1 hk2
      have hlim := HLX.out k hk1
      clear HC1 HC2 HI1 HI2 HLX HX HN hat1 hat2
      generalize l1[k] = r1 at *
      generalize l2[k] = r2 at *
      obtain ⟨x, e1, p1'⟩ := r1
      obtain ⟨x', e2, p2'⟩ := r2
      dsimp only at i1 i2 hxe hlim
      subst hxe
      obtain ⟨a1, c1, b1, d1, rfl, rfl⟩ := i1.parts
      obtain ⟨a2, c2, b2, d2, rfl, rfl⟩ := i2.parts
      have E0 : Hid (∀ X, Below wr.heap.size wr X → Calls Tryz.prog 27 #[.agg #[.string x.log, .int .i64 x.size, .string x.root, .int .i64 x.time, .int .i64 x.k, .slice a1 x.el.length c1, .slice b1 x.pl.length d1], .agg #[.string x.log, .int .i64 x.size, .string x.root, .int .i64 x.time, .int .i64 x.k, .slice a2 x.el.length c2, .slice b2 x.pl.length d2]] X fun e w' => e = .returned (.bool true) ∧ Below wr.heap.size wr w') := fun X q => (eqHead_any x.log x.root x.size x.time x.k _ _ _ _ x.el x.pl X (i1.on q).1 (i1.on q).2 (i2.on q).1 (i2.on q).2 (Nat.le_succ_of_le hlim.2.2.1) (Nat.le_succ_of_le hlim.2.2.2)).mono fun e w' h => ⟨h.1, q.trans (h.2.mono q.size)⟩
      have HC : Hid (∀ X, Below wr.heap.size wr X → X.cell? ⟨g1, f1 + k * 7, none⟩ = some (.string x.log) ∧ X.cell? ⟨g1, f1 + k * 7 + 1, none⟩ = some (.int .i64 x.size) ∧ X.cell? ⟨g1, f1 + k * 7 + 2, none⟩ = some (.string x.root) ∧ X.cell? ⟨g1, f1 + k * 7 + 3, none⟩ = some (.int .i64 x.time) ∧ X.cell? ⟨g1, f1 + k * 7 + 4, none⟩ = some (.int .i64 x.k) ∧ X.cell? ⟨g1, f1 + k * 7 + 5, none⟩ = some (.slice a1 x.el.length c1) ∧ X.cell? ⟨g1, f1 + k * 7 + 6, none⟩ = some (.slice b1 x.pl.length d1) ∧ X.cell? ⟨g2, f2 + k * 7, none⟩ = some (.string x.log) ∧ X.cell? ⟨g2, f2 + k * 7 + 1, none⟩ = some (.int .i64 x.size) ∧ X.cell? ⟨g2, f2 + k * 7 + 2, none⟩ = some (.string x.root) ∧ X.cell? ⟨g2, f2 + k * 7 + 3, none⟩ = some (.int .i64 x.time) ∧ X.cell? ⟨g2, f2 + k * 7 + 4, none⟩ = some (.int .i64 x.k) ∧ X.cell? ⟨g2, f2 + k * 7 + 5, none⟩ = some (.slice a2 x.el.length c2) ∧ X.cell? ⟨g2, f2 + k * 7 + 6, none⟩ = some (.slice b2 x.pl.length d2)) := fun X q => by
        have s1 := (q1.same (q.block g1 hgl1)).seven
        have s2 := (q2.same (q.block g2 hgl2)).seven
        exact ⟨s1.1, s1.2.1, s1.2.2.1, s1.2.2.2.1, s1.2.2.2.2.1, s1.2.2.2.2.2.1, s1.2.2.2.2.2.2, s2.1, s2.2.1, s2.2.2.1, s2.2.2.2.1, s2.2.2.2.2.1, s2.2.2.2.2.2.1, s2.2.2.2.2.2.2⟩
      have hknI : (k : Int) < (n : Int) := by omega
      have hk0 : (0 : Int) ≤ (k : Int) := by omega
      clear hb q1 q2 i1 i2 hlim hB1 hB2 hgl1 hgl2
      generalize x.el.length = m at *
      generalize x.pl.length = m' at *
      go_wp2_with fail
      refine wp_region_held_drew (S := (fun X => X.cell? ⟨g1, f1 + k * 7, none⟩ = some (.string x.log) ∧ X.cell? ⟨g1, f1 + k * 7 + 1, none⟩ = some (.int .i64 x.size) ∧ X.cell? ⟨g1, f1 + k * 7 + 2, none⟩ = some (.string x.root) ∧ X.cell? ⟨g1, f1 + k * 7 + 3, none⟩ = some (.int .i64 x.time) ∧ X.cell? ⟨g1, f1 + k * 7 + 4, none⟩ = some (.int .i64 x.k) ∧ X.cell? ⟨g1, f1 + k * 7 + 5, none⟩ = some (.slice a1 m c1) ∧ X.cell? ⟨g1, f1 + k * 7 + 6, none⟩ = some (.slice b1 m' d1) ∧ X.cell? ⟨g2, f2 + k * 7, none⟩ = some (.string x.log) ∧ X.cell? ⟨g2, f2 + k * 7 + 1, none⟩ = some (.int .i64 x.size) ∧ X.cell? ⟨g2, f2 + k * 7 + 2, none⟩ = some (.string x.root) ∧ X.cell? ⟨g2, f2 + k * 7 + 3, none⟩ = some (.int .i64 x.time) ∧ X.cell? ⟨g2, f2 + k * 7 + 4, none⟩ = some (.int .i64 x.k) ∧ X.cell? ⟨g2, f2 + k * 7 + 5, none⟩ = some (.slice a2 m c2) ∧ X.cell? ⟨g2, f2 + k * 7 + 6, none⟩ = some (.slice b2 m' d2))) (by kernel_rfl) ?_ (fun hHeld => ?_)
      · exact HC.out _ (below_drew' (Below.refl _ _))
      refine wpAnyH_take (i := 0) (v := ?_) rfl (by kernel_rfl) (by kernel_rfl) (by kernel_rfl) (fun _ _ _ h => h) (Or.inl ⟨by kernel_rfl, ?_⟩) (by assumption) ?_
      rotate_left
      · (intro w' hSw; clear hSw; go_simp; (try with_reducible rfl))
      (try simp only [Act.put, List.setIfInBounds_toArray, List.set_cons_zero, List.set_cons_succ])
      refine wpAnyH_take (i := 1) (v := ?_) rfl (by kernel_rfl) (by kernel_rfl) (by kernel_rfl) (fun _ _ _ h => h) (Or.inl ⟨by kernel_rfl, ?_⟩) (by assumption) ?_
      rotate_left
      · (intro w' hSw; clear hSw; go_simp; (try with_reducible rfl))
      (try simp only [Act.put, List.setIfInBounds_toArray, List.set_cons_zero, List.set_cons_succ])
      refine wpAnyH_take (i := 2) (v := ?_) rfl (by kernel_rfl) (by kernel_rfl) (by kernel_rfl) (fun _ _ _ h => h) (Or.inl ⟨by kernel_rfl, ?_⟩) (by assumption) ?_
      rotate_left
      · (intro w' hSw; clear hSw; go_simp; (try with_reducible rfl))
      (try simp only [Act.put, List.setIfInBounds_toArray, List.set_cons_zero, List.set_cons_succ])
      refine wpAnyH_take (i := 3) (v := ?_) rfl (by kernel_rfl) (by kernel_rfl) (by kernel_rfl) (fun _ _ _ h => h) (Or.inl ⟨by kernel_rfl, ?_⟩) (by assumption) ?_
      rotate_left
      · (intro w' hSw; (try dsimp only at hSw); obtain ⟨g0, g1, g2, g3, g4, g5, g6, g7, g8, g9, g10, g11, g12, g13⟩ := hSw; go_simp; (try with_reducible rfl))
      (try simp only [Act.put, List.setIfInBounds_toArray, List.set_cons_zero, List.set_cons_succ])
      refine wpAnyH_take (i := 4) (v := ?_) rfl (by kernel_rfl) (by kernel_rfl) (by kernel_rfl) (fun _ _ _ h => h) (Or.inl ⟨by kernel_rfl, ?_⟩) (by assumption) ?_
      rotate_left
      · (intro w' hSw; clear hSw; go_simp; (try with_reducible rfl))
      (try simp only [Act.put, List.setIfInBounds_toArray, List.set_cons_zero, List.set_cons_succ])
      refine wpAnyH_take (i := 5) (v := ?_) rfl (by kernel_rfl) (by kernel_rfl) (by kernel_rfl) (fun _ _ _ h => h) (Or.inl ⟨by kernel_rfl, ?_⟩) (by assumption) ?_
      rotate_left
      · (intro w' hSw; clear hSw; go_simp; (try with_reducible rfl))
      (try simp only [Act.put, List.setIfInBounds_toArray, List.set_cons_zero, List.set_cons_succ])
      refine wpAnyH_take (i := 6) (v := ?_) rfl (by kernel_rfl) (by kernel_rfl) (by kernel_rfl) (fun _ _ _ h => h) (Or.inl ⟨by kernel_rfl, ?_⟩) (by assumption) ?_
      rotate_left
      · (intro w' hSw; clear hSw; go_simp; (try with_reducible rfl))
      (try simp only [Act.put, List.setIfInBounds_toArray, List.set_cons_zero, List.set_cons_succ])
      refine wpAnyH_take (i := 7) (v := ?_) rfl (by kernel_rfl) (by kernel_rfl) (by kernel_rfl) (fun _ _ _ h => h) (Or.inl ⟨by kernel_rfl, ?_⟩) (by assumption) ?_
      rotate_left
      · (intro w' hSw; (try dsimp only at hSw); obtain ⟨g0, g1, g2, g3, g4, g5, g6, g7, g8, g9, g10, g11, g12, g13⟩ := hSw; go_simp; (try with_reducible rfl))
      (try simp only [Act.put, List.setIfInBounds_toArray, List.set_cons_zero, List.set_cons_succ])
      refine wpAnyH_ready (rs := [8]) (by kernel_rfl) (by simp) ?_
      refine AllReadyH.cons (by simp only [List.getElem?_toArray, List.getElem?_cons_succ, List.getElem?_cons_zero]; rfl) (fun K hK => ?_) AllReadyH.nil
      go_simp
      go_at_call 27; (with_reducible refine (E0.out _ ?_).mono ?_); exact below_drew' (Below.refl _ _); rintro e w1 ⟨rfl, hb⟩; have V1 : Hid (Below wr.heap.size wr w1) := hb; clear hb
      go_wp2_with fail
      refine hK.out _ _ ?_ (fun hHeld => ?_)
      · exact HC.out _ V1.out
      clear hK K
      (try simp only [Act.put, List.setIfInBounds_toArray, List.set_cons_zero, List.set_cons_succ])
      refine wpAnyH_take (i := 9) (v := ?_) rfl (by kernel_rfl) (by kernel_rfl) (by kernel_rfl) (fun _ _ _ h => h) (Or.inl ⟨by kernel_rfl, ?_⟩) (by assumption) ?_
      rotate_left
      · (intro w' hSw; clear hSw; go_simp; (try with_reducible rfl))
      (try simp only [Act.put, List.setIfInBounds_toArray, List.set_cons_zero, List.set_cons_succ])
      refine wpAnyH_done (by kernel_rfl) ?_ _
      go_simp
      clear HC hHeld
      go_wp2
      go_roundw
      case rel => exact ⟨k + 1, by omega, by go_num, HB.out.trans (V1.out.mono HB.out.size)⟩
      case measure => simp [RowKit.intOf]; omega
    · clear HC1 HC2 HI1 HI2 HLX HX HN hb
      go_wp2
      go_ret
      exact ⟨rfl, HB.out⟩
end Go.Proofs.YtcenlgfopmahcaaGreatDoor
