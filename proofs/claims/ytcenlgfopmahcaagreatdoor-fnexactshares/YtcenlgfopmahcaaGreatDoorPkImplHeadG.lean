/-
  HeadGood, the program's.
-/
import Derived.Test.YtcenlgfopmahcaaGreatDoorPkPutText
import Derived.Test.YtcenlgfopmahcaaGreatDoorPkImplHeadT
import Derived.Test.YtcenlgfopmahcaaGreatDoorPkImplVerify
import Derived.Deep.RegionWith
import Derived.Deep.RegionHeld3
namespace Go.Proofs.YtcenlgfopmahcaaGreatDoor
open Go.RowKit Go.Lib
set_option linter.unusedVariables false
set_option linter.unusedSimpArgs false

set_option maxHeartbeats 4000000 in
set_option maxRecDepth 10000 in
theorem implHeadGood_any (r log root : ByteArray) (size time k : Int) (ve vp : Value) (el pl : List ByteArray) (w : World) (h1 : Texts w w.heap.size ve el) (h2 : Texts w w.heap.size vp pl) (hl1 : el.length ≤ 1048576) (hl2 : pl.length ≤ 1048576) (hlog : log.size ≤ 1048576) (hroot : root.size ≤ 1048576) (hr : r.size ≤ 1048576) (hs : -9223372036854775808 ≤ size ∧ size ≤ 9223372036854775807) (ht : -9223372036854775808 ≤ time ∧ time ≤ 9223372036854775807) (hK : Keys w) :
    Calls Tryz.prog 79 #[.string r, .agg #[.string log, .int .i64 size, .string root, .int .i64 time, .int .i64 k, ve, vp]] w fun e w' => e = .returned (.bool (headGB r log size root time k el pl)) ∧ Below w.heap.size w w' := by
  obtain ⟨a1, c1, rfl, _⟩ := id h1
  obtain ⟨a2, c2, rfl, _⟩ := id h2
  obtain ⟨W, hW⟩ : ∃ W, W = w.alloc (.cells #[.string log, .int .i64 size, .string root, .int .i64 time, .int .i64 k, .slice a1 el.length c1, .slice a2 pl.length c2] 37) := ⟨_, rfl⟩
  have hbW : Below w.heap.size w W := by rw [hW]; exact (Below.refl _ _).alloc (Nat.le_refl _) _
  have H0 : Hid (Below w.heap.size w W ∧ W.heap[w.heap.size]? = some (.cells #[.string log, .int .i64 size, .string root, .int .i64 time, .int .i64 k, .slice a1 el.length c1, .slice a2 pl.length c2] 37 (0, 0)) ∧ w.heap.size < W.heap.size) := by
    refine ⟨hbW, ?_, ?_⟩
    · rw [hW]; exact heap_alloc_new w _
    · rw [hW]; simp
  have HW : Hid (W = w.alloc (.cells #[.string log, .int .i64 size, .string root, .int .i64 time, .int .i64 k, .slice a1 el.length c1, .slice a2 pl.length c2] 37)) := hW
  have HT : Hid (∀ W', Below W.heap.size W W' → Texts W' W'.heap.size (.slice a1 el.length c1) el ∧ Texts W' W'.heap.size (.slice a2 pl.length c2) pl) := fun W' hb => by
    have hb2 := hbW.trans (hb.mono hbW.size)
    exact ⟨(h1.below hb2).up hb2.size, (h2.below hb2).up hb2.size⟩
  have HC : Hid (∀ W', Below W.heap.size W W' → (W'.cell? ⟨w.heap.size, 0, none⟩ = some (.string log) ∧ W'.cell? ⟨w.heap.size, 1, none⟩ = some (.int .i64 size) ∧ W'.cell? ⟨w.heap.size, 2, none⟩ = some (.string root) ∧ W'.cell? ⟨w.heap.size, 3, none⟩ = some (.int .i64 time) ∧ W'.cell? ⟨w.heap.size, 4, none⟩ = some (.int .i64 k) ∧ W'.cell? ⟨w.heap.size, 5, none⟩ = some (.slice a1 el.length c1) ∧ W'.cell? ⟨w.heap.size, 6, none⟩ = some (.slice a2 pl.length c2)) ∧ (W'.drew.cell? ⟨w.heap.size, 0, none⟩ = some (.string log) ∧ W'.drew.cell? ⟨w.heap.size, 1, none⟩ = some (.int .i64 size) ∧ W'.drew.cell? ⟨w.heap.size, 2, none⟩ = some (.string root) ∧ W'.drew.cell? ⟨w.heap.size, 3, none⟩ = some (.int .i64 time) ∧ W'.drew.cell? ⟨w.heap.size, 4, none⟩ = some (.int .i64 k) ∧ W'.drew.cell? ⟨w.heap.size, 5, none⟩ = some (.slice a1 el.length c1) ∧ W'.drew.cell? ⟨w.heap.size, 6, none⟩ = some (.slice a2 pl.length c2))) := fun W' hb => by
    obtain ⟨c, _⟩ := seven_cells hb H0.out.2.2 H0.out.2.1
    exact ⟨c, c⟩
  have hhs := headT_size log size root time
  have G0 : Hid (∀ W', Below W.heap.size W W' → Calls Tryz.prog 96 #[.agg #[.string log, .int .i64 size, .string root, .int .i64 time, .int .i64 k, .slice a1 el.length c1, .slice a2 pl.length c2]] W' fun e w'' => e = .returned (.bool (headRB log size root time k el pl)) ∧ Below W.heap.size W w'') := fun W' hb => (implHeadRight_any log root size time k _ _ el pl W' (HT.out W' hb).1 (HT.out W' hb).2 hl1 hl2 hlog hroot).mono fun e w'' h => ⟨h.1, hb.trans (h.2.mono hb.size)⟩
  have G1 : Hid (headRB log size root time k el pl = true → ∀ W', Below W.heap.size W W' → Calls Tryz.prog 98 #[.agg #[.string log, .int .i64 size, .string root, .int .i64 time, .int .i64 k, .slice a1 el.length c1, .slice a2 pl.length c2]] W' fun e w'' => e = .returned (.string (headT log size root time)) ∧ Below W.heap.size W w'') := fun hb1 W' hb => (implHeadText_any log root size time k _ _ el pl W' (HT.out W' hb).1 (HT.out W' hb).2 hl1 hl2 hlog hroot hs ht).mono fun e w'' h => ⟨h.1.trans (ret_str (by unfold headTB; rw [if_pos hb1])), hb.trans (h.2.mono hb.size)⟩
  have G2 : Hid (∀ W', Below W.heap.size W W' → Calls Tryz.prog 97 #[.string r, .string (headT log size root time), .agg #[.int .i64 k, .slice a1 el.length c1, .slice a2 pl.length c2]] W' fun e w'' => e = .returned (.bool (verB r (headT log size root time) k el pl)) ∧ Below W.heap.size W w'') := fun W' hb => (implVerify_any r _ k _ _ el pl W' (HT.out W' hb).1 (HT.out W' hb).2 hl1 hl2 hr (by omega) ((hK.below hbW hK.lt).below hb (hK.below hbW hK.lt).lt)).mono fun e w'' h => ⟨h.1, hb.trans (h.2.mono hb.size)⟩
  have HB0 : Hid (Below W.heap.size W W) := Below.refl _ _
  have HD0 : Hid (Below W.heap.size W W.drew) := below_drew' (Below.refl _ _)
  obtain ⟨⟨c0, c1', c2', c3, c4, c5, c6⟩, d0, d1, d2, d3, d4, d5, d6⟩ := HC.out W (Below.refl _ _)
  unfold headGB
  generalize headRB log size root time k el pl = b at *
  generalize headT log size root time = t at *
  generalize verB r t k el pl = bv at *
  clear h1 h2 hW hbW hlog hroot hs ht hhs hr HT
  cases b with
  | false =>
    clear G1 G2
    go_enter Tryz.func79, Tryz.ntmps79
    go_wp2_with fail
    rw [← HW.out]
    clear HW
    refine wp_region_any (by kernel_rfl) ?_
    try (change wpAny _ _ _ _ _ _ _ (World.drew _))
    refine wpAny_ready (rs := [0]) (by kernel_rfl) (by simp) ?_
    refine AllReady.cons rfl (fun K hK => ?_) AllReady.nil
    go_simp
    refine hK _ _ ?_
    clear hK K
    refine wpAny_ready (rs := [1]) (by kernel_rfl) (by simp) ?_
    refine AllReady.cons rfl (fun K hK => ?_) AllReady.nil
    go_simp
    go_wp2_with ((go_at_call 96; (with_reducible refine (G0.out _ ?_).mono ?_); (first | exact HB0.out | exact HD0.out); rintro e wa ⟨rfl, hia⟩; have HA1 : Hid (Below W.heap.size W wa) := hia; clear hia))
    refine wpAny_take (i := 2) (v := .bool false) rfl (by kernel_rfl) (by kernel_rfl) (by kernel_rfl) (fun _ _ _ h => h) (Or.inl ⟨by rfl, fun w => by go_simp⟩) ?_
    refine wpAny_take (i := 3) (v := undef) rfl (by kernel_rfl) (by kernel_rfl) (by kernel_rfl) (fun _ _ _ h => h) (Or.inr ⟨by rfl, rfl⟩) ?_
    refine wpAny_take (i := 4) (v := undef) rfl (by kernel_rfl) (by kernel_rfl) (by kernel_rfl) (fun _ _ _ h => h) (Or.inr ⟨by rfl, rfl⟩) ?_
    refine wpAny_take (i := 5) (v := undef) rfl (by kernel_rfl) (by kernel_rfl) (by kernel_rfl) (fun _ _ _ h => h) (Or.inr ⟨by rfl, rfl⟩) ?_
    refine wpAny_take (i := 6) (v := undef) rfl (by kernel_rfl) (by kernel_rfl) (by kernel_rfl) (fun _ _ _ h => h) (Or.inr ⟨by rfl, rfl⟩) ?_
    refine wpAny_take (i := 7) (v := undef) rfl (by kernel_rfl) (by kernel_rfl) (by kernel_rfl) (fun _ _ _ h => h) (Or.inr ⟨by rfl, rfl⟩) ?_
    refine wpAny_take (i := 8) (v := undef) rfl (by kernel_rfl) (by kernel_rfl) (by kernel_rfl) (fun _ _ _ h => h) (Or.inr ⟨by rfl, rfl⟩) ?_
    refine wpAny_take (i := 9) (v := .bool false) rfl (by kernel_rfl) (by kernel_rfl) (by kernel_rfl) (fun _ _ _ h => h) (Or.inl ⟨by rfl, fun w => by go_simp⟩) ?_
    refine wpAny_take (i := 10) (v := .bool false) rfl (by kernel_rfl) (by kernel_rfl) (by kernel_rfl) (fun _ _ _ h => h) (Or.inl ⟨by rfl, fun w => by go_simp⟩) ?_
    refine wpAny_done (by kernel_rfl) ?_ _
    go_wp2
    exact bodyPost_ret (v := .bool false) (by kernel_rfl) rfl ⟨rfl, H0.out.1.trans (HA1.out.mono H0.out.1.size)⟩
  | true =>
    have G1' := G1.out rfl
    clear G1
    have G1 : Hid _ := G1'
    clear G1'
    go_enter Tryz.func79, Tryz.ntmps79
    go_wp2_with fail
    rw [← HW.out]
    clear HW
    go_region_held3 (fun w' => w'.cell? ⟨w.heap.size, 0, none⟩ = some (.string log) ∧ w'.cell? ⟨w.heap.size, 1, none⟩ = some (.int .i64 size) ∧ w'.cell? ⟨w.heap.size, 2, none⟩ = some (.string root) ∧ w'.cell? ⟨w.heap.size, 3, none⟩ = some (.int .i64 time) ∧ w'.cell? ⟨w.heap.size, 4, none⟩ = some (.int .i64 k) ∧ w'.cell? ⟨w.heap.size, 5, none⟩ = some (.slice a1 el.length c1) ∧ w'.cell? ⟨w.heap.size, 6, none⟩ = some (.slice a2 pl.length c2)) (go_keep)
      (first
        | (go_at_call 96; (with_reducible refine (G0.out _ ?_).mono ?_); (first | exact HB0.out | exact HD0.out); rintro e wa ⟨rfl, hia⟩; have HA1 : Hid (Below W.heap.size W wa) := hia; obtain ⟨⟨x0, x1, x2, x3, x4, x5, x6⟩, _⟩ := HC.out _ hia; clear hia)
        | (go_at_call 98; (with_reducible refine (G1.out _ ?_).mono ?_); exact HA1.out; rintro e wb ⟨rfl, hia⟩; have HA2 : Hid (Below W.heap.size W wb) := hia; obtain ⟨⟨y0, y1, y2, y3, y4, y5, y6⟩, _⟩ := HC.out _ hia; clear hia)
        | (go_at_call 97; (with_reducible refine (G2.out _ ?_).mono ?_); exact HA2.out; rintro e wc ⟨rfl, hia⟩; have HA3 : Hid (Below W.heap.size W wc) := hia; obtain ⟨⟨z0, z1, z2, z3, z4, z5, z6⟩, _⟩ := HC.out _ hia; clear hia))
    all_goals
      go_wp2
      go_ret
      exact ⟨rfl, H0.out.1.trans (HA3.out.mono H0.out.1.size)⟩
end Go.Proofs.YtcenlgfopmahcaaGreatDoor
