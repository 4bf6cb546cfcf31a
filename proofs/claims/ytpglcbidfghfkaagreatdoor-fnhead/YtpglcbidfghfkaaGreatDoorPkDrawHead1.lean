/-
  The draws of chapter 6: a head that is good, as a rule.
-/
import Derived.Test.YtpglcbidfghfkaaGreatDoorPkDrawHeadV
import Derived.Test.YtpglcbidfghfkaaGreatDoorPkSpecSign
import Derived.Deep.RegionWith
import Derived.Deep.DeepCutAuto
namespace Go.Proofs.YtpglcbidfghfkaaGreatDoor
open Go.RowKit Go.Lib
set_option linter.unusedVariables false
set_option linter.unusedSimpArgs false

theorem Hid.mk2 {p : Prop} (h : p) : Hid p := h
def seedL : List ByteArray := [⟨#[115, 101, 101, 100]⟩, ⟨#[115, 101, 101, 100]⟩, ⟨#[115, 101, 101, 100]⟩, ⟨#[115, 101, 101, 100]⟩, ⟨#[111, 116, 104, 101, 114]⟩]
def logL : List ByteArray := [⟨#[108, 111, 103]⟩, ⟨#[108, 111, 103]⟩, ⟨#[108, 111, 103]⟩, ⟨#[108, 111, 103]⟩, ⟨#[116, 119, 111]⟩]
theorem C5.ofSeeds {q b : Nat} {W : World} {t : TypeId} (hq : q < W.heap.size) (hb : b = W.heap.size) : C5 q seedL b (W.alloc (.cells #[.string ⟨#[115, 101, 101, 100]⟩, .string ⟨#[115, 101, 101, 100]⟩, .string ⟨#[115, 101, 101, 100]⟩, .string ⟨#[115, 101, 101, 100]⟩, .string ⟨#[111, 116, 104, 101, 114]⟩] t)) := C5.new seedL hq hb
theorem C5.ofLogs {q b : Nat} {W : World} {t : TypeId} (hq : q < W.heap.size) (hb : b = W.heap.size) : C5 q logL b (W.alloc (.cells #[.string ⟨#[108, 111, 103]⟩, .string ⟨#[108, 111, 103]⟩, .string ⟨#[108, 111, 103]⟩, .string ⟨#[108, 111, 103]⟩, .string ⟨#[116, 119, 111]⟩] t)) := C5.new logL hq hb
theorem five_small {t : ByteArray} : (t ∈ seedL → t.size ≤ 5) ∧ (t ∈ logL → t.size ≤ 5) := by
  refine ⟨fun h => ?_, fun h => ?_⟩
  · simp [seedL] at h
    rcases h with rfl | rfl <;> decide
  · simp [logL] at h
    rcases h with rfl | rfl <;> decide
set_option maxHeartbeats 40000000 in
set_option maxRecDepth 10000 in
theorem head_any (q : Nat) (w : World) (h : Src w q) :
    Calls Tryz.prog 79 #[.pointer (some ⟨q, 0, none⟩)] w fun e w' => HdDrawn q w e w' := by
  have hq : q < w.heap.size := h.lt
  obtain ⟨W, hW⟩ : ∃ W, W = w.alloc (.cells #[.string ⟨#[]⟩, .int .i64 0, .string ⟨#[]⟩, .int .i64 0, .int .i64 0, .slice none 0 0, .slice none 0 0] 29) := ⟨_, rfl⟩
  have hbW : Below w.heap.size w W := by rw [hW]; exact (Below.refl _ _).alloc (Nat.le_refl _) _
  have hzW : W.heap.size = w.heap.size + 1 := by rw [hW]; simp
  have hgW : W.heap[w.heap.size]? = some (.cells #[.string ⟨#[]⟩, .int .i64 0, .string ⟨#[]⟩, .int .i64 0, .int .i64 0, .slice none 0 0, .slice none 0 0] 29 (0, 0)) := by rw [hW]; exact heap_alloc_new w _
  have HW : Hid (W = w.alloc (.cells #[.string ⟨#[]⟩, .int .i64 0, .string ⟨#[]⟩, .int .i64 0, .int .i64 0, .slice none 0 0, .slice none 0 0] 29)) := hW
  have EL : Hid (Calls Tryz.prog 105 #[.pointer (some ⟨q, 0, none⟩)] W fun e w' => LogAns q W e w') := log_any q W (h.below hbW hq)
  have H0 : Hid (w.grownBy W (some q) ∧ W.heap.size = w.heap.size + 1 ∧ W.heap[w.heap.size]? = some (.cells #[.string ⟨#[]⟩, .int .i64 0, .string ⟨#[]⟩, .int .i64 0, .int .i64 0, .slice none 0 0, .slice none 0 0] 29 (0, 0))) := ⟨⟨hbW.os, hbW.tape, hbW.output, hbW.size, fun k hk _ => hbW.block k hk⟩, hzW, hgW⟩
  clear hW hbW hzW hgW h
  go_enter Tryz.func79, Tryz.ntmps79
  go_wp2_with fail
  rw [← HW.out]
  clear HW
  refine EL.out.mono ?_
  rintro e w1 ⟨vl, l, rfl, hown, hl9, hl101, hsrc, hgr⟩
  obtain ⟨av, cv, rfl⟩ := hown.len
  have I1 : Hid (LI w q (.slice av l.length cv) l w1) := by
    obtain ⟨h1, h2, h3⟩ := H0.out
    exact ⟨hsrc, grown_trans h1 hgr, by rw [← h2]; exact hown, (hgr.block _ (by omega) (by simp; omega)).trans h3, hq⟩
  clear EL H0 hown hsrc hgr
  have EPs : Hid (∀ b W, LI w q (.slice av l.length cv) l W → C5 q seedL b W → Calls Tryz.prog 57 #[.pointer (some ⟨q, 0, none⟩), .slice (some ⟨b, 0, none⟩) 5 5] W fun e w' => ∃ t : ByteArray, e = .returned (.string t) ∧ t.size ≤ 5 ∧ LI w q (.slice av l.length cv) l w' ∧ W.grownBy w' (some q)) := fun b W hi hc => (pick_any q b seedL W hi.1 (by decide) (by decide) hc.2 hc.cells).mono fun e w' ⟨t, h1, h2, h3, h4⟩ => ⟨t, h1, five_small.1 h2, hi.grow h3 h4, h4⟩
  have EPl : Hid (∀ b W, LI w q (.slice av l.length cv) l W → C5 q logL b W → Calls Tryz.prog 57 #[.pointer (some ⟨q, 0, none⟩), .slice (some ⟨b, 0, none⟩) 5 5] W fun e w' => ∃ t : ByteArray, e = .returned (.string t) ∧ t.size ≤ 5 ∧ LI w q (.slice av l.length cv) l w' ∧ W.grownBy w' (some q)) := fun b W hi hc => (pick_any q b logL W hi.1 (by decide) (by decide) hc.2 hc.cells).mono fun e w' ⟨t, h1, h2, h3, h4⟩ => ⟨t, h1, five_small.2 h2, hi.grow h3 h4, h4⟩
  have EN4 : Hid (∀ W, LI w q (.slice av l.length cv) l W → Calls Tryz.prog 56 #[.pointer (some ⟨q, 0, none⟩), .int .i64 4] W fun e w' => ∃ v : Int, e = .returned (.int .i64 v) ∧ (0 ≤ v ∧ v ≤ 3) ∧ LI w q (.slice av l.length cv) l w' ∧ W.grownBy w' (some q)) := fun W hi => (n_any q 4 W hi.1 (by omega)).mono fun e w' ⟨v, h1, h2, h3, h4, h5⟩ => ⟨v, h1, ⟨h2, by omega⟩, hi.grow h4 h5, h5⟩
  have EN50 : Hid (∀ W, LI w q (.slice av l.length cv) l W → Calls Tryz.prog 56 #[.pointer (some ⟨q, 0, none⟩), .int .i64 50] W fun e w' => ∃ v : Int, e = .returned (.int .i64 v) ∧ (0 ≤ v ∧ v ≤ 1000) ∧ LI w q (.slice av l.length cv) l w' ∧ W.grownBy w' (some q)) := fun W hi => (n_any q 50 W hi.1 (by omega)).mono fun e w' ⟨v, h1, h2, h3, h4, h5⟩ => ⟨v, h1, ⟨h2, by omega⟩, hi.grow h4 h5, h5⟩
  have EN10 : Hid (∀ W, LI w q (.slice av l.length cv) l W → Calls Tryz.prog 56 #[.pointer (some ⟨q, 0, none⟩), .int .i64 10] W fun e w' => ∃ (m : Nat) (v1 : Value), e = .returned (.int .i64 (m : Int)) ∧ (∀ w1, (Instr.slice 23 (.slice av l.length cv) none (some (.int .i64 (m : Int))) none).run Tryz.prog w1 = .ok v1 w1) ∧ (∀ W', LI w q (.slice av l.length cv) l W' → Texts W' W'.heap.size v1 (l.take m)) ∧ LI w q (.slice av l.length cv) l w' ∧ W.grownBy w' (some q)) := fun W hi => (n_any q 10 W hi.1 (by omega)).mono fun e w' ⟨v, h1, h2, h3, h4, h5⟩ => by
    obtain ⟨m, rfl⟩ := Int.eq_ofNat_of_zero_le h2
    obtain ⟨v1, e1, t1⟩ := slice_h hi.2.2.1.texts m (by omega) (m : Int) rfl
    refine ⟨m, v1, h1, e1, fun W' hi' => ?_, hi.grow h4 h5, h5⟩
    obtain ⟨v2, e2, t2⟩ := slice_h hi'.2.2.1.texts m (by omega) (m : Int) rfl
    have := (e1 W').symm.trans (e2 W')
    simp only [Result.ok.injEq, and_true] at this
    rw [this]
    exact t2
  have EH : Hid (∀ (s : ByteArray) (ky : Int) (lg : ByteArray) (v1 : Value) (m : Nat) (tm : Int) W, LI w q (.slice av l.length cv) l W → s.size ≤ 5 → (0 ≤ ky ∧ ky ≤ 3) → lg.size ≤ 5 → Texts W W.heap.size v1 (l.take m) → (0 ≤ tm ∧ tm ≤ 1000) → Calls Tryz.prog 10 #[.string s, .int .i64 ky, .string lg, v1, .int .i64 tm] W fun e w' => ∃ (x : Hd) (a b : Option Addr) (c d : Nat), e = .returned (.agg #[.string x.log, .int .i64 x.size, .string x.root, .int .i64 x.time, .int .i64 x.k, .slice a x.el.length c, .slice b x.pl.length d]) ∧ x.In (.slice a x.el.length c) (.slice b x.pl.length d) w' w'.heap.size ∧ (x.Few ∧ 0 ≤ x.size ∧ x.size ≤ 100) ∧ LI w q (.slice av l.length cv) l w' ∧ W.grownBy w' (some q)) := fun s ky lg v1 m tm W hi hs hk hlg ht htm => by
    have hlm : (l.take m).length ≤ 9 := by rw [List.length_take]; omega
    refine (specHeadSign_any s ky lg v1 (l.take m) tm W ht (by omega) (by omega) (by omega) (by omega)).mono ?_
    rintro e w' ⟨ve, vp, rfl, h1, h2, hb⟩
    obtain ⟨a, c, rfl, h1'⟩ := id h1
    obtain ⟨b, d, rfl, h2'⟩ := id h2
    exact ⟨⟨_, _, _, _, _, _, _⟩, a, b, c, d, rfl, ⟨h1, h2⟩, hs_few s ky lg (l.take m) tm (by omega) (by omega) htm, hi.below hb, ⟨hb.os, hb.tape, hb.output, hb.size, fun k hk _ => hb.block k hk⟩⟩
  generalize hvl : (Value.slice av l.length cv) = vl at *
  subst hvl
  clear hl101 hl9
  go_wp2_with fail
  go_cut [4] (fun x wx => HdAt w q x wx)
  case first J K hJ hK =>
    refine wp_region_any (by kernel_rfl) ?_
    try (change wpAny _ _ _ _ _ _ _ (World.drew _))
    refine wpAny_take (i := 0) (v := ?_) rfl (by kernel_rfl) (by kernel_rfl) (by kernel_rfl) (fun _ _ _ h => h) (Or.inl ⟨by kernel_rfl, ?_⟩) ?_
    rotate_left
    · (intro w'; go_simp; (try with_reducible rfl))
    refine wpAny_take (i := 3) (v := ?_) rfl (by kernel_rfl) (by kernel_rfl) (by kernel_rfl) (fun _ _ _ h => h) (Or.inl ⟨by kernel_rfl, ?_⟩) ?_
    rotate_left
    · (intro w'; go_simp; (try with_reducible rfl))
    refine wpAny_take (i := 5) (v := ?_) rfl (by kernel_rfl) (by kernel_rfl) (by kernel_rfl) (fun _ _ _ h => h) (Or.inl ⟨by kernel_rfl, ?_⟩) ?_
    rotate_left
    · (intro w'; go_simp; (try with_reducible rfl))
    refine wpAny_take (i := 8) (v := ?_) rfl (by kernel_rfl) (by kernel_rfl) (by kernel_rfl) (fun _ _ _ h => h) (Or.inl ⟨by kernel_rfl, ?_⟩) ?_
    rotate_left
    · (intro w'; go_simp; (try with_reducible rfl))
    refine wpAny_take (i := 9) (v := ?_) rfl (by kernel_rfl) (by kernel_rfl) (by kernel_rfl) (fun _ _ _ h => h) (Or.inl ⟨by kernel_rfl, ?_⟩) ?_
    rotate_left
    · (intro w'; go_simp; (try with_reducible rfl))
    refine wpAny_take (i := 12) (v := ?_) rfl (by kernel_rfl) (by kernel_rfl) (by kernel_rfl) (fun _ _ _ h => h) (Or.inl ⟨by kernel_rfl, ?_⟩) ?_
    rotate_left
    · (intro w'; go_simp; (try with_reducible rfl))
    refine wpAny_ready (rs := [1, 6, 15]) (by kernel_rfl) (by simp) ?_
    refine AllReady.cons (by simp only [List.getElem?_toArray, List.getElem?_cons_succ, List.getElem?_cons_zero]; rfl) (fun K' hK' => ?_) ?_
    · go_simp
      refine hK' _ _ ?_
      clear hK' K'
      refine wpAny_ready (rs := [2, 6, 15]) (by kernel_rfl) (by simp) ?_
      refine AllReady.cons (by simp only [List.getElem?_toArray, List.getElem?_cons_succ, List.getElem?_cons_zero]; rfl) (fun K' hK' => ?_) ?_
      · go_simp
        (go_at_call 57; (with_reducible refine (EPs.out (w1.heap.size) _ (LI.drew (LI.alloc (I1.out) _)) (C5.drew (C5.ofSeeds (I1.out).qlt rfl))).mono ?_); rintro e x1 ⟨s, rfl, hs, hi, hg⟩; have HSS : Hid (s.size ≤ 5) := hs; clear hs; have Ix1 : Hid (LI w q (.slice av l.length cv) l x1) := hi; clear hi hg)
        (try dsimp only)
        refine hK' _ _ ?_
        clear hK' K'
        refine wpAny_ready (rs := [4, 6, 15]) (by kernel_rfl) (by simp) ?_
        refine AllReady.cons (by simp only [List.getElem?_toArray, List.getElem?_cons_succ, List.getElem?_cons_zero]; rfl) (fun K' hK' => ?_) ?_
        · go_simp
          (go_at_call 56; (with_reducible refine (EN4.out _ (Ix1.out)).mono ?_); rintro e x2 ⟨ky, rfl, hk, hi, hg⟩; have HKY : Hid (0 ≤ ky ∧ ky ≤ 3) := hk; clear hk; have Ix2 : Hid (LI w q (.slice av l.length cv) l x2) := hi; clear hi hg)
          (try dsimp only)
          refine hK' _ _ ?_
          clear hK' K'
          refine wpAny_ready (rs := [6, 15]) (by kernel_rfl) (by simp) ?_
          refine AllReady.cons (by simp only [List.getElem?_toArray, List.getElem?_cons_succ, List.getElem?_cons_zero]; rfl) (fun K' hK' => ?_) ?_
          · go_simp
            refine hK' _ _ ?_
            clear hK' K'
            refine wpAny_ready (rs := [7, 15]) (by kernel_rfl) (by simp) ?_
            refine AllReady.cons (by simp only [List.getElem?_toArray, List.getElem?_cons_succ, List.getElem?_cons_zero]; rfl) (fun K' hK' => ?_) ?_
            · go_simp
              (go_at_call 57; (with_reducible refine (EPl.out (x2.heap.size) _ (LI.alloc (Ix2.out) _) (C5.ofLogs (Ix2.out).qlt rfl)).mono ?_); rintro e x3 ⟨lg, rfl, hs, hi, hg⟩; have HSL : Hid (lg.size ≤ 5) := hs; clear hs; have Ix3 : Hid (LI w q (.slice av l.length cv) l x3) := hi; clear hi hg)
              (try dsimp only)
              refine hK' _ _ ?_
              clear hK' K'
              refine wpAny_ready (rs := [10, 15]) (by kernel_rfl) (by simp) ?_
              refine AllReady.cons (by simp only [List.getElem?_toArray, List.getElem?_cons_succ, List.getElem?_cons_zero]; rfl) (fun K' hK' => ?_) ?_
              · go_simp
                (go_at_call 56; (with_reducible refine (EN10.out _ (Ix3.out)).mono ?_); rintro e x4 ⟨m, v1, rfl, hv1, hv2, hi, hg⟩; have HVV : Hid _ := hv2; clear hv2; have Ix4 : Hid (LI w q (.slice av l.length cv) l x4) := hi; clear hi hg)
                (try dsimp only)
                refine hK' _ _ ?_
                clear hK' K'
                refine wpAny_take (i := 11) (v := ?_) rfl (by kernel_rfl) (by kernel_rfl) (by kernel_rfl) (fun _ _ _ h => h) (Or.inl ⟨by kernel_rfl, ?_⟩) ?_
                rotate_left
                · (intro w'; go_simp; (try with_reducible rfl))
                refine wpAny_ready (rs := [13, 15]) (by kernel_rfl) (by simp) ?_
                refine AllReady.cons (by simp only [List.getElem?_toArray, List.getElem?_cons_succ, List.getElem?_cons_zero]; rfl) (fun K' hK' => ?_) ?_
                · go_simp
                  (go_at_call 56; (with_reducible refine (EN50.out _ (Ix4.out)).mono ?_); rintro e x5 ⟨tm, rfl, hk, hi, hg⟩; have HTM : Hid (0 ≤ tm ∧ tm ≤ 1000) := hk; clear hk; have Ix5 : Hid (LI w q (.slice av l.length cv) l x5) := hi; clear hi hg)
                  (try dsimp only)
                  refine hK' _ _ ?_
                  clear hK' K'
                  refine wpAny_ready (rs := [14, 15]) (by kernel_rfl) (by simp) ?_
                  refine AllReady.cons (by simp only [List.getElem?_toArray, List.getElem?_cons_succ, List.getElem?_cons_zero]; rfl) (fun K' hK' => ?_) ?_
                  · go_simp
                    (go_at_call 10; (with_reducible refine (EH.out s ky lg v1 _ tm _ (Ix5.out) HSS.out HKY.out HSL.out (HVV.out _ (Ix5.out)) HTM.out).mono ?_); rintro e x6 ⟨hx, a, b, c, d, rfl, hin, hfew, hi, hg⟩; have HX : Hid (hx.In (.slice a hx.el.length c) (.slice b hx.pl.length d) x6 x6.heap.size ∧ hx.Few ∧ 0 ≤ hx.size ∧ hx.size ≤ 100) := ⟨hin, hfew⟩; clear hin hfew; have Ix6 : Hid (LI w q (.slice av l.length cv) l x6) := hi; clear hi hg)
                    (try dsimp only)
                    refine hK' _ _ ?_
                    clear hK' K'
                    have LASTNEW : Hid _ := HdAt.fresh HX.out Ix6.out
                    have LASTOLD : Hid _ := HdAt.stored HX.out Ix6.out
                    refine wpAny_ready (rs := [15]) (by kernel_rfl) (by simp) ?_
                    refine AllReady.cons (by simp only [List.getElem?_toArray, List.getElem?_cons_succ, List.getElem?_cons_zero]; rfl) (fun K' hK' => ?_) AllReady.nil
                    go_simp
                    refine hK' _ _ ?_
                    clear hK' K'
                    refine wpAny_ready (rs := [16]) (by kernel_rfl) (by simp) ?_
                    refine AllReady.cons (by simp only [List.getElem?_toArray, List.getElem?_cons_succ, List.getElem?_cons_zero]; rfl) (fun K' hK' => ?_) AllReady.nil
                    go_simp
                    refine hK' _ _ ?_
                    clear hK' K'
                    refine wpAny_done (by kernel_rfl) ?_ _
                    go_simp
                    refine hK _ _ (Met.intro (hJ _ _ ?_))
                    (repeat apply Exists.intro)
                    refine ⟨?rel, rfl⟩
                    case rel => exact LASTNEW.out
                  refine AllReady.cons (by simp only [List.getElem?_toArray, List.getElem?_cons_succ, List.getElem?_cons_zero]; rfl) (fun K' hK' => ?_) AllReady.nil
                  go_simp
                  refine hK' _ _ ?_
                  clear hK' K'
                  refine wpAny_ready (rs := [14]) (by kernel_rfl) (by simp) ?_
                  refine AllReady.cons (by simp only [List.getElem?_toArray, List.getElem?_cons_succ, List.getElem?_cons_zero]; rfl) (fun K' hK' => ?_) AllReady.nil
                  go_simp
                  (go_at_call 10; (with_reducible refine (EH.out s ky lg v1 _ tm _ (LI.alloc (Ix5.out) _) HSS.out HKY.out HSL.out (HVV.out _ (LI.alloc (Ix5.out) _)) HTM.out).mono ?_); rintro e x6 ⟨hx, a, b, c, d, rfl, hin, hfew, hi, hg⟩; have HX : Hid (hx.In (.slice a hx.el.length c) (.slice b hx.pl.length d) x6 x6.heap.size ∧ hx.Few ∧ 0 ≤ hx.size ∧ hx.size ≤ 100) := ⟨hin, hfew⟩; clear hin hfew; have Ix6 : Hid (LI w q (.slice av l.length cv) l x6) := hi; have Hx6 : Hid (HAt w (x5.heap.size) x6) := HAt.grow (HAt.new (Ix5.out) rfl) hg hq; clear hi hg)
                  (try dsimp only)
                  refine hK' _ _ ?_
                  clear hK' K'
                  have LASTNEW : Hid _ := HdAt.fresh HX.out Ix6.out
                  have LASTOLD : Hid _ := HdAt.stored HX.out Ix6.out
                  refine wpAny_ready (rs := [16]) (by kernel_rfl) (by simp) ?_
                  refine AllReady.cons (by simp only [List.getElem?_toArray, List.getElem?_cons_succ, List.getElem?_cons_zero]; rfl) (fun K' hK' => ?_) AllReady.nil
                  obtain ⟨⟨c0, c1, c2, c3, c4, c5, c6⟩, f0, f1, f2, f3, f4, f5, f6⟩ := HAt.cells (Hx6.out)
                  go_simp
                  refine hK' _ _ ?_
                  clear hK' K'
                  refine wpAny_done (by kernel_rfl) ?_ _
                  go_simp
                  refine hK _ _ (Met.intro (hJ _ _ ?_))
                  (repeat apply Exists.intro)
                  refine ⟨?rel, rfl⟩
                  case rel => exact LASTOLD.out _ (Hx6.out)
                refine AllReady.cons (by simp only [List.getElem?_toArray, List.getElem?_cons_succ, List.getElem?_cons_zero]; rfl) (fun K' hK' => ?_) AllReady.nil
                go_simp
                refine hK' _ _ ?_
                clear hK' K'
                refine wpAny_ready (rs := [13]) (by kernel_rfl) (by simp) ?_
                refine AllReady.cons (by simp only [List.getElem?_toArray, List.getElem?_cons_succ, List.getElem?_cons_zero]; rfl) (fun K' hK' => ?_) AllReady.nil
                go_simp
                (go_at_call 56; (with_reducible refine (EN50.out _ (LI.alloc (Ix4.out) _)).mono ?_); rintro e x5 ⟨tm, rfl, hk, hi, hg⟩; have HTM : Hid (0 ≤ tm ∧ tm ≤ 1000) := hk; clear hk; have Ix5 : Hid (LI w q (.slice av l.length cv) l x5) := hi; have Hx5 : Hid (HAt w (x4.heap.size) x5) := HAt.grow (HAt.new (Ix4.out) rfl) hg hq; clear hi hg)
                (try dsimp only)
                refine hK' _ _ ?_
                clear hK' K'
                refine wpAny_ready (rs := [14]) (by kernel_rfl) (by simp) ?_
                refine AllReady.cons (by simp only [List.getElem?_toArray, List.getElem?_cons_succ, List.getElem?_cons_zero]; rfl) (fun K' hK' => ?_) AllReady.nil
                go_simp
                (go_at_call 10; (with_reducible refine (EH.out s ky lg v1 _ tm _ (Ix5.out) HSS.out HKY.out HSL.out (HVV.out _ (Ix5.out)) HTM.out).mono ?_); rintro e x6 ⟨hx, a, b, c, d, rfl, hin, hfew, hi, hg⟩; have HX : Hid (hx.In (.slice a hx.el.length c) (.slice b hx.pl.length d) x6 x6.heap.size ∧ hx.Few ∧ 0 ≤ hx.size ∧ hx.size ≤ 100) := ⟨hin, hfew⟩; clear hin hfew; have Ix6 : Hid (LI w q (.slice av l.length cv) l x6) := hi; have Hx6 : Hid (HAt w (x4.heap.size) x6) := HAt.grow (Hx5.out) hg hq; clear hi hg)
                (try dsimp only)
                refine hK' _ _ ?_
                clear hK' K'
                have LASTNEW : Hid _ := HdAt.fresh HX.out Ix6.out
                have LASTOLD : Hid _ := HdAt.stored HX.out Ix6.out
                refine wpAny_ready (rs := [16]) (by kernel_rfl) (by simp) ?_
                refine AllReady.cons (by simp only [List.getElem?_toArray, List.getElem?_cons_succ, List.getElem?_cons_zero]; rfl) (fun K' hK' => ?_) AllReady.nil
                obtain ⟨⟨c0, c1, c2, c3, c4, c5, c6⟩, f0, f1, f2, f3, f4, f5, f6⟩ := HAt.cells (Hx6.out)
                go_simp
                refine hK' _ _ ?_
                clear hK' K'
                refine wpAny_done (by kernel_rfl) ?_ _
                go_simp
                refine hK _ _ (Met.intro (hJ _ _ ?_))
                (repeat apply Exists.intro)
                refine ⟨?rel, rfl⟩
                case rel => exact LASTOLD.out _ (Hx6.out)
              refine AllReady.cons (by simp only [List.getElem?_toArray, List.getElem?_cons_succ, List.getElem?_cons_zero]; rfl) (fun K' hK' => ?_) AllReady.nil
              go_simp
              refine hK' _ _ ?_
              clear hK' K'
              refine wpAny_ready (rs := [10]) (by kernel_rfl) (by simp) ?_
              refine AllReady.cons (by simp only [List.getElem?_toArray, List.getElem?_cons_succ, List.getElem?_cons_zero]; rfl) (fun K' hK' => ?_) AllReady.nil
              go_simp
              (go_at_call 56; (with_reducible refine (EN10.out _ (LI.alloc (Ix3.out) _)).mono ?_); rintro e x4 ⟨m, v1, rfl, hv1, hv2, hi, hg⟩; have HVV : Hid _ := hv2; clear hv2; have Ix4 : Hid (LI w q (.slice av l.length cv) l x4) := hi; have Hx4 : Hid (HAt w (x3.heap.size) x4) := HAt.grow (HAt.new (Ix3.out) rfl) hg hq; clear hi hg)
              (try dsimp only)
              refine hK' _ _ ?_
              clear hK' K'
              refine wpAny_take (i := 11) (v := ?_) rfl (by kernel_rfl) (by kernel_rfl) (by kernel_rfl) (fun _ _ _ h => h) (Or.inl ⟨by kernel_rfl, ?_⟩) ?_
              rotate_left
              · (intro w'; go_simp; (try with_reducible rfl))
              refine wpAny_ready (rs := [13]) (by kernel_rfl) (by simp) ?_
              refine AllReady.cons (by simp only [List.getElem?_toArray, List.getElem?_cons_succ, List.getElem?_cons_zero]; rfl) (fun K' hK' => ?_) AllReady.nil
              go_simp
              (go_at_call 56; (with_reducible refine (EN50.out _ (Ix4.out)).mono ?_); rintro e x5 ⟨tm, rfl, hk, hi, hg⟩; have HTM : Hid (0 ≤ tm ∧ tm ≤ 1000) := hk; clear hk; have Ix5 : Hid (LI w q (.slice av l.length cv) l x5) := hi; have Hx5 : Hid (HAt w (x3.heap.size) x5) := HAt.grow (Hx4.out) hg hq; clear hi hg)
              (try dsimp only)
              refine hK' _ _ ?_
              clear hK' K'
              refine wpAny_ready (rs := [14]) (by kernel_rfl) (by simp) ?_
              refine AllReady.cons (by simp only [List.getElem?_toArray, List.getElem?_cons_succ, List.getElem?_cons_zero]; rfl) (fun K' hK' => ?_) AllReady.nil
              go_simp
              (go_at_call 10; (with_reducible refine (EH.out s ky lg v1 _ tm _ (Ix5.out) HSS.out HKY.out HSL.out (HVV.out _ (Ix5.out)) HTM.out).mono ?_); rintro e x6 ⟨hx, a, b, c, d, rfl, hin, hfew, hi, hg⟩; have HX : Hid (hx.In (.slice a hx.el.length c) (.slice b hx.pl.length d) x6 x6.heap.size ∧ hx.Few ∧ 0 ≤ hx.size ∧ hx.size ≤ 100) := ⟨hin, hfew⟩; clear hin hfew; have Ix6 : Hid (LI w q (.slice av l.length cv) l x6) := hi; have Hx6 : Hid (HAt w (x3.heap.size) x6) := HAt.grow (Hx5.out) hg hq; clear hi hg)
              (try dsimp only)
              refine hK' _ _ ?_
              clear hK' K'
              have LASTNEW : Hid _ := HdAt.fresh HX.out Ix6.out
              have LASTOLD : Hid _ := HdAt.stored HX.out Ix6.out
              refine wpAny_ready (rs := [16]) (by kernel_rfl) (by simp) ?_
              refine AllReady.cons (by simp only [List.getElem?_toArray, List.getElem?_cons_succ, List.getElem?_cons_zero]; rfl) (fun K' hK' => ?_) AllReady.nil
              obtain ⟨⟨c0, c1, c2, c3, c4, c5, c6⟩, f0, f1, f2, f3, f4, f5, f6⟩ := HAt.cells (Hx6.out)
              go_simp
              refine hK' _ _ ?_
              clear hK' K'
              refine wpAny_done (by kernel_rfl) ?_ _
              go_simp
              refine hK _ _ (Met.intro (hJ _ _ ?_))
              (repeat apply Exists.intro)
              refine ⟨?rel, rfl⟩
              case rel => exact LASTOLD.out _ (Hx6.out)
            refine AllReady.cons (by simp only [List.getElem?_toArray, List.getElem?_cons_succ, List.getElem?_cons_zero]; rfl) (fun K' hK' => ?_) AllReady.nil
            go_simp
            refine hK' _ _ ?_
            clear hK' K'
            refine wpAny_ready (rs := [7]) (by kernel_rfl) (by simp) ?_
            refine AllReady.cons (by simp only [List.getElem?_toArray, List.getElem?_cons_succ, List.getElem?_cons_zero]; rfl) (fun K' hK' => ?_) AllReady.nil
            go_simp
            (go_at_call 57; (with_reducible refine (EPl.out (x2.heap.size) _ (LI.alloc (LI.alloc (Ix2.out) _) _) (C5.alloc (C5.ofLogs (Ix2.out).qlt rfl) _)).mono ?_); rintro e x3 ⟨lg, rfl, hs, hi, hg⟩; have HSL : Hid (lg.size ≤ 5) := hs; clear hs; have Ix3 : Hid (LI w q (.slice av l.length cv) l x3) := hi; have Hx3 : Hid (HAt w (x2.heap.size + 1) x3) := HAt.grow (HAt.new (LI.alloc (Ix2.out) _) (by simp)) hg hq; clear hi hg)
            (try dsimp only)
            refine hK' _ _ ?_
            clear hK' K'
            refine wpAny_ready (rs := [10]) (by kernel_rfl) (by simp) ?_
            refine AllReady.cons (by simp only [List.getElem?_toArray, List.getElem?_cons_succ, List.getElem?_cons_zero]; rfl) (fun K' hK' => ?_) AllReady.nil
            go_simp
            (go_at_call 56; (with_reducible refine (EN10.out _ (Ix3.out)).mono ?_); rintro e x4 ⟨m, v1, rfl, hv1, hv2, hi, hg⟩; have HVV : Hid _ := hv2; clear hv2; have Ix4 : Hid (LI w q (.slice av l.length cv) l x4) := hi; have Hx4 : Hid (HAt w (x2.heap.size + 1) x4) := HAt.grow (Hx3.out) hg hq; clear hi hg)
            (try dsimp only)
            refine hK' _ _ ?_
            clear hK' K'
            refine wpAny_take (i := 11) (v := ?_) rfl (by kernel_rfl) (by kernel_rfl) (by kernel_rfl) (fun _ _ _ h => h) (Or.inl ⟨by kernel_rfl, ?_⟩) ?_
            rotate_left
            · (intro w'; go_simp; (try with_reducible rfl))
            refine wpAny_ready (rs := [13]) (by kernel_rfl) (by simp) ?_
            refine AllReady.cons (by simp only [List.getElem?_toArray, List.getElem?_cons_succ, List.getElem?_cons_zero]; rfl) (fun K' hK' => ?_) AllReady.nil
            go_simp
            (go_at_call 56; (with_reducible refine (EN50.out _ (Ix4.out)).mono ?_); rintro e x5 ⟨tm, rfl, hk, hi, hg⟩; have HTM : Hid (0 ≤ tm ∧ tm ≤ 1000) := hk; clear hk; have Ix5 : Hid (LI w q (.slice av l.length cv) l x5) := hi; have Hx5 : Hid (HAt w (x2.heap.size + 1) x5) := HAt.grow (Hx4.out) hg hq; clear hi hg)
            (try dsimp only)
            refine hK' _ _ ?_
            clear hK' K'
            refine wpAny_ready (rs := [14]) (by kernel_rfl) (by simp) ?_
            refine AllReady.cons (by simp only [List.getElem?_toArray, List.getElem?_cons_succ, List.getElem?_cons_zero]; rfl) (fun K' hK' => ?_) AllReady.nil
            go_simp
            (go_at_call 10; (with_reducible refine (EH.out s ky lg v1 _ tm _ (Ix5.out) HSS.out HKY.out HSL.out (HVV.out _ (Ix5.out)) HTM.out).mono ?_); rintro e x6 ⟨hx, a, b, c, d, rfl, hin, hfew, hi, hg⟩; have HX : Hid (hx.In (.slice a hx.el.length c) (.slice b hx.pl.length d) x6 x6.heap.size ∧ hx.Few ∧ 0 ≤ hx.size ∧ hx.size ≤ 100) := ⟨hin, hfew⟩; clear hin hfew; have Ix6 : Hid (LI w q (.slice av l.length cv) l x6) := hi; have Hx6 : Hid (HAt w (x2.heap.size + 1) x6) := HAt.grow (Hx5.out) hg hq; clear hi hg)
            (try dsimp only)
            refine hK' _ _ ?_
            clear hK' K'
            have LASTNEW : Hid _ := HdAt.fresh HX.out Ix6.out
            have LASTOLD : Hid _ := HdAt.stored HX.out Ix6.out
            refine wpAny_ready (rs := [16]) (by kernel_rfl) (by simp) ?_
            refine AllReady.cons (by simp only [List.getElem?_toArray, List.getElem?_cons_succ, List.getElem?_cons_zero]; rfl) (fun K' hK' => ?_) AllReady.nil
            obtain ⟨⟨c0, c1, c2, c3, c4, c5, c6⟩, f0, f1, f2, f3, f4, f5, f6⟩ := HAt.cells (Hx6.out)
            go_simp
            refine hK' _ _ ?_
            clear hK' K'
            refine wpAny_done (by kernel_rfl) ?_ _
            go_simp
            refine hK _ _ (Met.intro (hJ _ _ ?_))
            (repeat apply Exists.intro)
            refine ⟨?rel, rfl⟩
            case rel => exact LASTOLD.out _ (Hx6.out)
          refine AllReady.cons (by simp only [List.getElem?_toArray, List.getElem?_cons_succ, List.getElem?_cons_zero]; rfl) (fun K' hK' => ?_) AllReady.nil
          go_simp
          refine hK' _ _ ?_
          clear hK' K'
          refine wpAny_ready (rs := [6]) (by kernel_rfl) (by simp) ?_
          refine AllReady.cons (by simp only [List.getElem?_toArray, List.getElem?_cons_succ, List.getElem?_cons_zero]; rfl) (fun K' hK' => ?_) AllReady.nil
          go_simp
          refine hK' _ _ ?_
          clear hK' K'
          refine wpAny_ready (rs := [7]) (by kernel_rfl) (by simp) ?_
          refine AllReady.cons (by simp only [List.getElem?_toArray, List.getElem?_cons_succ, List.getElem?_cons_zero]; rfl) (fun K' hK' => ?_) AllReady.nil
          go_simp
          (go_at_call 57; (with_reducible refine (EPl.out (x2.heap.size + 1) _ (LI.alloc (LI.alloc (Ix2.out) _) _) (C5.ofLogs (LI.alloc (Ix2.out) _).qlt (by simp))).mono ?_); rintro e x3 ⟨lg, rfl, hs, hi, hg⟩; have HSL : Hid (lg.size ≤ 5) := hs; clear hs; have Ix3 : Hid (LI w q (.slice av l.length cv) l x3) := hi; have Hx3 : Hid (HAt w (x2.heap.size) x3) := HAt.grow (HAt.alloc (HAt.new (Ix2.out) rfl) _) hg hq; clear hi hg)
          (try dsimp only)
          refine hK' _ _ ?_
          clear hK' K'
          refine wpAny_ready (rs := [10]) (by kernel_rfl) (by simp) ?_
          refine AllReady.cons (by simp only [List.getElem?_toArray, List.getElem?_cons_succ, List.getElem?_cons_zero]; rfl) (fun K' hK' => ?_) AllReady.nil
          go_simp
          (go_at_call 56; (with_reducible refine (EN10.out _ (Ix3.out)).mono ?_); rintro e x4 ⟨m, v1, rfl, hv1, hv2, hi, hg⟩; have HVV : Hid _ := hv2; clear hv2; have Ix4 : Hid (LI w q (.slice av l.length cv) l x4) := hi; have Hx4 : Hid (HAt w (x2.heap.size) x4) := HAt.grow (Hx3.out) hg hq; clear hi hg)
          (try dsimp only)
          refine hK' _ _ ?_
          clear hK' K'
          refine wpAny_take (i := 11) (v := ?_) rfl (by kernel_rfl) (by kernel_rfl) (by kernel_rfl) (fun _ _ _ h => h) (Or.inl ⟨by kernel_rfl, ?_⟩) ?_
          rotate_left
          · (intro w'; go_simp; (try with_reducible rfl))
          refine wpAny_ready (rs := [13]) (by kernel_rfl) (by simp) ?_
          refine AllReady.cons (by simp only [List.getElem?_toArray, List.getElem?_cons_succ, List.getElem?_cons_zero]; rfl) (fun K' hK' => ?_) AllReady.nil
          go_simp
          (go_at_call 56; (with_reducible refine (EN50.out _ (Ix4.out)).mono ?_); rintro e x5 ⟨tm, rfl, hk, hi, hg⟩; have HTM : Hid (0 ≤ tm ∧ tm ≤ 1000) := hk; clear hk; have Ix5 : Hid (LI w q (.slice av l.length cv) l x5) := hi; have Hx5 : Hid (HAt w (x2.heap.size) x5) := HAt.grow (Hx4.out) hg hq; clear hi hg)
          (try dsimp only)
          refine hK' _ _ ?_
          clear hK' K'
          refine wpAny_ready (rs := [14]) (by kernel_rfl) (by simp) ?_
          refine AllReady.cons (by simp only [List.getElem?_toArray, List.getElem?_cons_succ, List.getElem?_cons_zero]; rfl) (fun K' hK' => ?_) AllReady.nil
          go_simp
          (go_at_call 10; (with_reducible refine (EH.out s ky lg v1 _ tm _ (Ix5.out) HSS.out HKY.out HSL.out (HVV.out _ (Ix5.out)) HTM.out).mono ?_); rintro e x6 ⟨hx, a, b, c, d, rfl, hin, hfew, hi, hg⟩; have HX : Hid (hx.In (.slice a hx.el.length c) (.slice b hx.pl.length d) x6 x6.heap.size ∧ hx.Few ∧ 0 ≤ hx.size ∧ hx.size ≤ 100) := ⟨hin, hfew⟩; clear hin hfew; have Ix6 : Hid (LI w q (.slice av l.length cv) l x6) := hi; have Hx6 : Hid (HAt w (x2.heap.size) x6) := HAt.grow (Hx5.out) hg hq; clear hi hg)
          (try dsimp only)
          refine hK' _ _ ?_
          clear hK' K'
          have LASTNEW : Hid _ := HdAt.fresh HX.out Ix6.out
          have LASTOLD : Hid _ := HdAt.stored HX.out Ix6.out
          refine wpAny_ready (rs := [16]) (by kernel_rfl) (by simp) ?_
          refine AllReady.cons (by simp only [List.getElem?_toArray, List.getElem?_cons_succ, List.getElem?_cons_zero]; rfl) (fun K' hK' => ?_) AllReady.nil
          obtain ⟨⟨c0, c1, c2, c3, c4, c5, c6⟩, f0, f1, f2, f3, f4, f5, f6⟩ := HAt.cells (Hx6.out)
          go_simp
          refine hK' _ _ ?_
          clear hK' K'
          refine wpAny_done (by kernel_rfl) ?_ _
          go_simp
          refine hK _ _ (Met.intro (hJ _ _ ?_))
          (repeat apply Exists.intro)
          refine ⟨?rel, rfl⟩
          case rel => exact LASTOLD.out _ (Hx6.out)
        refine AllReady.cons (by simp only [List.getElem?_toArray, List.getElem?_cons_succ, List.getElem?_cons_zero]; rfl) (fun K' hK' => ?_) ?_
        · go_simp
          refine hK' _ _ ?_
          clear hK' K'
          refine wpAny_ready (rs := [4, 15]) (by kernel_rfl) (by simp) ?_
          refine AllReady.cons (by simp only [List.getElem?_toArray, List.getElem?_cons_succ, List.getElem?_cons_zero]; rfl) (fun K' hK' => ?_) ?_
          · go_simp
            (go_at_call 56; (with_reducible refine (EN4.out _ (LI.alloc (Ix1.out) _)).mono ?_); rintro e x2 ⟨ky, rfl, hk, hi, hg⟩; have HKY : Hid (0 ≤ ky ∧ ky ≤ 3) := hk; clear hk; have Ix2 : Hid (LI w q (.slice av l.length cv) l x2) := hi; have Bx2 : Hid (C5 q logL (x1.heap.size) x2) := C5.grow (C5.ofLogs (Ix1.out).qlt rfl) hg; clear hi hg)
            (try dsimp only)
            refine hK' _ _ ?_
            clear hK' K'
            refine wpAny_ready (rs := [7, 15]) (by kernel_rfl) (by simp) ?_
            refine AllReady.cons (by simp only [List.getElem?_toArray, List.getElem?_cons_succ, List.getElem?_cons_zero]; rfl) (fun K' hK' => ?_) ?_
            · go_simp
              (go_at_call 57; (with_reducible refine (EPl.out (x1.heap.size) _ (Ix2.out) (Bx2.out)).mono ?_); rintro e x3 ⟨lg, rfl, hs, hi, hg⟩; have HSL : Hid (lg.size ≤ 5) := hs; clear hs; have Ix3 : Hid (LI w q (.slice av l.length cv) l x3) := hi; clear hi hg)
              (try dsimp only)
              refine hK' _ _ ?_
              clear hK' K'
              refine wpAny_ready (rs := [10, 15]) (by kernel_rfl) (by simp) ?_
              refine AllReady.cons (by simp only [List.getElem?_toArray, List.getElem?_cons_succ, List.getElem?_cons_zero]; rfl) (fun K' hK' => ?_) ?_
              · go_simp
                (go_at_call 56; (with_reducible refine (EN10.out _ (Ix3.out)).mono ?_); rintro e x4 ⟨m, v1, rfl, hv1, hv2, hi, hg⟩; have HVV : Hid _ := hv2; clear hv2; have Ix4 : Hid (LI w q (.slice av l.length cv) l x4) := hi; clear hi hg)
                (try dsimp only)
                refine hK' _ _ ?_
                clear hK' K'
                refine wpAny_take (i := 11) (v := ?_) rfl (by kernel_rfl) (by kernel_rfl) (by kernel_rfl) (fun _ _ _ h => h) (Or.inl ⟨by kernel_rfl, ?_⟩) ?_
                rotate_left
                · (intro w'; go_simp; (try with_reducible rfl))
                refine wpAny_ready (rs := [13, 15]) (by kernel_rfl) (by simp) ?_
                refine AllReady.cons (by simp only [List.getElem?_toArray, List.getElem?_cons_succ, List.getElem?_cons_zero]; rfl) (fun K' hK' => ?_) ?_
                · go_simp
                  (go_at_call 56; (with_reducible refine (EN50.out _ (Ix4.out)).mono ?_); rintro e x5 ⟨tm, rfl, hk, hi, hg⟩; have HTM : Hid (0 ≤ tm ∧ tm ≤ 1000) := hk; clear hk; have Ix5 : Hid (LI w q (.slice av l.length cv) l x5) := hi; clear hi hg)
                  (try dsimp only)
                  refine hK' _ _ ?_
                  clear hK' K'
                  refine wpAny_ready (rs := [14, 15]) (by kernel_rfl) (by simp) ?_
                  refine AllReady.cons (by simp only [List.getElem?_toArray, List.getElem?_cons_succ, List.getElem?_cons_zero]; rfl) (fun K' hK' => ?_) ?_
                  · go_simp
                    (go_at_call 10; (with_reducible refine (EH.out s ky lg v1 _ tm _ (Ix5.out) HSS.out HKY.out HSL.out (HVV.out _ (Ix5.out)) HTM.out).mono ?_); rintro e x6 ⟨hx, a, b, c, d, rfl, hin, hfew, hi, hg⟩; have HX : Hid (hx.In (.slice a hx.el.length c) (.slice b hx.pl.length d) x6 x6.heap.size ∧ hx.Few ∧ 0 ≤ hx.size ∧ hx.size ≤ 100) := ⟨hin, hfew⟩; clear hin hfew; have Ix6 : Hid (LI w q (.slice av l.length cv) l x6) := hi; clear hi hg)
                    (try dsimp only)
                    refine hK' _ _ ?_
                    clear hK' K'
                    have LASTNEW : Hid _ := HdAt.fresh HX.out Ix6.out
                    have LASTOLD : Hid _ := HdAt.stored HX.out Ix6.out
                    refine wpAny_ready (rs := [15]) (by kernel_rfl) (by simp) ?_
                    refine AllReady.cons (by simp only [List.getElem?_toArray, List.getElem?_cons_succ, List.getElem?_cons_zero]; rfl) (fun K' hK' => ?_) AllReady.nil
                    go_simp
                    refine hK' _ _ ?_
                    clear hK' K'
                    refine wpAny_ready (rs := [16]) (by kernel_rfl) (by simp) ?_
                    refine AllReady.cons (by simp only [List.getElem?_toArray, List.getElem?_cons_succ, List.getElem?_cons_zero]; rfl) (fun K' hK' => ?_) AllReady.nil
                    go_simp
                    refine hK' _ _ ?_
                    clear hK' K'
                    refine wpAny_done (by kernel_rfl) ?_ _
                    go_simp
                    refine hK _ _ (Met.intro (hJ _ _ ?_))
                    (repeat apply Exists.intro)
                    refine ⟨?rel, rfl⟩
                    case rel => exact LASTNEW.out
                  refine AllReady.cons (by simp only [List.getElem?_toArray, List.getElem?_cons_succ, List.getElem?_cons_zero]; rfl) (fun K' hK' => ?_) AllReady.nil
                  go_simp
                  refine hK' _ _ ?_
                  clear hK' K'
                  refine wpAny_ready (rs := [14]) (by kernel_rfl) (by simp) ?_
                  refine AllReady.cons (by simp only [List.getElem?_toArray, List.getElem?_cons_succ, List.getElem?_cons_zero]; rfl) (fun K' hK' => ?_) AllReady.nil
                  go_simp
                  (go_at_call 10; (with_reducible refine (EH.out s ky lg v1 _ tm _ (LI.alloc (Ix5.out) _) HSS.out HKY.out HSL.out (HVV.out _ (LI.alloc (Ix5.out) _)) HTM.out).mono ?_); rintro e x6 ⟨hx, a, b, c, d, rfl, hin, hfew, hi, hg⟩; have HX : Hid (hx.In (.slice a hx.el.length c) (.slice b hx.pl.length d) x6 x6.heap.size ∧ hx.Few ∧ 0 ≤ hx.size ∧ hx.size ≤ 100) := ⟨hin, hfew⟩; clear hin hfew; have Ix6 : Hid (LI w q (.slice av l.length cv) l x6) := hi; have Hx6 : Hid (HAt w (x5.heap.size) x6) := HAt.grow (HAt.new (Ix5.out) rfl) hg hq; clear hi hg)
                  (try dsimp only)
                  refine hK' _ _ ?_
                  clear hK' K'
                  have LASTNEW : Hid _ := HdAt.fresh HX.out Ix6.out
                  have LASTOLD : Hid _ := HdAt.stored HX.out Ix6.out
                  refine wpAny_ready (rs := [16]) (by kernel_rfl) (by simp) ?_
                  refine AllReady.cons (by simp only [List.getElem?_toArray, List.getElem?_cons_succ, List.getElem?_cons_zero]; rfl) (fun K' hK' => ?_) AllReady.nil
                  obtain ⟨⟨c0, c1, c2, c3, c4, c5, c6⟩, f0, f1, f2, f3, f4, f5, f6⟩ := HAt.cells (Hx6.out)
                  go_simp
                  refine hK' _ _ ?_
                  clear hK' K'
                  refine wpAny_done (by kernel_rfl) ?_ _
                  go_simp
                  refine hK _ _ (Met.intro (hJ _ _ ?_))
                  (repeat apply Exists.intro)
                  refine ⟨?rel, rfl⟩
                  case rel => exact LASTOLD.out _ (Hx6.out)
                refine AllReady.cons (by simp only [List.getElem?_toArray, List.getElem?_cons_succ, List.getElem?_cons_zero]; rfl) (fun K' hK' => ?_) AllReady.nil
                go_simp
                refine hK' _ _ ?_
                clear hK' K'
                refine wpAny_ready (rs := [13]) (by kernel_rfl) (by simp) ?_
                refine AllReady.cons (by simp only [List.getElem?_toArray, List.getElem?_cons_succ, List.getElem?_cons_zero]; rfl) (fun K' hK' => ?_) AllReady.nil
                go_simp
                (go_at_call 56; (with_reducible refine (EN50.out _ (LI.alloc (Ix4.out) _)).mono ?_); rintro e x5 ⟨tm, rfl, hk, hi, hg⟩; have HTM : Hid (0 ≤ tm ∧ tm ≤ 1000) := hk; clear hk; have Ix5 : Hid (LI w q (.slice av l.length cv) l x5) := hi; have Hx5 : Hid (HAt w (x4.heap.size) x5) := HAt.grow (HAt.new (Ix4.out) rfl) hg hq; clear hi hg)
                (try dsimp only)
                refine hK' _ _ ?_
                clear hK' K'
                refine wpAny_ready (rs := [14]) (by kernel_rfl) (by simp) ?_
                refine AllReady.cons (by simp only [List.getElem?_toArray, List.getElem?_cons_succ, List.getElem?_cons_zero]; rfl) (fun K' hK' => ?_) AllReady.nil
                go_simp
                (go_at_call 10; (with_reducible refine (EH.out s ky lg v1 _ tm _ (Ix5.out) HSS.out HKY.out HSL.out (HVV.out _ (Ix5.out)) HTM.out).mono ?_); rintro e x6 ⟨hx, a, b, c, d, rfl, hin, hfew, hi, hg⟩; have HX : Hid (hx.In (.slice a hx.el.length c) (.slice b hx.pl.length d) x6 x6.heap.size ∧ hx.Few ∧ 0 ≤ hx.size ∧ hx.size ≤ 100) := ⟨hin, hfew⟩; clear hin hfew; have Ix6 : Hid (LI w q (.slice av l.length cv) l x6) := hi; have Hx6 : Hid (HAt w (x4.heap.size) x6) := HAt.grow (Hx5.out) hg hq; clear hi hg)
                (try dsimp only)
                refine hK' _ _ ?_
                clear hK' K'
                have LASTNEW : Hid _ := HdAt.fresh HX.out Ix6.out
                have LASTOLD : Hid _ := HdAt.stored HX.out Ix6.out
                refine wpAny_ready (rs := [16]) (by kernel_rfl) (by simp) ?_
                refine AllReady.cons (by simp only [List.getElem?_toArray, List.getElem?_cons_succ, List.getElem?_cons_zero]; rfl) (fun K' hK' => ?_) AllReady.nil
                obtain ⟨⟨c0, c1, c2, c3, c4, c5, c6⟩, f0, f1, f2, f3, f4, f5, f6⟩ := HAt.cells (Hx6.out)
                go_simp
                refine hK' _ _ ?_
                clear hK' K'
                refine wpAny_done (by kernel_rfl) ?_ _
                go_simp
                refine hK _ _ (Met.intro (hJ _ _ ?_))
                (repeat apply Exists.intro)
                refine ⟨?rel, rfl⟩
                case rel => exact LASTOLD.out _ (Hx6.out)
              refine AllReady.cons (by simp only [List.getElem?_toArray, List.getElem?_cons_succ, List.getElem?_cons_zero]; rfl) (fun K' hK' => ?_) AllReady.nil
              go_simp
              refine hK' _ _ ?_
              clear hK' K'
              refine wpAny_ready (rs := [10]) (by kernel_rfl) (by simp) ?_
              refine AllReady.cons (by simp only [List.getElem?_toArray, List.getElem?_cons_succ, List.getElem?_cons_zero]; rfl) (fun K' hK' => ?_) AllReady.nil
              go_simp
              (go_at_call 56; (with_reducible refine (EN10.out _ (LI.alloc (Ix3.out) _)).mono ?_); rintro e x4 ⟨m, v1, rfl, hv1, hv2, hi, hg⟩; have HVV : Hid _ := hv2; clear hv2; have Ix4 : Hid (LI w q (.slice av l.length cv) l x4) := hi; have Hx4 : Hid (HAt w (x3.heap.size) x4) := HAt.grow (HAt.new (Ix3.out) rfl) hg hq; clear hi hg)
              (try dsimp only)
              refine hK' _ _ ?_
              clear hK' K'
              refine wpAny_take (i := 11) (v := ?_) rfl (by kernel_rfl) (by kernel_rfl) (by kernel_rfl) (fun _ _ _ h => h) (Or.inl ⟨by kernel_rfl, ?_⟩) ?_
              rotate_left
              · (intro w'; go_simp; (try with_reducible rfl))
              refine wpAny_ready (rs := [13]) (by kernel_rfl) (by simp) ?_
              refine AllReady.cons (by simp only [List.getElem?_toArray, List.getElem?_cons_succ, List.getElem?_cons_zero]; rfl) (fun K' hK' => ?_) AllReady.nil
              go_simp
              (go_at_call 56; (with_reducible refine (EN50.out _ (Ix4.out)).mono ?_); rintro e x5 ⟨tm, rfl, hk, hi, hg⟩; have HTM : Hid (0 ≤ tm ∧ tm ≤ 1000) := hk; clear hk; have Ix5 : Hid (LI w q (.slice av l.length cv) l x5) := hi; have Hx5 : Hid (HAt w (x3.heap.size) x5) := HAt.grow (Hx4.out) hg hq; clear hi hg)
              (try dsimp only)
              refine hK' _ _ ?_
              clear hK' K'
              refine wpAny_ready (rs := [14]) (by kernel_rfl) (by simp) ?_
              refine AllReady.cons (by simp only [List.getElem?_toArray, List.getElem?_cons_succ, List.getElem?_cons_zero]; rfl) (fun K' hK' => ?_) AllReady.nil
              go_simp
              (go_at_call 10; (with_reducible refine (EH.out s ky lg v1 _ tm _ (Ix5.out) HSS.out HKY.out HSL.out (HVV.out _ (Ix5.out)) HTM.out).mono ?_); rintro e x6 ⟨hx, a, b, c, d, rfl, hin, hfew, hi, hg⟩; have HX : Hid (hx.In (.slice a hx.el.length c) (.slice b hx.pl.length d) x6 x6.heap.size ∧ hx.Few ∧ 0 ≤ hx.size ∧ hx.size ≤ 100) := ⟨hin, hfew⟩; clear hin hfew; have Ix6 : Hid (LI w q (.slice av l.length cv) l x6) := hi; have Hx6 : Hid (HAt w (x3.heap.size) x6) := HAt.grow (Hx5.out) hg hq; clear hi hg)
              (try dsimp only)
              refine hK' _ _ ?_
              clear hK' K'
              have LASTNEW : Hid _ := HdAt.fresh HX.out Ix6.out
              have LASTOLD : Hid _ := HdAt.stored HX.out Ix6.out
              refine wpAny_ready (rs := [16]) (by kernel_rfl) (by simp) ?_
              refine AllReady.cons (by simp only [List.getElem?_toArray, List.getElem?_cons_succ, List.getElem?_cons_zero]; rfl) (fun K' hK' => ?_) AllReady.nil
              obtain ⟨⟨c0, c1, c2, c3, c4, c5, c6⟩, f0, f1, f2, f3, f4, f5, f6⟩ := HAt.cells (Hx6.out)
              go_simp
              refine hK' _ _ ?_
              clear hK' K'
              refine wpAny_done (by kernel_rfl) ?_ _
              go_simp
              refine hK _ _ (Met.intro (hJ _ _ ?_))
              (repeat apply Exists.intro)
              refine ⟨?rel, rfl⟩
              case rel => exact LASTOLD.out _ (Hx6.out)
            refine AllReady.cons (by simp only [List.getElem?_toArray, List.getElem?_cons_succ, List.getElem?_cons_zero]; rfl) (fun K' hK' => ?_) AllReady.nil
            go_simp
            refine hK' _ _ ?_
            clear hK' K'
            refine wpAny_ready (rs := [7]) (by kernel_rfl) (by simp) ?_
            refine AllReady.cons (by simp only [List.getElem?_toArray, List.getElem?_cons_succ, List.getElem?_cons_zero]; rfl) (fun K' hK' => ?_) AllReady.nil
            go_simp
            (go_at_call 57; (with_reducible refine (EPl.out (x1.heap.size) _ (LI.alloc (Ix2.out) _) (C5.alloc (Bx2.out) _)).mono ?_); rintro e x3 ⟨lg, rfl, hs, hi, hg⟩; have HSL : Hid (lg.size ≤ 5) := hs; clear hs; have Ix3 : Hid (LI w q (.slice av l.length cv) l x3) := hi; have Hx3 : Hid (HAt w (x2.heap.size) x3) := HAt.grow (HAt.new (Ix2.out) rfl) hg hq; clear hi hg)
            (try dsimp only)
            refine hK' _ _ ?_
            clear hK' K'
            refine wpAny_ready (rs := [10]) (by kernel_rfl) (by simp) ?_
            refine AllReady.cons (by simp only [List.getElem?_toArray, List.getElem?_cons_succ, List.getElem?_cons_zero]; rfl) (fun K' hK' => ?_) AllReady.nil
            go_simp
            (go_at_call 56; (with_reducible refine (EN10.out _ (Ix3.out)).mono ?_); rintro e x4 ⟨m, v1, rfl, hv1, hv2, hi, hg⟩; have HVV : Hid _ := hv2; clear hv2; have Ix4 : Hid (LI w q (.slice av l.length cv) l x4) := hi; have Hx4 : Hid (HAt w (x2.heap.size) x4) := HAt.grow (Hx3.out) hg hq; clear hi hg)
            (try dsimp only)
            refine hK' _ _ ?_
            clear hK' K'
            refine wpAny_take (i := 11) (v := ?_) rfl (by kernel_rfl) (by kernel_rfl) (by kernel_rfl) (fun _ _ _ h => h) (Or.inl ⟨by kernel_rfl, ?_⟩) ?_
            rotate_left
            · (intro w'; go_simp; (try with_reducible rfl))
            refine wpAny_ready (rs := [13]) (by kernel_rfl) (by simp) ?_
            refine AllReady.cons (by simp only [List.getElem?_toArray, List.getElem?_cons_succ, List.getElem?_cons_zero]; rfl) (fun K' hK' => ?_) AllReady.nil
            go_simp
            (go_at_call 56; (with_reducible refine (EN50.out _ (Ix4.out)).mono ?_); rintro e x5 ⟨tm, rfl, hk, hi, hg⟩; have HTM : Hid (0 ≤ tm ∧ tm ≤ 1000) := hk; clear hk; have Ix5 : Hid (LI w q (.slice av l.length cv) l x5) := hi; have Hx5 : Hid (HAt w (x2.heap.size) x5) := HAt.grow (Hx4.out) hg hq; clear hi hg)
            (try dsimp only)
            refine hK' _ _ ?_
            clear hK' K'
            refine wpAny_ready (rs := [14]) (by kernel_rfl) (by simp) ?_
            refine AllReady.cons (by simp only [List.getElem?_toArray, List.getElem?_cons_succ, List.getElem?_cons_zero]; rfl) (fun K' hK' => ?_) AllReady.nil
            go_simp
            (go_at_call 10; (with_reducible refine (EH.out s ky lg v1 _ tm _ (Ix5.out) HSS.out HKY.out HSL.out (HVV.out _ (Ix5.out)) HTM.out).mono ?_); rintro e x6 ⟨hx, a, b, c, d, rfl, hin, hfew, hi, hg⟩; have HX : Hid (hx.In (.slice a hx.el.length c) (.slice b hx.pl.length d) x6 x6.heap.size ∧ hx.Few ∧ 0 ≤ hx.size ∧ hx.size ≤ 100) := ⟨hin, hfew⟩; clear hin hfew; have Ix6 : Hid (LI w q (.slice av l.length cv) l x6) := hi; have Hx6 : Hid (HAt w (x2.heap.size) x6) := HAt.grow (Hx5.out) hg hq; clear hi hg)
            (try dsimp only)
            refine hK' _ _ ?_
            clear hK' K'
            have LASTNEW : Hid _ := HdAt.fresh HX.out Ix6.out
            have LASTOLD : Hid _ := HdAt.stored HX.out Ix6.out
            refine wpAny_ready (rs := [16]) (by kernel_rfl) (by simp) ?_
            refine AllReady.cons (by simp only [List.getElem?_toArray, List.getElem?_cons_succ, List.getElem?_cons_zero]; rfl) (fun K' hK' => ?_) AllReady.nil
            obtain ⟨⟨c0, c1, c2, c3, c4, c5, c6⟩, f0, f1, f2, f3, f4, f5, f6⟩ := HAt.cells (Hx6.out)
            go_simp
            refine hK' _ _ ?_
            clear hK' K'
            refine wpAny_done (by kernel_rfl) ?_ _
            go_simp
            refine hK _ _ (Met.intro (hJ _ _ ?_))
            (repeat apply Exists.intro)
            refine ⟨?rel, rfl⟩
            case rel => exact LASTOLD.out _ (Hx6.out)
          refine AllReady.cons (by simp only [List.getElem?_toArray, List.getElem?_cons_succ, List.getElem?_cons_zero]; rfl) (fun K' hK' => ?_) AllReady.nil
          go_simp
          refine hK' _ _ ?_
          clear hK' K'
          refine wpAny_ready (rs := [4]) (by kernel_rfl) (by simp) ?_
          refine AllReady.cons (by simp only [List.getElem?_toArray, List.getElem?_cons_succ, List.getElem?_cons_zero]; rfl) (fun K' hK' => ?_) AllReady.nil
          go_simp
          (go_at_call 56; (with_reducible refine (EN4.out _ (LI.alloc (LI.alloc (Ix1.out) _) _)).mono ?_); rintro e x2 ⟨ky, rfl, hk, hi, hg⟩; have HKY : Hid (0 ≤ ky ∧ ky ≤ 3) := hk; clear hk; have Ix2 : Hid (LI w q (.slice av l.length cv) l x2) := hi; have Bx2 : Hid (C5 q logL (x1.heap.size) x2) := C5.grow (C5.alloc (C5.ofLogs (Ix1.out).qlt rfl) _) hg; have Hx2 : Hid (HAt w (x1.heap.size + 1) x2) := HAt.grow (HAt.new (LI.alloc (Ix1.out) _) (by simp)) hg hq; clear hi hg)
          (try dsimp only)
          refine hK' _ _ ?_
          clear hK' K'
          refine wpAny_ready (rs := [7]) (by kernel_rfl) (by simp) ?_
          refine AllReady.cons (by simp only [List.getElem?_toArray, List.getElem?_cons_succ, List.getElem?_cons_zero]; rfl) (fun K' hK' => ?_) AllReady.nil
          go_simp
          (go_at_call 57; (with_reducible refine (EPl.out (x1.heap.size) _ (Ix2.out) (Bx2.out)).mono ?_); rintro e x3 ⟨lg, rfl, hs, hi, hg⟩; have HSL : Hid (lg.size ≤ 5) := hs; clear hs; have Ix3 : Hid (LI w q (.slice av l.length cv) l x3) := hi; have Hx3 : Hid (HAt w (x1.heap.size + 1) x3) := HAt.grow (Hx2.out) hg hq; clear hi hg)
          (try dsimp only)
          refine hK' _ _ ?_
          clear hK' K'
          refine wpAny_ready (rs := [10]) (by kernel_rfl) (by simp) ?_
          refine AllReady.cons (by simp only [List.getElem?_toArray, List.getElem?_cons_succ, List.getElem?_cons_zero]; rfl) (fun K' hK' => ?_) AllReady.nil
          go_simp
          (go_at_call 56; (with_reducible refine (EN10.out _ (Ix3.out)).mono ?_); rintro e x4 ⟨m, v1, rfl, hv1, hv2, hi, hg⟩; have HVV : Hid _ := hv2; clear hv2; have Ix4 : Hid (LI w q (.slice av l.length cv) l x4) := hi; have Hx4 : Hid (HAt w (x1.heap.size + 1) x4) := HAt.grow (Hx3.out) hg hq; clear hi hg)
          (try dsimp only)
          refine hK' _ _ ?_
          clear hK' K'
          refine wpAny_take (i := 11) (v := ?_) rfl (by kernel_rfl) (by kernel_rfl) (by kernel_rfl) (fun _ _ _ h => h) (Or.inl ⟨by kernel_rfl, ?_⟩) ?_
          rotate_left
          · (intro w'; go_simp; (try with_reducible rfl))
          refine wpAny_ready (rs := [13]) (by kernel_rfl) (by simp) ?_
          refine AllReady.cons (by simp only [List.getElem?_toArray, List.getElem?_cons_succ, List.getElem?_cons_zero]; rfl) (fun K' hK' => ?_) AllReady.nil
          go_simp
          (go_at_call 56; (with_reducible refine (EN50.out _ (Ix4.out)).mono ?_); rintro e x5 ⟨tm, rfl, hk, hi, hg⟩; have HTM : Hid (0 ≤ tm ∧ tm ≤ 1000) := hk; clear hk; have Ix5 : Hid (LI w q (.slice av l.length cv) l x5) := hi; have Hx5 : Hid (HAt w (x1.heap.size + 1) x5) := HAt.grow (Hx4.out) hg hq; clear hi hg)
          (try dsimp only)
          refine hK' _ _ ?_
          clear hK' K'
          refine wpAny_ready (rs := [14]) (by kernel_rfl) (by simp) ?_
          refine AllReady.cons (by simp only [List.getElem?_toArray, List.getElem?_cons_succ, List.getElem?_cons_zero]; rfl) (fun K' hK' => ?_) AllReady.nil
          go_simp
          (go_at_call 10; (with_reducible refine (EH.out s ky lg v1 _ tm _ (Ix5.out) HSS.out HKY.out HSL.out (HVV.out _ (Ix5.out)) HTM.out).mono ?_); rintro e x6 ⟨hx, a, b, c, d, rfl, hin, hfew, hi, hg⟩; have HX : Hid (hx.In (.slice a hx.el.length c) (.slice b hx.pl.length d) x6 x6.heap.size ∧ hx.Few ∧ 0 ≤ hx.size ∧ hx.size ≤ 100) := ⟨hin, hfew⟩; clear hin hfew; have Ix6 : Hid (LI w q (.slice av l.length cv) l x6) := hi; have Hx6 : Hid (HAt w (x1.heap.size + 1) x6) := HAt.grow (Hx5.out) hg hq; clear hi hg)
          (try dsimp only)
          refine hK' _ _ ?_
          clear hK' K'
          have LASTNEW : Hid _ := HdAt.fresh HX.out Ix6.out
          have LASTOLD : Hid _ := HdAt.stored HX.out Ix6.out
          refine wpAny_ready (rs := [16]) (by kernel_rfl) (by simp) ?_
          refine AllReady.cons (by simp only [List.getElem?_toArray, List.getElem?_cons_succ, List.getElem?_cons_zero]; rfl) (fun K' hK' => ?_) AllReady.nil
          obtain ⟨⟨c0, c1, c2, c3, c4, c5, c6⟩, f0, f1, f2, f3, f4, f5, f6⟩ := HAt.cells (Hx6.out)
          go_simp
          refine hK' _ _ ?_
          clear hK' K'
          refine wpAny_done (by kernel_rfl) ?_ _
          go_simp
          refine hK _ _ (Met.intro (hJ _ _ ?_))
          (repeat apply Exists.intro)
          refine ⟨?rel, rfl⟩
          case rel => exact LASTOLD.out _ (Hx6.out)
        refine AllReady.cons (by simp only [List.getElem?_toArray, List.getElem?_cons_succ, List.getElem?_cons_zero]; rfl) (fun K' hK' => ?_) AllReady.nil
        go_simp
        refine hK' _ _ ?_
        clear hK' K'
        refine wpAny_ready (rs := [4, 6]) (by kernel_rfl) (by simp) ?_
        refine AllReady.cons (by simp only [List.getElem?_toArray, List.getElem?_cons_succ, List.getElem?_cons_zero]; rfl) (fun K' hK' => ?_) ?_
        · go_simp
          (go_at_call 56; (with_reducible refine (EN4.out _ (LI.alloc (Ix1.out) _)).mono ?_); rintro e x2 ⟨ky, rfl, hk, hi, hg⟩; have HKY : Hid (0 ≤ ky ∧ ky ≤ 3) := hk; clear hk; have Ix2 : Hid (LI w q (.slice av l.length cv) l x2) := hi; have Hx2 : Hid (HAt w (x1.heap.size) x2) := HAt.grow (HAt.new (Ix1.out) rfl) hg hq; clear hi hg)
          (try dsimp only)
          refine hK' _ _ ?_
          clear hK' K'
          refine wpAny_ready (rs := [6]) (by kernel_rfl) (by simp) ?_
          refine AllReady.cons (by simp only [List.getElem?_toArray, List.getElem?_cons_succ, List.getElem?_cons_zero]; rfl) (fun K' hK' => ?_) AllReady.nil
          go_simp
          refine hK' _ _ ?_
          clear hK' K'
          refine wpAny_ready (rs := [7]) (by kernel_rfl) (by simp) ?_
          refine AllReady.cons (by simp only [List.getElem?_toArray, List.getElem?_cons_succ, List.getElem?_cons_zero]; rfl) (fun K' hK' => ?_) AllReady.nil
          go_simp
          (go_at_call 57; (with_reducible refine (EPl.out (x2.heap.size) _ (LI.alloc (Ix2.out) _) (C5.ofLogs (Ix2.out).qlt rfl)).mono ?_); rintro e x3 ⟨lg, rfl, hs, hi, hg⟩; have HSL : Hid (lg.size ≤ 5) := hs; clear hs; have Ix3 : Hid (LI w q (.slice av l.length cv) l x3) := hi; have Hx3 : Hid (HAt w (x1.heap.size) x3) := HAt.grow (HAt.alloc (Hx2.out) _) hg hq; clear hi hg)
          (try dsimp only)
          refine hK' _ _ ?_
          clear hK' K'
          refine wpAny_ready (rs := [10]) (by kernel_rfl) (by simp) ?_
          refine AllReady.cons (by simp only [List.getElem?_toArray, List.getElem?_cons_succ, List.getElem?_cons_zero]; rfl) (fun K' hK' => ?_) AllReady.nil
          go_simp
          (go_at_call 56; (with_reducible refine (EN10.out _ (Ix3.out)).mono ?_); rintro e x4 ⟨m, v1, rfl, hv1, hv2, hi, hg⟩; have HVV : Hid _ := hv2; clear hv2; have Ix4 : Hid (LI w q (.slice av l.length cv) l x4) := hi; have Hx4 : Hid (HAt w (x1.heap.size) x4) := HAt.grow (Hx3.out) hg hq; clear hi hg)
          (try dsimp only)
          refine hK' _ _ ?_
          clear hK' K'
          refine wpAny_take (i := 11) (v := ?_) rfl (by kernel_rfl) (by kernel_rfl) (by kernel_rfl) (fun _ _ _ h => h) (Or.inl ⟨by kernel_rfl, ?_⟩) ?_
          rotate_left
          · (intro w'; go_simp; (try with_reducible rfl))
          refine wpAny_ready (rs := [13]) (by kernel_rfl) (by simp) ?_
          refine AllReady.cons (by simp only [List.getElem?_toArray, List.getElem?_cons_succ, List.getElem?_cons_zero]; rfl) (fun K' hK' => ?_) AllReady.nil
          go_simp
          (go_at_call 56; (with_reducible refine (EN50.out _ (Ix4.out)).mono ?_); rintro e x5 ⟨tm, rfl, hk, hi, hg⟩; have HTM : Hid (0 ≤ tm ∧ tm ≤ 1000) := hk; clear hk; have Ix5 : Hid (LI w q (.slice av l.length cv) l x5) := hi; have Hx5 : Hid (HAt w (x1.heap.size) x5) := HAt.grow (Hx4.out) hg hq; clear hi hg)
          (try dsimp only)
          refine hK' _ _ ?_
          clear hK' K'
          refine wpAny_ready (rs := [14]) (by kernel_rfl) (by simp) ?_
          refine AllReady.cons (by simp only [List.getElem?_toArray, List.getElem?_cons_succ, List.getElem?_cons_zero]; rfl) (fun K' hK' => ?_) AllReady.nil
          go_simp
          (go_at_call 10; (with_reducible refine (EH.out s ky lg v1 _ tm _ (Ix5.out) HSS.out HKY.out HSL.out (HVV.out _ (Ix5.out)) HTM.out).mono ?_); rintro e x6 ⟨hx, a, b, c, d, rfl, hin, hfew, hi, hg⟩; have HX : Hid (hx.In (.slice a hx.el.length c) (.slice b hx.pl.length d) x6 x6.heap.size ∧ hx.Few ∧ 0 ≤ hx.size ∧ hx.size ≤ 100) := ⟨hin, hfew⟩; clear hin hfew; have Ix6 : Hid (LI w q (.slice av l.length cv) l x6) := hi; have Hx6 : Hid (HAt w (x1.heap.size) x6) := HAt.grow (Hx5.out) hg hq; clear hi hg)
          (try dsimp only)
          refine hK' _ _ ?_
          clear hK' K'
          have LASTNEW : Hid _ := HdAt.fresh HX.out Ix6.out
          have LASTOLD : Hid _ := HdAt.stored HX.out Ix6.out
          refine wpAny_ready (rs := [16]) (by kernel_rfl) (by simp) ?_
          refine AllReady.cons (by simp only [List.getElem?_toArray, List.getElem?_cons_succ, List.getElem?_cons_zero]; rfl) (fun K' hK' => ?_) AllReady.nil
          obtain ⟨⟨c0, c1, c2, c3, c4, c5, c6⟩, f0, f1, f2, f3, f4, f5, f6⟩ := HAt.cells (Hx6.out)
          go_simp
          refine hK' _ _ ?_
          clear hK' K'
          refine wpAny_done (by kernel_rfl) ?_ _
          go_simp
          refine hK _ _ (Met.intro (hJ _ _ ?_))
          (repeat apply Exists.intro)
          refine ⟨?rel, rfl⟩
          case rel => exact LASTOLD.out _ (Hx6.out)
        refine AllReady.cons (by simp only [List.getElem?_toArray, List.getElem?_cons_succ, List.getElem?_cons_zero]; rfl) (fun K' hK' => ?_) AllReady.nil
        go_simp
        refine hK' _ _ ?_
        clear hK' K'
        refine wpAny_ready (rs := [4]) (by kernel_rfl) (by simp) ?_
        refine AllReady.cons (by simp only [List.getElem?_toArray, List.getElem?_cons_succ, List.getElem?_cons_zero]; rfl) (fun K' hK' => ?_) AllReady.nil
        go_simp
        (go_at_call 56; (with_reducible refine (EN4.out _ (LI.alloc (LI.alloc (Ix1.out) _) _)).mono ?_); rintro e x2 ⟨ky, rfl, hk, hi, hg⟩; have HKY : Hid (0 ≤ ky ∧ ky ≤ 3) := hk; clear hk; have Ix2 : Hid (LI w q (.slice av l.length cv) l x2) := hi; have Bx2 : Hid (C5 q logL (x1.heap.size + 1) x2) := C5.grow (C5.ofLogs (LI.alloc (Ix1.out) _).qlt (by simp)) hg; have Hx2 : Hid (HAt w (x1.heap.size) x2) := HAt.grow (HAt.alloc (HAt.new (Ix1.out) rfl) _) hg hq; clear hi hg)
        (try dsimp only)
        refine hK' _ _ ?_
        clear hK' K'
        refine wpAny_ready (rs := [7]) (by kernel_rfl) (by simp) ?_
        refine AllReady.cons (by simp only [List.getElem?_toArray, List.getElem?_cons_succ, List.getElem?_cons_zero]; rfl) (fun K' hK' => ?_) AllReady.nil
        go_simp
        (go_at_call 57; (with_reducible refine (EPl.out (x1.heap.size + 1) _ (Ix2.out) (Bx2.out)).mono ?_); rintro e x3 ⟨lg, rfl, hs, hi, hg⟩; have HSL : Hid (lg.size ≤ 5) := hs; clear hs; have Ix3 : Hid (LI w q (.slice av l.length cv) l x3) := hi; have Hx3 : Hid (HAt w (x1.heap.size) x3) := HAt.grow (Hx2.out) hg hq; clear hi hg)
        (try dsimp only)
        refine hK' _ _ ?_
        clear hK' K'
        refine wpAny_ready (rs := [10]) (by kernel_rfl) (by simp) ?_
        refine AllReady.cons (by simp only [List.getElem?_toArray, List.getElem?_cons_succ, List.getElem?_cons_zero]; rfl) (fun K' hK' => ?_) AllReady.nil
        go_simp
        (go_at_call 56; (with_reducible refine (EN10.out _ (Ix3.out)).mono ?_); rintro e x4 ⟨m, v1, rfl, hv1, hv2, hi, hg⟩; have HVV : Hid _ := hv2; clear hv2; have Ix4 : Hid (LI w q (.slice av l.length cv) l x4) := hi; have Hx4 : Hid (HAt w (x1.heap.size) x4) := HAt.grow (Hx3.out) hg hq; clear hi hg)
        (try dsimp only)
        refine hK' _ _ ?_
        clear hK' K'
        refine wpAny_take (i := 11) (v := ?_) rfl (by kernel_rfl) (by kernel_rfl) (by kernel_rfl) (fun _ _ _ h => h) (Or.inl ⟨by kernel_rfl, ?_⟩) ?_
        rotate_left
        · (intro w'; go_simp; (try with_reducible rfl))
        refine wpAny_ready (rs := [13]) (by kernel_rfl) (by simp) ?_
        refine AllReady.cons (by simp only [List.getElem?_toArray, List.getElem?_cons_succ, List.getElem?_cons_zero]; rfl) (fun K' hK' => ?_) AllReady.nil
        go_simp
        (go_at_call 56; (with_reducible refine (EN50.out _ (Ix4.out)).mono ?_); rintro e x5 ⟨tm, rfl, hk, hi, hg⟩; have HTM : Hid (0 ≤ tm ∧ tm ≤ 1000) := hk; clear hk; have Ix5 : Hid (LI w q (.slice av l.length cv) l x5) := hi; have Hx5 : Hid (HAt w (x1.heap.size) x5) := HAt.grow (Hx4.out) hg hq; clear hi hg)
        (try dsimp only)
        refine hK' _ _ ?_
        clear hK' K'
        refine wpAny_ready (rs := [14]) (by kernel_rfl) (by simp) ?_
        refine AllReady.cons (by simp only [List.getElem?_toArray, List.getElem?_cons_succ, List.getElem?_cons_zero]; rfl) (fun K' hK' => ?_) AllReady.nil
        go_simp
        (go_at_call 10; (with_reducible refine (EH.out s ky lg v1 _ tm _ (Ix5.out) HSS.out HKY.out HSL.out (HVV.out _ (Ix5.out)) HTM.out).mono ?_); rintro e x6 ⟨hx, a, b, c, d, rfl, hin, hfew, hi, hg⟩; have HX : Hid (hx.In (.slice a hx.el.length c) (.slice b hx.pl.length d) x6 x6.heap.size ∧ hx.Few ∧ 0 ≤ hx.size ∧ hx.size ≤ 100) := ⟨hin, hfew⟩; clear hin hfew; have Ix6 : Hid (LI w q (.slice av l.length cv) l x6) := hi; have Hx6 : Hid (HAt w (x1.heap.size) x6) := HAt.grow (Hx5.out) hg hq; clear hi hg)
        (try dsimp only)
        refine hK' _ _ ?_
        clear hK' K'
        have LASTNEW : Hid _ := HdAt.fresh HX.out Ix6.out
        have LASTOLD : Hid _ := HdAt.stored HX.out Ix6.out
        refine wpAny_ready (rs := [16]) (by kernel_rfl) (by simp) ?_
        refine AllReady.cons (by simp only [List.getElem?_toArray, List.getElem?_cons_succ, List.getElem?_cons_zero]; rfl) (fun K' hK' => ?_) AllReady.nil
        obtain ⟨⟨c0, c1, c2, c3, c4, c5, c6⟩, f0, f1, f2, f3, f4, f5, f6⟩ := HAt.cells (Hx6.out)
        go_simp
        refine hK' _ _ ?_
        clear hK' K'
        refine wpAny_done (by kernel_rfl) ?_ _
        go_simp
        refine hK _ _ (Met.intro (hJ _ _ ?_))
        (repeat apply Exists.intro)
        refine ⟨?rel, rfl⟩
        case rel => exact LASTOLD.out _ (Hx6.out)
      refine AllReady.cons (by simp only [List.getElem?_toArray, List.getElem?_cons_succ, List.getElem?_cons_zero]; rfl) (fun K' hK' => ?_) ?_
      · go_simp
        refine hK' _ _ ?_
        clear hK' K'
        refine wpAny_ready (rs := [2, 15]) (by kernel_rfl) (by simp) ?_
        refine AllReady.cons (by simp only [List.getElem?_toArray, List.getElem?_cons_succ, List.getElem?_cons_zero]; rfl) (fun K' hK' => ?_) ?_
        · go_simp
          (go_at_call 57; (with_reducible refine (EPs.out (w1.heap.size) _ (LI.drew (LI.alloc (LI.alloc (I1.out) _) _)) (C5.drew (C5.alloc (C5.ofSeeds (I1.out).qlt rfl) _))).mono ?_); rintro e x1 ⟨s, rfl, hs, hi, hg⟩; have HSS : Hid (s.size ≤ 5) := hs; clear hs; have Ix1 : Hid (LI w q (.slice av l.length cv) l x1) := hi; have Bx1 : Hid (C5 q logL (w1.heap.size + 1) x1) := C5.grow (C5.drew (C5.ofLogs (LI.alloc (I1.out) _).qlt (by simp))) hg; clear hi hg)
          (try dsimp only)
          refine hK' _ _ ?_
          clear hK' K'
          refine wpAny_ready (rs := [4, 15]) (by kernel_rfl) (by simp) ?_
          refine AllReady.cons (by simp only [List.getElem?_toArray, List.getElem?_cons_succ, List.getElem?_cons_zero]; rfl) (fun K' hK' => ?_) ?_
          · go_simp
            (go_at_call 56; (with_reducible refine (EN4.out _ (Ix1.out)).mono ?_); rintro e x2 ⟨ky, rfl, hk, hi, hg⟩; have HKY : Hid (0 ≤ ky ∧ ky ≤ 3) := hk; clear hk; have Ix2 : Hid (LI w q (.slice av l.length cv) l x2) := hi; have Bx2 : Hid (C5 q logL (w1.heap.size + 1) x2) := C5.grow (Bx1.out) hg; clear hi hg)
            (try dsimp only)
            refine hK' _ _ ?_
            clear hK' K'
            refine wpAny_ready (rs := [7, 15]) (by kernel_rfl) (by simp) ?_
            refine AllReady.cons (by simp only [List.getElem?_toArray, List.getElem?_cons_succ, List.getElem?_cons_zero]; rfl) (fun K' hK' => ?_) ?_
            · go_simp
              (go_at_call 57; (with_reducible refine (EPl.out (w1.heap.size + 1) _ (Ix2.out) (Bx2.out)).mono ?_); rintro e x3 ⟨lg, rfl, hs, hi, hg⟩; have HSL : Hid (lg.size ≤ 5) := hs; clear hs; have Ix3 : Hid (LI w q (.slice av l.length cv) l x3) := hi; clear hi hg)
              (try dsimp only)
              refine hK' _ _ ?_
              clear hK' K'
              refine wpAny_ready (rs := [10, 15]) (by kernel_rfl) (by simp) ?_
              refine AllReady.cons (by simp only [List.getElem?_toArray, List.getElem?_cons_succ, List.getElem?_cons_zero]; rfl) (fun K' hK' => ?_) ?_
              · go_simp
                (go_at_call 56; (with_reducible refine (EN10.out _ (Ix3.out)).mono ?_); rintro e x4 ⟨m, v1, rfl, hv1, hv2, hi, hg⟩; have HVV : Hid _ := hv2; clear hv2; have Ix4 : Hid (LI w q (.slice av l.length cv) l x4) := hi; clear hi hg)
                (try dsimp only)
                refine hK' _ _ ?_
                clear hK' K'
                refine wpAny_take (i := 11) (v := ?_) rfl (by kernel_rfl) (by kernel_rfl) (by kernel_rfl) (fun _ _ _ h => h) (Or.inl ⟨by kernel_rfl, ?_⟩) ?_
                rotate_left
                · (intro w'; go_simp; (try with_reducible rfl))
                refine wpAny_ready (rs := [13, 15]) (by kernel_rfl) (by simp) ?_
                refine AllReady.cons (by simp only [List.getElem?_toArray, List.getElem?_cons_succ, List.getElem?_cons_zero]; rfl) (fun K' hK' => ?_) ?_
                · go_simp
                  (go_at_call 56; (with_reducible refine (EN50.out _ (Ix4.out)).mono ?_); rintro e x5 ⟨tm, rfl, hk, hi, hg⟩; have HTM : Hid (0 ≤ tm ∧ tm ≤ 1000) := hk; clear hk; have Ix5 : Hid (LI w q (.slice av l.length cv) l x5) := hi; clear hi hg)
                  (try dsimp only)
                  refine hK' _ _ ?_
                  clear hK' K'
                  refine wpAny_ready (rs := [14, 15]) (by kernel_rfl) (by simp) ?_
                  refine AllReady.cons (by simp only [List.getElem?_toArray, List.getElem?_cons_succ, List.getElem?_cons_zero]; rfl) (fun K' hK' => ?_) ?_
                  · go_simp
                    (go_at_call 10; (with_reducible refine (EH.out s ky lg v1 _ tm _ (Ix5.out) HSS.out HKY.out HSL.out (HVV.out _ (Ix5.out)) HTM.out).mono ?_); rintro e x6 ⟨hx, a, b, c, d, rfl, hin, hfew, hi, hg⟩; have HX : Hid (hx.In (.slice a hx.el.length c) (.slice b hx.pl.length d) x6 x6.heap.size ∧ hx.Few ∧ 0 ≤ hx.size ∧ hx.size ≤ 100) := ⟨hin, hfew⟩; clear hin hfew; have Ix6 : Hid (LI w q (.slice av l.length cv) l x6) := hi; clear hi hg)
                    (try dsimp only)
                    refine hK' _ _ ?_
                    clear hK' K'
                    have LASTNEW : Hid _ := HdAt.fresh HX.out Ix6.out
                    have LASTOLD : Hid _ := HdAt.stored HX.out Ix6.out
                    refine wpAny_ready (rs := [15]) (by kernel_rfl) (by simp) ?_
                    refine AllReady.cons (by simp only [List.getElem?_toArray, List.getElem?_cons_succ, List.getElem?_cons_zero]; rfl) (fun K' hK' => ?_) AllReady.nil
                    go_simp
                    refine hK' _ _ ?_
                    clear hK' K'
                    refine wpAny_ready (rs := [16]) (by kernel_rfl) (by simp) ?_
                    refine AllReady.cons (by simp only [List.getElem?_toArray, List.getElem?_cons_succ, List.getElem?_cons_zero]; rfl) (fun K' hK' => ?_) AllReady.nil
                    go_simp
                    refine hK' _ _ ?_
                    clear hK' K'
                    refine wpAny_done (by kernel_rfl) ?_ _
                    go_simp
                    refine hK _ _ (Met.intro (hJ _ _ ?_))
                    (repeat apply Exists.intro)
                    refine ⟨?rel, rfl⟩
                    case rel => exact LASTNEW.out
                  refine AllReady.cons (by simp only [List.getElem?_toArray, List.getElem?_cons_succ, List.getElem?_cons_zero]; rfl) (fun K' hK' => ?_) AllReady.nil
                  go_simp
                  refine hK' _ _ ?_
                  clear hK' K'
                  refine wpAny_ready (rs := [14]) (by kernel_rfl) (by simp) ?_
                  refine AllReady.cons (by simp only [List.getElem?_toArray, List.getElem?_cons_succ, List.getElem?_cons_zero]; rfl) (fun K' hK' => ?_) AllReady.nil
                  go_simp
                  (go_at_call 10; (with_reducible refine (EH.out s ky lg v1 _ tm _ (LI.alloc (Ix5.out) _) HSS.out HKY.out HSL.out (HVV.out _ (LI.alloc (Ix5.out) _)) HTM.out).mono ?_); rintro e x6 ⟨hx, a, b, c, d, rfl, hin, hfew, hi, hg⟩; have HX : Hid (hx.In (.slice a hx.el.length c) (.slice b hx.pl.length d) x6 x6.heap.size ∧ hx.Few ∧ 0 ≤ hx.size ∧ hx.size ≤ 100) := ⟨hin, hfew⟩; clear hin hfew; have Ix6 : Hid (LI w q (.slice av l.length cv) l x6) := hi; have Hx6 : Hid (HAt w (x5.heap.size) x6) := HAt.grow (HAt.new (Ix5.out) rfl) hg hq; clear hi hg)
                  (try dsimp only)
                  refine hK' _ _ ?_
                  clear hK' K'
                  have LASTNEW : Hid _ := HdAt.fresh HX.out Ix6.out
                  have LASTOLD : Hid _ := HdAt.stored HX.out Ix6.out
                  refine wpAny_ready (rs := [16]) (by kernel_rfl) (by simp) ?_
                  refine AllReady.cons (by simp only [List.getElem?_toArray, List.getElem?_cons_succ, List.getElem?_cons_zero]; rfl) (fun K' hK' => ?_) AllReady.nil
                  obtain ⟨⟨c0, c1, c2, c3, c4, c5, c6⟩, f0, f1, f2, f3, f4, f5, f6⟩ := HAt.cells (Hx6.out)
                  go_simp
                  refine hK' _ _ ?_
                  clear hK' K'
                  refine wpAny_done (by kernel_rfl) ?_ _
                  go_simp
                  refine hK _ _ (Met.intro (hJ _ _ ?_))
                  (repeat apply Exists.intro)
                  refine ⟨?rel, rfl⟩
                  case rel => exact LASTOLD.out _ (Hx6.out)
                refine AllReady.cons (by simp only [List.getElem?_toArray, List.getElem?_cons_succ, List.getElem?_cons_zero]; rfl) (fun K' hK' => ?_) AllReady.nil
                go_simp
                refine hK' _ _ ?_
                clear hK' K'
                refine wpAny_ready (rs := [13]) (by kernel_rfl) (by simp) ?_
                refine AllReady.cons (by simp only [List.getElem?_toArray, List.getElem?_cons_succ, List.getElem?_cons_zero]; rfl) (fun K' hK' => ?_) AllReady.nil
                go_simp
                (go_at_call 56; (with_reducible refine (EN50.out _ (LI.alloc (Ix4.out) _)).mono ?_); rintro e x5 ⟨tm, rfl, hk, hi, hg⟩; have HTM : Hid (0 ≤ tm ∧ tm ≤ 1000) := hk; clear hk; have Ix5 : Hid (LI w q (.slice av l.length cv) l x5) := hi; have Hx5 : Hid (HAt w (x4.heap.size) x5) := HAt.grow (HAt.new (Ix4.out) rfl) hg hq; clear hi hg)
                (try dsimp only)
                refine hK' _ _ ?_
                clear hK' K'
                refine wpAny_ready (rs := [14]) (by kernel_rfl) (by simp) ?_
                refine AllReady.cons (by simp only [List.getElem?_toArray, List.getElem?_cons_succ, List.getElem?_cons_zero]; rfl) (fun K' hK' => ?_) AllReady.nil
                go_simp
                (go_at_call 10; (with_reducible refine (EH.out s ky lg v1 _ tm _ (Ix5.out) HSS.out HKY.out HSL.out (HVV.out _ (Ix5.out)) HTM.out).mono ?_); rintro e x6 ⟨hx, a, b, c, d, rfl, hin, hfew, hi, hg⟩; have HX : Hid (hx.In (.slice a hx.el.length c) (.slice b hx.pl.length d) x6 x6.heap.size ∧ hx.Few ∧ 0 ≤ hx.size ∧ hx.size ≤ 100) := ⟨hin, hfew⟩; clear hin hfew; have Ix6 : Hid (LI w q (.slice av l.length cv) l x6) := hi; have Hx6 : Hid (HAt w (x4.heap.size) x6) := HAt.grow (Hx5.out) hg hq; clear hi hg)
                (try dsimp only)
                refine hK' _ _ ?_
                clear hK' K'
                have LASTNEW : Hid _ := HdAt.fresh HX.out Ix6.out
                have LASTOLD : Hid _ := HdAt.stored HX.out Ix6.out
                refine wpAny_ready (rs := [16]) (by kernel_rfl) (by simp) ?_
                refine AllReady.cons (by simp only [List.getElem?_toArray, List.getElem?_cons_succ, List.getElem?_cons_zero]; rfl) (fun K' hK' => ?_) AllReady.nil
                obtain ⟨⟨c0, c1, c2, c3, c4, c5, c6⟩, f0, f1, f2, f3, f4, f5, f6⟩ := HAt.cells (Hx6.out)
                go_simp
                refine hK' _ _ ?_
                clear hK' K'
                refine wpAny_done (by kernel_rfl) ?_ _
                go_simp
                refine hK _ _ (Met.intro (hJ _ _ ?_))
                (repeat apply Exists.intro)
                refine ⟨?rel, rfl⟩
                case rel => exact LASTOLD.out _ (Hx6.out)
              refine AllReady.cons (by simp only [List.getElem?_toArray, List.getElem?_cons_succ, List.getElem?_cons_zero]; rfl) (fun K' hK' => ?_) AllReady.nil
              go_simp
              refine hK' _ _ ?_
              clear hK' K'
              refine wpAny_ready (rs := [10]) (by kernel_rfl) (by simp) ?_
              refine AllReady.cons (by simp only [List.getElem?_toArray, List.getElem?_cons_succ, List.getElem?_cons_zero]; rfl) (fun K' hK' => ?_) AllReady.nil
              go_simp
              (go_at_call 56; (with_reducible refine (EN10.out _ (LI.alloc (Ix3.out) _)).mono ?_); rintro e x4 ⟨m, v1, rfl, hv1, hv2, hi, hg⟩; have HVV : Hid _ := hv2; clear hv2; have Ix4 : Hid (LI w q (.slice av l.length cv) l x4) := hi; have Hx4 : Hid (HAt w (x3.heap.size) x4) := HAt.grow (HAt.new (Ix3.out) rfl) hg hq; clear hi hg)
              (try dsimp only)
              refine hK' _ _ ?_
              clear hK' K'
              refine wpAny_take (i := 11) (v := ?_) rfl (by kernel_rfl) (by kernel_rfl) (by kernel_rfl) (fun _ _ _ h => h) (Or.inl ⟨by kernel_rfl, ?_⟩) ?_
              rotate_left
              · (intro w'; go_simp; (try with_reducible rfl))
              refine wpAny_ready (rs := [13]) (by kernel_rfl) (by simp) ?_
              refine AllReady.cons (by simp only [List.getElem?_toArray, List.getElem?_cons_succ, List.getElem?_cons_zero]; rfl) (fun K' hK' => ?_) AllReady.nil
              go_simp
              (go_at_call 56; (with_reducible refine (EN50.out _ (Ix4.out)).mono ?_); rintro e x5 ⟨tm, rfl, hk, hi, hg⟩; have HTM : Hid (0 ≤ tm ∧ tm ≤ 1000) := hk; clear hk; have Ix5 : Hid (LI w q (.slice av l.length cv) l x5) := hi; have Hx5 : Hid (HAt w (x3.heap.size) x5) := HAt.grow (Hx4.out) hg hq; clear hi hg)
              (try dsimp only)
              refine hK' _ _ ?_
              clear hK' K'
              refine wpAny_ready (rs := [14]) (by kernel_rfl) (by simp) ?_
              refine AllReady.cons (by simp only [List.getElem?_toArray, List.getElem?_cons_succ, List.getElem?_cons_zero]; rfl) (fun K' hK' => ?_) AllReady.nil
              go_simp
              (go_at_call 10; (with_reducible refine (EH.out s ky lg v1 _ tm _ (Ix5.out) HSS.out HKY.out HSL.out (HVV.out _ (Ix5.out)) HTM.out).mono ?_); rintro e x6 ⟨hx, a, b, c, d, rfl, hin, hfew, hi, hg⟩; have HX : Hid (hx.In (.slice a hx.el.length c) (.slice b hx.pl.length d) x6 x6.heap.size ∧ hx.Few ∧ 0 ≤ hx.size ∧ hx.size ≤ 100) := ⟨hin, hfew⟩; clear hin hfew; have Ix6 : Hid (LI w q (.slice av l.length cv) l x6) := hi; have Hx6 : Hid (HAt w (x3.heap.size) x6) := HAt.grow (Hx5.out) hg hq; clear hi hg)
              (try dsimp only)
              refine hK' _ _ ?_
              clear hK' K'
              have LASTNEW : Hid _ := HdAt.fresh HX.out Ix6.out
              have LASTOLD : Hid _ := HdAt.stored HX.out Ix6.out
              refine wpAny_ready (rs := [16]) (by kernel_rfl) (by simp) ?_
              refine AllReady.cons (by simp only [List.getElem?_toArray, List.getElem?_cons_succ, List.getElem?_cons_zero]; rfl) (fun K' hK' => ?_) AllReady.nil
              obtain ⟨⟨c0, c1, c2, c3, c4, c5, c6⟩, f0, f1, f2, f3, f4, f5, f6⟩ := HAt.cells (Hx6.out)
              go_simp
              refine hK' _ _ ?_
              clear hK' K'
              refine wpAny_done (by kernel_rfl) ?_ _
              go_simp
              refine hK _ _ (Met.intro (hJ _ _ ?_))
              (repeat apply Exists.intro)
              refine ⟨?rel, rfl⟩
              case rel => exact LASTOLD.out _ (Hx6.out)
            refine AllReady.cons (by simp only [List.getElem?_toArray, List.getElem?_cons_succ, List.getElem?_cons_zero]; rfl) (fun K' hK' => ?_) AllReady.nil
            go_simp
            refine hK' _ _ ?_
            clear hK' K'
            refine wpAny_ready (rs := [7]) (by kernel_rfl) (by simp) ?_
            refine AllReady.cons (by simp only [List.getElem?_toArray, List.getElem?_cons_succ, List.getElem?_cons_zero]; rfl) (fun K' hK' => ?_) AllReady.nil
            go_simp
            (go_at_call 57; (with_reducible refine (EPl.out (w1.heap.size + 1) _ (LI.alloc (Ix2.out) _) (C5.alloc (Bx2.out) _)).mono ?_); rintro e x3 ⟨lg, rfl, hs, hi, hg⟩; have HSL : Hid (lg.size ≤ 5) := hs; clear hs; have Ix3 : Hid (LI w q (.slice av l.length cv) l x3) := hi; have Hx3 : Hid (HAt w (x2.heap.size) x3) := HAt.grow (HAt.new (Ix2.out) rfl) hg hq; clear hi hg)
            (try dsimp only)
            refine hK' _ _ ?_
            clear hK' K'
            refine wpAny_ready (rs := [10]) (by kernel_rfl) (by simp) ?_
            refine AllReady.cons (by simp only [List.getElem?_toArray, List.getElem?_cons_succ, List.getElem?_cons_zero]; rfl) (fun K' hK' => ?_) AllReady.nil
            go_simp
            (go_at_call 56; (with_reducible refine (EN10.out _ (Ix3.out)).mono ?_); rintro e x4 ⟨m, v1, rfl, hv1, hv2, hi, hg⟩; have HVV : Hid _ := hv2; clear hv2; have Ix4 : Hid (LI w q (.slice av l.length cv) l x4) := hi; have Hx4 : Hid (HAt w (x2.heap.size) x4) := HAt.grow (Hx3.out) hg hq; clear hi hg)
            (try dsimp only)
            refine hK' _ _ ?_
            clear hK' K'
            refine wpAny_take (i := 11) (v := ?_) rfl (by kernel_rfl) (by kernel_rfl) (by kernel_rfl) (fun _ _ _ h => h) (Or.inl ⟨by kernel_rfl, ?_⟩) ?_
            rotate_left
            · (intro w'; go_simp; (try with_reducible rfl))
            refine wpAny_ready (rs := [13]) (by kernel_rfl) (by simp) ?_
            refine AllReady.cons (by simp only [List.getElem?_toArray, List.getElem?_cons_succ, List.getElem?_cons_zero]; rfl) (fun K' hK' => ?_) AllReady.nil
            go_simp
            (go_at_call 56; (with_reducible refine (EN50.out _ (Ix4.out)).mono ?_); rintro e x5 ⟨tm, rfl, hk, hi, hg⟩; have HTM : Hid (0 ≤ tm ∧ tm ≤ 1000) := hk; clear hk; have Ix5 : Hid (LI w q (.slice av l.length cv) l x5) := hi; have Hx5 : Hid (HAt w (x2.heap.size) x5) := HAt.grow (Hx4.out) hg hq; clear hi hg)
            (try dsimp only)
            refine hK' _ _ ?_
            clear hK' K'
            refine wpAny_ready (rs := [14]) (by kernel_rfl) (by simp) ?_
            refine AllReady.cons (by simp only [List.getElem?_toArray, List.getElem?_cons_succ, List.getElem?_cons_zero]; rfl) (fun K' hK' => ?_) AllReady.nil
            go_simp
            (go_at_call 10; (with_reducible refine (EH.out s ky lg v1 _ tm _ (Ix5.out) HSS.out HKY.out HSL.out (HVV.out _ (Ix5.out)) HTM.out).mono ?_); rintro e x6 ⟨hx, a, b, c, d, rfl, hin, hfew, hi, hg⟩; have HX : Hid (hx.In (.slice a hx.el.length c) (.slice b hx.pl.length d) x6 x6.heap.size ∧ hx.Few ∧ 0 ≤ hx.size ∧ hx.size ≤ 100) := ⟨hin, hfew⟩; clear hin hfew; have Ix6 : Hid (LI w q (.slice av l.length cv) l x6) := hi; have Hx6 : Hid (HAt w (x2.heap.size) x6) := HAt.grow (Hx5.out) hg hq; clear hi hg)
            (try dsimp only)
            refine hK' _ _ ?_
            clear hK' K'
            have LASTNEW : Hid _ := HdAt.fresh HX.out Ix6.out
            have LASTOLD : Hid _ := HdAt.stored HX.out Ix6.out
            refine wpAny_ready (rs := [16]) (by kernel_rfl) (by simp) ?_
            refine AllReady.cons (by simp only [List.getElem?_toArray, List.getElem?_cons_succ, List.getElem?_cons_zero]; rfl) (fun K' hK' => ?_) AllReady.nil
            obtain ⟨⟨c0, c1, c2, c3, c4, c5, c6⟩, f0, f1, f2, f3, f4, f5, f6⟩ := HAt.cells (Hx6.out)
            go_simp
            refine hK' _ _ ?_
            clear hK' K'
            refine wpAny_done (by kernel_rfl) ?_ _
            go_simp
            refine hK _ _ (Met.intro (hJ _ _ ?_))
            (repeat apply Exists.intro)
            refine ⟨?rel, rfl⟩
            case rel => exact LASTOLD.out _ (Hx6.out)
          refine AllReady.cons (by simp only [List.getElem?_toArray, List.getElem?_cons_succ, List.getElem?_cons_zero]; rfl) (fun K' hK' => ?_) AllReady.nil
          go_simp
          refine hK' _ _ ?_
          clear hK' K'
          refine wpAny_ready (rs := [4]) (by kernel_rfl) (by simp) ?_
          refine AllReady.cons (by simp only [List.getElem?_toArray, List.getElem?_cons_succ, List.getElem?_cons_zero]; rfl) (fun K' hK' => ?_) AllReady.nil
          go_simp
          (go_at_call 56; (with_reducible refine (EN4.out _ (LI.alloc (Ix1.out) _)).mono ?_); rintro e x2 ⟨ky, rfl, hk, hi, hg⟩; have HKY : Hid (0 ≤ ky ∧ ky ≤ 3) := hk; clear hk; have Ix2 : Hid (LI w q (.slice av l.length cv) l x2) := hi; have Bx2 : Hid (C5 q logL (w1.heap.size + 1) x2) := C5.grow (C5.alloc (Bx1.out) _) hg; have Hx2 : Hid (HAt w (x1.heap.size) x2) := HAt.grow (HAt.new (Ix1.out) rfl) hg hq; clear hi hg)
          (try dsimp only)
          refine hK' _ _ ?_
          clear hK' K'
          refine wpAny_ready (rs := [7]) (by kernel_rfl) (by simp) ?_
          refine AllReady.cons (by simp only [List.getElem?_toArray, List.getElem?_cons_succ, List.getElem?_cons_zero]; rfl) (fun K' hK' => ?_) AllReady.nil
          go_simp
          (go_at_call 57; (with_reducible refine (EPl.out (w1.heap.size + 1) _ (Ix2.out) (Bx2.out)).mono ?_); rintro e x3 ⟨lg, rfl, hs, hi, hg⟩; have HSL : Hid (lg.size ≤ 5) := hs; clear hs; have Ix3 : Hid (LI w q (.slice av l.length cv) l x3) := hi; have Hx3 : Hid (HAt w (x1.heap.size) x3) := HAt.grow (Hx2.out) hg hq; clear hi hg)
          (try dsimp only)
          refine hK' _ _ ?_
          clear hK' K'
          refine wpAny_ready (rs := [10]) (by kernel_rfl) (by simp) ?_
          refine AllReady.cons (by simp only [List.getElem?_toArray, List.getElem?_cons_succ, List.getElem?_cons_zero]; rfl) (fun K' hK' => ?_) AllReady.nil
          go_simp
          (go_at_call 56; (with_reducible refine (EN10.out _ (Ix3.out)).mono ?_); rintro e x4 ⟨m, v1, rfl, hv1, hv2, hi, hg⟩; have HVV : Hid _ := hv2; clear hv2; have Ix4 : Hid (LI w q (.slice av l.length cv) l x4) := hi; have Hx4 : Hid (HAt w (x1.heap.size) x4) := HAt.grow (Hx3.out) hg hq; clear hi hg)
          (try dsimp only)
          refine hK' _ _ ?_
          clear hK' K'
          refine wpAny_take (i := 11) (v := ?_) rfl (by kernel_rfl) (by kernel_rfl) (by kernel_rfl) (fun _ _ _ h => h) (Or.inl ⟨by kernel_rfl, ?_⟩) ?_
          rotate_left
          · (intro w'; go_simp; (try with_reducible rfl))
          refine wpAny_ready (rs := [13]) (by kernel_rfl) (by simp) ?_
          refine AllReady.cons (by simp only [List.getElem?_toArray, List.getElem?_cons_succ, List.getElem?_cons_zero]; rfl) (fun K' hK' => ?_) AllReady.nil
          go_simp
          (go_at_call 56; (with_reducible refine (EN50.out _ (Ix4.out)).mono ?_); rintro e x5 ⟨tm, rfl, hk, hi, hg⟩; have HTM : Hid (0 ≤ tm ∧ tm ≤ 1000) := hk; clear hk; have Ix5 : Hid (LI w q (.slice av l.length cv) l x5) := hi; have Hx5 : Hid (HAt w (x1.heap.size) x5) := HAt.grow (Hx4.out) hg hq; clear hi hg)
          (try dsimp only)
          refine hK' _ _ ?_
          clear hK' K'
          refine wpAny_ready (rs := [14]) (by kernel_rfl) (by simp) ?_
          refine AllReady.cons (by simp only [List.getElem?_toArray, List.getElem?_cons_succ, List.getElem?_cons_zero]; rfl) (fun K' hK' => ?_) AllReady.nil
          go_simp
          (go_at_call 10; (with_reducible refine (EH.out s ky lg v1 _ tm _ (Ix5.out) HSS.out HKY.out HSL.out (HVV.out _ (Ix5.out)) HTM.out).mono ?_); rintro e x6 ⟨hx, a, b, c, d, rfl, hin, hfew, hi, hg⟩; have HX : Hid (hx.In (.slice a hx.el.length c) (.slice b hx.pl.length d) x6 x6.heap.size ∧ hx.Few ∧ 0 ≤ hx.size ∧ hx.size ≤ 100) := ⟨hin, hfew⟩; clear hin hfew; have Ix6 : Hid (LI w q (.slice av l.length cv) l x6) := hi; have Hx6 : Hid (HAt w (x1.heap.size) x6) := HAt.grow (Hx5.out) hg hq; clear hi hg)
          (try dsimp only)
          refine hK' _ _ ?_
          clear hK' K'
          have LASTNEW : Hid _ := HdAt.fresh HX.out Ix6.out
          have LASTOLD : Hid _ := HdAt.stored HX.out Ix6.out
          refine wpAny_ready (rs := [16]) (by kernel_rfl) (by simp) ?_
          refine AllReady.cons (by simp only [List.getElem?_toArray, List.getElem?_cons_succ, List.getElem?_cons_zero]; rfl) (fun K' hK' => ?_) AllReady.nil
          obtain ⟨⟨c0, c1, c2, c3, c4, c5, c6⟩, f0, f1, f2, f3, f4, f5, f6⟩ := HAt.cells (Hx6.out)
          go_simp
          refine hK' _ _ ?_
          clear hK' K'
          refine wpAny_done (by kernel_rfl) ?_ _
          go_simp
          refine hK _ _ (Met.intro (hJ _ _ ?_))
          (repeat apply Exists.intro)
          refine ⟨?rel, rfl⟩
          case rel => exact LASTOLD.out _ (Hx6.out)
        refine AllReady.cons (by simp only [List.getElem?_toArray, List.getElem?_cons_succ, List.getElem?_cons_zero]; rfl) (fun K' hK' => ?_) AllReady.nil
        go_simp
        refine hK' _ _ ?_
        clear hK' K'
        refine wpAny_ready (rs := [2]) (by kernel_rfl) (by simp) ?_
        refine AllReady.cons (by simp only [List.getElem?_toArray, List.getElem?_cons_succ, List.getElem?_cons_zero]; rfl) (fun K' hK' => ?_) AllReady.nil
        go_simp
        (go_at_call 57; (with_reducible refine (EPs.out (w1.heap.size) _ (LI.drew (LI.alloc (LI.alloc (LI.alloc (I1.out) _) _) _)) (C5.drew (C5.alloc (C5.alloc (C5.ofSeeds (I1.out).qlt rfl) _) _))).mono ?_); rintro e x1 ⟨s, rfl, hs, hi, hg⟩; have HSS : Hid (s.size ≤ 5) := hs; clear hs; have Ix1 : Hid (LI w q (.slice av l.length cv) l x1) := hi; have Bx1 : Hid (C5 q logL (w1.heap.size + 1) x1) := C5.grow (C5.drew (C5.alloc (C5.ofLogs (LI.alloc (I1.out) _).qlt (by simp)) _)) hg; have Hx1 : Hid (HAt w (w1.heap.size + 1 + 1) x1) := HAt.grow (HAt.drew (HAt.new (LI.alloc (LI.alloc (I1.out) _) _) (by simp))) hg hq; clear hi hg)
        (try dsimp only)
        refine hK' _ _ ?_
        clear hK' K'
        refine wpAny_ready (rs := [4]) (by kernel_rfl) (by simp) ?_
        refine AllReady.cons (by simp only [List.getElem?_toArray, List.getElem?_cons_succ, List.getElem?_cons_zero]; rfl) (fun K' hK' => ?_) AllReady.nil
        go_simp
        (go_at_call 56; (with_reducible refine (EN4.out _ (Ix1.out)).mono ?_); rintro e x2 ⟨ky, rfl, hk, hi, hg⟩; have HKY : Hid (0 ≤ ky ∧ ky ≤ 3) := hk; clear hk; have Ix2 : Hid (LI w q (.slice av l.length cv) l x2) := hi; have Bx2 : Hid (C5 q logL (w1.heap.size + 1) x2) := C5.grow (Bx1.out) hg; have Hx2 : Hid (HAt w (w1.heap.size + 1 + 1) x2) := HAt.grow (Hx1.out) hg hq; clear hi hg)
        (try dsimp only)
        refine hK' _ _ ?_
        clear hK' K'
        refine wpAny_ready (rs := [7]) (by kernel_rfl) (by simp) ?_
        refine AllReady.cons (by simp only [List.getElem?_toArray, List.getElem?_cons_succ, List.getElem?_cons_zero]; rfl) (fun K' hK' => ?_) AllReady.nil
        go_simp
        (go_at_call 57; (with_reducible refine (EPl.out (w1.heap.size + 1) _ (Ix2.out) (Bx2.out)).mono ?_); rintro e x3 ⟨lg, rfl, hs, hi, hg⟩; have HSL : Hid (lg.size ≤ 5) := hs; clear hs; have Ix3 : Hid (LI w q (.slice av l.length cv) l x3) := hi; have Hx3 : Hid (HAt w (w1.heap.size + 1 + 1) x3) := HAt.grow (Hx2.out) hg hq; clear hi hg)
        (try dsimp only)
        refine hK' _ _ ?_
        clear hK' K'
        refine wpAny_ready (rs := [10]) (by kernel_rfl) (by simp) ?_
        refine AllReady.cons (by simp only [List.getElem?_toArray, List.getElem?_cons_succ, List.getElem?_cons_zero]; rfl) (fun K' hK' => ?_) AllReady.nil
        go_simp
        (go_at_call 56; (with_reducible refine (EN10.out _ (Ix3.out)).mono ?_); rintro e x4 ⟨m, v1, rfl, hv1, hv2, hi, hg⟩; have HVV : Hid _ := hv2; clear hv2; have Ix4 : Hid (LI w q (.slice av l.length cv) l x4) := hi; have Hx4 : Hid (HAt w (w1.heap.size + 1 + 1) x4) := HAt.grow (Hx3.out) hg hq; clear hi hg)
        (try dsimp only)
        refine hK' _ _ ?_
        clear hK' K'
        refine wpAny_take (i := 11) (v := ?_) rfl (by kernel_rfl) (by kernel_rfl) (by kernel_rfl) (fun _ _ _ h => h) (Or.inl ⟨by kernel_rfl, ?_⟩) ?_
        rotate_left
        · (intro w'; go_simp; (try with_reducible rfl))
        refine wpAny_ready (rs := [13]) (by kernel_rfl) (by simp) ?_
        refine AllReady.cons (by simp only [List.getElem?_toArray, List.getElem?_cons_succ, List.getElem?_cons_zero]; rfl) (fun K' hK' => ?_) AllReady.nil
        go_simp
        (go_at_call 56; (with_reducible refine (EN50.out _ (Ix4.out)).mono ?_); rintro e x5 ⟨tm, rfl, hk, hi, hg⟩; have HTM : Hid (0 ≤ tm ∧ tm ≤ 1000) := hk; clear hk; have Ix5 : Hid (LI w q (.slice av l.length cv) l x5) := hi; have Hx5 : Hid (HAt w (w1.heap.size + 1 + 1) x5) := HAt.grow (Hx4.out) hg hq; clear hi hg)
        (try dsimp only)
        refine hK' _ _ ?_
        clear hK' K'
        refine wpAny_ready (rs := [14]) (by kernel_rfl) (by simp) ?_
        refine AllReady.cons (by simp only [List.getElem?_toArray, List.getElem?_cons_succ, List.getElem?_cons_zero]; rfl) (fun K' hK' => ?_) AllReady.nil
        go_simp
        (go_at_call 10; (with_reducible refine (EH.out s ky lg v1 _ tm _ (Ix5.out) HSS.out HKY.out HSL.out (HVV.out _ (Ix5.out)) HTM.out).mono ?_); rintro e x6 ⟨hx, a, b, c, d, rfl, hin, hfew, hi, hg⟩; have HX : Hid (hx.In (.slice a hx.el.length c) (.slice b hx.pl.length d) x6 x6.heap.size ∧ hx.Few ∧ 0 ≤ hx.size ∧ hx.size ≤ 100) := ⟨hin, hfew⟩; clear hin hfew; have Ix6 : Hid (LI w q (.slice av l.length cv) l x6) := hi; have Hx6 : Hid (HAt w (w1.heap.size + 1 + 1) x6) := HAt.grow (Hx5.out) hg hq; clear hi hg)
        (try dsimp only)
        refine hK' _ _ ?_
        clear hK' K'
        have LASTNEW : Hid _ := HdAt.fresh HX.out Ix6.out
        have LASTOLD : Hid _ := HdAt.stored HX.out Ix6.out
        refine wpAny_ready (rs := [16]) (by kernel_rfl) (by simp) ?_
        refine AllReady.cons (by simp only [List.getElem?_toArray, List.getElem?_cons_succ, List.getElem?_cons_zero]; rfl) (fun K' hK' => ?_) AllReady.nil
        obtain ⟨⟨c0, c1, c2, c3, c4, c5, c6⟩, f0, f1, f2, f3, f4, f5, f6⟩ := HAt.cells (Hx6.out)
        go_simp
        refine hK' _ _ ?_
        clear hK' K'
        refine wpAny_done (by kernel_rfl) ?_ _
        go_simp
        refine hK _ _ (Met.intro (hJ _ _ ?_))
        (repeat apply Exists.intro)
        refine ⟨?rel, rfl⟩
        case rel => exact LASTOLD.out _ (Hx6.out)
      refine AllReady.cons (by simp only [List.getElem?_toArray, List.getElem?_cons_succ, List.getElem?_cons_zero]; rfl) (fun K' hK' => ?_) AllReady.nil
      go_simp
      refine hK' _ _ ?_
      clear hK' K'
      refine wpAny_ready (rs := [2, 6]) (by kernel_rfl) (by simp) ?_
      refine AllReady.cons (by simp only [List.getElem?_toArray, List.getElem?_cons_succ, List.getElem?_cons_zero]; rfl) (fun K' hK' => ?_) ?_
      · go_simp
        (go_at_call 57; (with_reducible refine (EPs.out (w1.heap.size) _ (LI.drew (LI.alloc (LI.alloc (I1.out) _) _)) (C5.drew (C5.alloc (C5.ofSeeds (I1.out).qlt rfl) _))).mono ?_); rintro e x1 ⟨s, rfl, hs, hi, hg⟩; have HSS : Hid (s.size ≤ 5) := hs; clear hs; have Ix1 : Hid (LI w q (.slice av l.length cv) l x1) := hi; have Hx1 : Hid (HAt w (w1.heap.size + 1) x1) := HAt.grow (HAt.drew (HAt.new (LI.alloc (I1.out) _) (by simp))) hg hq; clear hi hg)
        (try dsimp only)
        refine hK' _ _ ?_
        clear hK' K'
        refine wpAny_ready (rs := [4, 6]) (by kernel_rfl) (by simp) ?_
        refine AllReady.cons (by simp only [List.getElem?_toArray, List.getElem?_cons_succ, List.getElem?_cons_zero]; rfl) (fun K' hK' => ?_) ?_
        · go_simp
          (go_at_call 56; (with_reducible refine (EN4.out _ (Ix1.out)).mono ?_); rintro e x2 ⟨ky, rfl, hk, hi, hg⟩; have HKY : Hid (0 ≤ ky ∧ ky ≤ 3) := hk; clear hk; have Ix2 : Hid (LI w q (.slice av l.length cv) l x2) := hi; have Hx2 : Hid (HAt w (w1.heap.size + 1) x2) := HAt.grow (Hx1.out) hg hq; clear hi hg)
          (try dsimp only)
          refine hK' _ _ ?_
          clear hK' K'
          refine wpAny_ready (rs := [6]) (by kernel_rfl) (by simp) ?_
          refine AllReady.cons (by simp only [List.getElem?_toArray, List.getElem?_cons_succ, List.getElem?_cons_zero]; rfl) (fun K' hK' => ?_) AllReady.nil
          go_simp
          refine hK' _ _ ?_
          clear hK' K'
          refine wpAny_ready (rs := [7]) (by kernel_rfl) (by simp) ?_
          refine AllReady.cons (by simp only [List.getElem?_toArray, List.getElem?_cons_succ, List.getElem?_cons_zero]; rfl) (fun K' hK' => ?_) AllReady.nil
          go_simp
          (go_at_call 57; (with_reducible refine (EPl.out (x2.heap.size) _ (LI.alloc (Ix2.out) _) (C5.ofLogs (Ix2.out).qlt rfl)).mono ?_); rintro e x3 ⟨lg, rfl, hs, hi, hg⟩; have HSL : Hid (lg.size ≤ 5) := hs; clear hs; have Ix3 : Hid (LI w q (.slice av l.length cv) l x3) := hi; have Hx3 : Hid (HAt w (w1.heap.size + 1) x3) := HAt.grow (HAt.alloc (Hx2.out) _) hg hq; clear hi hg)
          (try dsimp only)
          refine hK' _ _ ?_
          clear hK' K'
          refine wpAny_ready (rs := [10]) (by kernel_rfl) (by simp) ?_
          refine AllReady.cons (by simp only [List.getElem?_toArray, List.getElem?_cons_succ, List.getElem?_cons_zero]; rfl) (fun K' hK' => ?_) AllReady.nil
          go_simp
          (go_at_call 56; (with_reducible refine (EN10.out _ (Ix3.out)).mono ?_); rintro e x4 ⟨m, v1, rfl, hv1, hv2, hi, hg⟩; have HVV : Hid _ := hv2; clear hv2; have Ix4 : Hid (LI w q (.slice av l.length cv) l x4) := hi; have Hx4 : Hid (HAt w (w1.heap.size + 1) x4) := HAt.grow (Hx3.out) hg hq; clear hi hg)
          (try dsimp only)
          refine hK' _ _ ?_
          clear hK' K'
          refine wpAny_take (i := 11) (v := ?_) rfl (by kernel_rfl) (by kernel_rfl) (by kernel_rfl) (fun _ _ _ h => h) (Or.inl ⟨by kernel_rfl, ?_⟩) ?_
          rotate_left
          · (intro w'; go_simp; (try with_reducible rfl))
          refine wpAny_ready (rs := [13]) (by kernel_rfl) (by simp) ?_
          refine AllReady.cons (by simp only [List.getElem?_toArray, List.getElem?_cons_succ, List.getElem?_cons_zero]; rfl) (fun K' hK' => ?_) AllReady.nil
          go_simp
          (go_at_call 56; (with_reducible refine (EN50.out _ (Ix4.out)).mono ?_); rintro e x5 ⟨tm, rfl, hk, hi, hg⟩; have HTM : Hid (0 ≤ tm ∧ tm ≤ 1000) := hk; clear hk; have Ix5 : Hid (LI w q (.slice av l.length cv) l x5) := hi; have Hx5 : Hid (HAt w (w1.heap.size + 1) x5) := HAt.grow (Hx4.out) hg hq; clear hi hg)
          (try dsimp only)
          refine hK' _ _ ?_
          clear hK' K'
          refine wpAny_ready (rs := [14]) (by kernel_rfl) (by simp) ?_
          refine AllReady.cons (by simp only [List.getElem?_toArray, List.getElem?_cons_succ, List.getElem?_cons_zero]; rfl) (fun K' hK' => ?_) AllReady.nil
          go_simp
          (go_at_call 10; (with_reducible refine (EH.out s ky lg v1 _ tm _ (Ix5.out) HSS.out HKY.out HSL.out (HVV.out _ (Ix5.out)) HTM.out).mono ?_); rintro e x6 ⟨hx, a, b, c, d, rfl, hin, hfew, hi, hg⟩; have HX : Hid (hx.In (.slice a hx.el.length c) (.slice b hx.pl.length d) x6 x6.heap.size ∧ hx.Few ∧ 0 ≤ hx.size ∧ hx.size ≤ 100) := ⟨hin, hfew⟩; clear hin hfew; have Ix6 : Hid (LI w q (.slice av l.length cv) l x6) := hi; have Hx6 : Hid (HAt w (w1.heap.size + 1) x6) := HAt.grow (Hx5.out) hg hq; clear hi hg)
          (try dsimp only)
          refine hK' _ _ ?_
          clear hK' K'
          have LASTNEW : Hid _ := HdAt.fresh HX.out Ix6.out
          have LASTOLD : Hid _ := HdAt.stored HX.out Ix6.out
          refine wpAny_ready (rs := [16]) (by kernel_rfl) (by simp) ?_
          refine AllReady.cons (by simp only [List.getElem?_toArray, List.getElem?_cons_succ, List.getElem?_cons_zero]; rfl) (fun K' hK' => ?_) AllReady.nil
          obtain ⟨⟨c0, c1, c2, c3, c4, c5, c6⟩, f0, f1, f2, f3, f4, f5, f6⟩ := HAt.cells (Hx6.out)
          go_simp
          refine hK' _ _ ?_
          clear hK' K'
          refine wpAny_done (by kernel_rfl) ?_ _
          go_simp
          refine hK _ _ (Met.intro (hJ _ _ ?_))
          (repeat apply Exists.intro)
          refine ⟨?rel, rfl⟩
          case rel => exact LASTOLD.out _ (Hx6.out)
        refine AllReady.cons (by simp only [List.getElem?_toArray, List.getElem?_cons_succ, List.getElem?_cons_zero]; rfl) (fun K' hK' => ?_) AllReady.nil
        go_simp
        refine hK' _ _ ?_
        clear hK' K'
        refine wpAny_ready (rs := [4]) (by kernel_rfl) (by simp) ?_
        refine AllReady.cons (by simp only [List.getElem?_toArray, List.getElem?_cons_succ, List.getElem?_cons_zero]; rfl) (fun K' hK' => ?_) AllReady.nil
        go_simp
        (go_at_call 56; (with_reducible refine (EN4.out _ (LI.alloc (Ix1.out) _)).mono ?_); rintro e x2 ⟨ky, rfl, hk, hi, hg⟩; have HKY : Hid (0 ≤ ky ∧ ky ≤ 3) := hk; clear hk; have Ix2 : Hid (LI w q (.slice av l.length cv) l x2) := hi; have Bx2 : Hid (C5 q logL (x1.heap.size) x2) := C5.grow (C5.ofLogs (Ix1.out).qlt rfl) hg; have Hx2 : Hid (HAt w (w1.heap.size + 1) x2) := HAt.grow (HAt.alloc (Hx1.out) _) hg hq; clear hi hg)
        (try dsimp only)
        refine hK' _ _ ?_
        clear hK' K'
        refine wpAny_ready (rs := [7]) (by kernel_rfl) (by simp) ?_
        refine AllReady.cons (by simp only [List.getElem?_toArray, List.getElem?_cons_succ, List.getElem?_cons_zero]; rfl) (fun K' hK' => ?_) AllReady.nil
        go_simp
        (go_at_call 57; (with_reducible refine (EPl.out (x1.heap.size) _ (Ix2.out) (Bx2.out)).mono ?_); rintro e x3 ⟨lg, rfl, hs, hi, hg⟩; have HSL : Hid (lg.size ≤ 5) := hs; clear hs; have Ix3 : Hid (LI w q (.slice av l.length cv) l x3) := hi; have Hx3 : Hid (HAt w (w1.heap.size + 1) x3) := HAt.grow (Hx2.out) hg hq; clear hi hg)
        (try dsimp only)
        refine hK' _ _ ?_
        clear hK' K'
        refine wpAny_ready (rs := [10]) (by kernel_rfl) (by simp) ?_
        refine AllReady.cons (by simp only [List.getElem?_toArray, List.getElem?_cons_succ, List.getElem?_cons_zero]; rfl) (fun K' hK' => ?_) AllReady.nil
        go_simp
        (go_at_call 56; (with_reducible refine (EN10.out _ (Ix3.out)).mono ?_); rintro e x4 ⟨m, v1, rfl, hv1, hv2, hi, hg⟩; have HVV : Hid _ := hv2; clear hv2; have Ix4 : Hid (LI w q (.slice av l.length cv) l x4) := hi; have Hx4 : Hid (HAt w (w1.heap.size + 1) x4) := HAt.grow (Hx3.out) hg hq; clear hi hg)
        (try dsimp only)
        refine hK' _ _ ?_
        clear hK' K'
        refine wpAny_take (i := 11) (v := ?_) rfl (by kernel_rfl) (by kernel_rfl) (by kernel_rfl) (fun _ _ _ h => h) (Or.inl ⟨by kernel_rfl, ?_⟩) ?_
        rotate_left
        · (intro w'; go_simp; (try with_reducible rfl))
        refine wpAny_ready (rs := [13]) (by kernel_rfl) (by simp) ?_
        refine AllReady.cons (by simp only [List.getElem?_toArray, List.getElem?_cons_succ, List.getElem?_cons_zero]; rfl) (fun K' hK' => ?_) AllReady.nil
        go_simp
        (go_at_call 56; (with_reducible refine (EN50.out _ (Ix4.out)).mono ?_); rintro e x5 ⟨tm, rfl, hk, hi, hg⟩; have HTM : Hid (0 ≤ tm ∧ tm ≤ 1000) := hk; clear hk; have Ix5 : Hid (LI w q (.slice av l.length cv) l x5) := hi; have Hx5 : Hid (HAt w (w1.heap.size + 1) x5) := HAt.grow (Hx4.out) hg hq; clear hi hg)
        (try dsimp only)
        refine hK' _ _ ?_
        clear hK' K'
        refine wpAny_ready (rs := [14]) (by kernel_rfl) (by simp) ?_
        refine AllReady.cons (by simp only [List.getElem?_toArray, List.getElem?_cons_succ, List.getElem?_cons_zero]; rfl) (fun K' hK' => ?_) AllReady.nil
        go_simp
        (go_at_call 10; (with_reducible refine (EH.out s ky lg v1 _ tm _ (Ix5.out) HSS.out HKY.out HSL.out (HVV.out _ (Ix5.out)) HTM.out).mono ?_); rintro e x6 ⟨hx, a, b, c, d, rfl, hin, hfew, hi, hg⟩; have HX : Hid (hx.In (.slice a hx.el.length c) (.slice b hx.pl.length d) x6 x6.heap.size ∧ hx.Few ∧ 0 ≤ hx.size ∧ hx.size ≤ 100) := ⟨hin, hfew⟩; clear hin hfew; have Ix6 : Hid (LI w q (.slice av l.length cv) l x6) := hi; have Hx6 : Hid (HAt w (w1.heap.size + 1) x6) := HAt.grow (Hx5.out) hg hq; clear hi hg)
        (try dsimp only)
        refine hK' _ _ ?_
        clear hK' K'
        have LASTNEW : Hid _ := HdAt.fresh HX.out Ix6.out
        have LASTOLD : Hid _ := HdAt.stored HX.out Ix6.out
        refine wpAny_ready (rs := [16]) (by kernel_rfl) (by simp) ?_
        refine AllReady.cons (by simp only [List.getElem?_toArray, List.getElem?_cons_succ, List.getElem?_cons_zero]; rfl) (fun K' hK' => ?_) AllReady.nil
        obtain ⟨⟨c0, c1, c2, c3, c4, c5, c6⟩, f0, f1, f2, f3, f4, f5, f6⟩ := HAt.cells (Hx6.out)
        go_simp
        refine hK' _ _ ?_
        clear hK' K'
        refine wpAny_done (by kernel_rfl) ?_ _
        go_simp
        refine hK _ _ (Met.intro (hJ _ _ ?_))
        (repeat apply Exists.intro)
        refine ⟨?rel, rfl⟩
        case rel => exact LASTOLD.out _ (Hx6.out)
      refine AllReady.cons (by simp only [List.getElem?_toArray, List.getElem?_cons_succ, List.getElem?_cons_zero]; rfl) (fun K' hK' => ?_) AllReady.nil
      go_simp
      refine hK' _ _ ?_
      clear hK' K'
      refine wpAny_ready (rs := [2]) (by kernel_rfl) (by simp) ?_
      refine AllReady.cons (by simp only [List.getElem?_toArray, List.getElem?_cons_succ, List.getElem?_cons_zero]; rfl) (fun K' hK' => ?_) AllReady.nil
      go_simp
      (go_at_call 57; (with_reducible refine (EPs.out (w1.heap.size) _ (LI.drew (LI.alloc (LI.alloc (LI.alloc (I1.out) _) _) _)) (C5.drew (C5.alloc (C5.alloc (C5.ofSeeds (I1.out).qlt rfl) _) _))).mono ?_); rintro e x1 ⟨s, rfl, hs, hi, hg⟩; have HSS : Hid (s.size ≤ 5) := hs; clear hs; have Ix1 : Hid (LI w q (.slice av l.length cv) l x1) := hi; have Bx1 : Hid (C5 q logL (w1.heap.size + 1 + 1) x1) := C5.grow (C5.drew (C5.ofLogs (LI.alloc (LI.alloc (I1.out) _) _).qlt (by simp))) hg; have Hx1 : Hid (HAt w (w1.heap.size + 1) x1) := HAt.grow (HAt.drew (HAt.alloc (HAt.new (LI.alloc (I1.out) _) (by simp)) _)) hg hq; clear hi hg)
      (try dsimp only)
      refine hK' _ _ ?_
      clear hK' K'
      refine wpAny_ready (rs := [4]) (by kernel_rfl) (by simp) ?_
      refine AllReady.cons (by simp only [List.getElem?_toArray, List.getElem?_cons_succ, List.getElem?_cons_zero]; rfl) (fun K' hK' => ?_) AllReady.nil
      go_simp
      (go_at_call 56; (with_reducible refine (EN4.out _ (Ix1.out)).mono ?_); rintro e x2 ⟨ky, rfl, hk, hi, hg⟩; have HKY : Hid (0 ≤ ky ∧ ky ≤ 3) := hk; clear hk; have Ix2 : Hid (LI w q (.slice av l.length cv) l x2) := hi; have Bx2 : Hid (C5 q logL (w1.heap.size + 1 + 1) x2) := C5.grow (Bx1.out) hg; have Hx2 : Hid (HAt w (w1.heap.size + 1) x2) := HAt.grow (Hx1.out) hg hq; clear hi hg)
      (try dsimp only)
      refine hK' _ _ ?_
      clear hK' K'
      refine wpAny_ready (rs := [7]) (by kernel_rfl) (by simp) ?_
      refine AllReady.cons (by simp only [List.getElem?_toArray, List.getElem?_cons_succ, List.getElem?_cons_zero]; rfl) (fun K' hK' => ?_) AllReady.nil
      go_simp
      (go_at_call 57; (with_reducible refine (EPl.out (w1.heap.size + 1 + 1) _ (Ix2.out) (Bx2.out)).mono ?_); rintro e x3 ⟨lg, rfl, hs, hi, hg⟩; have HSL : Hid (lg.size ≤ 5) := hs; clear hs; have Ix3 : Hid (LI w q (.slice av l.length cv) l x3) := hi; have Hx3 : Hid (HAt w (w1.heap.size + 1) x3) := HAt.grow (Hx2.out) hg hq; clear hi hg)
      (try dsimp only)
      refine hK' _ _ ?_
      clear hK' K'
      refine wpAny_ready (rs := [10]) (by kernel_rfl) (by simp) ?_
      refine AllReady.cons (by simp only [List.getElem?_toArray, List.getElem?_cons_succ, List.getElem?_cons_zero]; rfl) (fun K' hK' => ?_) AllReady.nil
      go_simp
      (go_at_call 56; (with_reducible refine (EN10.out _ (Ix3.out)).mono ?_); rintro e x4 ⟨m, v1, rfl, hv1, hv2, hi, hg⟩; have HVV : Hid _ := hv2; clear hv2; have Ix4 : Hid (LI w q (.slice av l.length cv) l x4) := hi; have Hx4 : Hid (HAt w (w1.heap.size + 1) x4) := HAt.grow (Hx3.out) hg hq; clear hi hg)
      (try dsimp only)
      refine hK' _ _ ?_
      clear hK' K'
      refine wpAny_take (i := 11) (v := ?_) rfl (by kernel_rfl) (by kernel_rfl) (by kernel_rfl) (fun _ _ _ h => h) (Or.inl ⟨by kernel_rfl, ?_⟩) ?_
      rotate_left
      · (intro w'; go_simp; (try with_reducible rfl))
      refine wpAny_ready (rs := [13]) (by kernel_rfl) (by simp) ?_
      refine AllReady.cons (by simp only [List.getElem?_toArray, List.getElem?_cons_succ, List.getElem?_cons_zero]; rfl) (fun K' hK' => ?_) AllReady.nil
      go_simp
      (go_at_call 56; (with_reducible refine (EN50.out _ (Ix4.out)).mono ?_); rintro e x5 ⟨tm, rfl, hk, hi, hg⟩; have HTM : Hid (0 ≤ tm ∧ tm ≤ 1000) := hk; clear hk; have Ix5 : Hid (LI w q (.slice av l.length cv) l x5) := hi; have Hx5 : Hid (HAt w (w1.heap.size + 1) x5) := HAt.grow (Hx4.out) hg hq; clear hi hg)
      (try dsimp only)
      refine hK' _ _ ?_
      clear hK' K'
      refine wpAny_ready (rs := [14]) (by kernel_rfl) (by simp) ?_
      refine AllReady.cons (by simp only [List.getElem?_toArray, List.getElem?_cons_succ, List.getElem?_cons_zero]; rfl) (fun K' hK' => ?_) AllReady.nil
      go_simp
      (go_at_call 10; (with_reducible refine (EH.out s ky lg v1 _ tm _ (Ix5.out) HSS.out HKY.out HSL.out (HVV.out _ (Ix5.out)) HTM.out).mono ?_); rintro e x6 ⟨hx, a, b, c, d, rfl, hin, hfew, hi, hg⟩; have HX : Hid (hx.In (.slice a hx.el.length c) (.slice b hx.pl.length d) x6 x6.heap.size ∧ hx.Few ∧ 0 ≤ hx.size ∧ hx.size ≤ 100) := ⟨hin, hfew⟩; clear hin hfew; have Ix6 : Hid (LI w q (.slice av l.length cv) l x6) := hi; have Hx6 : Hid (HAt w (w1.heap.size + 1) x6) := HAt.grow (Hx5.out) hg hq; clear hi hg)
      (try dsimp only)
      refine hK' _ _ ?_
      clear hK' K'
      have LASTNEW : Hid _ := HdAt.fresh HX.out Ix6.out
      have LASTOLD : Hid _ := HdAt.stored HX.out Ix6.out
      refine wpAny_ready (rs := [16]) (by kernel_rfl) (by simp) ?_
      refine AllReady.cons (by simp only [List.getElem?_toArray, List.getElem?_cons_succ, List.getElem?_cons_zero]; rfl) (fun K' hK' => ?_) AllReady.nil
      obtain ⟨⟨c0, c1, c2, c3, c4, c5, c6⟩, f0, f1, f2, f3, f4, f5, f6⟩ := HAt.cells (Hx6.out)
      go_simp
      refine hK' _ _ ?_
      clear hK' K'
      refine wpAny_done (by kernel_rfl) ?_ _
      go_simp
      refine hK _ _ (Met.intro (hJ _ _ ?_))
      (repeat apply Exists.intro)
      refine ⟨?rel, rfl⟩
      case rel => exact LASTOLD.out _ (Hx6.out)
    refine AllReady.cons (by simp only [List.getElem?_toArray, List.getElem?_cons_succ, List.getElem?_cons_zero]; rfl) (fun K' hK' => ?_) ?_
    · go_simp
      refine hK' _ _ ?_
      clear hK' K'
      refine wpAny_ready (rs := [1, 15]) (by kernel_rfl) (by simp) ?_
      refine AllReady.cons (by simp only [List.getElem?_toArray, List.getElem?_cons_succ, List.getElem?_cons_zero]; rfl) (fun K' hK' => ?_) ?_
      · go_simp
        refine hK' _ _ ?_
        clear hK' K'
        refine wpAny_ready (rs := [2, 15]) (by kernel_rfl) (by simp) ?_
        refine AllReady.cons (by simp only [List.getElem?_toArray, List.getElem?_cons_succ, List.getElem?_cons_zero]; rfl) (fun K' hK' => ?_) ?_
        · go_simp
          (go_at_call 57; (with_reducible refine (EPs.out (w1.heap.size + 1) _ (LI.drew (LI.alloc (LI.alloc (I1.out) _) _)) (C5.drew (C5.ofSeeds (LI.alloc (I1.out) _).qlt (by simp)))).mono ?_); rintro e x1 ⟨s, rfl, hs, hi, hg⟩; have HSS : Hid (s.size ≤ 5) := hs; clear hs; have Ix1 : Hid (LI w q (.slice av l.length cv) l x1) := hi; have Bx1 : Hid (C5 q logL (w1.heap.size) x1) := C5.grow (C5.drew (C5.alloc (C5.ofLogs (I1.out).qlt rfl) _)) hg; clear hi hg)
          (try dsimp only)
          refine hK' _ _ ?_
          clear hK' K'
          refine wpAny_ready (rs := [4, 15]) (by kernel_rfl) (by simp) ?_
          refine AllReady.cons (by simp only [List.getElem?_toArray, List.getElem?_cons_succ, List.getElem?_cons_zero]; rfl) (fun K' hK' => ?_) ?_
          · go_simp
            (go_at_call 56; (with_reducible refine (EN4.out _ (Ix1.out)).mono ?_); rintro e x2 ⟨ky, rfl, hk, hi, hg⟩; have HKY : Hid (0 ≤ ky ∧ ky ≤ 3) := hk; clear hk; have Ix2 : Hid (LI w q (.slice av l.length cv) l x2) := hi; have Bx2 : Hid (C5 q logL (w1.heap.size) x2) := C5.grow (Bx1.out) hg; clear hi hg)
            (try dsimp only)
            refine hK' _ _ ?_
            clear hK' K'
            refine wpAny_ready (rs := [7, 15]) (by kernel_rfl) (by simp) ?_
            refine AllReady.cons (by simp only [List.getElem?_toArray, List.getElem?_cons_succ, List.getElem?_cons_zero]; rfl) (fun K' hK' => ?_) ?_
            · go_simp
              (go_at_call 57; (with_reducible refine (EPl.out (w1.heap.size) _ (Ix2.out) (Bx2.out)).mono ?_); rintro e x3 ⟨lg, rfl, hs, hi, hg⟩; have HSL : Hid (lg.size ≤ 5) := hs; clear hs; have Ix3 : Hid (LI w q (.slice av l.length cv) l x3) := hi; clear hi hg)
              (try dsimp only)
              refine hK' _ _ ?_
              clear hK' K'
              refine wpAny_ready (rs := [10, 15]) (by kernel_rfl) (by simp) ?_
              refine AllReady.cons (by simp only [List.getElem?_toArray, List.getElem?_cons_succ, List.getElem?_cons_zero]; rfl) (fun K' hK' => ?_) ?_
              · go_simp
                (go_at_call 56; (with_reducible refine (EN10.out _ (Ix3.out)).mono ?_); rintro e x4 ⟨m, v1, rfl, hv1, hv2, hi, hg⟩; have HVV : Hid _ := hv2; clear hv2; have Ix4 : Hid (LI w q (.slice av l.length cv) l x4) := hi; clear hi hg)
                (try dsimp only)
                refine hK' _ _ ?_
                clear hK' K'
                refine wpAny_take (i := 11) (v := ?_) rfl (by kernel_rfl) (by kernel_rfl) (by kernel_rfl) (fun _ _ _ h => h) (Or.inl ⟨by kernel_rfl, ?_⟩) ?_
                rotate_left
                · (intro w'; go_simp; (try with_reducible rfl))
                refine wpAny_ready (rs := [13, 15]) (by kernel_rfl) (by simp) ?_
                refine AllReady.cons (by simp only [List.getElem?_toArray, List.getElem?_cons_succ, List.getElem?_cons_zero]; rfl) (fun K' hK' => ?_) ?_
                · go_simp
                  (go_at_call 56; (with_reducible refine (EN50.out _ (Ix4.out)).mono ?_); rintro e x5 ⟨tm, rfl, hk, hi, hg⟩; have HTM : Hid (0 ≤ tm ∧ tm ≤ 1000) := hk; clear hk; have Ix5 : Hid (LI w q (.slice av l.length cv) l x5) := hi; clear hi hg)
                  (try dsimp only)
                  refine hK' _ _ ?_
                  clear hK' K'
                  refine wpAny_ready (rs := [14, 15]) (by kernel_rfl) (by simp) ?_
                  refine AllReady.cons (by simp only [List.getElem?_toArray, List.getElem?_cons_succ, List.getElem?_cons_zero]; rfl) (fun K' hK' => ?_) ?_
                  · go_simp
                    (go_at_call 10; (with_reducible refine (EH.out s ky lg v1 _ tm _ (Ix5.out) HSS.out HKY.out HSL.out (HVV.out _ (Ix5.out)) HTM.out).mono ?_); rintro e x6 ⟨hx, a, b, c, d, rfl, hin, hfew, hi, hg⟩; have HX : Hid (hx.In (.slice a hx.el.length c) (.slice b hx.pl.length d) x6 x6.heap.size ∧ hx.Few ∧ 0 ≤ hx.size ∧ hx.size ≤ 100) := ⟨hin, hfew⟩; clear hin hfew; have Ix6 : Hid (LI w q (.slice av l.length cv) l x6) := hi; clear hi hg)
                    (try dsimp only)
                    refine hK' _ _ ?_
                    clear hK' K'
                    have LASTNEW : Hid _ := HdAt.fresh HX.out Ix6.out
                    have LASTOLD : Hid _ := HdAt.stored HX.out Ix6.out
                    refine wpAny_ready (rs := [15]) (by kernel_rfl) (by simp) ?_
                    refine AllReady.cons (by simp only [List.getElem?_toArray, List.getElem?_cons_succ, List.getElem?_cons_zero]; rfl) (fun K' hK' => ?_) AllReady.nil
                    go_simp
                    refine hK' _ _ ?_
                    clear hK' K'
                    refine wpAny_ready (rs := [16]) (by kernel_rfl) (by simp) ?_
                    refine AllReady.cons (by simp only [List.getElem?_toArray, List.getElem?_cons_succ, List.getElem?_cons_zero]; rfl) (fun K' hK' => ?_) AllReady.nil
                    go_simp
                    refine hK' _ _ ?_
                    clear hK' K'
                    refine wpAny_done (by kernel_rfl) ?_ _
                    go_simp
                    refine hK _ _ (Met.intro (hJ _ _ ?_))
                    (repeat apply Exists.intro)
                    refine ⟨?rel, rfl⟩
                    case rel => exact LASTNEW.out
                  refine AllReady.cons (by simp only [List.getElem?_toArray, List.getElem?_cons_succ, List.getElem?_cons_zero]; rfl) (fun K' hK' => ?_) AllReady.nil
                  go_simp
                  refine hK' _ _ ?_
                  clear hK' K'
                  refine wpAny_ready (rs := [14]) (by kernel_rfl) (by simp) ?_
                  refine AllReady.cons (by simp only [List.getElem?_toArray, List.getElem?_cons_succ, List.getElem?_cons_zero]; rfl) (fun K' hK' => ?_) AllReady.nil
                  go_simp
                  (go_at_call 10; (with_reducible refine (EH.out s ky lg v1 _ tm _ (LI.alloc (Ix5.out) _) HSS.out HKY.out HSL.out (HVV.out _ (LI.alloc (Ix5.out) _)) HTM.out).mono ?_); rintro e x6 ⟨hx, a, b, c, d, rfl, hin, hfew, hi, hg⟩; have HX : Hid (hx.In (.slice a hx.el.length c) (.slice b hx.pl.length d) x6 x6.heap.size ∧ hx.Few ∧ 0 ≤ hx.size ∧ hx.size ≤ 100) := ⟨hin, hfew⟩; clear hin hfew; have Ix6 : Hid (LI w q (.slice av l.length cv) l x6) := hi; have Hx6 : Hid (HAt w (x5.heap.size) x6) := HAt.grow (HAt.new (Ix5.out) rfl) hg hq; clear hi hg)
                  (try dsimp only)
                  refine hK' _ _ ?_
                  clear hK' K'
                  have LASTNEW : Hid _ := HdAt.fresh HX.out Ix6.out
                  have LASTOLD : Hid _ := HdAt.stored HX.out Ix6.out
                  refine wpAny_ready (rs := [16]) (by kernel_rfl) (by simp) ?_
                  refine AllReady.cons (by simp only [List.getElem?_toArray, List.getElem?_cons_succ, List.getElem?_cons_zero]; rfl) (fun K' hK' => ?_) AllReady.nil
                  obtain ⟨⟨c0, c1, c2, c3, c4, c5, c6⟩, f0, f1, f2, f3, f4, f5, f6⟩ := HAt.cells (Hx6.out)
                  go_simp
                  refine hK' _ _ ?_
                  clear hK' K'
                  refine wpAny_done (by kernel_rfl) ?_ _
                  go_simp
                  refine hK _ _ (Met.intro (hJ _ _ ?_))
                  (repeat apply Exists.intro)
                  refine ⟨?rel, rfl⟩
                  case rel => exact LASTOLD.out _ (Hx6.out)
                refine AllReady.cons (by simp only [List.getElem?_toArray, List.getElem?_cons_succ, List.getElem?_cons_zero]; rfl) (fun K' hK' => ?_) AllReady.nil
                go_simp
                refine hK' _ _ ?_
                clear hK' K'
                refine wpAny_ready (rs := [13]) (by kernel_rfl) (by simp) ?_
                refine AllReady.cons (by simp only [List.getElem?_toArray, List.getElem?_cons_succ, List.getElem?_cons_zero]; rfl) (fun K' hK' => ?_) AllReady.nil
                go_simp
                (go_at_call 56; (with_reducible refine (EN50.out _ (LI.alloc (Ix4.out) _)).mono ?_); rintro e x5 ⟨tm, rfl, hk, hi, hg⟩; have HTM : Hid (0 ≤ tm ∧ tm ≤ 1000) := hk; clear hk; have Ix5 : Hid (LI w q (.slice av l.length cv) l x5) := hi; have Hx5 : Hid (HAt w (x4.heap.size) x5) := HAt.grow (HAt.new (Ix4.out) rfl) hg hq; clear hi hg)
                (try dsimp only)
                refine hK' _ _ ?_
                clear hK' K'
                refine wpAny_ready (rs := [14]) (by kernel_rfl) (by simp) ?_
                refine AllReady.cons (by simp only [List.getElem?_toArray, List.getElem?_cons_succ, List.getElem?_cons_zero]; rfl) (fun K' hK' => ?_) AllReady.nil
                go_simp
                (go_at_call 10; (with_reducible refine (EH.out s ky lg v1 _ tm _ (Ix5.out) HSS.out HKY.out HSL.out (HVV.out _ (Ix5.out)) HTM.out).mono ?_); rintro e x6 ⟨hx, a, b, c, d, rfl, hin, hfew, hi, hg⟩; have HX : Hid (hx.In (.slice a hx.el.length c) (.slice b hx.pl.length d) x6 x6.heap.size ∧ hx.Few ∧ 0 ≤ hx.size ∧ hx.size ≤ 100) := ⟨hin, hfew⟩; clear hin hfew; have Ix6 : Hid (LI w q (.slice av l.length cv) l x6) := hi; have Hx6 : Hid (HAt w (x4.heap.size) x6) := HAt.grow (Hx5.out) hg hq; clear hi hg)
                (try dsimp only)
                refine hK' _ _ ?_
                clear hK' K'
                have LASTNEW : Hid _ := HdAt.fresh HX.out Ix6.out
                have LASTOLD : Hid _ := HdAt.stored HX.out Ix6.out
                refine wpAny_ready (rs := [16]) (by kernel_rfl) (by simp) ?_
                refine AllReady.cons (by simp only [List.getElem?_toArray, List.getElem?_cons_succ, List.getElem?_cons_zero]; rfl) (fun K' hK' => ?_) AllReady.nil
                obtain ⟨⟨c0, c1, c2, c3, c4, c5, c6⟩, f0, f1, f2, f3, f4, f5, f6⟩ := HAt.cells (Hx6.out)
                go_simp
                refine hK' _ _ ?_
                clear hK' K'
                refine wpAny_done (by kernel_rfl) ?_ _
                go_simp
                refine hK _ _ (Met.intro (hJ _ _ ?_))
                (repeat apply Exists.intro)
                refine ⟨?rel, rfl⟩
                case rel => exact LASTOLD.out _ (Hx6.out)
              refine AllReady.cons (by simp only [List.getElem?_toArray, List.getElem?_cons_succ, List.getElem?_cons_zero]; rfl) (fun K' hK' => ?_) AllReady.nil
              go_simp
              refine hK' _ _ ?_
              clear hK' K'
              refine wpAny_ready (rs := [10]) (by kernel_rfl) (by simp) ?_
              refine AllReady.cons (by simp only [List.getElem?_toArray, List.getElem?_cons_succ, List.getElem?_cons_zero]; rfl) (fun K' hK' => ?_) AllReady.nil
              go_simp
              (go_at_call 56; (with_reducible refine (EN10.out _ (LI.alloc (Ix3.out) _)).mono ?_); rintro e x4 ⟨m, v1, rfl, hv1, hv2, hi, hg⟩; have HVV : Hid _ := hv2; clear hv2; have Ix4 : Hid (LI w q (.slice av l.length cv) l x4) := hi; have Hx4 : Hid (HAt w (x3.heap.size) x4) := HAt.grow (HAt.new (Ix3.out) rfl) hg hq; clear hi hg)
              (try dsimp only)
              refine hK' _ _ ?_
              clear hK' K'
              refine wpAny_take (i := 11) (v := ?_) rfl (by kernel_rfl) (by kernel_rfl) (by kernel_rfl) (fun _ _ _ h => h) (Or.inl ⟨by kernel_rfl, ?_⟩) ?_
              rotate_left
              · (intro w'; go_simp; (try with_reducible rfl))
              refine wpAny_ready (rs := [13]) (by kernel_rfl) (by simp) ?_
              refine AllReady.cons (by simp only [List.getElem?_toArray, List.getElem?_cons_succ, List.getElem?_cons_zero]; rfl) (fun K' hK' => ?_) AllReady.nil
              go_simp
              (go_at_call 56; (with_reducible refine (EN50.out _ (Ix4.out)).mono ?_); rintro e x5 ⟨tm, rfl, hk, hi, hg⟩; have HTM : Hid (0 ≤ tm ∧ tm ≤ 1000) := hk; clear hk; have Ix5 : Hid (LI w q (.slice av l.length cv) l x5) := hi; have Hx5 : Hid (HAt w (x3.heap.size) x5) := HAt.grow (Hx4.out) hg hq; clear hi hg)
              (try dsimp only)
              refine hK' _ _ ?_
              clear hK' K'
              refine wpAny_ready (rs := [14]) (by kernel_rfl) (by simp) ?_
              refine AllReady.cons (by simp only [List.getElem?_toArray, List.getElem?_cons_succ, List.getElem?_cons_zero]; rfl) (fun K' hK' => ?_) AllReady.nil
              go_simp
              (go_at_call 10; (with_reducible refine (EH.out s ky lg v1 _ tm _ (Ix5.out) HSS.out HKY.out HSL.out (HVV.out _ (Ix5.out)) HTM.out).mono ?_); rintro e x6 ⟨hx, a, b, c, d, rfl, hin, hfew, hi, hg⟩; have HX : Hid (hx.In (.slice a hx.el.length c) (.slice b hx.pl.length d) x6 x6.heap.size ∧ hx.Few ∧ 0 ≤ hx.size ∧ hx.size ≤ 100) := ⟨hin, hfew⟩; clear hin hfew; have Ix6 : Hid (LI w q (.slice av l.length cv) l x6) := hi; have Hx6 : Hid (HAt w (x3.heap.size) x6) := HAt.grow (Hx5.out) hg hq; clear hi hg)
              (try dsimp only)
              refine hK' _ _ ?_
              clear hK' K'
              have LASTNEW : Hid _ := HdAt.fresh HX.out Ix6.out
              have LASTOLD : Hid _ := HdAt.stored HX.out Ix6.out
              refine wpAny_ready (rs := [16]) (by kernel_rfl) (by simp) ?_
              refine AllReady.cons (by simp only [List.getElem?_toArray, List.getElem?_cons_succ, List.getElem?_cons_zero]; rfl) (fun K' hK' => ?_) AllReady.nil
              obtain ⟨⟨c0, c1, c2, c3, c4, c5, c6⟩, f0, f1, f2, f3, f4, f5, f6⟩ := HAt.cells (Hx6.out)
              go_simp
              refine hK' _ _ ?_
              clear hK' K'
              refine wpAny_done (by kernel_rfl) ?_ _
              go_simp
              refine hK _ _ (Met.intro (hJ _ _ ?_))
              (repeat apply Exists.intro)
              refine ⟨?rel, rfl⟩
              case rel => exact LASTOLD.out _ (Hx6.out)
            refine AllReady.cons (by simp only [List.getElem?_toArray, List.getElem?_cons_succ, List.getElem?_cons_zero]; rfl) (fun K' hK' => ?_) AllReady.nil
            go_simp
            refine hK' _ _ ?_
            clear hK' K'
            refine wpAny_ready (rs := [7]) (by kernel_rfl) (by simp) ?_
            refine AllReady.cons (by simp only [List.getElem?_toArray, List.getElem?_cons_succ, List.getElem?_cons_zero]; rfl) (fun K' hK' => ?_) AllReady.nil
            go_simp
            (go_at_call 57; (with_reducible refine (EPl.out (w1.heap.size) _ (LI.alloc (Ix2.out) _) (C5.alloc (Bx2.out) _)).mono ?_); rintro e x3 ⟨lg, rfl, hs, hi, hg⟩; have HSL : Hid (lg.size ≤ 5) := hs; clear hs; have Ix3 : Hid (LI w q (.slice av l.length cv) l x3) := hi; have Hx3 : Hid (HAt w (x2.heap.size) x3) := HAt.grow (HAt.new (Ix2.out) rfl) hg hq; clear hi hg)
            (try dsimp only)
            refine hK' _ _ ?_
            clear hK' K'
            refine wpAny_ready (rs := [10]) (by kernel_rfl) (by simp) ?_
            refine AllReady.cons (by simp only [List.getElem?_toArray, List.getElem?_cons_succ, List.getElem?_cons_zero]; rfl) (fun K' hK' => ?_) AllReady.nil
            go_simp
            (go_at_call 56; (with_reducible refine (EN10.out _ (Ix3.out)).mono ?_); rintro e x4 ⟨m, v1, rfl, hv1, hv2, hi, hg⟩; have HVV : Hid _ := hv2; clear hv2; have Ix4 : Hid (LI w q (.slice av l.length cv) l x4) := hi; have Hx4 : Hid (HAt w (x2.heap.size) x4) := HAt.grow (Hx3.out) hg hq; clear hi hg)
            (try dsimp only)
            refine hK' _ _ ?_
            clear hK' K'
            refine wpAny_take (i := 11) (v := ?_) rfl (by kernel_rfl) (by kernel_rfl) (by kernel_rfl) (fun _ _ _ h => h) (Or.inl ⟨by kernel_rfl, ?_⟩) ?_
            rotate_left
            · (intro w'; go_simp; (try with_reducible rfl))
            refine wpAny_ready (rs := [13]) (by kernel_rfl) (by simp) ?_
            refine AllReady.cons (by simp only [List.getElem?_toArray, List.getElem?_cons_succ, List.getElem?_cons_zero]; rfl) (fun K' hK' => ?_) AllReady.nil
            go_simp
            (go_at_call 56; (with_reducible refine (EN50.out _ (Ix4.out)).mono ?_); rintro e x5 ⟨tm, rfl, hk, hi, hg⟩; have HTM : Hid (0 ≤ tm ∧ tm ≤ 1000) := hk; clear hk; have Ix5 : Hid (LI w q (.slice av l.length cv) l x5) := hi; have Hx5 : Hid (HAt w (x2.heap.size) x5) := HAt.grow (Hx4.out) hg hq; clear hi hg)
            (try dsimp only)
            refine hK' _ _ ?_
            clear hK' K'
            refine wpAny_ready (rs := [14]) (by kernel_rfl) (by simp) ?_
            refine AllReady.cons (by simp only [List.getElem?_toArray, List.getElem?_cons_succ, List.getElem?_cons_zero]; rfl) (fun K' hK' => ?_) AllReady.nil
            go_simp
            (go_at_call 10; (with_reducible refine (EH.out s ky lg v1 _ tm _ (Ix5.out) HSS.out HKY.out HSL.out (HVV.out _ (Ix5.out)) HTM.out).mono ?_); rintro e x6 ⟨hx, a, b, c, d, rfl, hin, hfew, hi, hg⟩; have HX : Hid (hx.In (.slice a hx.el.length c) (.slice b hx.pl.length d) x6 x6.heap.size ∧ hx.Few ∧ 0 ≤ hx.size ∧ hx.size ≤ 100) := ⟨hin, hfew⟩; clear hin hfew; have Ix6 : Hid (LI w q (.slice av l.length cv) l x6) := hi; have Hx6 : Hid (HAt w (x2.heap.size) x6) := HAt.grow (Hx5.out) hg hq; clear hi hg)
            (try dsimp only)
            refine hK' _ _ ?_
            clear hK' K'
            have LASTNEW : Hid _ := HdAt.fresh HX.out Ix6.out
            have LASTOLD : Hid _ := HdAt.stored HX.out Ix6.out
            refine wpAny_ready (rs := [16]) (by kernel_rfl) (by simp) ?_
            refine AllReady.cons (by simp only [List.getElem?_toArray, List.getElem?_cons_succ, List.getElem?_cons_zero]; rfl) (fun K' hK' => ?_) AllReady.nil
            obtain ⟨⟨c0, c1, c2, c3, c4, c5, c6⟩, f0, f1, f2, f3, f4, f5, f6⟩ := HAt.cells (Hx6.out)
            go_simp
            refine hK' _ _ ?_
            clear hK' K'
            refine wpAny_done (by kernel_rfl) ?_ _
            go_simp
            refine hK _ _ (Met.intro (hJ _ _ ?_))
            (repeat apply Exists.intro)
            refine ⟨?rel, rfl⟩
            case rel => exact LASTOLD.out _ (Hx6.out)
          refine AllReady.cons (by simp only [List.getElem?_toArray, List.getElem?_cons_succ, List.getElem?_cons_zero]; rfl) (fun K' hK' => ?_) AllReady.nil
          go_simp
          refine hK' _ _ ?_
          clear hK' K'
          refine wpAny_ready (rs := [4]) (by kernel_rfl) (by simp) ?_
          refine AllReady.cons (by simp only [List.getElem?_toArray, List.getElem?_cons_succ, List.getElem?_cons_zero]; rfl) (fun K' hK' => ?_) AllReady.nil
          go_simp
          (go_at_call 56; (with_reducible refine (EN4.out _ (LI.alloc (Ix1.out) _)).mono ?_); rintro e x2 ⟨ky, rfl, hk, hi, hg⟩; have HKY : Hid (0 ≤ ky ∧ ky ≤ 3) := hk; clear hk; have Ix2 : Hid (LI w q (.slice av l.length cv) l x2) := hi; have Bx2 : Hid (C5 q logL (w1.heap.size) x2) := C5.grow (C5.alloc (Bx1.out) _) hg; have Hx2 : Hid (HAt w (x1.heap.size) x2) := HAt.grow (HAt.new (Ix1.out) rfl) hg hq; clear hi hg)
          (try dsimp only)
          refine hK' _ _ ?_
          clear hK' K'
          refine wpAny_ready (rs := [7]) (by kernel_rfl) (by simp) ?_
          refine AllReady.cons (by simp only [List.getElem?_toArray, List.getElem?_cons_succ, List.getElem?_cons_zero]; rfl) (fun K' hK' => ?_) AllReady.nil
          go_simp
          (go_at_call 57; (with_reducible refine (EPl.out (w1.heap.size) _ (Ix2.out) (Bx2.out)).mono ?_); rintro e x3 ⟨lg, rfl, hs, hi, hg⟩; have HSL : Hid (lg.size ≤ 5) := hs; clear hs; have Ix3 : Hid (LI w q (.slice av l.length cv) l x3) := hi; have Hx3 : Hid (HAt w (x1.heap.size) x3) := HAt.grow (Hx2.out) hg hq; clear hi hg)
          (try dsimp only)
          refine hK' _ _ ?_
          clear hK' K'
          refine wpAny_ready (rs := [10]) (by kernel_rfl) (by simp) ?_
          refine AllReady.cons (by simp only [List.getElem?_toArray, List.getElem?_cons_succ, List.getElem?_cons_zero]; rfl) (fun K' hK' => ?_) AllReady.nil
          go_simp
          (go_at_call 56; (with_reducible refine (EN10.out _ (Ix3.out)).mono ?_); rintro e x4 ⟨m, v1, rfl, hv1, hv2, hi, hg⟩; have HVV : Hid _ := hv2; clear hv2; have Ix4 : Hid (LI w q (.slice av l.length cv) l x4) := hi; have Hx4 : Hid (HAt w (x1.heap.size) x4) := HAt.grow (Hx3.out) hg hq; clear hi hg)
          (try dsimp only)
          refine hK' _ _ ?_
          clear hK' K'
          refine wpAny_take (i := 11) (v := ?_) rfl (by kernel_rfl) (by kernel_rfl) (by kernel_rfl) (fun _ _ _ h => h) (Or.inl ⟨by kernel_rfl, ?_⟩) ?_
          rotate_left
          · (intro w'; go_simp; (try with_reducible rfl))
          refine wpAny_ready (rs := [13]) (by kernel_rfl) (by simp) ?_
          refine AllReady.cons (by simp only [List.getElem?_toArray, List.getElem?_cons_succ, List.getElem?_cons_zero]; rfl) (fun K' hK' => ?_) AllReady.nil
          go_simp
          (go_at_call 56; (with_reducible refine (EN50.out _ (Ix4.out)).mono ?_); rintro e x5 ⟨tm, rfl, hk, hi, hg⟩; have HTM : Hid (0 ≤ tm ∧ tm ≤ 1000) := hk; clear hk; have Ix5 : Hid (LI w q (.slice av l.length cv) l x5) := hi; have Hx5 : Hid (HAt w (x1.heap.size) x5) := HAt.grow (Hx4.out) hg hq; clear hi hg)
          (try dsimp only)
          refine hK' _ _ ?_
          clear hK' K'
          refine wpAny_ready (rs := [14]) (by kernel_rfl) (by simp) ?_
          refine AllReady.cons (by simp only [List.getElem?_toArray, List.getElem?_cons_succ, List.getElem?_cons_zero]; rfl) (fun K' hK' => ?_) AllReady.nil
          go_simp
          (go_at_call 10; (with_reducible refine (EH.out s ky lg v1 _ tm _ (Ix5.out) HSS.out HKY.out HSL.out (HVV.out _ (Ix5.out)) HTM.out).mono ?_); rintro e x6 ⟨hx, a, b, c, d, rfl, hin, hfew, hi, hg⟩; have HX : Hid (hx.In (.slice a hx.el.length c) (.slice b hx.pl.length d) x6 x6.heap.size ∧ hx.Few ∧ 0 ≤ hx.size ∧ hx.size ≤ 100) := ⟨hin, hfew⟩; clear hin hfew; have Ix6 : Hid (LI w q (.slice av l.length cv) l x6) := hi; have Hx6 : Hid (HAt w (x1.heap.size) x6) := HAt.grow (Hx5.out) hg hq; clear hi hg)
          (try dsimp only)
          refine hK' _ _ ?_
          clear hK' K'
          have LASTNEW : Hid _ := HdAt.fresh HX.out Ix6.out
          have LASTOLD : Hid _ := HdAt.stored HX.out Ix6.out
          refine wpAny_ready (rs := [16]) (by kernel_rfl) (by simp) ?_
          refine AllReady.cons (by simp only [List.getElem?_toArray, List.getElem?_cons_succ, List.getElem?_cons_zero]; rfl) (fun K' hK' => ?_) AllReady.nil
          obtain ⟨⟨c0, c1, c2, c3, c4, c5, c6⟩, f0, f1, f2, f3, f4, f5, f6⟩ := HAt.cells (Hx6.out)
          go_simp
          refine hK' _ _ ?_
          clear hK' K'
          refine wpAny_done (by kernel_rfl) ?_ _
          go_simp
          refine hK _ _ (Met.intro (hJ _ _ ?_))
          (repeat apply Exists.intro)
          refine ⟨?rel, rfl⟩
          case rel => exact LASTOLD.out _ (Hx6.out)
        refine AllReady.cons (by simp only [List.getElem?_toArray, List.getElem?_cons_succ, List.getElem?_cons_zero]; rfl) (fun K' hK' => ?_) AllReady.nil
        go_simp
        refine hK' _ _ ?_
        clear hK' K'
        refine wpAny_ready (rs := [2]) (by kernel_rfl) (by simp) ?_
        refine AllReady.cons (by simp only [List.getElem?_toArray, List.getElem?_cons_succ, List.getElem?_cons_zero]; rfl) (fun K' hK' => ?_) AllReady.nil
        go_simp
        (go_at_call 57; (with_reducible refine (EPs.out (w1.heap.size + 1) _ (LI.drew (LI.alloc (LI.alloc (LI.alloc (I1.out) _) _) _)) (C5.drew (C5.alloc (C5.ofSeeds (LI.alloc (I1.out) _).qlt (by simp)) _))).mono ?_); rintro e x1 ⟨s, rfl, hs, hi, hg⟩; have HSS : Hid (s.size ≤ 5) := hs; clear hs; have Ix1 : Hid (LI w q (.slice av l.length cv) l x1) := hi; have Bx1 : Hid (C5 q logL (w1.heap.size) x1) := C5.grow (C5.drew (C5.alloc (C5.alloc (C5.ofLogs (I1.out).qlt rfl) _) _)) hg; have Hx1 : Hid (HAt w (w1.heap.size + 1 + 1) x1) := HAt.grow (HAt.drew (HAt.new (LI.alloc (LI.alloc (I1.out) _) _) (by simp))) hg hq; clear hi hg)
        (try dsimp only)
        refine hK' _ _ ?_
        clear hK' K'
        refine wpAny_ready (rs := [4]) (by kernel_rfl) (by simp) ?_
        refine AllReady.cons (by simp only [List.getElem?_toArray, List.getElem?_cons_succ, List.getElem?_cons_zero]; rfl) (fun K' hK' => ?_) AllReady.nil
        go_simp
        (go_at_call 56; (with_reducible refine (EN4.out _ (Ix1.out)).mono ?_); rintro e x2 ⟨ky, rfl, hk, hi, hg⟩; have HKY : Hid (0 ≤ ky ∧ ky ≤ 3) := hk; clear hk; have Ix2 : Hid (LI w q (.slice av l.length cv) l x2) := hi; have Bx2 : Hid (C5 q logL (w1.heap.size) x2) := C5.grow (Bx1.out) hg; have Hx2 : Hid (HAt w (w1.heap.size + 1 + 1) x2) := HAt.grow (Hx1.out) hg hq; clear hi hg)
        (try dsimp only)
        refine hK' _ _ ?_
        clear hK' K'
        refine wpAny_ready (rs := [7]) (by kernel_rfl) (by simp) ?_
        refine AllReady.cons (by simp only [List.getElem?_toArray, List.getElem?_cons_succ, List.getElem?_cons_zero]; rfl) (fun K' hK' => ?_) AllReady.nil
        go_simp
        (go_at_call 57; (with_reducible refine (EPl.out (w1.heap.size) _ (Ix2.out) (Bx2.out)).mono ?_); rintro e x3 ⟨lg, rfl, hs, hi, hg⟩; have HSL : Hid (lg.size ≤ 5) := hs; clear hs; have Ix3 : Hid (LI w q (.slice av l.length cv) l x3) := hi; have Hx3 : Hid (HAt w (w1.heap.size + 1 + 1) x3) := HAt.grow (Hx2.out) hg hq; clear hi hg)
        (try dsimp only)
        refine hK' _ _ ?_
        clear hK' K'
        refine wpAny_ready (rs := [10]) (by kernel_rfl) (by simp) ?_
        refine AllReady.cons (by simp only [List.getElem?_toArray, List.getElem?_cons_succ, List.getElem?_cons_zero]; rfl) (fun K' hK' => ?_) AllReady.nil
        go_simp
        (go_at_call 56; (with_reducible refine (EN10.out _ (Ix3.out)).mono ?_); rintro e x4 ⟨m, v1, rfl, hv1, hv2, hi, hg⟩; have HVV : Hid _ := hv2; clear hv2; have Ix4 : Hid (LI w q (.slice av l.length cv) l x4) := hi; have Hx4 : Hid (HAt w (w1.heap.size + 1 + 1) x4) := HAt.grow (Hx3.out) hg hq; clear hi hg)
        (try dsimp only)
        refine hK' _ _ ?_
        clear hK' K'
        refine wpAny_take (i := 11) (v := ?_) rfl (by kernel_rfl) (by kernel_rfl) (by kernel_rfl) (fun _ _ _ h => h) (Or.inl ⟨by kernel_rfl, ?_⟩) ?_
        rotate_left
        · (intro w'; go_simp; (try with_reducible rfl))
        refine wpAny_ready (rs := [13]) (by kernel_rfl) (by simp) ?_
        refine AllReady.cons (by simp only [List.getElem?_toArray, List.getElem?_cons_succ, List.getElem?_cons_zero]; rfl) (fun K' hK' => ?_) AllReady.nil
        go_simp
        (go_at_call 56; (with_reducible refine (EN50.out _ (Ix4.out)).mono ?_); rintro e x5 ⟨tm, rfl, hk, hi, hg⟩; have HTM : Hid (0 ≤ tm ∧ tm ≤ 1000) := hk; clear hk; have Ix5 : Hid (LI w q (.slice av l.length cv) l x5) := hi; have Hx5 : Hid (HAt w (w1.heap.size + 1 + 1) x5) := HAt.grow (Hx4.out) hg hq; clear hi hg)
        (try dsimp only)
        refine hK' _ _ ?_
        clear hK' K'
        refine wpAny_ready (rs := [14]) (by kernel_rfl) (by simp) ?_
        refine AllReady.cons (by simp only [List.getElem?_toArray, List.getElem?_cons_succ, List.getElem?_cons_zero]; rfl) (fun K' hK' => ?_) AllReady.nil
        go_simp
        (go_at_call 10; (with_reducible refine (EH.out s ky lg v1 _ tm _ (Ix5.out) HSS.out HKY.out HSL.out (HVV.out _ (Ix5.out)) HTM.out).mono ?_); rintro e x6 ⟨hx, a, b, c, d, rfl, hin, hfew, hi, hg⟩; have HX : Hid (hx.In (.slice a hx.el.length c) (.slice b hx.pl.length d) x6 x6.heap.size ∧ hx.Few ∧ 0 ≤ hx.size ∧ hx.size ≤ 100) := ⟨hin, hfew⟩; clear hin hfew; have Ix6 : Hid (LI w q (.slice av l.length cv) l x6) := hi; have Hx6 : Hid (HAt w (w1.heap.size + 1 + 1) x6) := HAt.grow (Hx5.out) hg hq; clear hi hg)
        (try dsimp only)
        refine hK' _ _ ?_
        clear hK' K'
        have LASTNEW : Hid _ := HdAt.fresh HX.out Ix6.out
        have LASTOLD : Hid _ := HdAt.stored HX.out Ix6.out
        refine wpAny_ready (rs := [16]) (by kernel_rfl) (by simp) ?_
        refine AllReady.cons (by simp only [List.getElem?_toArray, List.getElem?_cons_succ, List.getElem?_cons_zero]; rfl) (fun K' hK' => ?_) AllReady.nil
        obtain ⟨⟨c0, c1, c2, c3, c4, c5, c6⟩, f0, f1, f2, f3, f4, f5, f6⟩ := HAt.cells (Hx6.out)
        go_simp
        refine hK' _ _ ?_
        clear hK' K'
        refine wpAny_done (by kernel_rfl) ?_ _
        go_simp
        refine hK _ _ (Met.intro (hJ _ _ ?_))
        (repeat apply Exists.intro)
        refine ⟨?rel, rfl⟩
        case rel => exact LASTOLD.out _ (Hx6.out)
      refine AllReady.cons (by simp only [List.getElem?_toArray, List.getElem?_cons_succ, List.getElem?_cons_zero]; rfl) (fun K' hK' => ?_) AllReady.nil
      go_simp
      refine hK' _ _ ?_
      clear hK' K'
      refine wpAny_ready (rs := [1]) (by kernel_rfl) (by simp) ?_
      refine AllReady.cons (by simp only [List.getElem?_toArray, List.getElem?_cons_succ, List.getElem?_cons_zero]; rfl) (fun K' hK' => ?_) AllReady.nil
      go_simp
      refine hK' _ _ ?_
      clear hK' K'
      refine wpAny_ready (rs := [2]) (by kernel_rfl) (by simp) ?_
      refine AllReady.cons (by simp only [List.getElem?_toArray, List.getElem?_cons_succ, List.getElem?_cons_zero]; rfl) (fun K' hK' => ?_) AllReady.nil
      go_simp
      (go_at_call 57; (with_reducible refine (EPs.out (w1.heap.size + 1 + 1) _ (LI.drew (LI.alloc (LI.alloc (LI.alloc (I1.out) _) _) _)) (C5.drew (C5.ofSeeds (LI.alloc (LI.alloc (I1.out) _) _).qlt (by simp)))).mono ?_); rintro e x1 ⟨s, rfl, hs, hi, hg⟩; have HSS : Hid (s.size ≤ 5) := hs; clear hs; have Ix1 : Hid (LI w q (.slice av l.length cv) l x1) := hi; have Bx1 : Hid (C5 q logL (w1.heap.size) x1) := C5.grow (C5.drew (C5.alloc (C5.alloc (C5.ofLogs (I1.out).qlt rfl) _) _)) hg; have Hx1 : Hid (HAt w (w1.heap.size + 1) x1) := HAt.grow (HAt.drew (HAt.alloc (HAt.new (LI.alloc (I1.out) _) (by simp)) _)) hg hq; clear hi hg)
      (try dsimp only)
      refine hK' _ _ ?_
      clear hK' K'
      refine wpAny_ready (rs := [4]) (by kernel_rfl) (by simp) ?_
      refine AllReady.cons (by simp only [List.getElem?_toArray, List.getElem?_cons_succ, List.getElem?_cons_zero]; rfl) (fun K' hK' => ?_) AllReady.nil
      go_simp
      (go_at_call 56; (with_reducible refine (EN4.out _ (Ix1.out)).mono ?_); rintro e x2 ⟨ky, rfl, hk, hi, hg⟩; have HKY : Hid (0 ≤ ky ∧ ky ≤ 3) := hk; clear hk; have Ix2 : Hid (LI w q (.slice av l.length cv) l x2) := hi; have Bx2 : Hid (C5 q logL (w1.heap.size) x2) := C5.grow (Bx1.out) hg; have Hx2 : Hid (HAt w (w1.heap.size + 1) x2) := HAt.grow (Hx1.out) hg hq; clear hi hg)
      (try dsimp only)
      refine hK' _ _ ?_
      clear hK' K'
      refine wpAny_ready (rs := [7]) (by kernel_rfl) (by simp) ?_
      refine AllReady.cons (by simp only [List.getElem?_toArray, List.getElem?_cons_succ, List.getElem?_cons_zero]; rfl) (fun K' hK' => ?_) AllReady.nil
      go_simp
      (go_at_call 57; (with_reducible refine (EPl.out (w1.heap.size) _ (Ix2.out) (Bx2.out)).mono ?_); rintro e x3 ⟨lg, rfl, hs, hi, hg⟩; have HSL : Hid (lg.size ≤ 5) := hs; clear hs; have Ix3 : Hid (LI w q (.slice av l.length cv) l x3) := hi; have Hx3 : Hid (HAt w (w1.heap.size + 1) x3) := HAt.grow (Hx2.out) hg hq; clear hi hg)
      (try dsimp only)
      refine hK' _ _ ?_
      clear hK' K'
      refine wpAny_ready (rs := [10]) (by kernel_rfl) (by simp) ?_
      refine AllReady.cons (by simp only [List.getElem?_toArray, List.getElem?_cons_succ, List.getElem?_cons_zero]; rfl) (fun K' hK' => ?_) AllReady.nil
      go_simp
      (go_at_call 56; (with_reducible refine (EN10.out _ (Ix3.out)).mono ?_); rintro e x4 ⟨m, v1, rfl, hv1, hv2, hi, hg⟩; have HVV : Hid _ := hv2; clear hv2; have Ix4 : Hid (LI w q (.slice av l.length cv) l x4) := hi; have Hx4 : Hid (HAt w (w1.heap.size + 1) x4) := HAt.grow (Hx3.out) hg hq; clear hi hg)
      (try dsimp only)
      refine hK' _ _ ?_
      clear hK' K'
      refine wpAny_take (i := 11) (v := ?_) rfl (by kernel_rfl) (by kernel_rfl) (by kernel_rfl) (fun _ _ _ h => h) (Or.inl ⟨by kernel_rfl, ?_⟩) ?_
      rotate_left
      · (intro w'; go_simp; (try with_reducible rfl))
      refine wpAny_ready (rs := [13]) (by kernel_rfl) (by simp) ?_
      refine AllReady.cons (by simp only [List.getElem?_toArray, List.getElem?_cons_succ, List.getElem?_cons_zero]; rfl) (fun K' hK' => ?_) AllReady.nil
      go_simp
      (go_at_call 56; (with_reducible refine (EN50.out _ (Ix4.out)).mono ?_); rintro e x5 ⟨tm, rfl, hk, hi, hg⟩; have HTM : Hid (0 ≤ tm ∧ tm ≤ 1000) := hk; clear hk; have Ix5 : Hid (LI w q (.slice av l.length cv) l x5) := hi; have Hx5 : Hid (HAt w (w1.heap.size + 1) x5) := HAt.grow (Hx4.out) hg hq; clear hi hg)
      (try dsimp only)
      refine hK' _ _ ?_
      clear hK' K'
      refine wpAny_ready (rs := [14]) (by kernel_rfl) (by simp) ?_
      refine AllReady.cons (by simp only [List.getElem?_toArray, List.getElem?_cons_succ, List.getElem?_cons_zero]; rfl) (fun K' hK' => ?_) AllReady.nil
      go_simp
      (go_at_call 10; (with_reducible refine (EH.out s ky lg v1 _ tm _ (Ix5.out) HSS.out HKY.out HSL.out (HVV.out _ (Ix5.out)) HTM.out).mono ?_); rintro e x6 ⟨hx, a, b, c, d, rfl, hin, hfew, hi, hg⟩; have HX : Hid (hx.In (.slice a hx.el.length c) (.slice b hx.pl.length d) x6 x6.heap.size ∧ hx.Few ∧ 0 ≤ hx.size ∧ hx.size ≤ 100) := ⟨hin, hfew⟩; clear hin hfew; have Ix6 : Hid (LI w q (.slice av l.length cv) l x6) := hi; have Hx6 : Hid (HAt w (w1.heap.size + 1) x6) := HAt.grow (Hx5.out) hg hq; clear hi hg)
      (try dsimp only)
      refine hK' _ _ ?_
      clear hK' K'
      have LASTNEW : Hid _ := HdAt.fresh HX.out Ix6.out
      have LASTOLD : Hid _ := HdAt.stored HX.out Ix6.out
      refine wpAny_ready (rs := [16]) (by kernel_rfl) (by simp) ?_
      refine AllReady.cons (by simp only [List.getElem?_toArray, List.getElem?_cons_succ, List.getElem?_cons_zero]; rfl) (fun K' hK' => ?_) AllReady.nil
      obtain ⟨⟨c0, c1, c2, c3, c4, c5, c6⟩, f0, f1, f2, f3, f4, f5, f6⟩ := HAt.cells (Hx6.out)
      go_simp
      refine hK' _ _ ?_
      clear hK' K'
      refine wpAny_done (by kernel_rfl) ?_ _
      go_simp
      refine hK _ _ (Met.intro (hJ _ _ ?_))
      (repeat apply Exists.intro)
      refine ⟨?rel, rfl⟩
      case rel => exact LASTOLD.out _ (Hx6.out)
    refine AllReady.cons (by simp only [List.getElem?_toArray, List.getElem?_cons_succ, List.getElem?_cons_zero]; rfl) (fun K' hK' => ?_) AllReady.nil
    go_simp
    refine hK' _ _ ?_
    clear hK' K'
    refine wpAny_ready (rs := [1, 6]) (by kernel_rfl) (by simp) ?_
    refine AllReady.cons (by simp only [List.getElem?_toArray, List.getElem?_cons_succ, List.getElem?_cons_zero]; rfl) (fun K' hK' => ?_) ?_
    · go_simp
      refine hK' _ _ ?_
      clear hK' K'
      refine wpAny_ready (rs := [2, 6]) (by kernel_rfl) (by simp) ?_
      refine AllReady.cons (by simp only [List.getElem?_toArray, List.getElem?_cons_succ, List.getElem?_cons_zero]; rfl) (fun K' hK' => ?_) ?_
      · go_simp
        (go_at_call 57; (with_reducible refine (EPs.out (w1.heap.size + 1) _ (LI.drew (LI.alloc (LI.alloc (I1.out) _) _)) (C5.drew (C5.ofSeeds (LI.alloc (I1.out) _).qlt (by simp)))).mono ?_); rintro e x1 ⟨s, rfl, hs, hi, hg⟩; have HSS : Hid (s.size ≤ 5) := hs; clear hs; have Ix1 : Hid (LI w q (.slice av l.length cv) l x1) := hi; have Hx1 : Hid (HAt w (w1.heap.size) x1) := HAt.grow (HAt.drew (HAt.alloc (HAt.new (I1.out) rfl) _)) hg hq; clear hi hg)
        (try dsimp only)
        refine hK' _ _ ?_
        clear hK' K'
        refine wpAny_ready (rs := [4, 6]) (by kernel_rfl) (by simp) ?_
        refine AllReady.cons (by simp only [List.getElem?_toArray, List.getElem?_cons_succ, List.getElem?_cons_zero]; rfl) (fun K' hK' => ?_) ?_
        · go_simp
          (go_at_call 56; (with_reducible refine (EN4.out _ (Ix1.out)).mono ?_); rintro e x2 ⟨ky, rfl, hk, hi, hg⟩; have HKY : Hid (0 ≤ ky ∧ ky ≤ 3) := hk; clear hk; have Ix2 : Hid (LI w q (.slice av l.length cv) l x2) := hi; have Hx2 : Hid (HAt w (w1.heap.size) x2) := HAt.grow (Hx1.out) hg hq; clear hi hg)
          (try dsimp only)
          refine hK' _ _ ?_
          clear hK' K'
          refine wpAny_ready (rs := [6]) (by kernel_rfl) (by simp) ?_
          refine AllReady.cons (by simp only [List.getElem?_toArray, List.getElem?_cons_succ, List.getElem?_cons_zero]; rfl) (fun K' hK' => ?_) AllReady.nil
          go_simp
          refine hK' _ _ ?_
          clear hK' K'
          refine wpAny_ready (rs := [7]) (by kernel_rfl) (by simp) ?_
          refine AllReady.cons (by simp only [List.getElem?_toArray, List.getElem?_cons_succ, List.getElem?_cons_zero]; rfl) (fun K' hK' => ?_) AllReady.nil
          go_simp
          (go_at_call 57; (with_reducible refine (EPl.out (x2.heap.size) _ (LI.alloc (Ix2.out) _) (C5.ofLogs (Ix2.out).qlt rfl)).mono ?_); rintro e x3 ⟨lg, rfl, hs, hi, hg⟩; have HSL : Hid (lg.size ≤ 5) := hs; clear hs; have Ix3 : Hid (LI w q (.slice av l.length cv) l x3) := hi; have Hx3 : Hid (HAt w (w1.heap.size) x3) := HAt.grow (HAt.alloc (Hx2.out) _) hg hq; clear hi hg)
          (try dsimp only)
          refine hK' _ _ ?_
          clear hK' K'
          refine wpAny_ready (rs := [10]) (by kernel_rfl) (by simp) ?_
          refine AllReady.cons (by simp only [List.getElem?_toArray, List.getElem?_cons_succ, List.getElem?_cons_zero]; rfl) (fun K' hK' => ?_) AllReady.nil
          go_simp
          (go_at_call 56; (with_reducible refine (EN10.out _ (Ix3.out)).mono ?_); rintro e x4 ⟨m, v1, rfl, hv1, hv2, hi, hg⟩; have HVV : Hid _ := hv2; clear hv2; have Ix4 : Hid (LI w q (.slice av l.length cv) l x4) := hi; have Hx4 : Hid (HAt w (w1.heap.size) x4) := HAt.grow (Hx3.out) hg hq; clear hi hg)
          (try dsimp only)
          refine hK' _ _ ?_
          clear hK' K'
          refine wpAny_take (i := 11) (v := ?_) rfl (by kernel_rfl) (by kernel_rfl) (by kernel_rfl) (fun _ _ _ h => h) (Or.inl ⟨by kernel_rfl, ?_⟩) ?_
          rotate_left
          · (intro w'; go_simp; (try with_reducible rfl))
          refine wpAny_ready (rs := [13]) (by kernel_rfl) (by simp) ?_
          refine AllReady.cons (by simp only [List.getElem?_toArray, List.getElem?_cons_succ, List.getElem?_cons_zero]; rfl) (fun K' hK' => ?_) AllReady.nil
          go_simp
          (go_at_call 56; (with_reducible refine (EN50.out _ (Ix4.out)).mono ?_); rintro e x5 ⟨tm, rfl, hk, hi, hg⟩; have HTM : Hid (0 ≤ tm ∧ tm ≤ 1000) := hk; clear hk; have Ix5 : Hid (LI w q (.slice av l.length cv) l x5) := hi; have Hx5 : Hid (HAt w (w1.heap.size) x5) := HAt.grow (Hx4.out) hg hq; clear hi hg)
          (try dsimp only)
          refine hK' _ _ ?_
          clear hK' K'
          refine wpAny_ready (rs := [14]) (by kernel_rfl) (by simp) ?_
          refine AllReady.cons (by simp only [List.getElem?_toArray, List.getElem?_cons_succ, List.getElem?_cons_zero]; rfl) (fun K' hK' => ?_) AllReady.nil
          go_simp
          (go_at_call 10; (with_reducible refine (EH.out s ky lg v1 _ tm _ (Ix5.out) HSS.out HKY.out HSL.out (HVV.out _ (Ix5.out)) HTM.out).mono ?_); rintro e x6 ⟨hx, a, b, c, d, rfl, hin, hfew, hi, hg⟩; have HX : Hid (hx.In (.slice a hx.el.length c) (.slice b hx.pl.length d) x6 x6.heap.size ∧ hx.Few ∧ 0 ≤ hx.size ∧ hx.size ≤ 100) := ⟨hin, hfew⟩; clear hin hfew; have Ix6 : Hid (LI w q (.slice av l.length cv) l x6) := hi; have Hx6 : Hid (HAt w (w1.heap.size) x6) := HAt.grow (Hx5.out) hg hq; clear hi hg)
          (try dsimp only)
          refine hK' _ _ ?_
          clear hK' K'
          have LASTNEW : Hid _ := HdAt.fresh HX.out Ix6.out
          have LASTOLD : Hid _ := HdAt.stored HX.out Ix6.out
          refine wpAny_ready (rs := [16]) (by kernel_rfl) (by simp) ?_
          refine AllReady.cons (by simp only [List.getElem?_toArray, List.getElem?_cons_succ, List.getElem?_cons_zero]; rfl) (fun K' hK' => ?_) AllReady.nil
          obtain ⟨⟨c0, c1, c2, c3, c4, c5, c6⟩, f0, f1, f2, f3, f4, f5, f6⟩ := HAt.cells (Hx6.out)
          go_simp
          refine hK' _ _ ?_
          clear hK' K'
          refine wpAny_done (by kernel_rfl) ?_ _
          go_simp
          refine hK _ _ (Met.intro (hJ _ _ ?_))
          (repeat apply Exists.intro)
          refine ⟨?rel, rfl⟩
          case rel => exact LASTOLD.out _ (Hx6.out)
        refine AllReady.cons (by simp only [List.getElem?_toArray, List.getElem?_cons_succ, List.getElem?_cons_zero]; rfl) (fun K' hK' => ?_) AllReady.nil
        go_simp
        refine hK' _ _ ?_
        clear hK' K'
        refine wpAny_ready (rs := [4]) (by kernel_rfl) (by simp) ?_
        refine AllReady.cons (by simp only [List.getElem?_toArray, List.getElem?_cons_succ, List.getElem?_cons_zero]; rfl) (fun K' hK' => ?_) AllReady.nil
        go_simp
        (go_at_call 56; (with_reducible refine (EN4.out _ (LI.alloc (Ix1.out) _)).mono ?_); rintro e x2 ⟨ky, rfl, hk, hi, hg⟩; have HKY : Hid (0 ≤ ky ∧ ky ≤ 3) := hk; clear hk; have Ix2 : Hid (LI w q (.slice av l.length cv) l x2) := hi; have Bx2 : Hid (C5 q logL (x1.heap.size) x2) := C5.grow (C5.ofLogs (Ix1.out).qlt rfl) hg; have Hx2 : Hid (HAt w (w1.heap.size) x2) := HAt.grow (HAt.alloc (Hx1.out) _) hg hq; clear hi hg)
        (try dsimp only)
        refine hK' _ _ ?_
        clear hK' K'
        refine wpAny_ready (rs := [7]) (by kernel_rfl) (by simp) ?_
        refine AllReady.cons (by simp only [List.getElem?_toArray, List.getElem?_cons_succ, List.getElem?_cons_zero]; rfl) (fun K' hK' => ?_) AllReady.nil
        go_simp
        (go_at_call 57; (with_reducible refine (EPl.out (x1.heap.size) _ (Ix2.out) (Bx2.out)).mono ?_); rintro e x3 ⟨lg, rfl, hs, hi, hg⟩; have HSL : Hid (lg.size ≤ 5) := hs; clear hs; have Ix3 : Hid (LI w q (.slice av l.length cv) l x3) := hi; have Hx3 : Hid (HAt w (w1.heap.size) x3) := HAt.grow (Hx2.out) hg hq; clear hi hg)
        (try dsimp only)
        refine hK' _ _ ?_
        clear hK' K'
        refine wpAny_ready (rs := [10]) (by kernel_rfl) (by simp) ?_
        refine AllReady.cons (by simp only [List.getElem?_toArray, List.getElem?_cons_succ, List.getElem?_cons_zero]; rfl) (fun K' hK' => ?_) AllReady.nil
        go_simp
        (go_at_call 56; (with_reducible refine (EN10.out _ (Ix3.out)).mono ?_); rintro e x4 ⟨m, v1, rfl, hv1, hv2, hi, hg⟩; have HVV : Hid _ := hv2; clear hv2; have Ix4 : Hid (LI w q (.slice av l.length cv) l x4) := hi; have Hx4 : Hid (HAt w (w1.heap.size) x4) := HAt.grow (Hx3.out) hg hq; clear hi hg)
        (try dsimp only)
        refine hK' _ _ ?_
        clear hK' K'
        refine wpAny_take (i := 11) (v := ?_) rfl (by kernel_rfl) (by kernel_rfl) (by kernel_rfl) (fun _ _ _ h => h) (Or.inl ⟨by kernel_rfl, ?_⟩) ?_
        rotate_left
        · (intro w'; go_simp; (try with_reducible rfl))
        refine wpAny_ready (rs := [13]) (by kernel_rfl) (by simp) ?_
        refine AllReady.cons (by simp only [List.getElem?_toArray, List.getElem?_cons_succ, List.getElem?_cons_zero]; rfl) (fun K' hK' => ?_) AllReady.nil
        go_simp
        (go_at_call 56; (with_reducible refine (EN50.out _ (Ix4.out)).mono ?_); rintro e x5 ⟨tm, rfl, hk, hi, hg⟩; have HTM : Hid (0 ≤ tm ∧ tm ≤ 1000) := hk; clear hk; have Ix5 : Hid (LI w q (.slice av l.length cv) l x5) := hi; have Hx5 : Hid (HAt w (w1.heap.size) x5) := HAt.grow (Hx4.out) hg hq; clear hi hg)
        (try dsimp only)
        refine hK' _ _ ?_
        clear hK' K'
        refine wpAny_ready (rs := [14]) (by kernel_rfl) (by simp) ?_
        refine AllReady.cons (by simp only [List.getElem?_toArray, List.getElem?_cons_succ, List.getElem?_cons_zero]; rfl) (fun K' hK' => ?_) AllReady.nil
        go_simp
        (go_at_call 10; (with_reducible refine (EH.out s ky lg v1 _ tm _ (Ix5.out) HSS.out HKY.out HSL.out (HVV.out _ (Ix5.out)) HTM.out).mono ?_); rintro e x6 ⟨hx, a, b, c, d, rfl, hin, hfew, hi, hg⟩; have HX : Hid (hx.In (.slice a hx.el.length c) (.slice b hx.pl.length d) x6 x6.heap.size ∧ hx.Few ∧ 0 ≤ hx.size ∧ hx.size ≤ 100) := ⟨hin, hfew⟩; clear hin hfew; have Ix6 : Hid (LI w q (.slice av l.length cv) l x6) := hi; have Hx6 : Hid (HAt w (w1.heap.size) x6) := HAt.grow (Hx5.out) hg hq; clear hi hg)
        (try dsimp only)
        refine hK' _ _ ?_
        clear hK' K'
        have LASTNEW : Hid _ := HdAt.fresh HX.out Ix6.out
        have LASTOLD : Hid _ := HdAt.stored HX.out Ix6.out
        refine wpAny_ready (rs := [16]) (by kernel_rfl) (by simp) ?_
        refine AllReady.cons (by simp only [List.getElem?_toArray, List.getElem?_cons_succ, List.getElem?_cons_zero]; rfl) (fun K' hK' => ?_) AllReady.nil
        obtain ⟨⟨c0, c1, c2, c3, c4, c5, c6⟩, f0, f1, f2, f3, f4, f5, f6⟩ := HAt.cells (Hx6.out)
        go_simp
        refine hK' _ _ ?_
        clear hK' K'
        refine wpAny_done (by kernel_rfl) ?_ _
        go_simp
        refine hK _ _ (Met.intro (hJ _ _ ?_))
        (repeat apply Exists.intro)
        refine ⟨?rel, rfl⟩
        case rel => exact LASTOLD.out _ (Hx6.out)
      refine AllReady.cons (by simp only [List.getElem?_toArray, List.getElem?_cons_succ, List.getElem?_cons_zero]; rfl) (fun K' hK' => ?_) AllReady.nil
      go_simp
      refine hK' _ _ ?_
      clear hK' K'
      refine wpAny_ready (rs := [2]) (by kernel_rfl) (by simp) ?_
      refine AllReady.cons (by simp only [List.getElem?_toArray, List.getElem?_cons_succ, List.getElem?_cons_zero]; rfl) (fun K' hK' => ?_) AllReady.nil
      go_simp
      (go_at_call 57; (with_reducible refine (EPs.out (w1.heap.size + 1) _ (LI.drew (LI.alloc (LI.alloc (LI.alloc (I1.out) _) _) _)) (C5.drew (C5.alloc (C5.ofSeeds (LI.alloc (I1.out) _).qlt (by simp)) _))).mono ?_); rintro e x1 ⟨s, rfl, hs, hi, hg⟩; have HSS : Hid (s.size ≤ 5) := hs; clear hs; have Ix1 : Hid (LI w q (.slice av l.length cv) l x1) := hi; have Bx1 : Hid (C5 q logL (w1.heap.size + 1 + 1) x1) := C5.grow (C5.drew (C5.ofLogs (LI.alloc (LI.alloc (I1.out) _) _).qlt (by simp))) hg; have Hx1 : Hid (HAt w (w1.heap.size) x1) := HAt.grow (HAt.drew (HAt.alloc (HAt.alloc (HAt.new (I1.out) rfl) _) _)) hg hq; clear hi hg)
      (try dsimp only)
      refine hK' _ _ ?_
      clear hK' K'
      refine wpAny_ready (rs := [4]) (by kernel_rfl) (by simp) ?_
      refine AllReady.cons (by simp only [List.getElem?_toArray, List.getElem?_cons_succ, List.getElem?_cons_zero]; rfl) (fun K' hK' => ?_) AllReady.nil
      go_simp
      (go_at_call 56; (with_reducible refine (EN4.out _ (Ix1.out)).mono ?_); rintro e x2 ⟨ky, rfl, hk, hi, hg⟩; have HKY : Hid (0 ≤ ky ∧ ky ≤ 3) := hk; clear hk; have Ix2 : Hid (LI w q (.slice av l.length cv) l x2) := hi; have Bx2 : Hid (C5 q logL (w1.heap.size + 1 + 1) x2) := C5.grow (Bx1.out) hg; have Hx2 : Hid (HAt w (w1.heap.size) x2) := HAt.grow (Hx1.out) hg hq; clear hi hg)
      (try dsimp only)
      refine hK' _ _ ?_
      clear hK' K'
      refine wpAny_ready (rs := [7]) (by kernel_rfl) (by simp) ?_
      refine AllReady.cons (by simp only [List.getElem?_toArray, List.getElem?_cons_succ, List.getElem?_cons_zero]; rfl) (fun K' hK' => ?_) AllReady.nil
      go_simp
      (go_at_call 57; (with_reducible refine (EPl.out (w1.heap.size + 1 + 1) _ (Ix2.out) (Bx2.out)).mono ?_); rintro e x3 ⟨lg, rfl, hs, hi, hg⟩; have HSL : Hid (lg.size ≤ 5) := hs; clear hs; have Ix3 : Hid (LI w q (.slice av l.length cv) l x3) := hi; have Hx3 : Hid (HAt w (w1.heap.size) x3) := HAt.grow (Hx2.out) hg hq; clear hi hg)
      (try dsimp only)
      refine hK' _ _ ?_
      clear hK' K'
      refine wpAny_ready (rs := [10]) (by kernel_rfl) (by simp) ?_
      refine AllReady.cons (by simp only [List.getElem?_toArray, List.getElem?_cons_succ, List.getElem?_cons_zero]; rfl) (fun K' hK' => ?_) AllReady.nil
      go_simp
      (go_at_call 56; (with_reducible refine (EN10.out _ (Ix3.out)).mono ?_); rintro e x4 ⟨m, v1, rfl, hv1, hv2, hi, hg⟩; have HVV : Hid _ := hv2; clear hv2; have Ix4 : Hid (LI w q (.slice av l.length cv) l x4) := hi; have Hx4 : Hid (HAt w (w1.heap.size) x4) := HAt.grow (Hx3.out) hg hq; clear hi hg)
      (try dsimp only)
      refine hK' _ _ ?_
      clear hK' K'
      refine wpAny_take (i := 11) (v := ?_) rfl (by kernel_rfl) (by kernel_rfl) (by kernel_rfl) (fun _ _ _ h => h) (Or.inl ⟨by kernel_rfl, ?_⟩) ?_
      rotate_left
      · (intro w'; go_simp; (try with_reducible rfl))
      refine wpAny_ready (rs := [13]) (by kernel_rfl) (by simp) ?_
      refine AllReady.cons (by simp only [List.getElem?_toArray, List.getElem?_cons_succ, List.getElem?_cons_zero]; rfl) (fun K' hK' => ?_) AllReady.nil
      go_simp
      (go_at_call 56; (with_reducible refine (EN50.out _ (Ix4.out)).mono ?_); rintro e x5 ⟨tm, rfl, hk, hi, hg⟩; have HTM : Hid (0 ≤ tm ∧ tm ≤ 1000) := hk; clear hk; have Ix5 : Hid (LI w q (.slice av l.length cv) l x5) := hi; have Hx5 : Hid (HAt w (w1.heap.size) x5) := HAt.grow (Hx4.out) hg hq; clear hi hg)
      (try dsimp only)
      refine hK' _ _ ?_
      clear hK' K'
      refine wpAny_ready (rs := [14]) (by kernel_rfl) (by simp) ?_
      refine AllReady.cons (by simp only [List.getElem?_toArray, List.getElem?_cons_succ, List.getElem?_cons_zero]; rfl) (fun K' hK' => ?_) AllReady.nil
      go_simp
      (go_at_call 10; (with_reducible refine (EH.out s ky lg v1 _ tm _ (Ix5.out) HSS.out HKY.out HSL.out (HVV.out _ (Ix5.out)) HTM.out).mono ?_); rintro e x6 ⟨hx, a, b, c, d, rfl, hin, hfew, hi, hg⟩; have HX : Hid (hx.In (.slice a hx.el.length c) (.slice b hx.pl.length d) x6 x6.heap.size ∧ hx.Few ∧ 0 ≤ hx.size ∧ hx.size ≤ 100) := ⟨hin, hfew⟩; clear hin hfew; have Ix6 : Hid (LI w q (.slice av l.length cv) l x6) := hi; have Hx6 : Hid (HAt w (w1.heap.size) x6) := HAt.grow (Hx5.out) hg hq; clear hi hg)
      (try dsimp only)
      refine hK' _ _ ?_
      clear hK' K'
      have LASTNEW : Hid _ := HdAt.fresh HX.out Ix6.out
      have LASTOLD : Hid _ := HdAt.stored HX.out Ix6.out
      refine wpAny_ready (rs := [16]) (by kernel_rfl) (by simp) ?_
      refine AllReady.cons (by simp only [List.getElem?_toArray, List.getElem?_cons_succ, List.getElem?_cons_zero]; rfl) (fun K' hK' => ?_) AllReady.nil
      obtain ⟨⟨c0, c1, c2, c3, c4, c5, c6⟩, f0, f1, f2, f3, f4, f5, f6⟩ := HAt.cells (Hx6.out)
      go_simp
      refine hK' _ _ ?_
      clear hK' K'
      refine wpAny_done (by kernel_rfl) ?_ _
      go_simp
      refine hK _ _ (Met.intro (hJ _ _ ?_))
      (repeat apply Exists.intro)
      refine ⟨?rel, rfl⟩
      case rel => exact LASTOLD.out _ (Hx6.out)
    refine AllReady.cons (by simp only [List.getElem?_toArray, List.getElem?_cons_succ, List.getElem?_cons_zero]; rfl) (fun K' hK' => ?_) AllReady.nil
    go_simp
    refine hK' _ _ ?_
    clear hK' K'
    refine wpAny_ready (rs := [1]) (by kernel_rfl) (by simp) ?_
    refine AllReady.cons (by simp only [List.getElem?_toArray, List.getElem?_cons_succ, List.getElem?_cons_zero]; rfl) (fun K' hK' => ?_) AllReady.nil
    go_simp
    refine hK' _ _ ?_
    clear hK' K'
    refine wpAny_ready (rs := [2]) (by kernel_rfl) (by simp) ?_
    refine AllReady.cons (by simp only [List.getElem?_toArray, List.getElem?_cons_succ, List.getElem?_cons_zero]; rfl) (fun K' hK' => ?_) AllReady.nil
    go_simp
    (go_at_call 57; (with_reducible refine (EPs.out (w1.heap.size + 1 + 1) _ (LI.drew (LI.alloc (LI.alloc (LI.alloc (I1.out) _) _) _)) (C5.drew (C5.ofSeeds (LI.alloc (LI.alloc (I1.out) _) _).qlt (by simp)))).mono ?_); rintro e x1 ⟨s, rfl, hs, hi, hg⟩; have HSS : Hid (s.size ≤ 5) := hs; clear hs; have Ix1 : Hid (LI w q (.slice av l.length cv) l x1) := hi; have Bx1 : Hid (C5 q logL (w1.heap.size + 1) x1) := C5.grow (C5.drew (C5.alloc (C5.ofLogs (LI.alloc (I1.out) _).qlt (by simp)) _)) hg; have Hx1 : Hid (HAt w (w1.heap.size) x1) := HAt.grow (HAt.drew (HAt.alloc (HAt.alloc (HAt.new (I1.out) rfl) _) _)) hg hq; clear hi hg)
    (try dsimp only)
    refine hK' _ _ ?_
    clear hK' K'
    refine wpAny_ready (rs := [4]) (by kernel_rfl) (by simp) ?_
    refine AllReady.cons (by simp only [List.getElem?_toArray, List.getElem?_cons_succ, List.getElem?_cons_zero]; rfl) (fun K' hK' => ?_) AllReady.nil
    go_simp
    (go_at_call 56; (with_reducible refine (EN4.out _ (Ix1.out)).mono ?_); rintro e x2 ⟨ky, rfl, hk, hi, hg⟩; have HKY : Hid (0 ≤ ky ∧ ky ≤ 3) := hk; clear hk; have Ix2 : Hid (LI w q (.slice av l.length cv) l x2) := hi; have Bx2 : Hid (C5 q logL (w1.heap.size + 1) x2) := C5.grow (Bx1.out) hg; have Hx2 : Hid (HAt w (w1.heap.size) x2) := HAt.grow (Hx1.out) hg hq; clear hi hg)
    (try dsimp only)
    refine hK' _ _ ?_
    clear hK' K'
    refine wpAny_ready (rs := [7]) (by kernel_rfl) (by simp) ?_
    refine AllReady.cons (by simp only [List.getElem?_toArray, List.getElem?_cons_succ, List.getElem?_cons_zero]; rfl) (fun K' hK' => ?_) AllReady.nil
    go_simp
    (go_at_call 57; (with_reducible refine (EPl.out (w1.heap.size + 1) _ (Ix2.out) (Bx2.out)).mono ?_); rintro e x3 ⟨lg, rfl, hs, hi, hg⟩; have HSL : Hid (lg.size ≤ 5) := hs; clear hs; have Ix3 : Hid (LI w q (.slice av l.length cv) l x3) := hi; have Hx3 : Hid (HAt w (w1.heap.size) x3) := HAt.grow (Hx2.out) hg hq; clear hi hg)
    (try dsimp only)
    refine hK' _ _ ?_
    clear hK' K'
    refine wpAny_ready (rs := [10]) (by kernel_rfl) (by simp) ?_
    refine AllReady.cons (by simp only [List.getElem?_toArray, List.getElem?_cons_succ, List.getElem?_cons_zero]; rfl) (fun K' hK' => ?_) AllReady.nil
    go_simp
    (go_at_call 56; (with_reducible refine (EN10.out _ (Ix3.out)).mono ?_); rintro e x4 ⟨m, v1, rfl, hv1, hv2, hi, hg⟩; have HVV : Hid _ := hv2; clear hv2; have Ix4 : Hid (LI w q (.slice av l.length cv) l x4) := hi; have Hx4 : Hid (HAt w (w1.heap.size) x4) := HAt.grow (Hx3.out) hg hq; clear hi hg)
    (try dsimp only)
    refine hK' _ _ ?_
    clear hK' K'
    refine wpAny_take (i := 11) (v := ?_) rfl (by kernel_rfl) (by kernel_rfl) (by kernel_rfl) (fun _ _ _ h => h) (Or.inl ⟨by kernel_rfl, ?_⟩) ?_
    rotate_left
    · (intro w'; go_simp; (try with_reducible rfl))
    refine wpAny_ready (rs := [13]) (by kernel_rfl) (by simp) ?_
    refine AllReady.cons (by simp only [List.getElem?_toArray, List.getElem?_cons_succ, List.getElem?_cons_zero]; rfl) (fun K' hK' => ?_) AllReady.nil
    go_simp
    (go_at_call 56; (with_reducible refine (EN50.out _ (Ix4.out)).mono ?_); rintro e x5 ⟨tm, rfl, hk, hi, hg⟩; have HTM : Hid (0 ≤ tm ∧ tm ≤ 1000) := hk; clear hk; have Ix5 : Hid (LI w q (.slice av l.length cv) l x5) := hi; have Hx5 : Hid (HAt w (w1.heap.size) x5) := HAt.grow (Hx4.out) hg hq; clear hi hg)
    (try dsimp only)
    refine hK' _ _ ?_
    clear hK' K'
    refine wpAny_ready (rs := [14]) (by kernel_rfl) (by simp) ?_
    refine AllReady.cons (by simp only [List.getElem?_toArray, List.getElem?_cons_succ, List.getElem?_cons_zero]; rfl) (fun K' hK' => ?_) AllReady.nil
    go_simp
    (go_at_call 10; (with_reducible refine (EH.out s ky lg v1 _ tm _ (Ix5.out) HSS.out HKY.out HSL.out (HVV.out _ (Ix5.out)) HTM.out).mono ?_); rintro e x6 ⟨hx, a, b, c, d, rfl, hin, hfew, hi, hg⟩; have HX : Hid (hx.In (.slice a hx.el.length c) (.slice b hx.pl.length d) x6 x6.heap.size ∧ hx.Few ∧ 0 ≤ hx.size ∧ hx.size ≤ 100) := ⟨hin, hfew⟩; clear hin hfew; have Ix6 : Hid (LI w q (.slice av l.length cv) l x6) := hi; have Hx6 : Hid (HAt w (w1.heap.size) x6) := HAt.grow (Hx5.out) hg hq; clear hi hg)
    (try dsimp only)
    refine hK' _ _ ?_
    clear hK' K'
    have LASTNEW : Hid _ := HdAt.fresh HX.out Ix6.out
    have LASTOLD : Hid _ := HdAt.stored HX.out Ix6.out
    refine wpAny_ready (rs := [16]) (by kernel_rfl) (by simp) ?_
    refine AllReady.cons (by simp only [List.getElem?_toArray, List.getElem?_cons_succ, List.getElem?_cons_zero]; rfl) (fun K' hK' => ?_) AllReady.nil
    obtain ⟨⟨c0, c1, c2, c3, c4, c5, c6⟩, f0, f1, f2, f3, f4, f5, f6⟩ := HAt.cells (Hx6.out)
    go_simp
    refine hK' _ _ ?_
    clear hK' K'
    refine wpAny_done (by kernel_rfl) ?_ _
    go_simp
    refine hK _ _ (Met.intro (hJ _ _ ?_))
    (repeat apply Exists.intro)
    refine ⟨?rel, rfl⟩
    case rel => exact LASTOLD.out _ (Hx6.out)
  case rest =>
    obtain ⟨g, x, a, b, c, d, rfl, hin, hsz⟩ := hcut
    have H1 : Hid (HdIn w q g x a b c d wc) := hin
    have HSZ : Hid (0 ≤ x.size ∧ x.size ≤ 100) := hsz
    have HFEW : Hid (∀ v : Int, -1 ≤ v → v ≤ 101 → (Hd.mk x.log x.root v x.time x.k x.el x.pl).Few) := fun v h0 h1 => ⟨hin.2.2.2.1.1, hin.2.2.2.1.2.1, hin.2.2.2.1.2.2.1, hin.2.2.2.1.2.2.2.1, ⟨by show -9223372036854775808 ≤ v; omega, by show v ≤ 9223372036854775807; omega⟩, hin.2.2.2.1.2.2.2.2.2⟩
    have HFET : Hid (∀ v : Int, -1 ≤ v → v ≤ 1000000001 → (Hd.mk x.log x.root x.size v x.k x.el x.pl).Few) := fun v h0 h1 => ⟨hin.2.2.2.1.1, hin.2.2.2.1.2.1, hin.2.2.2.1.2.2.1, hin.2.2.2.1.2.2.2.1, hin.2.2.2.1.2.2.2.2.1, by show -9223372036854775808 ≤ v; omega, by show v ≤ 9223372036854775807; omega⟩
    clear hin hsz EPs EPl EN4 EN50 EN10 EH I1
    have EO : Hid (∀ W', Src W' q → Calls Tryz.prog 59 #[.pointer (some ⟨q, 0, none⟩), .int .i64 12] W' fun e w'' => BoolAns q W' e w'') := fun W' h => one_any q 12 W' h (by omega)
    have EN : Hid (∀ m W', Src W' q → m ≤ 1000 → Calls Tryz.prog 56 #[.pointer (some ⟨q, 0, none⟩), .int .i64 m] W' fun e w'' => NumAns m q W' e w'') := fun m W' h hm => n_any q m W' h (by omega)
    have ED : Hid (∀ W', Calls Tryz.prog 165 #[.string ⟨#[114]⟩] W' fun e w'' => ∃ t : ByteArray, e = .returned (.string t) ∧ t.size ≤ 32 ∧ Below W'.heap.size W' w'') := fun W' => (specDigest_any ⟨#[114]⟩ W' (show (1 : Nat) ≤ 1048576 by omega)).mono fun e w'' h => ⟨_, h.1, digV_le _, h.2⟩
    have EG : Hid (∀ W', Src W' q → Calls Tryz.prog 166 #[.pointer (some ⟨q, 0, none⟩)] W' fun e w'' => SigDrawn q W' e w'') := fun W' h => sig_any q W' h
    go_wp2_with fail
    refine (EO.out _ H1.out.2.2.2.2.1).mono ?_
    rintro e w2 ⟨bb, rfl, hs2, hg2⟩
    have H2 : Hid (HdIn w q g x a b c d w2) := H1.out.grow hs2 hg2
    clear hs2 hg2 H1 EO
    cases bb with
    | false =>
      obtain ⟨⟨⟨r0, r1, r2, r3, r4, r5, r6⟩, fr0, fr1, fr2, fr3, fr4, fr5, fr6⟩, ⟨⟨s0, s1, s2, s3, s4, s5, s6⟩, fs0, fs1, fs2, fs3, fs4, fs5, fs6⟩, ne1, ne2⟩ := HdIn.cells (H2.out)
      have HF : Hid _ := Hid.mk2 H2.out.answer
      go_wp2
      exact bodyPost_ret (v := .agg #[.string x.log, .int .i64 x.size, .string x.root, .int .i64 x.time, .int .i64 x.k, .slice a x.el.length c, .slice b x.pl.length d]) (by simp [results, Tryz.results79, go_sem, r0, r1, r2, r3, r4, r5, r6, fr0, fr1, fr2, fr3, fr4, fr5, fr6, s0, s1, s2, s3, s4, s5, s6, fs0, fs1, fs2, fs3, fs4, fs5, fs6, ne1, ne2]) rfl HF.out
    | true =>
      go_wp2_with fail
      refine (EN.out 4 _ H2.out.2.2.2.2.1 (by omega)).mono ?_
      rintro e w3 ⟨y, rfl, hy0, hy1, hs3, hg3⟩
      have H3 : Hid (HdIn w q g x a b c d w3) := H2.out.grow hs3 hg3
      have hy4 : y = 0 ∨ y = 1 ∨ y = 2 ∨ y = 3 := by omega
      clear hs3 hg3 H2 hy0 hy1
      rcases hy4 with rfl | rfl | rfl | rfl
      · obtain ⟨xs0, xs1⟩ := HSZ.out
        have hwr : IntKind.i64.wrap (x.size + 1) = x.size + 1 := by rw [IntKind.wrap_i64]; omega
        go_wp2_with fail
        refine wp_region_any (by kernel_rfl) ?_
        try (change wpAny _ _ _ _ _ _ _ (World.drew _))
        refine wpAny_take (i := 0) (v := ?_) rfl (by kernel_rfl) (by kernel_rfl) (by kernel_rfl) (fun _ _ _ h => h) (Or.inl ⟨by kernel_rfl, ?_⟩) ?_
        rotate_left
        · (intro w'; go_simp; (try with_reducible rfl))
        refine wpAny_take (i := 4) (v := ?_) rfl (by kernel_rfl) (by kernel_rfl) (by kernel_rfl) (fun _ _ _ h => h) (Or.inl ⟨by kernel_rfl, ?_⟩) ?_
        rotate_left
        · (intro w'; go_simp; (try with_reducible rfl))
        obtain ⟨⟨⟨r0, r1, r2, r3, r4, r5, r6⟩, fr0, fr1, fr2, fr3, fr4, fr5, fr6⟩, ⟨⟨s0, s1, s2, s3, s4, s5, s6⟩, fs0, fs1, fs2, fs3, fs4, fs5, fs6⟩, ne1, ne2⟩ := HdIn.cells (H3.out)
        refine wpAny_ready (rs := [1, 5]) (by kernel_rfl) (by simp) ?_
        refine AllReady.cons (by simp only [List.getElem?_toArray, List.getElem?_cons_succ, List.getElem?_cons_zero]; rfl) (fun K' hK' => ?_) ?_
        · go_simp
          refine hK' _ _ ?_
          clear hK' K'
          refine wpAny_take (i := 2) (v := ?_) rfl (by kernel_rfl) (by kernel_rfl) (by kernel_rfl) (fun _ _ _ h => h) (Or.inl ⟨by kernel_rfl, ?_⟩) ?_
          rotate_left
          · (intro w'; go_simp; (try with_reducible rfl))
          refine wpAny_ready (rs := [3, 5]) (by kernel_rfl) (by simp) ?_
          refine AllReady.cons (by simp only [List.getElem?_toArray, List.getElem?_cons_succ, List.getElem?_cons_zero]; rfl) (fun K' hK' => ?_) ?_
          · go_simp
            refine hK' _ _ ?_
            clear hK' K'
            refine wpAny_ready (rs := [5]) (by kernel_rfl) (by simp) ?_
            refine AllReady.cons (by simp only [List.getElem?_toArray, List.getElem?_cons_succ, List.getElem?_cons_zero]; rfl) (fun K' hK' => ?_) AllReady.nil
            go_simp
            (go_at_call 56; (with_reducible refine (EN.out 4 _ (HdIn.src (HdIn.drew (HdIn.alloc H3.out _))) (by omega)).mono ?_); rintro e w4 ⟨z, rfl, hz0, hz1, hs, hg⟩; have H4 : Hid (HdIn w q g x a b c d w4) := Hid.mk2 (HdIn.grow (HdIn.drew (HdIn.alloc H3.out _)) hs hg); have HG : Hid _ := Hid.mk2 hg; clear hs hg)
            (try dsimp only)
            refine hK' _ _ ?_
            clear hK' K'
            have hz4 : z = 0 ∨ z = 1 ∨ z = 2 ∨ z = 3 := by omega
            clear hz0 hz1
            have HQ := H3.out.2.2.2.2.1.lt
            have k0 := edge_cell (w := w3) (show World.grownBy (w3.alloc _) w4 (some q) from ⟨HG.out.os, HG.out.tape, HG.out.output, HG.out.size, HG.out.block⟩) HQ 0
            have k1 := edge_cell (w := w3) (show World.grownBy (w3.alloc _) w4 (some q) from ⟨HG.out.os, HG.out.tape, HG.out.output, HG.out.size, HG.out.block⟩) HQ 1
            have k2 := edge_cell (w := w3) (show World.grownBy (w3.alloc _) w4 (some q) from ⟨HG.out.os, HG.out.tape, HG.out.output, HG.out.size, HG.out.block⟩) HQ 2
            have k3 := edge_cell (w := w3) (show World.grownBy (w3.alloc _) w4 (some q) from ⟨HG.out.os, HG.out.tape, HG.out.output, HG.out.size, HG.out.block⟩) HQ 3
            have HL : Hid _ := Hid.mk2 (H4.out)
            obtain ⟨⟨⟨r0, r1, r2, r3, r4, r5, r6⟩, fr0, fr1, fr2, fr3, fr4, fr5, fr6⟩, ⟨⟨s0, s1, s2, s3, s4, s5, s6⟩, fs0, fs1, fs2, fs3, fs4, fs5, fs6⟩, ne1, ne2⟩ := HdIn.cells (HL.out)
            rcases hz4 with rfl | rfl | rfl | rfl
            · refine wpAny_take (i := 6) (v := ?_) rfl (by kernel_rfl) (by kernel_rfl) (by kernel_rfl) (fun _ _ _ h => h) (Or.inl ⟨by kernel_rfl, ?_⟩) ?_
              rotate_left
              · (intro w'; go_simp; (try with_reducible rfl))
              refine wpAny_ready (rs := [7]) (by kernel_rfl) (by simp) ?_
              refine AllReady.cons (by simp only [List.getElem?_toArray, List.getElem?_cons_succ, List.getElem?_cons_zero]; rfl) (fun K' hK' => ?_) AllReady.nil
              go_simp
              refine hK' _ _ ?_
              clear hK' K'
              refine wpAny_take (i := 8) (v := ?_) rfl (by kernel_rfl) (by kernel_rfl) (by kernel_rfl) (fun _ _ _ h => h) (Or.inl ⟨by kernel_rfl, ?_⟩) ?_
              rotate_left
              · (intro w'; go_simp; (try with_reducible rfl))
              have HF : Hid _ := Hid.mk2 (HdIn.answerPut HL.out (y := ⟨x.log, x.root, (-1), x.time, x.k, x.el, x.pl⟩) (a' := a) (b' := b) (c' := c) (d' := d) (i := 1) (u := .int .i64 (-1)) (.inr ⟨fun s e => (by cases e), by decide, by decide⟩) rfl (HFEW.out (-1) (by omega) (by omega)) HL.out.2.2.1)
              refine wpAny_ready (rs := [9]) (by kernel_rfl) (by simp) ?_
              refine AllReady.cons (by simp only [List.getElem?_toArray, List.getElem?_cons_succ, List.getElem?_cons_zero]; rfl) (fun K' hK' => ?_) AllReady.nil
              go_simp
              refine hK' _ _ ?_
              clear hK' K'
              refine wpAny_done (by kernel_rfl) ?_ _
              go_simp
              go_wp2
              exact bodyPost_ret (v := .agg #[.string x.log, .int .i64 (-1), .string x.root, .int .i64 x.time, .int .i64 x.k, .slice a x.el.length c, .slice b x.pl.length d]) (by simp [results, Tryz.results79, go_sem, r0, r1, r2, r3, r4, r5, r6, fr0, fr1, fr2, fr3, fr4, fr5, fr6, s0, s1, s2, s3, s4, s5, s6, fs0, fs1, fs2, fs3, fs4, fs5, fs6, ne1, ne2]) rfl HF.out
            · refine wpAny_take (i := 6) (v := ?_) rfl (by kernel_rfl) (by kernel_rfl) (by kernel_rfl) (fun _ _ _ h => h) (Or.inl ⟨by kernel_rfl, ?_⟩) ?_
              rotate_left
              · (intro w'; go_simp; (try with_reducible rfl))
              refine wpAny_ready (rs := [7]) (by kernel_rfl) (by simp) ?_
              refine AllReady.cons (by simp only [List.getElem?_toArray, List.getElem?_cons_succ, List.getElem?_cons_zero]; rfl) (fun K' hK' => ?_) AllReady.nil
              go_simp
              refine hK' _ _ ?_
              clear hK' K'
              refine wpAny_take (i := 8) (v := ?_) rfl (by kernel_rfl) (by kernel_rfl) (by kernel_rfl) (fun _ _ _ h => h) (Or.inl ⟨by kernel_rfl, ?_⟩) ?_
              rotate_left
              · (intro w'; go_simp; (try with_reducible rfl))
              have HF : Hid _ := Hid.mk2 (HdIn.answerPut HL.out (y := ⟨x.log, x.root, 64, x.time, x.k, x.el, x.pl⟩) (a' := a) (b' := b) (c' := c) (d' := d) (i := 1) (u := .int .i64 64) (.inr ⟨fun s e => (by cases e), by decide, by decide⟩) rfl (HFEW.out 64 (by omega) (by omega)) HL.out.2.2.1)
              refine wpAny_ready (rs := [9]) (by kernel_rfl) (by simp) ?_
              refine AllReady.cons (by simp only [List.getElem?_toArray, List.getElem?_cons_succ, List.getElem?_cons_zero]; rfl) (fun K' hK' => ?_) AllReady.nil
              go_simp
              refine hK' _ _ ?_
              clear hK' K'
              refine wpAny_done (by kernel_rfl) ?_ _
              go_simp
              go_wp2
              exact bodyPost_ret (v := .agg #[.string x.log, .int .i64 64, .string x.root, .int .i64 x.time, .int .i64 x.k, .slice a x.el.length c, .slice b x.pl.length d]) (by simp [results, Tryz.results79, go_sem, r0, r1, r2, r3, r4, r5, r6, fr0, fr1, fr2, fr3, fr4, fr5, fr6, s0, s1, s2, s3, s4, s5, s6, fs0, fs1, fs2, fs3, fs4, fs5, fs6, ne1, ne2]) rfl HF.out
            · refine wpAny_take (i := 6) (v := ?_) rfl (by kernel_rfl) (by kernel_rfl) (by kernel_rfl) (fun _ _ _ h => h) (Or.inl ⟨by kernel_rfl, ?_⟩) ?_
              rotate_left
              · (intro w'; go_simp; (try with_reducible rfl))
              refine wpAny_ready (rs := [7]) (by kernel_rfl) (by simp) ?_
              refine AllReady.cons (by simp only [List.getElem?_toArray, List.getElem?_cons_succ, List.getElem?_cons_zero]; rfl) (fun K' hK' => ?_) AllReady.nil
              go_simp
              refine hK' _ _ ?_
              clear hK' K'
              refine wpAny_take (i := 8) (v := ?_) rfl (by kernel_rfl) (by kernel_rfl) (by kernel_rfl) (fun _ _ _ h => h) (Or.inl ⟨by kernel_rfl, ?_⟩) ?_
              rotate_left
              · (intro w'; go_simp; (try with_reducible rfl))
              have HF : Hid _ := Hid.mk2 (HdIn.answerPut HL.out (y := ⟨x.log, x.root, 65, x.time, x.k, x.el, x.pl⟩) (a' := a) (b' := b) (c' := c) (d' := d) (i := 1) (u := .int .i64 65) (.inr ⟨fun s e => (by cases e), by decide, by decide⟩) rfl (HFEW.out 65 (by omega) (by omega)) HL.out.2.2.1)
              refine wpAny_ready (rs := [9]) (by kernel_rfl) (by simp) ?_
              refine AllReady.cons (by simp only [List.getElem?_toArray, List.getElem?_cons_succ, List.getElem?_cons_zero]; rfl) (fun K' hK' => ?_) AllReady.nil
              go_simp
              refine hK' _ _ ?_
              clear hK' K'
              refine wpAny_done (by kernel_rfl) ?_ _
              go_simp
              go_wp2
              exact bodyPost_ret (v := .agg #[.string x.log, .int .i64 65, .string x.root, .int .i64 x.time, .int .i64 x.k, .slice a x.el.length c, .slice b x.pl.length d]) (by simp [results, Tryz.results79, go_sem, r0, r1, r2, r3, r4, r5, r6, fr0, fr1, fr2, fr3, fr4, fr5, fr6, s0, s1, s2, s3, s4, s5, s6, fs0, fs1, fs2, fs3, fs4, fs5, fs6, ne1, ne2]) rfl HF.out
            · refine wpAny_take (i := 6) (v := ?_) rfl (by kernel_rfl) (by kernel_rfl) (by kernel_rfl) (fun _ _ _ h => h) (Or.inl ⟨by kernel_rfl, ?_⟩) ?_
              rotate_left
              · (intro w'; go_simp; (try with_reducible rfl))
              refine wpAny_ready (rs := [7]) (by kernel_rfl) (by simp) ?_
              refine AllReady.cons (by simp only [List.getElem?_toArray, List.getElem?_cons_succ, List.getElem?_cons_zero]; rfl) (fun K' hK' => ?_) AllReady.nil
              go_simp
              refine hK' _ _ ?_
              clear hK' K'
              refine wpAny_take (i := 8) (v := ?_) rfl (by kernel_rfl) (by kernel_rfl) (by kernel_rfl) (fun _ _ _ h => h) (Or.inl ⟨by kernel_rfl, ?_⟩) ?_
              rotate_left
              · (intro w'; go_simp; (try with_reducible rfl))
              have HF : Hid _ := Hid.mk2 (HdIn.answerPut HL.out (y := ⟨x.log, x.root, (x.size + 1), x.time, x.k, x.el, x.pl⟩) (a' := a) (b' := b) (c' := c) (d' := d) (i := 1) (u := .int .i64 (x.size + 1)) (.inr ⟨fun s e => (by cases e), by decide, by decide⟩) rfl (HFEW.out (x.size + 1) (by omega) (by omega)) HL.out.2.2.1)
              refine wpAny_ready (rs := [9]) (by kernel_rfl) (by simp) ?_
              refine AllReady.cons (by simp only [List.getElem?_toArray, List.getElem?_cons_succ, List.getElem?_cons_zero]; rfl) (fun K' hK' => ?_) AllReady.nil
              go_simp
              refine hK' _ _ ?_
              clear hK' K'
              refine wpAny_done (by kernel_rfl) ?_ _
              go_simp
              go_wp2
              exact bodyPost_ret (v := .agg #[.string x.log, .int .i64 (x.size + 1), .string x.root, .int .i64 x.time, .int .i64 x.k, .slice a x.el.length c, .slice b x.pl.length d]) (by simp [results, Tryz.results79, go_sem, r0, r1, r2, r3, r4, r5, r6, fr0, fr1, fr2, fr3, fr4, fr5, fr6, s0, s1, s2, s3, s4, s5, s6, fs0, fs1, fs2, fs3, fs4, fs5, fs6, ne1, ne2]) rfl HF.out
          refine AllReady.cons (by simp only [List.getElem?_toArray, List.getElem?_cons_succ, List.getElem?_cons_zero]; rfl) (fun K' hK' => ?_) AllReady.nil
          go_simp
          (go_at_call 56; (with_reducible refine (EN.out 4 _ (HdIn.src (HdIn.drew H3.out)) (by omega)).mono ?_); rintro e w4 ⟨z, rfl, hz0, hz1, hs, hg⟩; have H4 : Hid (HdIn w q g x a b c d w4) := Hid.mk2 (HdIn.grow (HdIn.drew H3.out) hs hg); have HG : Hid _ := Hid.mk2 hg; clear hs hg)
          (try dsimp only)
          refine hK' _ _ ?_
          clear hK' K'
          refine wpAny_ready (rs := [3]) (by kernel_rfl) (by simp) ?_
          refine AllReady.cons (by simp only [List.getElem?_toArray, List.getElem?_cons_succ, List.getElem?_cons_zero]; rfl) (fun K' hK' => ?_) AllReady.nil
          go_simp
          refine hK' _ _ ?_
          clear hK' K'
          have hz4 : z = 0 ∨ z = 1 ∨ z = 2 ∨ z = 3 := by omega
          clear hz0 hz1
          have HL : Hid _ := Hid.mk2 (HdIn.alloc H4.out (.cells #[.int .i64 (-1), .int .i64 64, .int .i64 65, .int .i64 (x.size + 1)] 2))
          obtain ⟨⟨⟨r0, r1, r2, r3, r4, r5, r6⟩, fr0, fr1, fr2, fr3, fr4, fr5, fr6⟩, ⟨⟨s0, s1, s2, s3, s4, s5, s6⟩, fs0, fs1, fs2, fs3, fs4, fs5, fs6⟩, ne1, ne2⟩ := HdIn.cells (HL.out)
          rcases hz4 with rfl | rfl | rfl | rfl
          · refine wpAny_take (i := 6) (v := ?_) rfl (by kernel_rfl) (by kernel_rfl) (by kernel_rfl) (fun _ _ _ h => h) (Or.inl ⟨by kernel_rfl, ?_⟩) ?_
            rotate_left
            · (intro w'; go_simp; (try with_reducible rfl))
            refine wpAny_ready (rs := [7]) (by kernel_rfl) (by simp) ?_
            refine AllReady.cons (by simp only [List.getElem?_toArray, List.getElem?_cons_succ, List.getElem?_cons_zero]; rfl) (fun K' hK' => ?_) AllReady.nil
            go_simp
            refine hK' _ _ ?_
            clear hK' K'
            refine wpAny_take (i := 8) (v := ?_) rfl (by kernel_rfl) (by kernel_rfl) (by kernel_rfl) (fun _ _ _ h => h) (Or.inl ⟨by kernel_rfl, ?_⟩) ?_
            rotate_left
            · (intro w'; go_simp; (try with_reducible rfl))
            have HF : Hid _ := Hid.mk2 (HdIn.answerPut HL.out (y := ⟨x.log, x.root, (-1), x.time, x.k, x.el, x.pl⟩) (a' := a) (b' := b) (c' := c) (d' := d) (i := 1) (u := .int .i64 (-1)) (.inr ⟨fun s e => (by cases e), by decide, by decide⟩) rfl (HFEW.out (-1) (by omega) (by omega)) HL.out.2.2.1)
            refine wpAny_ready (rs := [9]) (by kernel_rfl) (by simp) ?_
            refine AllReady.cons (by simp only [List.getElem?_toArray, List.getElem?_cons_succ, List.getElem?_cons_zero]; rfl) (fun K' hK' => ?_) AllReady.nil
            go_simp
            refine hK' _ _ ?_
            clear hK' K'
            refine wpAny_done (by kernel_rfl) ?_ _
            go_simp
            go_wp2
            exact bodyPost_ret (v := .agg #[.string x.log, .int .i64 (-1), .string x.root, .int .i64 x.time, .int .i64 x.k, .slice a x.el.length c, .slice b x.pl.length d]) (by simp [results, Tryz.results79, go_sem, r0, r1, r2, r3, r4, r5, r6, fr0, fr1, fr2, fr3, fr4, fr5, fr6, s0, s1, s2, s3, s4, s5, s6, fs0, fs1, fs2, fs3, fs4, fs5, fs6, ne1, ne2]) rfl HF.out
          · refine wpAny_take (i := 6) (v := ?_) rfl (by kernel_rfl) (by kernel_rfl) (by kernel_rfl) (fun _ _ _ h => h) (Or.inl ⟨by kernel_rfl, ?_⟩) ?_
            rotate_left
            · (intro w'; go_simp; (try with_reducible rfl))
            refine wpAny_ready (rs := [7]) (by kernel_rfl) (by simp) ?_
            refine AllReady.cons (by simp only [List.getElem?_toArray, List.getElem?_cons_succ, List.getElem?_cons_zero]; rfl) (fun K' hK' => ?_) AllReady.nil
            go_simp
            refine hK' _ _ ?_
            clear hK' K'
            refine wpAny_take (i := 8) (v := ?_) rfl (by kernel_rfl) (by kernel_rfl) (by kernel_rfl) (fun _ _ _ h => h) (Or.inl ⟨by kernel_rfl, ?_⟩) ?_
            rotate_left
            · (intro w'; go_simp; (try with_reducible rfl))
            have HF : Hid _ := Hid.mk2 (HdIn.answerPut HL.out (y := ⟨x.log, x.root, 64, x.time, x.k, x.el, x.pl⟩) (a' := a) (b' := b) (c' := c) (d' := d) (i := 1) (u := .int .i64 64) (.inr ⟨fun s e => (by cases e), by decide, by decide⟩) rfl (HFEW.out 64 (by omega) (by omega)) HL.out.2.2.1)
            refine wpAny_ready (rs := [9]) (by kernel_rfl) (by simp) ?_
            refine AllReady.cons (by simp only [List.getElem?_toArray, List.getElem?_cons_succ, List.getElem?_cons_zero]; rfl) (fun K' hK' => ?_) AllReady.nil
            go_simp
            refine hK' _ _ ?_
            clear hK' K'
            refine wpAny_done (by kernel_rfl) ?_ _
            go_simp
            go_wp2
            exact bodyPost_ret (v := .agg #[.string x.log, .int .i64 64, .string x.root, .int .i64 x.time, .int .i64 x.k, .slice a x.el.length c, .slice b x.pl.length d]) (by simp [results, Tryz.results79, go_sem, r0, r1, r2, r3, r4, r5, r6, fr0, fr1, fr2, fr3, fr4, fr5, fr6, s0, s1, s2, s3, s4, s5, s6, fs0, fs1, fs2, fs3, fs4, fs5, fs6, ne1, ne2]) rfl HF.out
          · refine wpAny_take (i := 6) (v := ?_) rfl (by kernel_rfl) (by kernel_rfl) (by kernel_rfl) (fun _ _ _ h => h) (Or.inl ⟨by kernel_rfl, ?_⟩) ?_
            rotate_left
            · (intro w'; go_simp; (try with_reducible rfl))
            refine wpAny_ready (rs := [7]) (by kernel_rfl) (by simp) ?_
            refine AllReady.cons (by simp only [List.getElem?_toArray, List.getElem?_cons_succ, List.getElem?_cons_zero]; rfl) (fun K' hK' => ?_) AllReady.nil
            go_simp
            refine hK' _ _ ?_
            clear hK' K'
            refine wpAny_take (i := 8) (v := ?_) rfl (by kernel_rfl) (by kernel_rfl) (by kernel_rfl) (fun _ _ _ h => h) (Or.inl ⟨by kernel_rfl, ?_⟩) ?_
            rotate_left
            · (intro w'; go_simp; (try with_reducible rfl))
            have HF : Hid _ := Hid.mk2 (HdIn.answerPut HL.out (y := ⟨x.log, x.root, 65, x.time, x.k, x.el, x.pl⟩) (a' := a) (b' := b) (c' := c) (d' := d) (i := 1) (u := .int .i64 65) (.inr ⟨fun s e => (by cases e), by decide, by decide⟩) rfl (HFEW.out 65 (by omega) (by omega)) HL.out.2.2.1)
            refine wpAny_ready (rs := [9]) (by kernel_rfl) (by simp) ?_
            refine AllReady.cons (by simp only [List.getElem?_toArray, List.getElem?_cons_succ, List.getElem?_cons_zero]; rfl) (fun K' hK' => ?_) AllReady.nil
            go_simp
            refine hK' _ _ ?_
            clear hK' K'
            refine wpAny_done (by kernel_rfl) ?_ _
            go_simp
            go_wp2
            exact bodyPost_ret (v := .agg #[.string x.log, .int .i64 65, .string x.root, .int .i64 x.time, .int .i64 x.k, .slice a x.el.length c, .slice b x.pl.length d]) (by simp [results, Tryz.results79, go_sem, r0, r1, r2, r3, r4, r5, r6, fr0, fr1, fr2, fr3, fr4, fr5, fr6, s0, s1, s2, s3, s4, s5, s6, fs0, fs1, fs2, fs3, fs4, fs5, fs6, ne1, ne2]) rfl HF.out
          · refine wpAny_take (i := 6) (v := ?_) rfl (by kernel_rfl) (by kernel_rfl) (by kernel_rfl) (fun _ _ _ h => h) (Or.inl ⟨by kernel_rfl, ?_⟩) ?_
            rotate_left
            · (intro w'; go_simp; (try with_reducible rfl))
            refine wpAny_ready (rs := [7]) (by kernel_rfl) (by simp) ?_
            refine AllReady.cons (by simp only [List.getElem?_toArray, List.getElem?_cons_succ, List.getElem?_cons_zero]; rfl) (fun K' hK' => ?_) AllReady.nil
            go_simp
            refine hK' _ _ ?_
            clear hK' K'
            refine wpAny_take (i := 8) (v := ?_) rfl (by kernel_rfl) (by kernel_rfl) (by kernel_rfl) (fun _ _ _ h => h) (Or.inl ⟨by kernel_rfl, ?_⟩) ?_
            rotate_left
            · (intro w'; go_simp; (try with_reducible rfl))
            have HF : Hid _ := Hid.mk2 (HdIn.answerPut HL.out (y := ⟨x.log, x.root, (x.size + 1), x.time, x.k, x.el, x.pl⟩) (a' := a) (b' := b) (c' := c) (d' := d) (i := 1) (u := .int .i64 (x.size + 1)) (.inr ⟨fun s e => (by cases e), by decide, by decide⟩) rfl (HFEW.out (x.size + 1) (by omega) (by omega)) HL.out.2.2.1)
            refine wpAny_ready (rs := [9]) (by kernel_rfl) (by simp) ?_
            refine AllReady.cons (by simp only [List.getElem?_toArray, List.getElem?_cons_succ, List.getElem?_cons_zero]; rfl) (fun K' hK' => ?_) AllReady.nil
            go_simp
            refine hK' _ _ ?_
            clear hK' K'
            refine wpAny_done (by kernel_rfl) ?_ _
            go_simp
            go_wp2
            exact bodyPost_ret (v := .agg #[.string x.log, .int .i64 (x.size + 1), .string x.root, .int .i64 x.time, .int .i64 x.k, .slice a x.el.length c, .slice b x.pl.length d]) (by simp [results, Tryz.results79, go_sem, r0, r1, r2, r3, r4, r5, r6, fr0, fr1, fr2, fr3, fr4, fr5, fr6, s0, s1, s2, s3, s4, s5, s6, fs0, fs1, fs2, fs3, fs4, fs5, fs6, ne1, ne2]) rfl HF.out
        refine AllReady.cons (by simp only [List.getElem?_toArray, List.getElem?_cons_succ, List.getElem?_cons_zero]; rfl) (fun K' hK' => ?_) AllReady.nil
        go_simp
        (go_at_call 56; (with_reducible refine (EN.out 4 _ (HdIn.src (HdIn.drew H3.out)) (by omega)).mono ?_); rintro e w4 ⟨z, rfl, hz0, hz1, hs, hg⟩; have H4 : Hid (HdIn w q g x a b c d w4) := Hid.mk2 (HdIn.grow (HdIn.drew H3.out) hs hg); have HG : Hid _ := Hid.mk2 hg; clear hs hg)
        (try dsimp only)
        refine hK' _ _ ?_
        clear hK' K'
        clear r0 r1 r2 r3 r4 r5 r6 fr0 fr1 fr2 fr3 fr4 fr5 fr6 s0 s1 s2 s3 s4 s5 s6 fs0 fs1 fs2 fs3 fs4 fs5 fs6 ne1 ne2
        obtain ⟨⟨⟨r0, r1, r2, r3, r4, r5, r6⟩, fr0, fr1, fr2, fr3, fr4, fr5, fr6⟩, ⟨⟨s0, s1, s2, s3, s4, s5, s6⟩, fs0, fs1, fs2, fs3, fs4, fs5, fs6⟩, ne1, ne2⟩ := HdIn.cells (H4.out)
        refine wpAny_ready (rs := [1]) (by kernel_rfl) (by simp) ?_
        refine AllReady.cons (by simp only [List.getElem?_toArray, List.getElem?_cons_succ, List.getElem?_cons_zero]; rfl) (fun K' hK' => ?_) AllReady.nil
        go_simp
        refine hK' _ _ ?_
        clear hK' K'
        refine wpAny_take (i := 2) (v := ?_) rfl (by kernel_rfl) (by kernel_rfl) (by kernel_rfl) (fun _ _ _ h => h) (Or.inl ⟨by kernel_rfl, ?_⟩) ?_
        rotate_left
        · (intro w'; go_simp; (try with_reducible rfl))
        refine wpAny_ready (rs := [3]) (by kernel_rfl) (by simp) ?_
        refine AllReady.cons (by simp only [List.getElem?_toArray, List.getElem?_cons_succ, List.getElem?_cons_zero]; rfl) (fun K' hK' => ?_) AllReady.nil
        go_simp
        refine hK' _ _ ?_
        clear hK' K'
        clear r0 r1 r2 r3 r4 r5 r6 fr0 fr1 fr2 fr3 fr4 fr5 fr6 s0 s1 s2 s3 s4 s5 s6 fs0 fs1 fs2 fs3 fs4 fs5 fs6 ne1 ne2
        have hz4 : z = 0 ∨ z = 1 ∨ z = 2 ∨ z = 3 := by omega
        clear hz0 hz1
        have HL : Hid _ := Hid.mk2 (HdIn.alloc H4.out (.cells #[.int .i64 (-1), .int .i64 64, .int .i64 65, .int .i64 (x.size + 1)] 2))
        obtain ⟨⟨⟨r0, r1, r2, r3, r4, r5, r6⟩, fr0, fr1, fr2, fr3, fr4, fr5, fr6⟩, ⟨⟨s0, s1, s2, s3, s4, s5, s6⟩, fs0, fs1, fs2, fs3, fs4, fs5, fs6⟩, ne1, ne2⟩ := HdIn.cells (HL.out)
        rcases hz4 with rfl | rfl | rfl | rfl
        · refine wpAny_take (i := 6) (v := ?_) rfl (by kernel_rfl) (by kernel_rfl) (by kernel_rfl) (fun _ _ _ h => h) (Or.inl ⟨by kernel_rfl, ?_⟩) ?_
          rotate_left
          · (intro w'; go_simp; (try with_reducible rfl))
          refine wpAny_ready (rs := [7]) (by kernel_rfl) (by simp) ?_
          refine AllReady.cons (by simp only [List.getElem?_toArray, List.getElem?_cons_succ, List.getElem?_cons_zero]; rfl) (fun K' hK' => ?_) AllReady.nil
          go_simp
          refine hK' _ _ ?_
          clear hK' K'
          refine wpAny_take (i := 8) (v := ?_) rfl (by kernel_rfl) (by kernel_rfl) (by kernel_rfl) (fun _ _ _ h => h) (Or.inl ⟨by kernel_rfl, ?_⟩) ?_
          rotate_left
          · (intro w'; go_simp; (try with_reducible rfl))
          have HF : Hid _ := Hid.mk2 (HdIn.answerPut HL.out (y := ⟨x.log, x.root, (-1), x.time, x.k, x.el, x.pl⟩) (a' := a) (b' := b) (c' := c) (d' := d) (i := 1) (u := .int .i64 (-1)) (.inr ⟨fun s e => (by cases e), by decide, by decide⟩) rfl (HFEW.out (-1) (by omega) (by omega)) HL.out.2.2.1)
          refine wpAny_ready (rs := [9]) (by kernel_rfl) (by simp) ?_
          refine AllReady.cons (by simp only [List.getElem?_toArray, List.getElem?_cons_succ, List.getElem?_cons_zero]; rfl) (fun K' hK' => ?_) AllReady.nil
          go_simp
          refine hK' _ _ ?_
          clear hK' K'
          refine wpAny_done (by kernel_rfl) ?_ _
          go_simp
          go_wp2
          exact bodyPost_ret (v := .agg #[.string x.log, .int .i64 (-1), .string x.root, .int .i64 x.time, .int .i64 x.k, .slice a x.el.length c, .slice b x.pl.length d]) (by simp [results, Tryz.results79, go_sem, r0, r1, r2, r3, r4, r5, r6, fr0, fr1, fr2, fr3, fr4, fr5, fr6, s0, s1, s2, s3, s4, s5, s6, fs0, fs1, fs2, fs3, fs4, fs5, fs6, ne1, ne2]) rfl HF.out
        · refine wpAny_take (i := 6) (v := ?_) rfl (by kernel_rfl) (by kernel_rfl) (by kernel_rfl) (fun _ _ _ h => h) (Or.inl ⟨by kernel_rfl, ?_⟩) ?_
          rotate_left
          · (intro w'; go_simp; (try with_reducible rfl))
          refine wpAny_ready (rs := [7]) (by kernel_rfl) (by simp) ?_
          refine AllReady.cons (by simp only [List.getElem?_toArray, List.getElem?_cons_succ, List.getElem?_cons_zero]; rfl) (fun K' hK' => ?_) AllReady.nil
          go_simp
          refine hK' _ _ ?_
          clear hK' K'
          refine wpAny_take (i := 8) (v := ?_) rfl (by kernel_rfl) (by kernel_rfl) (by kernel_rfl) (fun _ _ _ h => h) (Or.inl ⟨by kernel_rfl, ?_⟩) ?_
          rotate_left
          · (intro w'; go_simp; (try with_reducible rfl))
          have HF : Hid _ := Hid.mk2 (HdIn.answerPut HL.out (y := ⟨x.log, x.root, 64, x.time, x.k, x.el, x.pl⟩) (a' := a) (b' := b) (c' := c) (d' := d) (i := 1) (u := .int .i64 64) (.inr ⟨fun s e => (by cases e), by decide, by decide⟩) rfl (HFEW.out 64 (by omega) (by omega)) HL.out.2.2.1)
          refine wpAny_ready (rs := [9]) (by kernel_rfl) (by simp) ?_
          refine AllReady.cons (by simp only [List.getElem?_toArray, List.getElem?_cons_succ, List.getElem?_cons_zero]; rfl) (fun K' hK' => ?_) AllReady.nil
          go_simp
          refine hK' _ _ ?_
          clear hK' K'
          refine wpAny_done (by kernel_rfl) ?_ _
          go_simp
          go_wp2
          exact bodyPost_ret (v := .agg #[.string x.log, .int .i64 64, .string x.root, .int .i64 x.time, .int .i64 x.k, .slice a x.el.length c, .slice b x.pl.length d]) (by simp [results, Tryz.results79, go_sem, r0, r1, r2, r3, r4, r5, r6, fr0, fr1, fr2, fr3, fr4, fr5, fr6, s0, s1, s2, s3, s4, s5, s6, fs0, fs1, fs2, fs3, fs4, fs5, fs6, ne1, ne2]) rfl HF.out
        · refine wpAny_take (i := 6) (v := ?_) rfl (by kernel_rfl) (by kernel_rfl) (by kernel_rfl) (fun _ _ _ h => h) (Or.inl ⟨by kernel_rfl, ?_⟩) ?_
          rotate_left
          · (intro w'; go_simp; (try with_reducible rfl))
          refine wpAny_ready (rs := [7]) (by kernel_rfl) (by simp) ?_
          refine AllReady.cons (by simp only [List.getElem?_toArray, List.getElem?_cons_succ, List.getElem?_cons_zero]; rfl) (fun K' hK' => ?_) AllReady.nil
          go_simp
          refine hK' _ _ ?_
          clear hK' K'
          refine wpAny_take (i := 8) (v := ?_) rfl (by kernel_rfl) (by kernel_rfl) (by kernel_rfl) (fun _ _ _ h => h) (Or.inl ⟨by kernel_rfl, ?_⟩) ?_
          rotate_left
          · (intro w'; go_simp; (try with_reducible rfl))
          have HF : Hid _ := Hid.mk2 (HdIn.answerPut HL.out (y := ⟨x.log, x.root, 65, x.time, x.k, x.el, x.pl⟩) (a' := a) (b' := b) (c' := c) (d' := d) (i := 1) (u := .int .i64 65) (.inr ⟨fun s e => (by cases e), by decide, by decide⟩) rfl (HFEW.out 65 (by omega) (by omega)) HL.out.2.2.1)
          refine wpAny_ready (rs := [9]) (by kernel_rfl) (by simp) ?_
          refine AllReady.cons (by simp only [List.getElem?_toArray, List.getElem?_cons_succ, List.getElem?_cons_zero]; rfl) (fun K' hK' => ?_) AllReady.nil
          go_simp
          refine hK' _ _ ?_
          clear hK' K'
          refine wpAny_done (by kernel_rfl) ?_ _
          go_simp
          go_wp2
          exact bodyPost_ret (v := .agg #[.string x.log, .int .i64 65, .string x.root, .int .i64 x.time, .int .i64 x.k, .slice a x.el.length c, .slice b x.pl.length d]) (by simp [results, Tryz.results79, go_sem, r0, r1, r2, r3, r4, r5, r6, fr0, fr1, fr2, fr3, fr4, fr5, fr6, s0, s1, s2, s3, s4, s5, s6, fs0, fs1, fs2, fs3, fs4, fs5, fs6, ne1, ne2]) rfl HF.out
        · refine wpAny_take (i := 6) (v := ?_) rfl (by kernel_rfl) (by kernel_rfl) (by kernel_rfl) (fun _ _ _ h => h) (Or.inl ⟨by kernel_rfl, ?_⟩) ?_
          rotate_left
          · (intro w'; go_simp; (try with_reducible rfl))
          refine wpAny_ready (rs := [7]) (by kernel_rfl) (by simp) ?_
          refine AllReady.cons (by simp only [List.getElem?_toArray, List.getElem?_cons_succ, List.getElem?_cons_zero]; rfl) (fun K' hK' => ?_) AllReady.nil
          go_simp
          refine hK' _ _ ?_
          clear hK' K'
          refine wpAny_take (i := 8) (v := ?_) rfl (by kernel_rfl) (by kernel_rfl) (by kernel_rfl) (fun _ _ _ h => h) (Or.inl ⟨by kernel_rfl, ?_⟩) ?_
          rotate_left
          · (intro w'; go_simp; (try with_reducible rfl))
          have HF : Hid _ := Hid.mk2 (HdIn.answerPut HL.out (y := ⟨x.log, x.root, (x.size + 1), x.time, x.k, x.el, x.pl⟩) (a' := a) (b' := b) (c' := c) (d' := d) (i := 1) (u := .int .i64 (x.size + 1)) (.inr ⟨fun s e => (by cases e), by decide, by decide⟩) rfl (HFEW.out (x.size + 1) (by omega) (by omega)) HL.out.2.2.1)
          refine wpAny_ready (rs := [9]) (by kernel_rfl) (by simp) ?_
          refine AllReady.cons (by simp only [List.getElem?_toArray, List.getElem?_cons_succ, List.getElem?_cons_zero]; rfl) (fun K' hK' => ?_) AllReady.nil
          go_simp
          refine hK' _ _ ?_
          clear hK' K'
          refine wpAny_done (by kernel_rfl) ?_ _
          go_simp
          go_wp2
          exact bodyPost_ret (v := .agg #[.string x.log, .int .i64 (x.size + 1), .string x.root, .int .i64 x.time, .int .i64 x.k, .slice a x.el.length c, .slice b x.pl.length d]) (by simp [results, Tryz.results79, go_sem, r0, r1, r2, r3, r4, r5, r6, fr0, fr1, fr2, fr3, fr4, fr5, fr6, s0, s1, s2, s3, s4, s5, s6, fs0, fs1, fs2, fs3, fs4, fs5, fs6, ne1, ne2]) rfl HF.out
      · go_wp2_with fail
        refine (ED.out _).mono ?_
        rintro e w4 ⟨t, rfl, ht, hb4⟩
        have H4 : Hid (HdIn w q g x a b c d w4) := H3.out.below hb4
        obtain ⟨⟨⟨r0, r1, r2, r3, r4, r5, r6⟩, fr0, fr1, fr2, fr3, fr4, fr5, fr6⟩, ⟨⟨s0, s1, s2, s3, s4, s5, s6⟩, fs0, fs1, fs2, fs3, fs4, fs5, fs6⟩, ne1, ne2⟩ := HdIn.cells (H4.out)
        have HF : Hid _ := Hid.mk2 (HdIn.answerPut H4.out (y := ⟨x.log, t, x.size, x.time, x.k, x.el, x.pl⟩) (a' := a) (b' := b) (c' := c) (d' := d) (i := 2) (u := .string t) (.inl ⟨t, rfl, .inr rfl⟩) rfl ⟨H4.out.2.2.2.1.1, (by show t.size ≤ 100; omega), H4.out.2.2.2.1.2.2.1, H4.out.2.2.2.1.2.2.2.1, H4.out.2.2.2.1.2.2.2.2⟩ H4.out.2.2.1)
        clear hb4 ht H3 H4 EN ED EG
        go_wp2
        exact bodyPost_ret (v := .agg #[.string x.log, .int .i64 x.size, .string t, .int .i64 x.time, .int .i64 x.k, .slice a x.el.length c, .slice b x.pl.length d]) (by simp [results, Tryz.results79, go_sem, r0, r1, r2, r3, r4, r5, r6, fr0, fr1, fr2, fr3, fr4, fr5, fr6, s0, s1, s2, s3, s4, s5, s6, fs0, fs1, fs2, fs3, fs4, fs5, fs6, ne1, ne2]) rfl HF.out
      · have HA : Hid (HdIn w q g x a b c d (w3.alloc (.cells #[.int .i64 (-1), .int .i64 1000000000, .int .i64 1000000001] 2))) := H3.out.alloc _
        have HQ := H3.out.2.2.2.2.1.lt
        go_wp2_with fail
        refine (EN.out 3 _ HA.out.2.2.2.2.1 (by omega)).mono ?_
        rintro e w4 ⟨z, rfl, hz0, hz1, hs4, hg4⟩
        have k0 := edge_cell hg4 HQ 0
        have k1 := edge_cell hg4 HQ 1
        have k2 := edge_cell hg4 HQ 2
        have H4 : Hid (HdIn w q g x a b c d w4) := HA.out.grow hs4 hg4
        have hz3 : z = 0 ∨ z = 1 ∨ z = 2 := by omega
        clear hs4 hg4 hz0 hz1 HA
        obtain ⟨⟨⟨r0, r1, r2, r3, r4, r5, r6⟩, fr0, fr1, fr2, fr3, fr4, fr5, fr6⟩, ⟨⟨s0, s1, s2, s3, s4, s5, s6⟩, fs0, fs1, fs2, fs3, fs4, fs5, fs6⟩, ne1, ne2⟩ := HdIn.cells (H4.out)
        rcases hz3 with rfl | rfl | rfl
        · have HF : Hid _ := Hid.mk2 (HdIn.answerPut H4.out (y := ⟨x.log, x.root, x.size, (-1), x.k, x.el, x.pl⟩) (a' := a) (b' := b) (c' := c) (d' := d) (i := 3) (u := .int .i64 (-1)) (.inr ⟨fun s e => (by cases e), by decide, by decide⟩) rfl (HFET.out (-1) (by omega) (by omega)) H4.out.2.2.1)
          go_wp2
          exact bodyPost_ret (v := .agg #[.string x.log, .int .i64 x.size, .string x.root, .int .i64 (-1), .int .i64 x.k, .slice a x.el.length c, .slice b x.pl.length d]) (by simp [results, Tryz.results79, go_sem, r0, r1, r2, r3, r4, r5, r6, fr0, fr1, fr2, fr3, fr4, fr5, fr6, s0, s1, s2, s3, s4, s5, s6, fs0, fs1, fs2, fs3, fs4, fs5, fs6, ne1, ne2]) rfl HF.out
        · have HF : Hid _ := Hid.mk2 (HdIn.answerPut H4.out (y := ⟨x.log, x.root, x.size, 1000000000, x.k, x.el, x.pl⟩) (a' := a) (b' := b) (c' := c) (d' := d) (i := 3) (u := .int .i64 1000000000) (.inr ⟨fun s e => (by cases e), by decide, by decide⟩) rfl (HFET.out 1000000000 (by omega) (by omega)) H4.out.2.2.1)
          go_wp2
          exact bodyPost_ret (v := .agg #[.string x.log, .int .i64 x.size, .string x.root, .int .i64 1000000000, .int .i64 x.k, .slice a x.el.length c, .slice b x.pl.length d]) (by simp [results, Tryz.results79, go_sem, r0, r1, r2, r3, r4, r5, r6, fr0, fr1, fr2, fr3, fr4, fr5, fr6, s0, s1, s2, s3, s4, s5, s6, fs0, fs1, fs2, fs3, fs4, fs5, fs6, ne1, ne2]) rfl HF.out
        · have HF : Hid _ := Hid.mk2 (HdIn.answerPut H4.out (y := ⟨x.log, x.root, x.size, 1000000001, x.k, x.el, x.pl⟩) (a' := a) (b' := b) (c' := c) (d' := d) (i := 3) (u := .int .i64 1000000001) (.inr ⟨fun s e => (by cases e), by decide, by decide⟩) rfl (HFET.out 1000000001 (by omega) (by omega)) H4.out.2.2.1)
          go_wp2
          exact bodyPost_ret (v := .agg #[.string x.log, .int .i64 x.size, .string x.root, .int .i64 1000000001, .int .i64 x.k, .slice a x.el.length c, .slice b x.pl.length d]) (by simp [results, Tryz.results79, go_sem, r0, r1, r2, r3, r4, r5, r6, fr0, fr1, fr2, fr3, fr4, fr5, fr6, s0, s1, s2, s3, s4, s5, s6, fs0, fs1, fs2, fs3, fs4, fs5, fs6, ne1, ne2]) rfl HF.out
      · go_wp2_with fail
        refine (EG.out _ H3.out.2.2.2.2.1).mono ?_
        rintro e w4 ⟨k', ve', vp', e1, p1, rfl, t1, t2, z1, z2, hs4, hg4⟩
        obtain ⟨a', c', rfl, t1'⟩ := id t1
        obtain ⟨b', d', rfl, t2'⟩ := id t2
        clear t1' t2'
        have H4 : Hid (HdIn w q g x a b c d w4) := H3.out.grow hs4 hg4
        obtain ⟨⟨⟨r0, r1, r2, r3, r4, r5, r6⟩, fr0, fr1, fr2, fr3, fr4, fr5, fr6⟩, ⟨⟨s0, s1, s2, s3, s4, s5, s6⟩, fs0, fs1, fs2, fs3, fs4, fs5, fs6⟩, ne1, ne2⟩ := HdIn.cells (H4.out)
        have HF : Hid _ := Hid.mk2 (HdIn.answerSig H4.out (k' := k') t1 t2 z1 z2)
        clear hs4 hg4 H3 H4 EN ED EG t1 t2 z1 z2
        go_wp2
        exact bodyPost_ret (v := .agg #[.string x.log, .int .i64 x.size, .string x.root, .int .i64 x.time, .int .i64 k', .slice a' e1.length c', .slice b' p1.length d']) (by simp [results, Tryz.results79, go_sem, r0, r1, r2, r3, r4, r5, r6, fr0, fr1, fr2, fr3, fr4, fr5, fr6, s0, s1, s2, s3, s4, s5, s6, fs0, fs1, fs2, fs3, fs4, fs5, fs6, ne1, ne2]) rfl HF.out
end Go.Proofs.YtpglcbidfghfkaaGreatDoor
