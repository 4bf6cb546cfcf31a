/-
  Conflict, the program's.
-/
import Derived.Test.YtcenlgfopmahcaaGreatDoorPkSigned
import Derived.Test.YtcenlgfopmahcaaGreatDoorPkTextRows
import Derived.Laws.StructEq
import Derived.Deep.RegionWith
import Derived.Deep.RegionHeld3
import Derived.Deep.DeepCutAuto
namespace Go.Proofs.YtcenlgfopmahcaaGreatDoor
open Go.RowKit Go.Lib
set_option linter.unusedVariables false
set_option linter.unusedSimpArgs false

/-- Two claims that lie in blocks of the call's own. -/
def TwoClaims (w : World) (x5 x6 : Value) (p q : Array Value) (wx : World) : Prop :=
  ∃ g h, x5 = .pointer (some ⟨g, 0, none⟩) ∧ x6 = .pointer (some ⟨h, 0, none⟩) ∧ wx.heap[g]? = some (.cells p 113 (0, 0)) ∧ wx.heap[h]? = some (.cells q 113 (0, 0)) ∧ g ≠ h ∧ w.heap.size ≤ g ∧ w.heap.size ≤ h ∧ Below w.heap.size w wx

theorem heap_at {w : World} {g : Nat} {o : Obj} (h : g = w.heap.size) : (w.alloc o).heap[g]? = some o := by
  subst h
  exact Array.getElem?_push_size
theorem heap_past {w : World} {g : Nat} {o x : Obj} (h : w.heap[g]? = some x) : (w.alloc o).heap[g]? = some x := by
  have := (Array.getElem?_eq_some_iff.1 h).1
  rw [Below.heap_alloc _ _ _ this]
  exact h
theorem heap_drew {w : World} {g : Nat} {x : Obj} (h : w.heap[g]? = some x) : w.drew.heap[g]? = some x := h
theorem Below.alloc' {B : Nat} {w w' : World} (h : Below B w w') (hB : B ≤ w.heap.size) (o : Obj) : Below B w (w'.alloc o) := h.alloc (Nat.le_trans hB h.size) o
set_option maxHeartbeats 1000000 in
set_option maxRecDepth 10000 in
theorem claimOf_made (log root : ByteArray) (size time k : Int) (a1 a2 : Option Addr) (n1 c1 n2 c2 : Nat) (w : World) :
    Calls Tryz.prog 83 #[.agg #[.string log, .int .i64 size, .string root, .int .i64 time, .int .i64 k, .slice a1 n1 c1, .slice a2 n2 c2]] w fun e w' => e = .returned (.agg #[.string log, .int .i64 size, .string root, .int .i64 time]) ∧ w' = (w.alloc (.cells #[.string log, .int .i64 size, .string root, .int .i64 time, .int .i64 k, .slice a1 n1 c1, .slice a2 n2 c2] 37)).alloc (.cells #[.string log, .int .i64 size, .string root, .int .i64 time] 113) := by
  go_enter Tryz.func83, Tryz.ntmps83
  go_wp2
  exact bodyPost_ret (v := .agg #[.string log, .int .i64 size, .string root, .int .i64 time]) (by simp [results, Tryz.results83, go_sem]) rfl ⟨rfl, rfl⟩

set_option maxHeartbeats 4000000 in
set_option maxRecDepth 10000 in
theorem implConf_any (log1 root1 : ByteArray) (size1 time1 k1 : Int) (ve1 vp1 : Value) (el1 pl1 : List ByteArray) (log2 root2 : ByteArray) (size2 time2 k2 : Int) (ve2 vp2 : Value) (el2 pl2 : List ByteArray) (w : World) (h1 : Texts w w.heap.size ve1 el1) (h1' : Texts w w.heap.size vp1 pl1) (hl1 : el1.length ≤ 1048576) (hl1' : pl1.length ≤ 1048576) (hlog1 : log1.size ≤ 1048576) (hroot1 : root1.size ≤ 1048576) (h2 : Texts w w.heap.size ve2 el2) (h2' : Texts w w.heap.size vp2 pl2) (hl2 : el2.length ≤ 1048576) (hl2' : pl2.length ≤ 1048576) (hlog2 : log2.size ≤ 1048576) (hroot2 : root2.size ≤ 1048576) :
    Calls Tryz.prog 121 #[.agg #[.string log1, .int .i64 size1, .string root1, .int .i64 time1, .int .i64 k1, ve1, vp1], .agg #[.string log2, .int .i64 size2, .string root2, .int .i64 time2, .int .i64 k2, ve2, vp2]] w fun e w' => e = .returned (.bool (confB (headRB log1 size1 root1 time1 k1 el1 pl1) (headRB log2 size2 root2 time2 k2 el2 pl2) log1 log2 size1 size2 root1 root2)) ∧ Below w.heap.size w w' := by
  obtain ⟨a1, c1, rfl, _⟩ := id h1
  obtain ⟨b1, d1, rfl, _⟩ := id h1'
  obtain ⟨a2, c2, rfl, _⟩ := id h2
  obtain ⟨b2, d2, rfl, _⟩ := id h2'
  obtain ⟨W, hW⟩ : ∃ W, W = (w.alloc (.cells #[.string log1, .int .i64 size1, .string root1, .int .i64 time1, .int .i64 k1, .slice a1 el1.length c1, .slice b1 pl1.length d1] 37)).alloc (.cells #[.string log2, .int .i64 size2, .string root2, .int .i64 time2, .int .i64 k2, .slice a2 el2.length c2, .slice b2 pl2.length d2] 37) := ⟨_, rfl⟩
  have hbW : Below w.heap.size w W := by rw [hW]; exact ((Below.refl _ _).alloc (Nat.le_refl _) _).alloc (by simp) _
  have H0 : Hid (Below w.heap.size w W ∧ W.heap[w.heap.size]? = some (.cells #[.string log1, .int .i64 size1, .string root1, .int .i64 time1, .int .i64 k1, .slice a1 el1.length c1, .slice b1 pl1.length d1] 37 (0, 0)) ∧ W.heap[w.heap.size + 1]? = some (.cells #[.string log2, .int .i64 size2, .string root2, .int .i64 time2, .int .i64 k2, .slice a2 el2.length c2, .slice b2 pl2.length d2] 37 (0, 0)) ∧ w.heap.size + 1 < W.heap.size) := by
    refine ⟨hbW, ?_, ?_, ?_⟩
    · rw [hW]; exact heap_alloc2_old w _ _
    · rw [hW]; exact heap_alloc2_new w _ _
    · rw [hW]; simp
  have HW : Hid (W = (w.alloc (.cells #[.string log1, .int .i64 size1, .string root1, .int .i64 time1, .int .i64 k1, .slice a1 el1.length c1, .slice b1 pl1.length d1] 37)).alloc (.cells #[.string log2, .int .i64 size2, .string root2, .int .i64 time2, .int .i64 k2, .slice a2 el2.length c2, .slice b2 pl2.length d2] 37)) := hW
  have HC : Hid (∀ W', Below W.heap.size W W' → (W'.cell? ⟨w.heap.size, 0, none⟩ = some (.string log1) ∧ W'.cell? ⟨w.heap.size, 1, none⟩ = some (.int .i64 size1) ∧ W'.cell? ⟨w.heap.size, 2, none⟩ = some (.string root1) ∧ W'.cell? ⟨w.heap.size, 3, none⟩ = some (.int .i64 time1) ∧ W'.cell? ⟨w.heap.size, 4, none⟩ = some (.int .i64 k1) ∧ W'.cell? ⟨w.heap.size, 5, none⟩ = some (.slice a1 el1.length c1) ∧ W'.cell? ⟨w.heap.size, 6, none⟩ = some (.slice b1 pl1.length d1)) ∧ (W'.cell? ⟨w.heap.size + 1, 0, none⟩ = some (.string log2) ∧ W'.cell? ⟨w.heap.size + 1, 1, none⟩ = some (.int .i64 size2) ∧ W'.cell? ⟨w.heap.size + 1, 2, none⟩ = some (.string root2) ∧ W'.cell? ⟨w.heap.size + 1, 3, none⟩ = some (.int .i64 time2) ∧ W'.cell? ⟨w.heap.size + 1, 4, none⟩ = some (.int .i64 k2) ∧ W'.cell? ⟨w.heap.size + 1, 5, none⟩ = some (.slice a2 el2.length c2) ∧ W'.cell? ⟨w.heap.size + 1, 6, none⟩ = some (.slice b2 pl2.length d2)) ∧ (W'.drew.cell? ⟨w.heap.size, 0, none⟩ = some (.string log1) ∧ W'.drew.cell? ⟨w.heap.size, 1, none⟩ = some (.int .i64 size1) ∧ W'.drew.cell? ⟨w.heap.size, 2, none⟩ = some (.string root1) ∧ W'.drew.cell? ⟨w.heap.size, 3, none⟩ = some (.int .i64 time1) ∧ W'.drew.cell? ⟨w.heap.size, 4, none⟩ = some (.int .i64 k1) ∧ W'.drew.cell? ⟨w.heap.size, 5, none⟩ = some (.slice a1 el1.length c1) ∧ W'.drew.cell? ⟨w.heap.size, 6, none⟩ = some (.slice b1 pl1.length d1)) ∧ (W'.drew.cell? ⟨w.heap.size + 1, 0, none⟩ = some (.string log2) ∧ W'.drew.cell? ⟨w.heap.size + 1, 1, none⟩ = some (.int .i64 size2) ∧ W'.drew.cell? ⟨w.heap.size + 1, 2, none⟩ = some (.string root2) ∧ W'.drew.cell? ⟨w.heap.size + 1, 3, none⟩ = some (.int .i64 time2) ∧ W'.drew.cell? ⟨w.heap.size + 1, 4, none⟩ = some (.int .i64 k2) ∧ W'.drew.cell? ⟨w.heap.size + 1, 5, none⟩ = some (.slice a2 el2.length c2) ∧ W'.drew.cell? ⟨w.heap.size + 1, 6, none⟩ = some (.slice b2 pl2.length d2))) := fun W' hb => by
    obtain ⟨c, _⟩ := seven_cells hb (Nat.lt_of_succ_lt H0.out.2.2.2) H0.out.2.1
    obtain ⟨d, _⟩ := seven_cells hb H0.out.2.2.2 H0.out.2.2.1
    exact ⟨c, d, c, d⟩
  have G1 : Hid (∀ W', Below W.heap.size W W' → Calls Tryz.prog 96 #[.agg #[.string log1, .int .i64 size1, .string root1, .int .i64 time1, .int .i64 k1, .slice a1 el1.length c1, .slice b1 pl1.length d1]] W' fun e w'' => e = .returned (.bool (headRB log1 size1 root1 time1 k1 el1 pl1)) ∧ Below W.heap.size W w'') := fun W' hb => (implHeadRight_any log1 root1 size1 time1 k1 _ _ el1 pl1 W' ((h1.below (hbW.trans (hb.mono hbW.size))).up (hbW.trans (hb.mono hbW.size)).size) ((h1'.below (hbW.trans (hb.mono hbW.size))).up (hbW.trans (hb.mono hbW.size)).size) hl1 hl1' hlog1 hroot1).mono fun e w'' h => ⟨h.1, hb.trans (h.2.mono hb.size)⟩
  have G2 : Hid (∀ W', Below W.heap.size W W' → Calls Tryz.prog 96 #[.agg #[.string log2, .int .i64 size2, .string root2, .int .i64 time2, .int .i64 k2, .slice a2 el2.length c2, .slice b2 pl2.length d2]] W' fun e w'' => e = .returned (.bool (headRB log2 size2 root2 time2 k2 el2 pl2)) ∧ Below W.heap.size W w'') := fun W' hb => (implHeadRight_any log2 root2 size2 time2 k2 _ _ el2 pl2 W' ((h2.below (hbW.trans (hb.mono hbW.size))).up (hbW.trans (hb.mono hbW.size)).size) ((h2'.below (hbW.trans (hb.mono hbW.size))).up (hbW.trans (hb.mono hbW.size)).size) hl2 hl2' hlog2 hroot2).mono fun e w'' h => ⟨h.1, hb.trans (h.2.mono hb.size)⟩
  have HB0 : Hid (Below W.heap.size W W) := Below.refl _ _
  obtain ⟨⟨c0, c1', c2', c3, c4, c5, c6⟩, ⟨d0, d1', d2', d3, d4, d5, d6⟩, _⟩ := HC.out W (Below.refl _ _)
  generalize headRB log1 size1 root1 time1 k1 el1 pl1 = ra at *
  generalize headRB log2 size2 root2 time2 k2 el2 pl2 = rb at *
  clear h1 h1' h2 h2' hW hbW hlog1 hroot1 hlog2 hroot2 hl1 hl1' hl2 hl2'
  have E3 : Hid (∀ w, Calls Tryz.prog 83 #[.agg #[.string log1, .int .i64 size1, .string root1, .int .i64 time1, .int .i64 k1, .slice a1 el1.length c1, .slice b1 pl1.length d1]] w fun e w' => e = .returned (.agg #[.string log1, .int .i64 size1, .string root1, .int .i64 time1]) ∧ w' = (w.alloc (.cells #[.string log1, .int .i64 size1, .string root1, .int .i64 time1, .int .i64 k1, .slice a1 el1.length c1, .slice b1 pl1.length d1] 37)).alloc (.cells #[.string log1, .int .i64 size1, .string root1, .int .i64 time1] 113)) := fun w => claimOf_made _ _ _ _ _ _ _ _ _ _ _ w
  have E4 : Hid (∀ w, Calls Tryz.prog 83 #[.agg #[.string log2, .int .i64 size2, .string root2, .int .i64 time2, .int .i64 k2, .slice a2 el2.length c2, .slice b2 pl2.length d2]] w fun e w' => e = .returned (.agg #[.string log2, .int .i64 size2, .string root2, .int .i64 time2]) ∧ w' = (w.alloc (.cells #[.string log2, .int .i64 size2, .string root2, .int .i64 time2, .int .i64 k2, .slice a2 el2.length c2, .slice b2 pl2.length d2] 37)).alloc (.cells #[.string log2, .int .i64 size2, .string root2, .int .i64 time2] 113)) := fun w => claimOf_made _ _ _ _ _ _ _ _ _ _ _ w
  unfold confB
  have step : ∀ (x : Bool), x = true ∨ x = false := fun x => by cases x <;> simp
  cases ra with
  | false =>
    go_enter Tryz.func121, Tryz.ntmps121
    go_wp2_with fail
    rw [← HW.out]
    refine (G1.out _ HB0.out).mono ?_
    rintro e w1 ⟨rfl, hb1⟩
    have B1 : Hid (Below W.heap.size W w1) := hb1
    clear hb1
    go_wp2
    go_ret
    exact ⟨rfl, H0.out.1.trans (B1.out.mono H0.out.1.size)⟩
  | true =>
    cases rb with
    | false =>
      go_enter Tryz.func121, Tryz.ntmps121
      go_wp2_with fail
      rw [← HW.out]
      refine (G1.out _ HB0.out).mono ?_
      rintro e w1 ⟨rfl, hb1⟩
      have B1 : Hid (Below W.heap.size W w1) := hb1
      clear c0 c1' c2' c3 c4 c5 c6 d0 d1' d2' d3 d4 d5 d6
      obtain ⟨⟨c0, c1', c2', c3, c4, c5, c6⟩, ⟨d0, d1', d2', d3, d4, d5, d6⟩, _⟩ := HC.out _ hb1
      clear hb1
      go_wp2_with fail
      refine (G2.out _ B1.out).mono ?_
      rintro e w2 ⟨rfl, hb2⟩
      have B2 : Hid (Below W.heap.size W w2) := hb2
      clear hb2
      go_wp2
      go_ret
      exact ⟨rfl, H0.out.1.trans (B2.out.mono H0.out.1.size)⟩
    | true =>
      go_enter Tryz.func121, Tryz.ntmps121
      go_wp2_with fail
      rw [← HW.out]
      refine (G1.out _ HB0.out).mono ?_
      rintro e w1 ⟨rfl, hb1⟩
      have B1 : Hid (Below W.heap.size W w1) := hb1
      clear c0 c1' c2' c3 c4 c5 c6 d0 d1' d2' d3 d4 d5 d6
      obtain ⟨⟨c0, c1', c2', c3, c4, c5, c6⟩, ⟨d0, d1', d2', d3, d4, d5, d6⟩, _⟩ := HC.out _ hb1
      clear hb1
      go_wp2_with fail
      refine (G2.out _ B1.out).mono ?_
      rintro e w2 ⟨rfl, hb2⟩
      have B2 : Hid (Below W.heap.size W w2 ∧ Below W.heap.size W w2.drew) := ⟨hb2, below_drew' hb2⟩
      clear c0 c1' c2' c3 c4 c5 c6 d0 d1' d2' d3 d4 d5 d6
      obtain ⟨⟨c0, c1', c2', c3, c4, c5, c6⟩, ⟨d0, d1', d2', d3, d4, d5, d6⟩, ⟨e0, e1, e2, e3, e4, e5, e6⟩, ⟨f0, f1, g2, g3, f4, f5, f6⟩⟩ := HC.out _ hb2
      clear hb2
      have HS : Hid (∀ X, Below W.heap.size W X → (X.cell? ⟨w.heap.size, 0, none⟩ = some (.string log1) ∧ X.cell? ⟨w.heap.size, 1, none⟩ = some (.int .i64 size1) ∧ X.cell? ⟨w.heap.size, 2, none⟩ = some (.string root1) ∧ X.cell? ⟨w.heap.size, 3, none⟩ = some (.int .i64 time1) ∧ X.cell? ⟨w.heap.size, 4, none⟩ = some (.int .i64 k1) ∧ X.cell? ⟨w.heap.size, 5, none⟩ = some (.slice a1 el1.length c1) ∧ X.cell? ⟨w.heap.size, 6, none⟩ = some (.slice b1 pl1.length d1)) ∧ (X.cell? ⟨w.heap.size + 1, 0, none⟩ = some (.string log2) ∧ X.cell? ⟨w.heap.size + 1, 1, none⟩ = some (.int .i64 size2) ∧ X.cell? ⟨w.heap.size + 1, 2, none⟩ = some (.string root2) ∧ X.cell? ⟨w.heap.size + 1, 3, none⟩ = some (.int .i64 time2) ∧ X.cell? ⟨w.heap.size + 1, 4, none⟩ = some (.int .i64 k2) ∧ X.cell? ⟨w.heap.size + 1, 5, none⟩ = some (.slice a2 el2.length c2) ∧ X.cell? ⟨w.heap.size + 1, 6, none⟩ = some (.slice b2 pl2.length d2))) := fun X hb => ⟨(HC.out X hb).1, (HC.out X hb).2.1⟩
      have hz2 : W.heap.size ≤ w2.heap.size := B2.out.1.size
      clear HW G1 G2
      go_wp2_with fail
      go_cut [5, 6] (fun x y wx => TwoClaims W x y #[.string log1, .int .i64 size1, .string root1, .int .i64 time1] #[.string log2, .int .i64 size2, .string root2, .int .i64 time2] wx)
      case first J K hJ hK =>
        go_region_held3 (fun X => (X.cell? ⟨w.heap.size, 0, none⟩ = some (.string log1) ∧ X.cell? ⟨w.heap.size, 1, none⟩ = some (.int .i64 size1) ∧ X.cell? ⟨w.heap.size, 2, none⟩ = some (.string root1) ∧ X.cell? ⟨w.heap.size, 3, none⟩ = some (.int .i64 time1) ∧ X.cell? ⟨w.heap.size, 4, none⟩ = some (.int .i64 k1) ∧ X.cell? ⟨w.heap.size, 5, none⟩ = some (.slice a1 el1.length c1) ∧ X.cell? ⟨w.heap.size, 6, none⟩ = some (.slice b1 pl1.length d1)) ∧ (X.cell? ⟨w.heap.size + 1, 0, none⟩ = some (.string log2) ∧ X.cell? ⟨w.heap.size + 1, 1, none⟩ = some (.int .i64 size2) ∧ X.cell? ⟨w.heap.size + 1, 2, none⟩ = some (.string root2) ∧ X.cell? ⟨w.heap.size + 1, 3, none⟩ = some (.int .i64 time2) ∧ X.cell? ⟨w.heap.size + 1, 4, none⟩ = some (.int .i64 k2) ∧ X.cell? ⟨w.heap.size + 1, 5, none⟩ = some (.slice a2 el2.length c2) ∧ X.cell? ⟨w.heap.size + 1, 6, none⟩ = some (.slice b2 pl2.length d2))) (((refine HS.out _ ?_); (repeat (first | exact B2.out.1 | refine below_drew' ?_ | refine Below.alloc' ?_ (Nat.le_refl _) _ | refine Below.setCell ?_ (by simp <;> omega) _))))
          (first
            | (go_at_call 83; (with_reducible refine (E3.out _).mono ?_); rintro e wa ⟨rfl, rfl⟩)
            | (go_at_call 83; (with_reducible refine (E4.out _).mono ?_); rintro e wa ⟨rfl, rfl⟩))
        all_goals
          refine hK _ _ (Met.intro (hJ _ _ ?_))
          (repeat apply Exists.intro)
          refine ⟨?rel, rfl⟩
          case rel =>
            refine ⟨_, _, rfl, rfl, ?_, ?_, by omega, by omega, by omega, ?_⟩
            · (repeat (first | refine heap_drew ?_ | (refine heap_at ?_; first | rfl | (simp; done)) | refine heap_past ?_))
            · (repeat (first | refine heap_drew ?_ | (refine heap_at ?_; first | rfl | (simp; done)) | refine heap_past ?_))
            · (repeat (first | exact B2.out.1 | refine below_drew' ?_ | refine Below.alloc' ?_ (Nat.le_refl _) _))
      case rest =>
        obtain ⟨g, h, rfl, rfl, hg, hh, hne, hgB, hhB, hbc⟩ := hcut
        have HB3 : Hid (Below w.heap.size w wc ∧ w.heap.size ≤ h) := ⟨H0.out.1.trans (hbc.mono H0.out.1.size), Nat.le_trans H0.out.1.size hhB⟩
        obtain ⟨⟨x0, x1, x2, x3⟩, fx⟩ := four_cells (Below.refl wc.heap.size wc) (Array.getElem?_eq_some_iff.1 hg).1 hg
        obtain ⟨⟨y0, y1, y2, y3⟩, fy⟩ := four_cells (Below.refl wc.heap.size wc) (Array.getElem?_eq_some_iff.1 hh).1 hh
        have f2 := fy 2
        have f3 := fy 3
        have hne2 : ¬ h = g := fun e => hne e.symm
        clear c0 c1' c2' c3 c4 c5 c6 d0 d1' d2' d3 d4 d5 d6 e0 e1 e2 e3 e4 e5 e6 f0 f1 g2 g3 f4 f5 f6 hg hh fx fy hbc hgB hhB HS HC H0 B2 E3 E4 HB0
        rcases step (log1.toList == log2.toList) with q1 | q1 <;> rcases step (size1 == size2) with q2 | q2 <;> rcases step (root1.toList == root2.toList) with q3 | q3
        all_goals
          go_wp2
          go_ret
          refine ⟨by rw [q1, q2, q3]; rfl, ?_⟩
          first | exact (HB3.out.1.setCell HB3.out.2 _).setCell HB3.out.2 _ | exact HB3.out.1.setCell HB3.out.2 _
end Go.Proofs.YtcenlgfopmahcaaGreatDoor
