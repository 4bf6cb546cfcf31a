/-
  FraudBytes, the document's.
-/
import Derived.Test.YtpglcbidfghfkaaPkHdBy
import Derived.Test.YtpglcbidfghfkaaPkSpecHeadBy
import Derived.Test.YtpglcbidfghfkaaPkRight
import Derived.Deep.RegionWith
import Derived.Deep.RegionHeld3
import Derived.Deep.DeepCutAuto
namespace Go.Proofs.Ytpglcbidfghfkaa
open Go.RowKit Go.Lib
set_option linter.unusedVariables false
set_option linter.unusedSimpArgs false

set_option maxHeartbeats 4000000 in
set_option maxRecDepth 10000 in
theorem specFraudBytes_any (x y : Hd) (xe xp ye yp ve : Value) (l : List ByteArray) (w : World) (hx : x.In xe xp w w.heap.size) (hy : y.In ye yp w w.heap.size) (h3 : Texts w w.heap.size ve l) (hlx : x.Lim) (hly : y.Lim) (hll : l.length ≤ 1048576) :
    Calls Try.prog 18 #[.agg #[.string x.log, .int .i64 x.size, .string x.root, .int .i64 x.time, .int .i64 x.k, xe, xp, .string y.log, .int .i64 y.size, .string y.root, .int .i64 y.time, .int .i64 y.k, ye, yp, ve]] w fun e w' => e = .returned (.string (fraudT x.right y.right x.bytes y.bytes l)) ∧ Below w.heap.size w w' := by
  obtain ⟨a1, s1, b1, t1, rfl, rfl⟩ := hx.parts
  obtain ⟨a2, s2, b2, t2, rfl, rfl⟩ := hy.parts
  obtain ⟨ae, ce, rfl, _⟩ := id h3
  obtain ⟨W, hW⟩ : ∃ W, W = w.alloc (.cells #[.string x.log, .int .i64 x.size, .string x.root, .int .i64 x.time, .int .i64 x.k, .slice a1 x.el.length s1, .slice b1 x.pl.length t1, .string y.log, .int .i64 y.size, .string y.root, .int .i64 y.time, .int .i64 y.k, .slice a2 y.el.length s2, .slice b2 y.pl.length t2, .slice ae l.length ce] 28) := ⟨_, rfl⟩
  have hbW : Below w.heap.size w W := by rw [hW]; exact (Below.refl _ _).alloc (Nat.le_refl _) _
  have hgW : W.heap[w.heap.size]? = some (.cells #[.string x.log, .int .i64 x.size, .string x.root, .int .i64 x.time, .int .i64 x.k, .slice a1 x.el.length s1, .slice b1 x.pl.length t1, .string y.log, .int .i64 y.size, .string y.root, .int .i64 y.time, .int .i64 y.k, .slice a2 y.el.length s2, .slice b2 y.pl.length t2, .slice ae l.length ce] 28 (0, 0)) := by rw [hW]; exact heap_alloc_new w _
  have HW : Hid (W = w.alloc (.cells #[.string x.log, .int .i64 x.size, .string x.root, .int .i64 x.time, .int .i64 x.k, .slice a1 x.el.length s1, .slice b1 x.pl.length t1, .string y.log, .int .i64 y.size, .string y.root, .int .i64 y.time, .int .i64 y.k, .slice a2 y.el.length s2, .slice b2 y.pl.length t2, .slice ae l.length ce] 28)) := hW
  have HC : Hid (∀ W', Below W.heap.size W W' → (W'.cell? ⟨w.heap.size, 0, none⟩ = some (.string x.log) ∧ W'.cell? ⟨w.heap.size, 1, none⟩ = some (.int .i64 x.size) ∧ W'.cell? ⟨w.heap.size, 2, none⟩ = some (.string x.root) ∧ W'.cell? ⟨w.heap.size, 3, none⟩ = some (.int .i64 x.time) ∧ W'.cell? ⟨w.heap.size, 4, none⟩ = some (.int .i64 x.k) ∧ W'.cell? ⟨w.heap.size, 5, none⟩ = some (.slice a1 x.el.length s1) ∧ W'.cell? ⟨w.heap.size, 6, none⟩ = some (.slice b1 x.pl.length t1) ∧ W'.cell? ⟨w.heap.size, 7, none⟩ = some (.string y.log) ∧ W'.cell? ⟨w.heap.size, 8, none⟩ = some (.int .i64 y.size) ∧ W'.cell? ⟨w.heap.size, 9, none⟩ = some (.string y.root) ∧ W'.cell? ⟨w.heap.size, 10, none⟩ = some (.int .i64 y.time) ∧ W'.cell? ⟨w.heap.size, 11, none⟩ = some (.int .i64 y.k) ∧ W'.cell? ⟨w.heap.size, 12, none⟩ = some (.slice a2 y.el.length s2) ∧ W'.cell? ⟨w.heap.size, 13, none⟩ = some (.slice b2 y.pl.length t2) ∧ W'.cell? ⟨w.heap.size, 14, none⟩ = some (.slice ae l.length ce)) ∧ (W'.drew.cell? ⟨w.heap.size, 0, none⟩ = some (.string x.log) ∧ W'.drew.cell? ⟨w.heap.size, 1, none⟩ = some (.int .i64 x.size) ∧ W'.drew.cell? ⟨w.heap.size, 2, none⟩ = some (.string x.root) ∧ W'.drew.cell? ⟨w.heap.size, 3, none⟩ = some (.int .i64 x.time) ∧ W'.drew.cell? ⟨w.heap.size, 4, none⟩ = some (.int .i64 x.k) ∧ W'.drew.cell? ⟨w.heap.size, 5, none⟩ = some (.slice a1 x.el.length s1) ∧ W'.drew.cell? ⟨w.heap.size, 6, none⟩ = some (.slice b1 x.pl.length t1) ∧ W'.drew.cell? ⟨w.heap.size, 7, none⟩ = some (.string y.log) ∧ W'.drew.cell? ⟨w.heap.size, 8, none⟩ = some (.int .i64 y.size) ∧ W'.drew.cell? ⟨w.heap.size, 9, none⟩ = some (.string y.root) ∧ W'.drew.cell? ⟨w.heap.size, 10, none⟩ = some (.int .i64 y.time) ∧ W'.drew.cell? ⟨w.heap.size, 11, none⟩ = some (.int .i64 y.k) ∧ W'.drew.cell? ⟨w.heap.size, 12, none⟩ = some (.slice a2 y.el.length s2) ∧ W'.drew.cell? ⟨w.heap.size, 13, none⟩ = some (.slice b2 y.pl.length t2) ∧ W'.drew.cell? ⟨w.heap.size, 14, none⟩ = some (.slice ae l.length ce))) := fun W' hb => by
    have c := row_cells hb (Array.getElem?_eq_some_iff.1 hgW).1 hgW
    exact ⟨⟨c 0 _ rfl, c 1 _ rfl, c 2 _ rfl, c 3 _ rfl, c 4 _ rfl, c 5 _ rfl, c 6 _ rfl, c 7 _ rfl, c 8 _ rfl, c 9 _ rfl, c 10 _ rfl, c 11 _ rfl, c 12 _ rfl, c 13 _ rfl, c 14 _ rfl⟩, c 0 _ rfl, c 1 _ rfl, c 2 _ rfl, c 3 _ rfl, c 4 _ rfl, c 5 _ rfl, c 6 _ rfl, c 7 _ rfl, c 8 _ rfl, c 9 _ rfl, c 10 _ rfl, c 11 _ rfl, c 12 _ rfl, c 13 _ rfl, c 14 _ rfl⟩
  have HX : Hid (∀ W', Below W.heap.size W W' → x.In (.slice a1 x.el.length s1) (.slice b1 x.pl.length t1) W' W'.heap.size) := fun W' hb => (hx.on hbW).on hb
  have HY : Hid (∀ W', Below W.heap.size W W' → y.In (.slice a2 y.el.length s2) (.slice b2 y.pl.length t2) W' W'.heap.size) := fun W' hb => (hy.on hbW).on hb
  have HE : Hid (∀ W', Below W.heap.size W W' → Texts W' W'.heap.size (.slice ae l.length ce) l) := fun W' hb => (h3.on hbW).on hb
  have G1 : Hid (∀ W', Below W.heap.size W W' → Calls Try.prog 38 #[.agg #[.string x.log, .int .i64 x.size, .string x.root, .int .i64 x.time, .int .i64 x.k, .slice a1 x.el.length s1, .slice b1 x.pl.length t1]] W' fun e w'' => e = .returned (.bool x.right) ∧ Below W.heap.size W w'') := fun W' hb => (specHeadRight_any x.log x.root x.size x.time x.k _ _ x.el x.pl W' (HX.out W' hb).1 (HX.out W' hb).2 hlx.2.2.1 hlx.2.2.2 hlx.1 hlx.2.1).mono fun e w'' h => ⟨h.1, hb.trans (h.2.mono hb.size)⟩
  have G2 : Hid (∀ W', Below W.heap.size W W' → Calls Try.prog 38 #[.agg #[.string y.log, .int .i64 y.size, .string y.root, .int .i64 y.time, .int .i64 y.k, .slice a2 y.el.length s2, .slice b2 y.pl.length t2]] W' fun e w'' => e = .returned (.bool y.right) ∧ Below W.heap.size W w'') := fun W' hb => (specHeadRight_any y.log y.root y.size y.time y.k _ _ y.el y.pl W' (HY.out W' hb).1 (HY.out W' hb).2 hly.2.2.1 hly.2.2.2 hly.1 hly.2.1).mono fun e w'' h => ⟨h.1, hb.trans (h.2.mono hb.size)⟩
  have G3 : Hid (∀ W', Below W.heap.size W W' → Calls Try.prog 39 #[.slice ae l.length ce] W' fun e w'' => e = .returned (.bool (rightB l)) ∧ Below W.heap.size W w'') := fun W' hb => (specEntries_any _ l W' W'.heap.size (HE.out W' hb) hll).mono fun e w'' h => ⟨h.1, by rw [h.2]; exact hb⟩
  have F1 : Hid (x.right = true → ∀ W', Below W.heap.size W W' → Calls Try.prog 40 #[.agg #[.string x.log, .int .i64 x.size, .string x.root, .int .i64 x.time, .int .i64 x.k, .slice a1 x.el.length s1, .slice b1 x.pl.length t1]] W' fun e w'' => e = .returned (.string x.bytes) ∧ Below W.heap.size W w'') := fun hr W' hb => (l06Head_any x.log x.root x.size x.time x.k _ _ x.el x.pl W' (HX.out W' hb).1 (HX.out W' hb).2 hr).mono fun e w'' h => ⟨h.1, hb.trans (h.2.mono hb.size)⟩
  have F2 : Hid (y.right = true → ∀ W', Below W.heap.size W W' → Calls Try.prog 40 #[.agg #[.string y.log, .int .i64 y.size, .string y.root, .int .i64 y.time, .int .i64 y.k, .slice a2 y.el.length s2, .slice b2 y.pl.length t2]] W' fun e w'' => e = .returned (.string y.bytes) ∧ Below W.heap.size W w'') := fun hr W' hb => (l06Head_any y.log y.root y.size y.time y.k _ _ y.el y.pl W' (HY.out W' hb).1 (HY.out W' hb).2 hr).mono fun e w'' h => ⟨h.1, hb.trans (h.2.mono hb.size)⟩
  have HS1 : Hid (x.right = true → x.bytes.size ≤ 21000) := fun h => headBy_size h
  have HS2 : Hid (y.right = true → y.bytes.size ≤ 21000) := fun h => headBy_size h
  have HB0 : Hid (Below W.heap.size W W) := Below.refl _ _
  have H0 : Hid (Below w.heap.size w W) := hbW
  obtain ⟨⟨c0, c1, c2, c3, c4, c5, c6, c7, c8, c9, c10, c11, c12, c13, c14⟩, ⟨d0, d1, d2, d3, d4, d5, d6, d7, d8, d9, d10, d11, d12, d13, d14⟩⟩ := HC.out W HB0.out
  clear hx hy h3 hW hbW hgW HX HY
  unfold fraudT
  generalize x.right = rx at *
  generalize y.right = ry at *
  generalize x.bytes = tx at *
  generalize y.bytes = ty at *
  cases rx with
  | false =>
    clear G2 G3 F1 F2
    go_enter Try.func18, Try.ntmps18
    go_wp2_with fail
    rw [← HW.out]
    refine (G1.out _ HB0.out).mono ?_
    rintro e w1 ⟨rfl, hb1⟩
    have B1 : Hid (Below W.heap.size W w1) := hb1
    clear hb1
    go_wp2
    go_ret
    exact ⟨rfl, H0.out.trans (B1.out.mono H0.out.size)⟩
  | true =>
    cases ry with
    | false =>
      clear G3 F1 F2
      go_enter Try.func18, Try.ntmps18
      go_wp2_with fail
      rw [← HW.out]
      refine (G1.out _ HB0.out).mono ?_
      rintro e w1 ⟨rfl, hb1⟩
      have B1 : Hid (Below W.heap.size W w1) := hb1
      clear c0 c1 c2 c3 c4 c5 c6 c7 c8 c9 c10 c11 c12 c13 c14 d0 d1 d2 d3 d4 d5 d6 d7 d8 d9 d10 d11 d12 d13 d14
      obtain ⟨⟨c0, c1, c2, c3, c4, c5, c6, c7, c8, c9, c10, c11, c12, c13, c14⟩, _⟩ := HC.out _ hb1
      clear hb1
      go_wp2_with fail
      refine (G2.out _ B1.out).mono ?_
      rintro e w2 ⟨rfl, hb2⟩
      have B2 : Hid (Below W.heap.size W w2) := hb2
      clear hb2
      go_wp2
      go_ret
      exact ⟨rfl, H0.out.trans (B2.out.mono H0.out.size)⟩
    | true =>
      have F1' := F1.out rfl
      have F2' := F2.out rfl
      have S1 := HS1.out rfl
      have S2 := HS2.out rfl
      clear F1 F2 HS1 HS2
      have F1 : Hid _ := F1'
      have F2 : Hid _ := F2'
      clear F1' F2'
      obtain ⟨re, hre'⟩ : ∃ re, re = rightB l := ⟨_, rfl⟩
      rw [← hre'] at G3 ⊢
      have hre := hre'.symm
      clear hre'
      cases re with
      | false =>
        clear F1 F2 S1 S2 hre
        go_enter Try.func18, Try.ntmps18
        go_wp2_with fail
        rw [← HW.out]
        refine (G1.out _ HB0.out).mono ?_
        rintro e w1 ⟨rfl, hb1⟩
        have B1 : Hid (Below W.heap.size W w1) := hb1
        clear c0 c1 c2 c3 c4 c5 c6 c7 c8 c9 c10 c11 c12 c13 c14 d0 d1 d2 d3 d4 d5 d6 d7 d8 d9 d10 d11 d12 d13 d14
        obtain ⟨⟨c0, c1, c2, c3, c4, c5, c6, c7, c8, c9, c10, c11, c12, c13, c14⟩, _⟩ := HC.out _ hb1
        clear hb1
        go_wp2_with fail
        refine (G2.out _ B1.out).mono ?_
        rintro e w2 ⟨rfl, hb2⟩
        have B2 : Hid (Below W.heap.size W w2) := hb2
        clear c0 c1 c2 c3 c4 c5 c6 c7 c8 c9 c10 c11 c12 c13 c14
        obtain ⟨⟨c0, c1, c2, c3, c4, c5, c6, c7, c8, c9, c10, c11, c12, c13, c14⟩, _⟩ := HC.out _ hb2
        clear hb2
        go_wp2_with fail
        refine (G3.out _ B2.out).mono ?_
        rintro e w3 ⟨rfl, hb3⟩
        have B3 : Hid (Below W.heap.size W w3) := hb3
        clear hb3
        go_wp2
        go_ret
        exact ⟨rfl, H0.out.trans (B3.out.mono H0.out.size)⟩
      | true =>
        have hl64 := rightB_len hre
        have hsm := right_small hre
        have zt : (tx ++ ty).size ≤ 42000 := by rw [ba_size]; omega
        have zn := numT_size (l.length : Int)
        have EN : Hid (∀ w, Calls Try.prog 41 #[.int .i64 (l.length : Int)] w fun e w' => e = .returned (.string (numT l.length)) ∧ Below w.heap.size w w') := fun w => specPutNum_any _ w (by omega) (by omega)
        have EP : Hid (∀ j (hj : j < l.length) (w : World), Calls Try.prog 42 #[.string l[j]] w fun e w' => e = .returned (.string (putText l[j])) ∧ Below w.heap.size w w') := fun j hj w => specPutText_any _ w (by have := hsm l[j] (List.getElem_mem hj); omega)
        have z2 : (tx ++ ty ++ numT l.length).size ≤ 42011 := by rw [ba_size]; omega
        have HQ : Hid (∀ j (hj : j < l.length), ¬ 9223372036854775807 < (putAllOn (tx ++ ty ++ numT l.length) (l.take j)).size + (putText l[j]).size) := fun j hj => by
          have q := putAllOn_size (l.take j) (tx ++ ty ++ numT l.length) (small_take hsm j)
          have : (l.take j).length ≤ 64 := by rw [List.length_take]; omega
          have := putText_size l[j]
          omega
        have q1 : ¬ 9223372036854775807 < tx.size + ty.size := by omega
        have q2 : ¬ 9223372036854775807 < (tx ++ ty).size + (numT l.length).size := by omega
        have q3 : ¬ 9223372036854775807 < tx.size + ty.size + (numT l.length).size := by omega
        have HV : Hid (fraudBy tx ty l = putAllOn (tx ++ ty ++ numT l.length) l) := rfl
        have HS : Hid (∀ X, Below W.heap.size W X → (X.cell? ⟨w.heap.size, 0, none⟩ = some (.string x.log) ∧ X.cell? ⟨w.heap.size, 1, none⟩ = some (.int .i64 x.size) ∧ X.cell? ⟨w.heap.size, 2, none⟩ = some (.string x.root) ∧ X.cell? ⟨w.heap.size, 3, none⟩ = some (.int .i64 x.time) ∧ X.cell? ⟨w.heap.size, 4, none⟩ = some (.int .i64 x.k) ∧ X.cell? ⟨w.heap.size, 5, none⟩ = some (.slice a1 x.el.length s1) ∧ X.cell? ⟨w.heap.size, 6, none⟩ = some (.slice b1 x.pl.length t1) ∧ X.cell? ⟨w.heap.size, 7, none⟩ = some (.string y.log) ∧ X.cell? ⟨w.heap.size, 8, none⟩ = some (.int .i64 y.size) ∧ X.cell? ⟨w.heap.size, 9, none⟩ = some (.string y.root) ∧ X.cell? ⟨w.heap.size, 10, none⟩ = some (.int .i64 y.time) ∧ X.cell? ⟨w.heap.size, 11, none⟩ = some (.int .i64 y.k) ∧ X.cell? ⟨w.heap.size, 12, none⟩ = some (.slice a2 y.el.length s2) ∧ X.cell? ⟨w.heap.size, 13, none⟩ = some (.slice b2 y.pl.length t2) ∧ X.cell? ⟨w.heap.size, 14, none⟩ = some (.slice ae l.length ce))) := fun X hb => (HC.out X hb).1
        generalize fraudBy tx ty l = V at *
        obtain ⟨tr, ht2⟩ : ∃ tr, tr = tx ++ ty ++ numT l.length := ⟨_, rfl⟩
        rw [← ht2] at HV HQ
        have HT2 : Hid (tr = tx ++ ty ++ numT l.length) := ht2
        clear ht2
        generalize numT l.length = tn at *
        clear zt zn z2 S1 S2
        clear hre hsm
        go_enter Try.func18, Try.ntmps18
        go_wp2_with fail
        rw [← HW.out]
        refine (G1.out _ HB0.out).mono ?_
        rintro e w1 ⟨rfl, hb1⟩
        have B1 : Hid (Below W.heap.size W w1) := hb1
        clear c0 c1 c2 c3 c4 c5 c6 c7 c8 c9 c10 c11 c12 c13 c14 d0 d1 d2 d3 d4 d5 d6 d7 d8 d9 d10 d11 d12 d13 d14
        obtain ⟨⟨c0, c1, c2, c3, c4, c5, c6, c7, c8, c9, c10, c11, c12, c13, c14⟩, _⟩ := HC.out _ hb1
        clear hb1
        go_wp2_with fail
        refine (G2.out _ B1.out).mono ?_
        rintro e w2 ⟨rfl, hb2⟩
        have B2 : Hid (Below W.heap.size W w2) := hb2
        clear c0 c1 c2 c3 c4 c5 c6 c7 c8 c9 c10 c11 c12 c13 c14
        obtain ⟨⟨c0, c1, c2, c3, c4, c5, c6, c7, c8, c9, c10, c11, c12, c13, c14⟩, _⟩ := HC.out _ hb2
        clear hb2
        go_wp2_with fail
        refine (G3.out _ B2.out).mono ?_
        rintro e w3 ⟨rfl, hb3⟩
        have B3 : Hid (Below W.heap.size W w3) := hb3
        have B3d : Hid (Below W.heap.size W w3.drew) := below_drew' hb3
        clear c0 c1 c2 c3 c4 c5 c6 c7 c8 c9 c10 c11 c12 c13 c14 HW G1 G2 G3
        obtain ⟨⟨c0, c1, c2, c3, c4, c5, c6, c7, c8, c9, c10, c11, c12, c13, c14⟩, ⟨d0, d1, d2, d3, d4, d5, d6, d7, d8, d9, d10, d11, d12, d13, d14⟩⟩ := HC.out _ hb3
        clear hb3
        go_wp2_with fail
        go_cut [3] (fun x wx => x = .string tr ∧ Below W.heap.size W wx)
        case first J K hJ hK =>
          go_region_held3 (fun X => (X.cell? ⟨w.heap.size, 0, none⟩ = some (.string x.log) ∧ X.cell? ⟨w.heap.size, 1, none⟩ = some (.int .i64 x.size) ∧ X.cell? ⟨w.heap.size, 2, none⟩ = some (.string x.root) ∧ X.cell? ⟨w.heap.size, 3, none⟩ = some (.int .i64 x.time) ∧ X.cell? ⟨w.heap.size, 4, none⟩ = some (.int .i64 x.k) ∧ X.cell? ⟨w.heap.size, 5, none⟩ = some (.slice a1 x.el.length s1) ∧ X.cell? ⟨w.heap.size, 6, none⟩ = some (.slice b1 x.pl.length t1) ∧ X.cell? ⟨w.heap.size, 7, none⟩ = some (.string y.log) ∧ X.cell? ⟨w.heap.size, 8, none⟩ = some (.int .i64 y.size) ∧ X.cell? ⟨w.heap.size, 9, none⟩ = some (.string y.root) ∧ X.cell? ⟨w.heap.size, 10, none⟩ = some (.int .i64 y.time) ∧ X.cell? ⟨w.heap.size, 11, none⟩ = some (.int .i64 y.k) ∧ X.cell? ⟨w.heap.size, 12, none⟩ = some (.slice a2 y.el.length s2) ∧ X.cell? ⟨w.heap.size, 13, none⟩ = some (.slice b2 y.pl.length t2) ∧ X.cell? ⟨w.heap.size, 14, none⟩ = some (.slice ae l.length ce))) (((refine HS.out _ ?_); (repeat (first | exact HA3.out | exact HA2.out | exact HA1.out | exact B3.out | refine below_drew' ?_))))
            (first
              | (go_at_call 40; (with_reducible refine (F1.out _ ?_).mono ?_); (first | exact B3d.out | exact B3.out | exact HA3.out | exact below_drew' HA3.out); rintro e wa ⟨rfl, hia⟩; have HA1 : Hid (Below W.heap.size W wa) := hia; clear hia)
              | (go_at_call 40; (with_reducible refine (F2.out _ ?_).mono ?_); (first | exact HA3.out | exact HA1.out); rintro e wb ⟨rfl, hib⟩; have HA2 : Hid (Below W.heap.size W wb) := hib; clear hib)
              | (go_at_call 41; (with_reducible refine (EN.out _).mono ?_); rintro e wc ⟨rfl, hic⟩; have HA3 : Hid (Below W.heap.size W wc) := (by (first | exact (HA2.out).trans (hic.mono HA2.out.size) | exact (HA1.out).trans (hic.mono HA1.out.size) | exact (B3d.out).trans (hic.mono B3d.out.size))); clear hic))
          all_goals
            refine hK _ _ (Met.intro (hJ _ _ ?_))
            (repeat apply Exists.intro)
            refine ⟨?rel, rfl⟩
            case rel => exact ⟨congrArg Value.string HT2.out.symm, by (first | exact HA2.out | exact HA3.out)⟩
        case rest =>
          obtain ⟨rfl, hbc⟩ := hcut
          have HBC : Hid (Below W.heap.size W wc) := hbc
          clear F1 F2 EN B3 B3d q1 q2 HT2 hbc c0 c1 c2 c3 c4 c5 c6 c7 c8 c9 c10 c11 c12 c13 c14 d0 d1 d2 d3 d4 d5 d6 d7 d8 d9 d10 d11 d12 d13 d14
          obtain ⟨n, hn⟩ : ∃ n, n = l.length := ⟨_, rfl⟩
          have HN : Hid (n = l.length) := hn
          rw [← hn] at HC HE hl64
          clear hn HS
          go_wp2
          go_loopw [3, 4] (fun r i wr => ∃ j : Nat, j ≤ n ∧ i = .int .i64 j ∧ r = .string (putAllOn tr (l.take j)) ∧ Below W.heap.size W wr) (fun _ i _ => n - (RowKit.intOf i).toNat)
          case atStart => exact ⟨0, Nat.zero_le _, rfl, rfl, HBC.out⟩
          case round =>
            obtain ⟨j, hj, rfl, rfl, hb⟩ := hrel
            have HB : Hid (Below W.heap.size W wr) := hb
            obtain ⟨⟨c0, c1, c2, c3, c4, c5, c6, c7, c8, c9, c10, c11, c12, c13, c14⟩, _⟩ := HC.out wr hb
            by_cases hjn : j < n
            · have hjl : j < l.length := by rw [← HN.out]; exact hjn
              obtain ⟨b, off, rfl, _, hcj⟩ := (HE.out wr hb).cellAt j hjl
              have E : Hid (∀ w : World, Calls Try.prog 42 #[.string l[j]] w fun e w' => e = .returned (.string (putText l[j])) ∧ Below w.heap.size w w') := EP.out j hjl
              have hq := HQ.out j hjl
              have HR1 : Hid (putAllOn tr (l.take (j + 1)) = putAllOn tr (l.take j) ++ putText l[j]) := putAllOn_succ tr hjl
              have hjI : (j : Int) < (n : Int) := by omega
              clear hb EP HQ HE HC HBC HN
              generalize putText l[j] = u at *
              generalize l[j] = t at *
              obtain ⟨r1, hr1⟩ : ∃ r1, r1 = putAllOn tr (l.take (j + 1)) := ⟨_, rfl⟩
              have HR2 : Hid (r1 = putAllOn tr (l.take (j + 1))) := hr1
              clear hr1
              generalize putAllOn tr (l.take j) = r0 at *
              go_wp2_with fail
              refine (E.out _).mono ?_
              rintro e w1 ⟨rfl, hb1⟩
              have HB1 : Hid (Below W.heap.size W w1) := HB.out.trans (hb1.mono HB.out.size)
              clear hb1 E
              go_wp2
              go_roundw
              case rel => exact ⟨j + 1, by omega, by go_num, congrArg Value.string HR1.out.symm, HB1.out⟩
              case measure => simp [RowKit.intOf]; omega
            · have e0 : j = l.length := by have := HN.out; omega
              have HV2 : Hid (V = putAllOn tr (l.take j)) := by
                show _ = _
                rw [HV.out, e0, List.take_length]
              have hjI : ¬ (j : Int) < (n : Int) := by omega
              clear hb EP HQ HE HC HBC HN HV e0
              generalize putAllOn tr (l.take j) = r0 at *
              go_wp2
              go_ret
              exact ⟨ret_str HV2.out.symm, H0.out.trans (HB.out.mono H0.out.size)⟩
end Go.Proofs.Ytpglcbidfghfkaa
