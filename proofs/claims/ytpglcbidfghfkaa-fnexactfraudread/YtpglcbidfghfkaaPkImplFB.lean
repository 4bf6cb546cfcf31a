/-
  FraudBytes, the program's.
-/
import Derived.Test.YtpglcbidfghfkaaPkHdBy
import Derived.Test.YtpglcbidfghfkaaPkImplLaid
import Derived.Test.YtpglcbidfghfkaaPkRight
import Derived.Deep.RegionWith
import Derived.Deep.RegionHeld3
namespace Go.Proofs.Ytpglcbidfghfkaa
open Go.RowKit Go.Lib
set_option linter.unusedVariables false
set_option linter.unusedSimpArgs false

set_option maxHeartbeats 4000000 in
set_option maxRecDepth 10000 in
theorem implFraudBytes_any (x y : Hd) (xe xp ye yp ve : Value) (l : List ByteArray) (w : World) (hx : x.In xe xp w w.heap.size) (hy : y.In ye yp w w.heap.size) (h3 : Texts w w.heap.size ve l) (hlx : x.Lim) (hly : y.Lim) (hll : l.length ≤ 1048576) :
    Calls Try.prog 20 #[.agg #[.string x.log, .int .i64 x.size, .string x.root, .int .i64 x.time, .int .i64 x.k, xe, xp, .string y.log, .int .i64 y.size, .string y.root, .int .i64 y.time, .int .i64 y.k, ye, yp, ve]] w fun e w' => e = .returned (.string (fraudT x.right y.right x.bytes y.bytes l)) ∧ Below w.heap.size w w' := by
  obtain ⟨a1, s1, b1, t1, rfl, rfl⟩ := hx.parts
  obtain ⟨a2, s2, b2, t2, rfl, rfl⟩ := hy.parts
  obtain ⟨ae, ce, rfl, _⟩ := id h3
  obtain ⟨W, hW⟩ : ∃ W, W = w.alloc (.cells #[.string x.log, .int .i64 x.size, .string x.root, .int .i64 x.time, .int .i64 x.k, .slice a1 x.el.length s1, .slice b1 x.pl.length t1, .string y.log, .int .i64 y.size, .string y.root, .int .i64 y.time, .int .i64 y.k, .slice a2 y.el.length s2, .slice b2 y.pl.length t2, .slice ae l.length ce] 28) := ⟨_, rfl⟩
  have hbW : Below w.heap.size w W := by rw [hW]; exact (Below.refl _ _).alloc (Nat.le_refl _) _
  have hgW : W.heap[w.heap.size]? = some (.cells #[.string x.log, .int .i64 x.size, .string x.root, .int .i64 x.time, .int .i64 x.k, .slice a1 x.el.length s1, .slice b1 x.pl.length t1, .string y.log, .int .i64 y.size, .string y.root, .int .i64 y.time, .int .i64 y.k, .slice a2 y.el.length s2, .slice b2 y.pl.length t2, .slice ae l.length ce] 28 (0, 0)) := by rw [hW]; exact heap_alloc_new w _
  have HW : Hid (W = w.alloc (.cells #[.string x.log, .int .i64 x.size, .string x.root, .int .i64 x.time, .int .i64 x.k, .slice a1 x.el.length s1, .slice b1 x.pl.length t1, .string y.log, .int .i64 y.size, .string y.root, .int .i64 y.time, .int .i64 y.k, .slice a2 y.el.length s2, .slice b2 y.pl.length t2, .slice ae l.length ce] 28)) := hW
  have HC : Hid (∀ W', Below W.heap.size W W' → (W'.cell? ⟨w.heap.size, 0, none⟩ = some (.string x.log) ∧ W'.cell? ⟨w.heap.size, 1, none⟩ = some (.int .i64 x.size) ∧ W'.cell? ⟨w.heap.size, 2, none⟩ = some (.string x.root) ∧ W'.cell? ⟨w.heap.size, 3, none⟩ = some (.int .i64 x.time) ∧ W'.cell? ⟨w.heap.size, 4, none⟩ = some (.int .i64 x.k) ∧ W'.cell? ⟨w.heap.size, 5, none⟩ = some (.slice a1 x.el.length s1) ∧ W'.cell? ⟨w.heap.size, 6, none⟩ = some (.slice b1 x.pl.length t1) ∧ W'.cell? ⟨w.heap.size, 7, none⟩ = some (.string y.log) ∧ W'.cell? ⟨w.heap.size, 8, none⟩ = some (.int .i64 y.size) ∧ W'.cell? ⟨w.heap.size, 9, none⟩ = some (.string y.root) ∧ W'.cell? ⟨w.heap.size, 10, none⟩ = some (.int .i64 y.time) ∧ W'.cell? ⟨w.heap.size, 11, none⟩ = some (.int .i64 y.k) ∧ W'.cell? ⟨w.heap.size, 12, none⟩ = some (.slice a2 y.el.length s2) ∧ W'.cell? ⟨w.heap.size, 13, none⟩ = some (.slice b2 y.pl.length t2) ∧ W'.cell? ⟨w.heap.size, 14, none⟩ = some (.slice ae l.length ce)) ∧ (W'.drew.cell? ⟨w.heap.size, 0, none⟩ = some (.string x.log) ∧ W'.drew.cell? ⟨w.heap.size, 1, none⟩ = some (.int .i64 x.size) ∧ W'.drew.cell? ⟨w.heap.size, 2, none⟩ = some (.string x.root) ∧ W'.drew.cell? ⟨w.heap.size, 3, none⟩ = some (.int .i64 x.time) ∧ W'.drew.cell? ⟨w.heap.size, 4, none⟩ = some (.int .i64 x.k) ∧ W'.drew.cell? ⟨w.heap.size, 5, none⟩ = some (.slice a1 x.el.length s1) ∧ W'.drew.cell? ⟨w.heap.size, 6, none⟩ = some (.slice b1 x.pl.length t1) ∧ W'.drew.cell? ⟨w.heap.size, 7, none⟩ = some (.string y.log) ∧ W'.drew.cell? ⟨w.heap.size, 8, none⟩ = some (.int .i64 y.size) ∧ W'.drew.cell? ⟨w.heap.size, 9, none⟩ = some (.string y.root) ∧ W'.drew.cell? ⟨w.heap.size, 10, none⟩ = some (.int .i64 y.time) ∧ W'.drew.cell? ⟨w.heap.size, 11, none⟩ = some (.int .i64 y.k) ∧ W'.drew.cell? ⟨w.heap.size, 12, none⟩ = some (.slice a2 y.el.length s2) ∧ W'.drew.cell? ⟨w.heap.size, 13, none⟩ = some (.slice b2 y.pl.length t2) ∧ W'.drew.cell? ⟨w.heap.size, 14, none⟩ = some (.slice ae l.length ce))) := fun W' hb => by
    have c := row_cells hb (Array.getElem?_eq_some_iff.1 hgW).1 hgW
    exact ⟨⟨c 0 _ rfl, c 1 _ rfl, c 2 _ rfl, c 3 _ rfl, c 4 _ rfl, c 5 _ rfl, c 6 _ rfl, c 7 _ rfl, c 8 _ rfl, c 9 _ rfl, c 10 _ rfl, c 11 _ rfl, c 12 _ rfl, c 13 _ rfl, c 14 _ rfl⟩, c 0 _ rfl, c 1 _ rfl, c 2 _ rfl, c 3 _ rfl, c 4 _ rfl, c 5 _ rfl, c 6 _ rfl, c 7 _ rfl, c 8 _ rfl, c 9 _ rfl, c 10 _ rfl, c 11 _ rfl, c 12 _ rfl, c 13 _ rfl, c 14 _ rfl⟩
  have HX : Hid (∀ W', Below W.heap.size W W' → x.In (.slice a1 x.el.length s1) (.slice b1 x.pl.length t1) W' W'.heap.size) := fun W' hb => (hx.on hbW).on hb
  have HY : Hid (∀ W', Below W.heap.size W W' → y.In (.slice a2 y.el.length s2) (.slice b2 y.pl.length t2) W' W'.heap.size) := fun W' hb => (hy.on hbW).on hb
  have HE : Hid (∀ W', Below W.heap.size W W' → Texts W' W'.heap.size (.slice ae l.length ce) l) := fun W' hb => (h3.on hbW).on hb
  have G1 : Hid (∀ W', Below W.heap.size W W' → Calls Try.prog 46 #[.agg #[.string x.log, .int .i64 x.size, .string x.root, .int .i64 x.time, .int .i64 x.k, .slice a1 x.el.length s1, .slice b1 x.pl.length t1]] W' fun e w'' => e = .returned (.bool x.right) ∧ Below W.heap.size W w'') := fun W' hb => (implHeadRight_any x.log x.root x.size x.time x.k _ _ x.el x.pl W' (HX.out W' hb).1 (HX.out W' hb).2 hlx.2.2.1 hlx.2.2.2 hlx.1 hlx.2.1).mono fun e w'' h => ⟨h.1, hb.trans (h.2.mono hb.size)⟩
  have G2 : Hid (∀ W', Below W.heap.size W W' → Calls Try.prog 46 #[.agg #[.string y.log, .int .i64 y.size, .string y.root, .int .i64 y.time, .int .i64 y.k, .slice a2 y.el.length s2, .slice b2 y.pl.length t2]] W' fun e w'' => e = .returned (.bool y.right) ∧ Below W.heap.size W w'') := fun W' hb => (implHeadRight_any y.log y.root y.size y.time y.k _ _ y.el y.pl W' (HY.out W' hb).1 (HY.out W' hb).2 hly.2.2.1 hly.2.2.2 hly.1 hly.2.1).mono fun e w'' h => ⟨h.1, hb.trans (h.2.mono hb.size)⟩
  have G3 : Hid (∀ W', Below W.heap.size W W' → Calls Try.prog 47 #[.slice ae l.length ce] W' fun e w'' => e = .returned (.bool (rightB l)) ∧ Below W.heap.size W w'') := fun W' hb => (entriesRight_any _ l W' W'.heap.size (HE.out W' hb) hll).mono fun e w'' h => ⟨h.1, by rw [h.2]; exact hb⟩
  have F1 : Hid (x.right = true → ∀ W', Below W.heap.size W W' → Calls Try.prog 49 #[.agg #[.string x.log, .int .i64 x.size, .string x.root, .int .i64 x.time, .int .i64 x.k, .slice a1 x.el.length s1, .slice b1 x.pl.length t1]] W' fun e w'' => e = .returned (.string x.bytes) ∧ Below W.heap.size W w'') := fun hr W' hb => (headBytes_any x.log x.root x.size x.time x.k _ _ x.el x.pl W' (HX.out W' hb).1 (HX.out W' hb).2 hr).mono fun e w'' h => ⟨h.1, hb.trans (h.2.mono hb.size)⟩
  have F2 : Hid (y.right = true → ∀ W', Below W.heap.size W W' → Calls Try.prog 49 #[.agg #[.string y.log, .int .i64 y.size, .string y.root, .int .i64 y.time, .int .i64 y.k, .slice a2 y.el.length s2, .slice b2 y.pl.length t2]] W' fun e w'' => e = .returned (.string y.bytes) ∧ Below W.heap.size W w'') := fun hr W' hb => (headBytes_any y.log y.root y.size y.time y.k _ _ y.el y.pl W' (HY.out W' hb).1 (HY.out W' hb).2 hr).mono fun e w'' h => ⟨h.1, hb.trans (h.2.mono hb.size)⟩
  have HS1 : Hid (x.right = true → x.bytes.size ≤ 21000) := fun h => headBy_size h
  have HS2 : Hid (y.right = true → y.bytes.size ≤ 21000) := fun h => headBy_size h
  have HB0 : Hid (Below W.heap.size W W) := Below.refl _ _
  have H0 : Hid (Below w.heap.size w W) := hbW
  obtain ⟨⟨c0, c1, c2, c3, c4, c5, c6, c7, c8, c9, c10, c11, c12, c13, c14⟩, ⟨d0, d1, d2, d3, d4, d5, d6, d7, d8, d9, d10, d11, d12, d13, d14⟩⟩ := HC.out W HB0.out
  clear hx hy h3 hW hbW hgW HX HY
  unfold fraudT
  generalize x.right = rx at *
  generalize y.right = ry at *
  generalize x.bytes = tx at *
  generalize y.bytes = ty at *
  cases rx with
  | false =>
    clear G2 G3 F1 F2
    go_enter Try.func20, Try.ntmps20
    go_wp2_with fail
    rw [← HW.out]
    refine (G1.out _ HB0.out).mono ?_
    rintro e w1 ⟨rfl, hb1⟩
    have B1 : Hid (Below W.heap.size W w1) := hb1
    clear hb1
    go_wp2
    go_ret
    exact ⟨rfl, H0.out.trans (B1.out.mono H0.out.size)⟩
  | true =>
    cases ry with
    | false =>
      clear G3 F1 F2
      go_enter Try.func20, Try.ntmps20
      go_wp2_with fail
      rw [← HW.out]
      refine (G1.out _ HB0.out).mono ?_
      rintro e w1 ⟨rfl, hb1⟩
      have B1 : Hid (Below W.heap.size W w1) := hb1
      clear c0 c1 c2 c3 c4 c5 c6 c7 c8 c9 c10 c11 c12 c13 c14 d0 d1 d2 d3 d4 d5 d6 d7 d8 d9 d10 d11 d12 d13 d14
      obtain ⟨⟨c0, c1, c2, c3, c4, c5, c6, c7, c8, c9, c10, c11, c12, c13, c14⟩, _⟩ := HC.out _ hb1
      clear hb1
      go_wp2_with fail
      refine (G2.out _ B1.out).mono ?_
      rintro e w2 ⟨rfl, hb2⟩
      have B2 : Hid (Below W.heap.size W w2) := hb2
      clear hb2
      go_wp2
      go_ret
      exact ⟨rfl, H0.out.trans (B2.out.mono H0.out.size)⟩
    | true =>
      have F1' := F1.out rfl
      have F2' := F2.out rfl
      have S1 := HS1.out rfl
      have S2 := HS2.out rfl
      clear F1 F2 HS1 HS2
      have F1 : Hid _ := F1'
      have F2 : Hid _ := F2'
      clear F1' F2'
      obtain ⟨re, hre'⟩ : ∃ re, re = rightB l := ⟨_, rfl⟩
      rw [← hre'] at G3 ⊢
      have hre := hre'.symm
      clear hre'
      cases re with
      | false =>
        clear F1 F2 S1 S2 hre
        go_enter Try.func20, Try.ntmps20
        go_wp2_with fail
        rw [← HW.out]
        refine (G1.out _ HB0.out).mono ?_
        rintro e w1 ⟨rfl, hb1⟩
        have B1 : Hid (Below W.heap.size W w1) := hb1
        clear c0 c1 c2 c3 c4 c5 c6 c7 c8 c9 c10 c11 c12 c13 c14 d0 d1 d2 d3 d4 d5 d6 d7 d8 d9 d10 d11 d12 d13 d14
        obtain ⟨⟨c0, c1, c2, c3, c4, c5, c6, c7, c8, c9, c10, c11, c12, c13, c14⟩, _⟩ := HC.out _ hb1
        clear hb1
        go_wp2_with fail
        refine (G2.out _ B1.out).mono ?_
        rintro e w2 ⟨rfl, hb2⟩
        have B2 : Hid (Below W.heap.size W w2) := hb2
        clear c0 c1 c2 c3 c4 c5 c6 c7 c8 c9 c10 c11 c12 c13 c14
        obtain ⟨⟨c0, c1, c2, c3, c4, c5, c6, c7, c8, c9, c10, c11, c12, c13, c14⟩, _⟩ := HC.out _ hb2
        clear hb2
        go_wp2_with fail
        refine (G3.out _ B2.out).mono ?_
        rintro e w3 ⟨rfl, hb3⟩
        have B3 : Hid (Below W.heap.size W w3) := hb3
        clear hb3
        go_wp2
        go_ret
        exact ⟨rfl, H0.out.trans (B3.out.mono H0.out.size)⟩
      | true =>
        have hl64 := rightB_len hre
        have hsm := right_small hre
        have EJ : Hid (∀ w, Calls Try.prog 48 #[.string tx, .string ty] w fun e w' => e = .returned (.string (tx ++ ty)) ∧ Below w.heap.size w w') := fun w => joined_any tx ty w (by omega) (by omega)
        have zt : (tx ++ ty).size ≤ 42000 := by rw [ba_size]; omega
        have zn := numT_size (l.length : Int)
        have EN : Hid (∀ w, Calls Try.prog 50 #[.string (tx ++ ty), .int .i64 (l.length : Int), .func (.func 51) #[] #[]] w fun e w' => e = .returned (.string (tx ++ ty ++ numT l.length)) ∧ Below w.heap.size w w') := fun w => laidN_any _ _ _ w (fun w => implPutNum_any _ w (by omega) (by omega)) (by omega) (by omega)
        have EA : Hid (∀ W', Below W.heap.size W W' → Calls Try.prog 52 #[.string (tx ++ ty ++ numT l.length), .slice ae l.length ce] W' fun e w' => e = .returned (.string (fraudBy tx ty l)) ∧ Below W'.heap.size W' w') := fun W' hb => laidAll_any _ _ l W' (HE.out W' hb) hsm hl64 (by rw [ba_size]; omega)
        generalize fraudBy tx ty l = V at *
        generalize tx ++ ty ++ numT l.length = u2 at *
        generalize tx ++ ty = u1 at *
        clear zt zn S1 S2 HE
        clear hre hsm
        go_enter Try.func20, Try.ntmps20
        go_wp2_with fail
        rw [← HW.out]
        refine (G1.out _ HB0.out).mono ?_
        rintro e w1 ⟨rfl, hb1⟩
        have B1 : Hid (Below W.heap.size W w1) := hb1
        clear c0 c1 c2 c3 c4 c5 c6 c7 c8 c9 c10 c11 c12 c13 c14 d0 d1 d2 d3 d4 d5 d6 d7 d8 d9 d10 d11 d12 d13 d14
        obtain ⟨⟨c0, c1, c2, c3, c4, c5, c6, c7, c8, c9, c10, c11, c12, c13, c14⟩, _⟩ := HC.out _ hb1
        clear hb1
        go_wp2_with fail
        refine (G2.out _ B1.out).mono ?_
        rintro e w2 ⟨rfl, hb2⟩
        have B2 : Hid (Below W.heap.size W w2) := hb2
        clear c0 c1 c2 c3 c4 c5 c6 c7 c8 c9 c10 c11 c12 c13 c14
        obtain ⟨⟨c0, c1, c2, c3, c4, c5, c6, c7, c8, c9, c10, c11, c12, c13, c14⟩, _⟩ := HC.out _ hb2
        clear hb2
        go_wp2_with fail
        refine (G3.out _ B2.out).mono ?_
        rintro e w3 ⟨rfl, hb3⟩
        have B3 : Hid (Below W.heap.size W w3) := hb3
        have B3d : Hid (Below W.heap.size W w3.drew) := below_drew' hb3
        clear c0 c1 c2 c3 c4 c5 c6 c7 c8 c9 c10 c11 c12 c13 c14 HW G1 G2 G3
        obtain ⟨⟨c0, c1, c2, c3, c4, c5, c6, c7, c8, c9, c10, c11, c12, c13, c14⟩, ⟨d0, d1, d2, d3, d4, d5, d6, d7, d8, d9, d10, d11, d12, d13, d14⟩⟩ := HC.out _ hb3
        clear hb3
        go_wp2_with fail
        go_region_with (first
          | (go_at_call 49; (with_reducible refine (F1.out _ ?_).mono ?_); (first | exact B3.out | exact B3d.out); rintro e wa ⟨rfl, hia⟩; have HA : Hid (Below W.heap.size W wa) := hia; obtain ⟨⟨x0, x1, x2, x3, x4, x5, x6, x7, x8, x9, x10, x11, x12, x13, x14⟩, _⟩ := HC.out _ hia; clear hia)
          | (go_at_call 49; (with_reducible refine (F2.out _ ?_).mono ?_); exact HA.out; rintro e wb ⟨rfl, hib⟩; have HB : Hid (Below W.heap.size W wb) := hib; clear hib)
          | (go_at_call 48; (with_reducible refine (EJ.out _).mono ?_); rintro e wj ⟨rfl, hij⟩; have HJ : Hid (Below W.heap.size W wj) := HB.out.trans (hij.mono HB.out.size); clear hij))
        all_goals
          clear F1 F2 EJ B3 B3d c0 c1 c2 c3 c4 c5 c6 c7 c8 c9 c10 c11 c12 c13 c14 d0 d1 d2 d3 d4 d5 d6 d7 d8 d9 d10 d11 d12 d13 d14
          obtain ⟨⟨c0, c1, c2, c3, c4, c5, c6, c7, c8, c9, c10, c11, c12, c13, c14⟩, _⟩ := HC.out _ HJ.out
          go_wp2_with fail
          refine (EN.out _).mono ?_
          rintro e w4 ⟨rfl, hb4⟩
          have B4 : Hid (Below W.heap.size W w4) := HJ.out.trans (hb4.mono HJ.out.size)
          clear hb4 c0 c1 c2 c3 c4 c5 c6 c7 c8 c9 c10 c11 c12 c13 c14
          obtain ⟨⟨c0, c1, c2, c3, c4, c5, c6, c7, c8, c9, c10, c11, c12, c13, c14⟩, _⟩ := HC.out _ B4.out
          go_wp2_with fail
          refine (EA.out _ B4.out).mono ?_
          rintro e w5 ⟨rfl, hb5⟩
          have B5 : Hid (Below W.heap.size W w5) := B4.out.trans (hb5.mono B4.out.size)
          clear hb5
          go_wp2
          go_ret
          exact ⟨rfl, H0.out.trans (B5.out.mono H0.out.size)⟩
end Go.Proofs.Ytpglcbidfghfkaa
