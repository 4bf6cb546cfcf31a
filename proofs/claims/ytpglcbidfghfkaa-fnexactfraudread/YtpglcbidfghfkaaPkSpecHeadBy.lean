/-
  The document's bytes of a head.
-/
import Derived.Test.YtpglcbidfghfkaaPkFraudV
import Derived.Test.YtpglcbidfghfkaaPkSpecHeadT
import Derived.Test.YtpglcbidfghfkaaPkTextRows
import Derived.Deep.RegionWith
import Derived.Deep.RegionHeld3
import Derived.Deep.DeepCutAuto
namespace Go.Proofs.Ytpglcbidfghfkaa
open Go.RowKit Go.Lib
set_option linter.unusedVariables false
set_option linter.unusedSimpArgs false

set_option maxHeartbeats 4000000 in
set_option maxRecDepth 10000 in
theorem l06Head_any (log root : ByteArray) (size time k : Int) (ve vp : Value) (el pl : List ByteArray) (w : World) (h1 : Texts w w.heap.size ve el) (h2 : Texts w w.heap.size vp pl) (hR : headRB log size root time k el pl = true) :
    Calls Try.prog 40 #[.agg #[.string log, .int .i64 size, .string root, .int .i64 time, .int .i64 k, ve, vp]] w fun e w' => e = .returned (.string (headBy log size root time k el pl)) ∧ Below w.heap.size w w' := by
  obtain ⟨⟨hk0, hk1⟩, he6, hp2, hwe, hwp⟩ := sigRB_yes (headRB_sig hR)
  have hcl : claimB log size root time = true := by
    unfold headRB at hR
    exact (Bool.and_eq_true_iff.1 hR).1
  obtain ⟨hnm, ⟨hs0, hs1⟩, hrt, ht0, ht1⟩ := claimB_yes hcl
  have hlog := (nameB_yes hnm).2
  obtain ⟨a, c, rfl, _⟩ := id h1
  obtain ⟨b, d, rfl, _⟩ := id h2
  obtain ⟨W, hW⟩ : ∃ W, W = w.alloc (.cells #[.string log, .int .i64 size, .string root, .int .i64 time, .int .i64 k, .slice a el.length c, .slice b pl.length d] 26) := ⟨_, rfl⟩
  have hbW : Below w.heap.size w W := by rw [hW]; exact (Below.refl _ _).alloc (Nat.le_refl _) _
  have H0 : Hid (Below w.heap.size w W ∧ W.heap[w.heap.size]? = some (.cells #[.string log, .int .i64 size, .string root, .int .i64 time, .int .i64 k, .slice a el.length c, .slice b pl.length d] 26 (0, 0)) ∧ w.heap.size < W.heap.size) := by
    refine ⟨hbW, ?_, ?_⟩
    · rw [hW]; exact heap_alloc_new w _
    · rw [hW]; simp
  have HW : Hid (W = w.alloc (.cells #[.string log, .int .i64 size, .string root, .int .i64 time, .int .i64 k, .slice a el.length c, .slice b pl.length d] 26)) := hW
  have z0 := putText_size (headT log size root time)
  have z1 := numT_size k
  have z3 : ∀ j, (putAllOn (putText (headT log size root time) ++ numT k) (el.take j)).size ≤ 30000 := fun j => by
    have z2 := putAllOn_size (el.take j) (putText (headT log size root time) ++ numT k) (small_take (wide_small hwe) j)
    rw [ba_size] at z2
    have : (el.take j).length ≤ 6 := by rw [List.length_take]; omega
    omega
  obtain ⟨eb, eo, rfl, heb, hec⟩ := h1.rowAt (by omega)
  obtain ⟨pb, po, rfl, hpb, hpc⟩ := h2.rowAt (by omega)
  match pl, hp2 with
  | [p0, p1], _ =>
  have hpc0 : w.cell? ⟨pb, po + 0, none⟩ = some (.string p0) := hpc 0 (by simp)
  have hpc1 : w.cell? ⟨pb, po + 1, none⟩ = some (.string p1) := hpc 1 (by simp)
  have HPC : Hid (∀ W', Below W.heap.size W W' → (W'.cell? ⟨pb, po, none⟩ = some (.string p0) ∧ W'.cell? ⟨pb, po + 1, none⟩ = some (.string p1))) := fun W' hb => by
    have hb2 := hbW.trans (hb.mono hbW.size)
    exact ⟨(hb2.cell (p := ⟨pb, po, none⟩) hpb).trans hpc0, (hb2.cell (p := ⟨pb, po + 1, none⟩) hpb).trans hpc1⟩
  have HEC : Hid (∀ W', Below W.heap.size W W' → ∀ j (hj : j < el.length), W'.cell? ⟨eb, eo + j, none⟩ = some (.string el[j])) := fun W' hb j hj => ((hbW.trans (hb.mono hbW.size)).cell (p := ⟨eb, eo + j, none⟩) heb).trans (hec j hj)
  have HW2 : Hid (W = w.alloc (.cells #[.string log, .int .i64 size, .string root, .int .i64 time, .int .i64 k, .slice (some ⟨eb, eo, none⟩) el.length c, .slice (some ⟨pb, po, none⟩) 2 d] 26)) := HW.out
  have hp0 : p0.size = 32 := wideB_at hwp (j := 0) (by simp)
  have hp1 : p1.size = 32 := wideB_at hwp (j := 1) (by simp)
  have hhs := headT_size log size root time
  have E0 : Hid (∀ w', Calls Try.prog 65 #[.agg #[.string log, .int .i64 size, .string root, .int .i64 time, .int .i64 k, .slice (some ⟨eb, eo, none⟩) el.length c, .slice (some ⟨pb, po, none⟩) 2 d]] w' fun e w'' => e = .returned (.string (headT log size root time)) ∧ Below w'.heap.size w' w'') := fun w' => l05Text_any _ _ _ _ _ _ _ _ _ _ _ w' (by omega) (by omega) (by omega) (by omega)
  have E1 : Hid (∀ w, Calls Try.prog 42 #[.string (headT log size root time)] w fun e w' => e = .returned (.string (putText (headT log size root time))) ∧ Below w.heap.size w w') := fun w => specPutText_any _ w (by omega)
  have E2 : Hid (∀ w, Calls Try.prog 41 #[.int .i64 k] w fun e w' => e = .returned (.string (numT k)) ∧ Below w.heap.size w w') := fun w => specPutNum_any k w (by omega) (by omega)
  have E3 : Hid (∀ j (hj : j < el.length) (w : World), Calls Try.prog 42 #[.string el[j]] w fun e w' => e = .returned (.string (putText el[j])) ∧ Below w.heap.size w w') := fun j hj w => specPutText_any _ w (by have := wideB_at hwe hj; omega)
  have E4 : Hid (∀ w, Calls Try.prog 42 #[.string p0] w fun e w' => e = .returned (.string (putText p0)) ∧ Below w.heap.size w w') := fun w => specPutText_any _ w (by omega)
  have E5 : Hid (∀ w, Calls Try.prog 42 #[.string p1] w fun e w' => e = .returned (.string (putText p1)) ∧ Below w.heap.size w w') := fun w => specPutText_any _ w (by omega)
  have HQ : Hid (∀ j (hj : j < el.length), ¬ 9223372036854775807 < (putAllOn (putText (headT log size root time) ++ numT k) (el.take j)).size + (putText el[j]).size) := fun j hj => by
    have := z3 j
    have := putText_size el[j]
    omega
  have q1 : ¬ 9223372036854775807 < (putText (headT log size root time)).size + (numT k).size := by omega
  have HQ6 : Hid ((putAllOn (putText (headT log size root time) ++ numT k) el).size ≤ 30000 ∧ (putText p0).size ≤ 20011 ∧ (putText p1).size ≤ 20011) := by
    refine ⟨?_, putText_size _, putText_size _⟩
    have := z3 el.length
    rwa [List.take_length] at this
  have HSU : Hid (∀ j (hj : j < el.length), putAllOn (putText (headT log size root time) ++ numT k) (el.take (j + 1)) = putAllOn (putText (headT log size root time) ++ numT k) (el.take j) ++ putText el[j]) := fun j hj => putAllOn_succ _ hj
  have HV : Hid (headBy log size root time k el [p0, p1] = putAllOn (putText (headT log size root time) ++ numT k) el ++ putText p0 ++ putText p1) := rfl
  have HE6 : Hid (el.length = 6) := he6
  generalize headBy log size root time k el [p0, p1] = V at *
  have HP0 : Hid (putAllOn (putText (headT log size root time) ++ numT k) (el.take 0) = putText (headT log size root time) ++ numT k) := rfl
  obtain ⟨t2, ht2⟩ : ∃ t2, t2 = putText (headT log size root time) ++ numT k := ⟨_, rfl⟩
  rw [← ht2] at HP0 HV HQ HQ6 HSU
  have HT2 : Hid (t2 = putText (headT log size root time) ++ numT k) := ht2
  clear ht2 z3 z0 z1
  generalize putText (headT log size root time) = t1 at *
  generalize headT log size root time = t0 at *
  generalize numT k = tk at *
  have HC : Hid (∀ W', Below W.heap.size W W' → (W'.cell? ⟨w.heap.size, 0, none⟩ = some (.string log) ∧ W'.cell? ⟨w.heap.size, 1, none⟩ = some (.int .i64 size) ∧ W'.cell? ⟨w.heap.size, 2, none⟩ = some (.string root) ∧ W'.cell? ⟨w.heap.size, 3, none⟩ = some (.int .i64 time) ∧ W'.cell? ⟨w.heap.size, 4, none⟩ = some (.int .i64 k) ∧ W'.cell? ⟨w.heap.size, 5, none⟩ = some (.slice (some ⟨eb, eo, none⟩) el.length c) ∧ W'.cell? ⟨w.heap.size, 6, none⟩ = some (.slice (some ⟨pb, po, none⟩) 2 d)) ∧ (W'.drew.cell? ⟨w.heap.size, 0, none⟩ = some (.string log) ∧ W'.drew.cell? ⟨w.heap.size, 1, none⟩ = some (.int .i64 size) ∧ W'.drew.cell? ⟨w.heap.size, 2, none⟩ = some (.string root) ∧ W'.drew.cell? ⟨w.heap.size, 3, none⟩ = some (.int .i64 time) ∧ W'.drew.cell? ⟨w.heap.size, 4, none⟩ = some (.int .i64 k) ∧ W'.drew.cell? ⟨w.heap.size, 5, none⟩ = some (.slice (some ⟨eb, eo, none⟩) el.length c) ∧ W'.drew.cell? ⟨w.heap.size, 6, none⟩ = some (.slice (some ⟨pb, po, none⟩) 2 d))) := fun W' hb => by
    obtain ⟨c, _⟩ := seven_cells hb H0.out.2.2 H0.out.2.1
    exact ⟨c, c⟩
  have HS : Hid (∀ X, Below W.heap.size W X → (X.cell? ⟨w.heap.size, 0, none⟩ = some (.string log) ∧ X.cell? ⟨w.heap.size, 1, none⟩ = some (.int .i64 size) ∧ X.cell? ⟨w.heap.size, 2, none⟩ = some (.string root) ∧ X.cell? ⟨w.heap.size, 3, none⟩ = some (.int .i64 time) ∧ X.cell? ⟨w.heap.size, 4, none⟩ = some (.int .i64 k) ∧ X.cell? ⟨w.heap.size, 5, none⟩ = some (.slice (some ⟨eb, eo, none⟩) el.length c) ∧ X.cell? ⟨w.heap.size, 6, none⟩ = some (.slice (some ⟨pb, po, none⟩) 2 d))) := fun X hb => (HC.out X hb).1
  have HB0 : Hid (Below W.heap.size W W) := Below.refl _ _
  have HD0 : Hid (Below W.heap.size W W.drew) := below_drew' (Below.refl _ _)
  obtain ⟨⟨c0, c1, c2, c3, c4, c5, c6⟩, d0, d1, d2, d3, d4, d5, d6⟩ := HC.out W (Below.refl _ _)
  clear h1 h2 hR hk0 hk1 he6 hwe hwp hcl hnm hs0 hs1 hrt ht0 ht1 hlog hbW hW hhs hp0 hp1 heb hec hpb hpc hpc0 hpc1
  go_enter Try.func40, Try.ntmps40
  go_wp2_with fail
  rw [← HW2.out]
  clear HW HW2
  go_cut [3] (fun x wx => x = .string t2 ∧ Below W.heap.size W wx)
  case first J K hJ hK =>
    go_region_held3 (fun X => (X.cell? ⟨w.heap.size, 0, none⟩ = some (.string log) ∧ X.cell? ⟨w.heap.size, 1, none⟩ = some (.int .i64 size) ∧ X.cell? ⟨w.heap.size, 2, none⟩ = some (.string root) ∧ X.cell? ⟨w.heap.size, 3, none⟩ = some (.int .i64 time) ∧ X.cell? ⟨w.heap.size, 4, none⟩ = some (.int .i64 k) ∧ X.cell? ⟨w.heap.size, 5, none⟩ = some (.slice (some ⟨eb, eo, none⟩) el.length c) ∧ X.cell? ⟨w.heap.size, 6, none⟩ = some (.slice (some ⟨pb, po, none⟩) 2 d))) (((refine HS.out _ ?_); (repeat (first | exact HA3.out | exact HA2.out | exact HA1.out | exact HB0.out | refine below_drew' ?_))))
      (first
        | (go_at_call 65; (with_reducible refine (E0.out _).mono ?_); rintro e wa ⟨rfl, hia⟩; have HA1 : Hid (Below W.heap.size W wa) := by (first | exact (HD0.out).trans (hia.mono HD0.out.size) | exact (HA3.out).trans (hia.mono HA3.out.size) | exact (below_drew' HA3.out).trans (hia.mono (below_drew' HA3.out).size)))
        | (go_at_call 42; (with_reducible refine (E1.out _).mono ?_); rintro e wb ⟨rfl, hib⟩; have HA2 : Hid (Below W.heap.size W wb) := by (first | exact (HA1.out).trans (hib.mono HA1.out.size) | exact (HA3.out).trans (hib.mono HA3.out.size)))
        | (go_at_call 41; (with_reducible refine (E2.out _).mono ?_); rintro e wc ⟨rfl, hic⟩; have HA3 : Hid (Below W.heap.size W wc) := by (first | exact (HA2.out).trans (hic.mono HA2.out.size) | exact (HA1.out).trans (hic.mono HA1.out.size) | exact (HD0.out).trans (hic.mono HD0.out.size))))
    all_goals
      refine hK _ _ (Met.intro (hJ _ _ ?_))
      (repeat apply Exists.intro)
      refine ⟨?rel, rfl⟩
      case rel => exact ⟨congrArg Value.string HT2.out.symm, by (first | exact HA2.out | exact HA3.out)⟩
  case rest =>
    obtain ⟨rfl, hbc⟩ := hcut
    have HBC : Hid (Below W.heap.size W wc) := hbc
    clear c0 c1 c2 c3 c4 c5 c6 d0 d1 d2 d3 d4 d5 d6 E0 E1 E2 HD0 hbc q1 HT2
    go_wp2
    go_loopw [3, 4] (fun r i wr => ∃ j : Nat, j ≤ 6 ∧ i = .int .i64 j ∧ r = .string (putAllOn t2 (el.take j)) ∧ Below W.heap.size W wr) (fun _ i _ => 6 - (RowKit.intOf i).toNat)
    case atStart => exact ⟨0, Nat.zero_le _, rfl, congrArg Value.string HP0.out.symm, HBC.out⟩
    case round =>
      obtain ⟨j, hj, rfl, rfl, hb⟩ := hrel
      have HB : Hid (Below W.heap.size W wr) := hb
      obtain ⟨⟨c0, c1, c2, c3, c4, c5, c6⟩, d0, d1, d2, d3, d4, d5, d6⟩ := HC.out wr hb
      by_cases hj6 : j < 6
      · have hjl : j < el.length := by rw [HE6.out]; exact hj6
        have hcj := HEC.out wr hb j hjl
        have E : Hid (∀ w : World, Calls Try.prog 42 #[.string el[j]] w fun e w' => e = .returned (.string (putText el[j])) ∧ Below w.heap.size w w') := E3.out j hjl
        have hq := HQ.out j hjl
        have HR1 : Hid (putAllOn t2 (el.take (j + 1)) = putAllOn t2 (el.take j) ++ putText el[j]) := HSU.out j hjl
        have hjI : (j : Int) < 6 := by omega
        clear hb d0 d1 d2 d3 d4 d5 d6 E3 HQ HSU HEC
        generalize putText el[j] = u at *
        generalize el[j] = t at *
        obtain ⟨r1, hr1⟩ : ∃ r1, r1 = putAllOn t2 (el.take (j + 1)) := ⟨_, rfl⟩
        have HR2 : Hid (r1 = putAllOn t2 (el.take (j + 1))) := hr1
        clear hr1
        generalize putAllOn t2 (el.take j) = r0 at *
        go_wp2_with fail
        refine (E.out _).mono ?_
        rintro e w1 ⟨rfl, hb1⟩
        have HB1 : Hid (Below W.heap.size W w1) := HB.out.trans (hb1.mono HB.out.size)
        clear hb1 E
        go_wp2
        go_roundw
        case rel => exact ⟨j + 1, by omega, by go_num, congrArg Value.string HR1.out.symm, HB1.out⟩
        case measure => simp [RowKit.intOf]; omega
      · have e0 : j = el.length := by have := HE6.out; omega
        have HV2 : Hid (V = putAllOn t2 (el.take j) ++ putText p0 ++ putText p1) := by
          show _ = _
          rw [HV.out, e0, List.take_length]
        have hz : (putAllOn t2 (el.take j)).size ≤ 30000 := by
          rw [e0, List.take_length]
          exact HQ6.out.1
        obtain ⟨x0, x1⟩ := HPC.out wr hb
        obtain ⟨s1, s2⟩ := HQ6.out.2
        have HS2 : Hid (∀ X, Below W.heap.size W X → (X.cell? ⟨w.heap.size, 0, none⟩ = some (.string log) ∧ X.cell? ⟨w.heap.size, 1, none⟩ = some (.int .i64 size) ∧ X.cell? ⟨w.heap.size, 2, none⟩ = some (.string root) ∧ X.cell? ⟨w.heap.size, 3, none⟩ = some (.int .i64 time) ∧ X.cell? ⟨w.heap.size, 4, none⟩ = some (.int .i64 k) ∧ X.cell? ⟨w.heap.size, 5, none⟩ = some (.slice (some ⟨eb, eo, none⟩) el.length c) ∧ X.cell? ⟨w.heap.size, 6, none⟩ = some (.slice (some ⟨pb, po, none⟩) 2 d)) ∧ X.cell? ⟨pb, po, none⟩ = some (.string p0) ∧ X.cell? ⟨pb, po + 1, none⟩ = some (.string p1)) := fun X hb => ⟨HS.out X hb, HPC.out X hb⟩
        have HDR : Hid (Below W.heap.size W wr.drew) := below_drew' hb
        have hjI : ¬ (j : Int) < 6 := by omega
        have v1 : ¬ 9223372036854775807 < (putAllOn t2 (el.take j)).size + (putText p0).size := by omega
        have v2 : ¬ 9223372036854775807 < (putAllOn t2 (el.take j) ++ putText p0).size + (putText p1).size := by rw [ba_size]; omega
        have v3 : ¬ 9223372036854775807 < (putAllOn t2 (el.take j)).size + (putText p0).size + (putText p1).size := by omega
        clear hb HEC E3 HQ HSU HQ6 HP0 HV e0 HE6 hz s1 s2
        generalize putAllOn t2 (el.take j) = r0 at *
        generalize putText p0 = u0 at *
        generalize putText p1 = u1 at *
        go_wp2_with fail
        go_region_held3 (fun X => (X.cell? ⟨w.heap.size, 0, none⟩ = some (.string log) ∧ X.cell? ⟨w.heap.size, 1, none⟩ = some (.int .i64 size) ∧ X.cell? ⟨w.heap.size, 2, none⟩ = some (.string root) ∧ X.cell? ⟨w.heap.size, 3, none⟩ = some (.int .i64 time) ∧ X.cell? ⟨w.heap.size, 4, none⟩ = some (.int .i64 k) ∧ X.cell? ⟨w.heap.size, 5, none⟩ = some (.slice (some ⟨eb, eo, none⟩) el.length c) ∧ X.cell? ⟨w.heap.size, 6, none⟩ = some (.slice (some ⟨pb, po, none⟩) 2 d)) ∧ X.cell? ⟨pb, po, none⟩ = some (.string p0) ∧ X.cell? ⟨pb, po + 1, none⟩ = some (.string p1)) (((refine HS2.out _ ?_); (repeat (first | exact HA2.out | exact HA1.out | exact HB.out | refine below_drew' ?_))))
          (first
            | (go_at_call 42; (with_reducible refine (E4.out _).mono ?_); rintro e wa ⟨rfl, hia⟩; have HA1 : Hid (Below W.heap.size W wa) := by (first | exact (HA2.out).trans (hia.mono HA2.out.size) | exact (HDR.out).trans (hia.mono HDR.out.size)))
            | (go_at_call 42; (with_reducible refine (E5.out _).mono ?_); rintro e wb ⟨rfl, hib⟩; have HA2 : Hid (Below W.heap.size W wb) := by (first | exact (HA1.out).trans (hib.mono HA1.out.size) | exact (HDR.out).trans (hib.mono HDR.out.size))))
        all_goals
          go_wp2
          go_ret
          exact ⟨ret_str HV2.out.symm, H0.out.1.trans ((by first | exact HA2.out | exact HA1.out : Below W.heap.size W _).mono H0.out.1.size)⟩
end Go.Proofs.Ytpglcbidfghfkaa
