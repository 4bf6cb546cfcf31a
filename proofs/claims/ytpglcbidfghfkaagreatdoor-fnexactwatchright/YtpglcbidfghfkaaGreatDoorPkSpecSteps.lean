/-
  The document's steps, the beginning of a chain, the public texts of a seed's keys.
-/
import Derived.Test.YtpglcbidfghfkaaGreatDoorPkSignV
import Derived.Test.YtpglcbidfghfkaaGreatDoorPkSpecMac
import Derived.Test.YtpglcbidfghfkaaGreatDoorPkTextRows
import Derived.Laws.Concat
namespace Go.Proofs.YtpglcbidfghfkaaGreatDoor
open Go.RowKit Go.Lib
set_option linter.unusedVariables false
set_option linter.unusedSimpArgs false

set_option maxHeartbeats 1000000 in
set_option maxRecDepth 10000 in
theorem specSteps_any (t : ByteArray) (n : Nat) (w : World) (ht : t.size = 32) (hn : n ≤ 15) :
    Calls Tryz.prog 159 #[.string t, .int .i64 n] w fun e w' => e = .returned (.string (stepsB n t)) ∧ Below w.heap.size w w' := by
  have EA : Hid (∀ s w, s.size = 32 → Calls Tryz.prog 153 #[.string s] w fun e w' => e = .returned (.string (shaB s)) ∧ Below w.heap.size w w') := fun s w hs => all_any s w (by omega)
  obtain ⟨V, hV⟩ : ∃ V, V = stepsB n t := ⟨_, rfl⟩
  rw [← hV]
  have HV : Hid (stepsB n t = V) := hV.symm
  clear hV
  go_enter Tryz.func159, Tryz.ntmps159
  go_wp2
  go_loopw [0, 1] (fun a x wr => ∃ (k : Nat) (s : ByteArray), x = .int .i64 k ∧ k ≤ 15 ∧ a = .string s ∧ s.size = 32 ∧ stepsB k s = V ∧ Below w.heap.size w wr) (fun _ x _ => (intOf x).toNat)
  case atStart => exact ⟨n, t, rfl, hn, rfl, ht, HV.out, Below.refl _ _⟩
  case round =>
    obtain ⟨k, s, rfl, hk, rfl, hs, hst, hb⟩ := hrel
    have HB : Hid (Below w.heap.size w wr) := hb
    by_cases h0 : 0 < k
    · have E := fun w => EA.out s w hs
      have HE : Hid (∀ w, Calls Tryz.prog 153 #[.string s] w fun e w' => e = .returned (.string (shaB s)) ∧ Below w.heap.size w w') := E
      have HS : Hid (stepsB (k - 1) (shaB s) = V) := by
        show _ = _
        rw [stepsB_sha, show k - 1 + 1 = k by omega]
        exact hst
      have hsz : Hid ((shaB s).size = 32) := shaB_size s
      generalize shaB s = s1 at *
      have hkI : (0 : Int) < (k : Int) := by omega
      have hc1 : Hid ((k : Int) - 1 = ((k - 1 : Nat) : Int)) := by show _ = _; omega
      clear hb hst E EA HV ht hn
      go_wp2_with fail
      refine (HE.out _).mono ?_
      rintro e w1 ⟨rfl, hb1⟩
      have HB1 : Hid (Below w.heap.size w w1) := HB.out.trans (hb1.mono HB.out.size)
      clear hb1 HE
      go_wp2
      go_roundw
      case rel => exact ⟨k - 1, s1, by rw [← hc1.out], by omega, rfl, hsz.out, HS.out, HB1.out⟩
      case measure => simp [intOf]; omega
    · have e0 : k = 0 := by omega
      have HS : Hid (s = V) := by
        rw [e0] at hst
        exact hst
      have hkI : ¬ (0 : Int) < (k : Int) := by omega
      clear hb hst EA HV ht hn e0
      go_wp2
      go_ret
      exact ⟨ret_str HS.out, HB.out⟩

set_option maxHeartbeats 1000000 in
set_option maxRecDepth 10000 in
theorem specBegin_any (s : ByteArray) (i j : Int) (w : World) (hs : s.size ≤ 64) (hi0 : 0 ≤ i) (hi1 : i ≤ 10) (hj0 : 0 ≤ j) (hj1 : j ≤ 10) :
    Calls Tryz.prog 160 #[.string s, .int .i64 i, .int .i64 j] w fun e w' => e = .returned (.string (beginB s i j)) ∧ Below w.heap.size w w' := by
  have E1 : Hid (∀ w, Calls Tryz.prog 94 #[.int .i64 i] w fun e w' => e = .returned (.string (numB i)) ∧ Below w.heap.size w w') := fun w => specPutNum_any i w (by omega) (by omega)
  have E2 : Hid (∀ w, Calls Tryz.prog 94 #[.int .i64 j] w fun e w' => e = .returned (.string (numB j)) ∧ Below w.heap.size w w') := fun w => specPutNum_any j w (by omega) (by omega)
  have z1 := numB_size i
  have z2 := numB_size j
  have E3 : Hid (∀ w, Calls Tryz.prog 207 #[.string s, .string (numB i ++ numB j)] w fun e w' => e = .returned (.string (beginB s i j)) ∧ Below w.heap.size w w') := fun w => specMacB s _ w (by omega) (by rw [ByteArray.size_append]; omega)
  generalize beginB s i j = V at *
  generalize numB i = A at *
  generalize numB j = B at *
  clear hi0 hi1 hj0 hj1 hs
  go_enter Tryz.func160, Tryz.ntmps160
  go_wp2_with fail
  refine (E1.out _).mono ?_
  rintro e w1 ⟨rfl, hb1⟩
  have H1 : Hid (Below w.heap.size w w1) := hb1
  clear hb1
  go_wp2_with fail
  refine (E2.out _).mono ?_
  rintro e w2 ⟨rfl, hb2⟩
  have H2 : Hid (Below w.heap.size w w2) := H1.out.trans (hb2.mono H1.out.size)
  clear hb2 H1
  go_wp2_with fail
  refine (E3.out _).mono ?_
  rintro e w3 ⟨rfl, hb3⟩
  have H3 : Hid (Below w.heap.size w w3) := H2.out.trans (hb3.mono H2.out.size)
  clear hb3 H2
  go_wp2
  go_ret
  exact ⟨rfl, H3.out⟩
end Go.Proofs.YtpglcbidfghfkaaGreatDoor
