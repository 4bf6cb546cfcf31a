/-
  The document's steps, the beginning of a chain, the public texts of a seed's keys.
-/
import Derived.Test.YtcenlgfopmahcaaGreatDoorPkAgrees
import Derived.Test.YtcenlgfopmahcaaGreatDoorPkSpecMac
import Derived.Test.YtcenlgfopmahcaaGreatDoorPkTextRows
import Derived.Laws.Concat
namespace Go.Proofs.YtcenlgfopmahcaaGreatDoor
open Go.RowKit Go.Lib
set_option linter.unusedVariables false
set_option linter.unusedSimpArgs false

set_option maxHeartbeats 1000000 in
set_option maxRecDepth 10000 in
theorem specSteps_any (t : ByteArray) (n : Nat) (w : World) (ht : t.size = 32) (hn : n ≤ 15) :
    Calls Tryz.prog 89 #[.string t, .int .i64 n] w fun e w' => e = .returned (.string (stepsB n t)) ∧ Below w.heap.size w w' := by
  have EA : Hid (∀ s w, s.size = 32 → Calls Tryz.prog 53 #[.string s] w fun e w' => e = .returned (.string (shaB s)) ∧ Below w.heap.size w w') := fun s w hs => all_any s w (by omega)
  obtain ⟨V, hV⟩ : ∃ V, V = stepsB n t := ⟨_, rfl⟩
  rw [← hV]
  have HV : Hid (stepsB n t = V) := hV.symm
  clear hV
  go_enter Tryz.func89, Tryz.ntmps89
  go_wp2
  go_loopw [0, 1] (fun a x wr => ∃ (k : Nat) (s : ByteArray), x = .int .i64 k ∧ k ≤ 15 ∧ a = .string s ∧ s.size = 32 ∧ stepsB k s = V ∧ Below w.heap.size w wr) (fun _ x _ => (RowKit.intOf x).toNat)
  case atStart => exact ⟨n, t, rfl, hn, rfl, ht, HV.out, Below.refl _ _⟩
  case round =>
    obtain ⟨k, s, rfl, hk, rfl, hs, hst, hb⟩ := hrel
    have HB : Hid (Below w.heap.size w wr) := hb
    by_cases h0 : 0 < k
    · have E := fun w => EA.out s w hs
      have HE : Hid (∀ w, Calls Tryz.prog 53 #[.string s] w fun e w' => e = .returned (.string (shaB s)) ∧ Below w.heap.size w w') := E
      have HS : Hid (stepsB (k - 1) (shaB s) = V) := by
        show _ = _
        rw [stepsB_sha, show k - 1 + 1 = k by omega]
        exact hst
      have hsz : Hid ((shaB s).size = 32) := shaB_size s
      generalize shaB s = s1 at *
      have hkI : (0 : Int) < (k : Int) := by omega
      have hc1 : Hid ((k : Int) - 1 = ((k - 1 : Nat) : Int)) := by show _ = _; omega
      clear hb hst E EA HV ht hn
      go_wp2_with fail
      refine (HE.out _).mono ?_
      rintro e w1 ⟨rfl, hb1⟩
      have HB1 : Hid (Below w.heap.size w w1) := HB.out.trans (hb1.mono HB.out.size)
      clear hb1 HE
      go_wp2
      go_roundw
      case rel => exact ⟨k - 1, s1, by rw [← hc1.out], by omega, rfl, hsz.out, HS.out, HB1.out⟩
      case measure => simp [RowKit.intOf]; omega
    · have e0 : k = 0 := by omega
      have HS : Hid (s = V) := by
        rw [e0] at hst
        exact hst
      have hkI : ¬ (0 : Int) < (k : Int) := by omega
      clear hb hst EA HV ht hn e0
      go_wp2
      go_ret
      exact ⟨ret_str HS.out, HB.out⟩

end Go.Proofs.YtcenlgfopmahcaaGreatDoor
