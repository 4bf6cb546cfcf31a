/-
  The document's Stretch.
-/
import Derived.Test.YtchlopmmhcobdaaDoorSpecMac
namespace Go.Proofs.YtchlopmmhcobdaaDoor
open Go.RowKit Go.Lib
set_option linter.unusedVariables false

set_option maxHeartbeats 1000000 in
set_option maxRecDepth 10000 in
theorem specStretch_any (p : ByteArray) (n : Int) (w : World) (hp : p.size ≤ 1048576) (hn0 : -9223372036854775808 ≤ n) (hn1 : n ≤ 9223372036854775807) :
    Calls Tryd.prog 24 #[.string p, .int .i64 n] w fun e w' => e = .returned (.string (strV p n)) ∧ Below w.heap.size w w' := by
  unfold strV
  by_cases h1 : 20000 < (p.size : Int)
  · rw [if_pos (.inl h1)]
    go_enter Tryd.func24, Tryd.ntmps24
    go_wp2
    go_ret
    exact ⟨rfl, Below.refl _ _⟩
  by_cases h2 : n < 1
  · rw [if_pos (.inr (.inl h2))]
    go_enter Tryd.func24, Tryd.ntmps24
    go_wp2
    go_ret
    exact ⟨rfl, Below.refl _ _⟩
  by_cases h3 : 100 < n
  · rw [if_pos (.inr (.inr h3))]
    go_enter Tryd.func24, Tryd.ntmps24
    go_wp2
    go_ret
    exact ⟨rfl, Below.refl _ _⟩
  rw [if_neg (by omega)]
  have E : Hid (∀ k w, Calls Tryd.prog 73 #[.string p, .string (strB p k)] w fun e w' => e = .returned (.string (strB p (k + 1))) ∧ Below w.heap.size w w') := fun k w => specMacB p (strB p k) w (by omega) (by have := strB_size p k; omega)
  obtain ⟨V, hV⟩ : ∃ V, V = strB p n.toNat := ⟨_, rfl⟩
  rw [← hV]
  have HV : Hid (V = strB p n.toNat) := hV
  clear hV
  go_enter Tryd.func24, Tryd.ntmps24
  go_wp2
  go_loopw [5, 6] (fun v i wr => ∃ k : Nat, (k : Int) ≤ n ∧ i = .int .i64 k ∧ v = .string (strB p k) ∧ Below w.heap.size w wr) (fun _ i _ => n.toNat - (intOf i).toNat)
  case atStart => exact ⟨0, by omega, rfl, rfl, Below.refl _ _⟩
  case round =>
    obtain ⟨k, hk, rfl, rfl, hb⟩ := hrel
    have HB : Hid (Below w.heap.size w wr) := hb
    clear hb
    by_cases hlt : (k : Int) < n
    · have E1 := E.out k
      have HE : Hid (∀ w, Calls Tryd.prog 73 #[.string p, .string (strB p k)] w fun e w' => e = .returned (.string (strB p (k + 1))) ∧ Below w.heap.size w w') := E1
      clear E1
      go_wp2_with fail
      refine (HE.out _).mono ?_
      rintro e w1 ⟨rfl, hb1⟩
      have HB1 : Hid (Below w.heap.size w w1) := HB.out.trans (hb1.mono HB.out.size)
      clear hb1
      go_wp2
      go_roundw
      case rel => exact ⟨k + 1, by omega, by go_num, rfl, HB1.out⟩
      case measure => simp [intOf]; omega
    · have ek : k = n.toNat := by omega
      have HE : Hid (strB p k = V) := by show _ = _; rw [HV.out, ek]
      clear ek
      go_wp2
      go_ret
      exact ⟨ret_str HE.out, HB.out⟩
end Go.Proofs.YtchlopmmhcobdaaDoor
