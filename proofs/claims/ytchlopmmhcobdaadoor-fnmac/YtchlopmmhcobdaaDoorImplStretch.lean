/-
  The program's Stretch. Condition: the program's variable holds the rounds' numbers.
-/
import Derived.Test.YtchlopmmhcobdaaDoorImplMac
namespace Go.Proofs.YtchlopmmhcobdaaDoor
open Go.RowKit Go.Lib
set_option linter.unusedVariables false

set_option maxHeartbeats 1000000 in
set_option maxRecDepth 10000 in
theorem implStretch_any (p : ByteArray) (n : Int) (w : World) (hp : p.size ≤ 1048576) (hn0 : -9223372036854775808 ≤ n) (hn1 : n ≤ 9223372036854775807) (hK : Keys w) :
    Calls Tryd.prog 23 #[.string p, .int .i64 n] w fun e w' => e = .returned (.string (strV p n)) ∧ Below w.heap.size w w' := by
  have HK : Hid (Keys w) := hK
  clear hK
  unfold strV
  by_cases h1 : 20000 < (p.size : Int)
  · rw [if_pos (.inl h1)]
    go_enter Tryd.func23, Tryd.ntmps23
    go_wp2
    go_ret
    exact ⟨rfl, Below.refl _ _⟩
  by_cases h2 : n < 1
  · rw [if_pos (.inr (.inl h2))]
    go_enter Tryd.func23, Tryd.ntmps23
    go_wp2
    go_ret
    exact ⟨rfl, Below.refl _ _⟩
  by_cases h3 : 100 < n
  · rw [if_pos (.inr (.inr h3))]
    go_enter Tryd.func23, Tryd.ntmps23
    go_wp2
    go_ret
    exact ⟨rfl, Below.refl _ _⟩
  rw [if_neg (by omega)]
  have E : Hid (∀ k w, Keys w → Calls Tryd.prog 19 #[.string p, .string (strB p k)] w fun e w' => e = .returned (.string (strB p (k + 1))) ∧ Below w.heap.size w w') := fun k w hK => implMacB p (strB p k) w (by omega) (by have := strB_size p k; omega) hK
  obtain ⟨V, hV⟩ : ∃ V, V = strB p n.toNat := ⟨_, rfl⟩
  rw [← hV]
  have HV : Hid (V = strB p n.toNat) := hV
  clear hV
  go_enter Tryd.func23, Tryd.ntmps23
  go_wp2
  go_loopw [5, 6] (fun v i wr => ∃ k : Nat, (k : Int) ≤ n ∧ i = .int .i64 k ∧ v = .string (strB p k) ∧ Below w.heap.size w wr) (fun _ i _ => n.toNat - (intOf i).toNat)
  case atStart => exact ⟨0, by omega, rfl, rfl, Below.refl _ _⟩
  case round =>
    obtain ⟨k, hk, rfl, rfl, hb⟩ := hrel
    have HB : Hid (Below w.heap.size w wr ∧ Keys wr) := ⟨hb, HK.out.below hb HK.out.lt⟩
    clear hb
    by_cases hlt : (k : Int) < n
    · have E1 := E.out k
      have HE : Hid (∀ w, Keys w → Calls Tryd.prog 19 #[.string p, .string (strB p k)] w fun e w' => e = .returned (.string (strB p (k + 1))) ∧ Below w.heap.size w w') := E1
      clear E1
      go_wp2_with fail
      refine (HE.out _ HB.out.2).mono ?_
      rintro e w1 ⟨rfl, hb1⟩
      have HB1 : Hid (Below w.heap.size w w1) := HB.out.1.trans (hb1.mono HB.out.1.size)
      clear hb1
      go_wp2
      go_roundw
      case rel => exact ⟨k + 1, by omega, by go_num, rfl, HB1.out⟩
      case measure => simp [intOf]; omega
    · have ek : k = n.toNat := by omega
      have HE : Hid (strB p k = V) := by show _ = _; rw [HV.out, ek]
      clear ek
      go_wp2
      go_ret
      exact ⟨ret_str HE.out, HB.out.1⟩
end Go.Proofs.YtchlopmmhcobdaaDoor
