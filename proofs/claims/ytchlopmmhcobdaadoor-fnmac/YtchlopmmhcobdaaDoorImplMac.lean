/-
  The program's Mac. Condition: the program's variable holds the rounds' numbers.
-/
import Derived.Test.YtchlopmmhcobdaaDoorMacPure
import Derived.Test.YtchlopmmhcobdaaDoorMask
import Derived.Test.YtchlopmmhcobdaaDoorDigest
namespace Go.Proofs.YtchlopmmhcobdaaDoor
open Go.RowKit Go.Lib
set_option linter.unusedVariables false

set_option maxHeartbeats 1000000 in
set_option maxRecDepth 10000 in
theorem implMac_small (k t : ByteArray) (w : World) (hk : k.size ≤ 64) (ht : t.size ≤ 20000) (hK : Keys w) :
    Calls Tryd.prog 19 #[.string k, .string t] w fun e w' => e = .returned (.string (macK k t)) ∧ Below w.heap.size w w' := by
  unfold macK
  have E1 : Hid (∀ w, Calls Tryd.prog 70 #[.string k, .int .u8 54] w fun e w' => e = .returned (.string (maskB k 54)) ∧ Below w.heap.size w w') := fun w => maskedKey_any k 54 w hk (by omega) (by omega)
  have E3 : Hid (∀ w, Calls Tryd.prog 70 #[.string k, .int .u8 92] w fun e w' => e = .returned (.string (maskB k 92)) ∧ Below w.heap.size w w') := fun w => maskedKey_any k 92 w hk (by omega) (by omega)
  have s1 := maskB_size k 92
  have s2 := maskB_size k 54
  have E2 : Hid (∀ w, Keys w → Calls Tryd.prog 69 #[.string (maskB k 54), .string t] w fun e w' => e = .returned (.string (shaB (maskB k 54 ++ t))) ∧ Below w.heap.size w w') := fun w hK => digestOf_any _ t w (by omega) (by omega) hK
  have s3 := shaB_size (maskB k 54 ++ t)
  have E4 : Hid (∀ w, Keys w → Calls Tryd.prog 69 #[.string (maskB k 92), .string (shaB (maskB k 54 ++ t))] w fun e w' => e = .returned (.string (shaB (maskB k 92 ++ shaB (maskB k 54 ++ t)))) ∧ Below w.heap.size w w') := fun w hK => digestOf_any _ _ w (by omega) (by omega) hK
  generalize shaB (maskB k 92 ++ shaB (maskB k 54 ++ t)) = V at *
  generalize shaB (maskB k 54 ++ t) = I at *
  generalize maskB k 92 = A at *
  generalize maskB k 54 = B at *
  clear s1 s2 s3
  have HK : Hid (Keys w) := hK
  clear hK
  go_enter Tryd.func19, Tryd.ntmps19
  go_wp2_with fail
  refine (E1.out _).mono ?_
  rintro e w1 ⟨rfl, hb1⟩
  have H1 : Hid (Below w.heap.size w w1 ∧ Keys w1) := ⟨hb1, HK.out.below hb1 HK.out.lt⟩
  clear hb1
  go_wp2_with fail
  refine (E2.out _ H1.out.2).mono ?_
  rintro e w2 ⟨rfl, hb2⟩
  have H2 : Hid (Below w.heap.size w w2 ∧ Keys w2) := ⟨H1.out.1.trans (hb2.mono H1.out.1.size), H1.out.2.below hb2 H1.out.2.lt⟩
  clear hb2
  go_wp2_with fail
  refine (E3.out _).mono ?_
  rintro e w3 ⟨rfl, hb3⟩
  have H3 : Hid (Below w.heap.size w w3 ∧ Keys w3) := ⟨H2.out.1.trans (hb3.mono H2.out.1.size), H2.out.2.below hb3 H2.out.2.lt⟩
  clear hb3
  go_wp2_with fail
  refine (E4.out _ H3.out.2).mono ?_
  rintro e w4 ⟨rfl, hb4⟩
  have H4 : Hid (Below w.heap.size w w4) := H3.out.1.trans (hb4.mono H3.out.1.size)
  clear hb4
  go_wp2
  go_ret
  exact ⟨rfl, H4.out⟩

set_option maxHeartbeats 1000000 in
set_option maxRecDepth 10000 in
theorem implMac_great (K k t : ByteArray) (w : World) (hKs : 64 < (K.size : Int)) (hKb : K.size ≤ 20000) (hk : k.size ≤ 64) (ht : t.size ≤ 20000) (hK : Keys w)
    (E0 : Hid (∀ w, Keys w → Calls Tryd.prog 17 #[.string K] w fun e w' => e = .returned (.string k) ∧ Below w.heap.size w w')) :
    Calls Tryd.prog 19 #[.string K, .string t] w fun e w' => e = .returned (.string (macK k t)) ∧ Below w.heap.size w w' := by
  unfold macK
  have E1 : Hid (∀ w, Calls Tryd.prog 70 #[.string k, .int .u8 54] w fun e w' => e = .returned (.string (maskB k 54)) ∧ Below w.heap.size w w') := fun w => maskedKey_any k 54 w hk (by omega) (by omega)
  have E3 : Hid (∀ w, Calls Tryd.prog 70 #[.string k, .int .u8 92] w fun e w' => e = .returned (.string (maskB k 92)) ∧ Below w.heap.size w w') := fun w => maskedKey_any k 92 w hk (by omega) (by omega)
  have s1 := maskB_size k 92
  have s2 := maskB_size k 54
  have E2 : Hid (∀ w, Keys w → Calls Tryd.prog 69 #[.string (maskB k 54), .string t] w fun e w' => e = .returned (.string (shaB (maskB k 54 ++ t))) ∧ Below w.heap.size w w') := fun w hK => digestOf_any _ t w (by omega) (by omega) hK
  have s3 := shaB_size (maskB k 54 ++ t)
  have E4 : Hid (∀ w, Keys w → Calls Tryd.prog 69 #[.string (maskB k 92), .string (shaB (maskB k 54 ++ t))] w fun e w' => e = .returned (.string (shaB (maskB k 92 ++ shaB (maskB k 54 ++ t)))) ∧ Below w.heap.size w w') := fun w hK => digestOf_any _ _ w (by omega) (by omega) hK
  generalize shaB (maskB k 92 ++ shaB (maskB k 54 ++ t)) = V at *
  generalize shaB (maskB k 54 ++ t) = I at *
  generalize maskB k 92 = A at *
  generalize maskB k 54 = B at *
  clear s1 s2 s3
  have HK0 : Hid (Keys w) := hK
  clear hK
  go_enter Tryd.func19, Tryd.ntmps19
  go_wp2_with fail
  refine (E0.out _ HK0.out).mono ?_
  rintro e w0 ⟨rfl, hb0⟩
  have H0 : Hid (Below w.heap.size w w0) := hb0
  have HK : Hid (Keys w0) := HK0.out.below hb0 HK0.out.lt
  clear hb0 HK0
  go_wp2_with fail
  refine (E1.out _).mono ?_
  rintro e w1 ⟨rfl, hb1⟩
  have H1 : Hid (Below w.heap.size w w1 ∧ Keys w1) := ⟨H0.out.trans (hb1.mono H0.out.size), HK.out.below hb1 HK.out.lt⟩
  clear hb1
  go_wp2_with fail
  refine (E2.out _ H1.out.2).mono ?_
  rintro e w2 ⟨rfl, hb2⟩
  have H2 : Hid (Below w.heap.size w w2 ∧ Keys w2) := ⟨H1.out.1.trans (hb2.mono H1.out.1.size), H1.out.2.below hb2 H1.out.2.lt⟩
  clear hb2
  go_wp2_with fail
  refine (E3.out _).mono ?_
  rintro e w3 ⟨rfl, hb3⟩
  have H3 : Hid (Below w.heap.size w w3 ∧ Keys w3) := ⟨H2.out.1.trans (hb3.mono H2.out.1.size), H2.out.2.below hb3 H2.out.2.lt⟩
  clear hb3
  go_wp2_with fail
  refine (E4.out _ H3.out.2).mono ?_
  rintro e w4 ⟨rfl, hb4⟩
  have H4 : Hid (Below w.heap.size w w4) := H3.out.1.trans (hb4.mono H3.out.1.size)
  clear hb4
  go_wp2
  go_ret
  exact ⟨rfl, H4.out⟩

theorem implMacB (k t : ByteArray) (w : World) (hk : k.size ≤ 20000) (ht : t.size ≤ 20000) (hK : Keys w) :
    Calls Tryd.prog 19 #[.string k, .string t] w fun e w' => e = .returned (.string (macB k t)) ∧ Below w.heap.size w w' := by
  unfold macB keyB
  by_cases h : 64 < (k.size : Int)
  · rw [if_pos h]
    refine implMac_great k (shaB k) t w h hk (by rw [shaB_size]; omega) ht hK (fun w hK => ?_)
    have e := implDigest_any k w (by omega) hK
    unfold digV at e
    rw [if_neg (by omega)] at e
    exact e
  · rw [if_neg h]
    exact implMac_small k t w (by omega) ht hK

set_option maxHeartbeats 400000 in
set_option maxRecDepth 10000 in
theorem implMac_any (k t : ByteArray) (w : World) (hk : k.size ≤ 1048576) (ht : t.size ≤ 1048576) (hK : Keys w) :
    Calls Tryd.prog 19 #[.string k, .string t] w fun e w' => e = .returned (.string (macV k t)) ∧ Below w.heap.size w w' := by
  unfold macV
  by_cases h1 : 20000 < (k.size : Int)
  · rw [if_pos (.inl h1)]
    clear hK
    go_enter Tryd.func19, Tryd.ntmps19
    go_wp2
    go_ret
    exact ⟨rfl, Below.refl _ _⟩
  by_cases h2 : 20000 < (t.size : Int)
  · rw [if_pos (.inr h2)]
    clear hK
    go_enter Tryd.func19, Tryd.ntmps19
    go_wp2
    go_ret
    exact ⟨rfl, Below.refl _ _⟩
  rw [if_neg (by omega)]
  exact implMacB k t w (by omega) (by omega) hK
end Go.Proofs.YtchlopmmhcobdaaDoor
