/-
  The walks of the exact laws of Mac and Stretch: both answer alike. Condition: the program's variable holds the rounds' numbers.
-/
import Derived.Test.YtchlopmmhcobdaeDoorSpecMacTop
import Derived.Test.YtchlopmmhcobdaeDoorSpecStretch
import Derived.Test.YtchlopmmhcobdaeDoorImplStretch
namespace Go.Proofs.YtchlopmmhcobdaeDoor
open Go.RowKit Go.Lib
set_option linter.unusedVariables false

set_option maxHeartbeats 400000 in
theorem lawMac_any (s t : ByteArray) (w : World) (hs : s.size ≤ maxLen) (ht : t.size ≤ maxLen) (hK : Keys w) :
    Calls Tryd.prog 3 #[.string s, .string t] w fun e w' => e = .returned (.bool true) ∧ Below w.heap.size w w' := by
  unfold maxLen at hs ht
  by_cases h1 : (1048576 : Int) < s.size
  · clear hK
    go_enter Tryd.func3, Tryd.ntmps3
    go_wp2
    go_ret
    exact ⟨rfl, Below.refl _ _⟩
  by_cases h2 : (1048576 : Int) < t.size
  · clear hK
    go_enter Tryd.func3, Tryd.ntmps3
    go_wp2
    go_ret
    exact ⟨rfl, Below.refl _ _⟩
  have E1 := fun w => specMac_any s t w (by omega) (by omega)
  have E2 := fun w hK => implMac_any s t w (by omega) (by omega) hK
  generalize macV s t = v at *
  have HE1 : Hid (∀ w, Calls Tryd.prog 9 #[.string s, .string t] w fun e w' => e = .returned (.string v) ∧ Below w.heap.size w w') := E1
  have HE2 : Hid (∀ w, Keys w → Calls Tryd.prog 10 #[.string s, .string t] w fun e w' => e = .returned (.string v) ∧ Below w.heap.size w w') := E2
  have HK : Hid (Keys w) := hK
  clear E1 E2 hK
  go_enter Tryd.func3, Tryd.ntmps3
  go_wp2_with fail
  refine (HE1.out _).mono ?_
  rintro e w1 ⟨rfl, hb⟩
  have H1 : Hid (Keys w1 ∧ Below w.heap.size w w1) := ⟨HK.out.below hb HK.out.lt, hb⟩
  clear hb
  go_wp2_with fail
  refine (HE2.out _ H1.out.1).mono ?_
  rintro e w2 ⟨rfl, hb2⟩
  have H2 : Hid (Below w.heap.size w w2) := H1.out.2.trans (hb2.mono H1.out.2.size)
  clear hb2
  go_wp2
  go_ret
  exact ⟨rfl, H2.out⟩

set_option maxHeartbeats 400000 in
theorem lawStretch_any (s : ByteArray) (n : Int) (w : World) (hs : s.size ≤ maxLen) (hn : (Lit.int .i64 n).wf = true) (hK : Keys w) :
    Calls Tryd.prog 4 #[.string s, .int .i64 n] w fun e w' => e = .returned (.bool true) ∧ Below w.heap.size w w' := by
  unfold maxLen at hs
  have hbd : -9223372036854775808 ≤ n ∧ n ≤ 9223372036854775807 := by simpa [Lit.wf, IntKind.min, IntKind.max, IntKind.bits, IntKind.signed] using hn
  by_cases h1 : (1048576 : Int) < s.size
  · clear hK hn hbd
    go_enter Tryd.func4, Tryd.ntmps4
    go_wp2
    go_ret
    exact ⟨rfl, Below.refl _ _⟩
  have E1 := fun w => specStretch_any s n w (by omega) hbd.1 hbd.2
  have E2 := fun w hK => implStretch_any s n w (by omega) hbd.1 hbd.2 hK
  generalize strV s n = v at *
  have HE1 : Hid (∀ w, Calls Tryd.prog 11 #[.string s, .int .i64 n] w fun e w' => e = .returned (.string v) ∧ Below w.heap.size w w') := E1
  have HE2 : Hid (∀ w, Keys w → Calls Tryd.prog 12 #[.string s, .int .i64 n] w fun e w' => e = .returned (.string v) ∧ Below w.heap.size w w') := E2
  have HK : Hid (Keys w) := hK
  clear E1 E2 hK hn hbd
  go_enter Tryd.func4, Tryd.ntmps4
  go_wp2_with fail
  refine (HE1.out _).mono ?_
  rintro e w1 ⟨rfl, hb⟩
  have H1 : Hid (Keys w1 ∧ Below w.heap.size w w1) := ⟨HK.out.below hb HK.out.lt, hb⟩
  clear hb
  go_wp2_with fail
  refine (HE2.out _ H1.out.1).mono ?_
  rintro e w2 ⟨rfl, hb2⟩
  have H2 : Hid (Below w.heap.size w w2) := H1.out.2.trans (hb2.mono H1.out.2.size)
  clear hb2
  go_wp2
  go_ret
  exact ⟨rfl, H2.out⟩
end Go.Proofs.YtchlopmmhcobdaeDoor
