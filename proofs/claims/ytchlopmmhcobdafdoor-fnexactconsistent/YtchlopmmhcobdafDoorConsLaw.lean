/-
  The walk of the exact law of Consistent. Condition: the program's variable holds the rounds' numbers.
-/
import Derived.Test.YtchlopmmhcobdafDoorSpecConsAll
import Derived.Test.YtchlopmmhcobdafDoorImplCons
import Derived.Test.YtchlopmmhcobdafDoorTextArg
namespace Go.Proofs.YtchlopmmhcobdafDoor
open Go.RowKit Go.Lib
set_option linter.unusedVariables false

set_option maxHeartbeats 1000000 in
set_option maxRecDepth 10000 in
theorem lawConsistent_any (was root : ByteArray) (i n : Int) (v : Value) (l : List ByteArray) (w : World) (hz1 : was.size ≤ maxLen) (hz2 : root.size ≤ maxLen) (hi : (Lit.int .i64 i).wf = true) (hn : (Lit.int .i64 n).wf = true) (h : TextsArg w v l) (hK : Keys w) :
    Calls Tryd.prog 5 #[.int .i64 i, .int .i64 n, v, .string was, .string root] w fun e w' => e = .returned (.bool true) ∧ Below w.heap.size w w' := by
  obtain ⟨ht, hl, hz⟩ := h
  obtain ⟨hi0, hi1⟩ := int_bd hi
  obtain ⟨hn0, hn1⟩ := int_bd hn
  unfold maxLen at hz1 hz2
  clear hi hn
  by_cases hg1 : (1048576 : Int) < was.size
  · clear ht hl hz hK
    go_enter Tryd.func5, Tryd.ntmps5
    go_wp2
    go_ret
    exact ⟨rfl, Below.refl _ _⟩
  by_cases hg2 : (1048576 : Int) < root.size
  · clear ht hl hz hK
    go_enter Tryd.func5, Tryd.ntmps5
    go_wp2
    go_ret
    exact ⟨rfl, Below.refl _ _⟩
  have E0 : Hid (Calls Tryd.prog 8 #[v, .int .i64 1048576] w fun e w' => SzAns l e ∧ w' = w) := sz_any v l 1048576 w _ ht hl hz (by omega) (by omega)
  have HT : Hid (Texts w w.heap.size v l) := ht
  have HK : Hid (Keys w) := hK
  clear ht hl hz hK
  go_enter Tryd.func5, Tryd.ntmps5
  go_wp2_with fail
  refine E0.out.mono ?_
  rintro e w1 ⟨⟨r, rfl, hr0, hr1, hr⟩, rfl⟩
  clear E0
  by_cases hneg : r < 0
  · clear hr
    go_wp2
    go_ret
    exact ⟨rfl, Below.refl _ _⟩
  have HL : Hid (l.length ≤ 1048576) := by
    rcases hr with h | h
    · omega
    · exact h.1
  clear hr
  have ET : Hid (∀ w', Below w1.heap.size w1 w' → Calls Tryd.prog 10 #[v] w' fun e w'' => ∃ v', e = .returned v' ∧ OwnS w'' w'.heap.size v' l ∧ Below w'.heap.size w' w'') := fun w' hb => toTexts_any v l w' ((HT.out.below hb).up hb.size) HL.out
  go_wp2_with fail
  refine (ET.out _ (Below.refl _ _)).mono ?_
  rintro e w2 ⟨x1, rfl, hx1, hb2⟩
  have H2 : Hid (Below w1.heap.size w1 w2) := hb2
  have E2 : Hid (Calls Tryd.prog 17 #[.int .i64 i, .int .i64 n, x1, .string was, .string root] w2 fun e w' => e = .returned (.bool (consB i n l was root)) ∧ Below w2.heap.size w2 w') := specCons_any was root i n x1 l w2 (hx1.texts hx1.lt) HL.out hi0 hi1 hn0 hn1 (by omega) (by omega)
  clear hx1 hb2
  go_wp2_with fail
  refine E2.out.mono ?_
  rintro e w3 ⟨rfl, hb3⟩
  have H3 : Hid (Below w1.heap.size w1 w3) := H2.out.trans (hb3.mono H2.out.size)
  clear hb3 E2 H2
  go_wp2_with fail
  refine (ET.out _ H3.out).mono ?_
  rintro e w4 ⟨x2, rfl, hx2, hb4⟩
  have H4 : Hid (Below w1.heap.size w1 w4 ∧ OwnS w4 w3.heap.size x2 l ∧ w3.heap.size < w4.heap.size) := ⟨H3.out.trans (hb4.mono H3.out.size), hx2, hx2.lt⟩
  have E4 : Hid (Calls Tryd.prog 18 #[.int .i64 i, .int .i64 n, x2, .string was, .string root] w4 fun e w' => e = .returned (.bool (consB i n l was root)) ∧ Below w4.heap.size w4 w') := implCons_any was root i n x2 l w4 (hx2.texts hx2.lt) HL.out hi0 hi1 hn0 hn1 (by omega) (by omega) (HK.out.below H4.out.1 HK.out.lt)
  clear hx2 hb4
  generalize consB i n l was root = T at *
  go_wp2_with fail
  refine E4.out.mono ?_
  rintro e w5 ⟨rfl, hb5⟩
  have H5 : Hid (Below w1.heap.size w1 w5 ∧ OwnS w5 w3.heap.size x2 l ∧ w3.heap.size < w5.heap.size) := ⟨H4.out.1.trans (hb5.mono H4.out.1.size), H4.out.2.1.below hb5 H4.out.2.2, Nat.lt_of_lt_of_le H4.out.2.2 hb5.size⟩
  clear hb5 E4 H4
  go_wp2_with fail
  refine (ET.out _ H5.out.1).mono ?_
  rintro e w6 ⟨x3, rfl, hx3, hb6⟩
  have H6 : Hid (Below w1.heap.size w1 w6) := H5.out.1.trans (hb6.mono H5.out.1.size)
  have E6 : Hid (Calls Tryd.prog 12 #[x2, x3] w6 fun e w' => e = .returned (.bool true) ∧ Below w6.heap.size w6 w') := eqTexts_any x2 x3 l w6 w6.heap.size ((H5.out.2.1.below hb6 H5.out.2.2).texts (Nat.lt_of_lt_of_le H5.out.2.2 hb6.size)) (hx3.texts hx3.lt) (Nat.le_succ_of_le HL.out)
  clear hx3 hb6
  go_wp2_with fail
  refine E6.out.mono ?_
  rintro e w7 ⟨rfl, hb7⟩
  have H7 : Hid (Below w1.heap.size w1 w7) := H6.out.trans (hb7.mono H6.out.size)
  clear hb7 E6
  go_wp2
  go_ret
  exact ⟨rfl, H7.out⟩
end Go.Proofs.YtchlopmmhcobdafDoor
