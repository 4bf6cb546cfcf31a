/-
  The walk of the exact law of RangeRoot. Condition: the program's variable holds the rounds' numbers.
-/
import Derived.Test.YtchlopmmhcobdafDoorSpecRoot
import Derived.Test.YtchlopmmhcobdafDoorImplRoot
import Derived.Test.YtchlopmmhcobdafDoorRangeArg
import Derived.Deep.RegionWith
namespace Go.Proofs.YtchlopmmhcobdafDoor
open Go.RowKit Go.Lib
set_option linter.unusedVariables false

/-- The law's own argument, laid, lies there. -/
def RBox (w cur : World) (size : Int) (v : Value) : Prop := cur.heap[w.heap.size]? = some (.cells #[.int .i64 size, v] 31 (0, 0)) ∧ Below w.heap.size w cur ∧ w.heap.size < cur.heap.size
theorem RBox.step {w cur nxt : World} {size : Int} {v : Value} (h : RBox w cur size v) (hb : Below cur.heap.size cur nxt) : RBox w nxt size v :=
  ⟨(hb.block _ h.2.2).trans h.1, h.2.1.trans (hb.mono h.2.1.size), Nat.lt_of_lt_of_le h.2.2 hb.size⟩
theorem RBox.cells {w cur : World} {size : Int} {v : Value} (h : RBox w cur size v) : cur.cell? ⟨w.heap.size, 0, none⟩ = some (.int .i64 size) ∧ cur.cell? ⟨w.heap.size, 1, none⟩ = some v :=
  (two_cells' (Below.refl cur.heap.size cur) h.2.2 h.1).1
theorem RBox.made (w : World) (size : Int) (v : Value) : RBox w (w.alloc (.cells #[.int .i64 size, v] 31)) size v := ⟨heap_alloc_new w _, (Below.refl _ _).alloc (Nat.le_refl _) _, by simp⟩

set_option maxHeartbeats 4000000 in
set_option maxRecDepth 10000 in
theorem lawRangeRoot_any (size : Int) (v : Value) (l : List ByteArray) (w : World) (h : TextsArg w v l) (hK : Keys w) :
    Calls Tryd.prog 7 #[.agg #[.int .i64 size, v]] w fun e w' => e = .returned (.bool true) ∧ Below w.heap.size w w' := by
  obtain ⟨ht, hl, hz⟩ := h
  have HT : Hid (Texts w w.heap.size v l) := ht
  have HK : Hid (Keys w) := hK
  obtain ⟨W, hW⟩ : ∃ W, W = w.alloc (.cells #[.int .i64 size, v] 31) := ⟨_, rfl⟩
  have HX : Hid (RBox w W size v) := by
    subst hW
    exact RBox.made w size v
  have E0 : Hid (Calls Tryd.prog 19 #[.agg #[.int .i64 size, v], .int .i64 1048576] W fun e w' => SzAns l e ∧ Below W.heap.size W w') := szRange_any size v l W ((ht.below HX.out.2.1).up HX.out.2.1.size) hl hz
  have HWE : Hid (W = w.alloc (.cells #[.int .i64 size, v] 31)) := hW
  obtain ⟨a, cap, rfl, hx, hy⟩ := id ht
  clear hx hy hW ht hl hz hK
  obtain ⟨c0, c1⟩ := HX.out.cells
  obtain ⟨L, hL⟩ : ∃ L, L = l.length := ⟨_, rfl⟩
  have HLL : Hid (L = l.length) := hL
  rw [← hL] at HX HT E0 HWE c1 ⊢
  clear hL
  go_enter Tryd.func7, Tryd.ntmps7
  go_wp2_with fail
  rw [← HWE.out]
  clear HWE
  refine E0.out.mono ?_
  rintro e w1 ⟨⟨r, rfl, hr0, hr1, hr⟩, hb1⟩
  have HX : Hid (RBox w w1 size (.slice a L cap)) := HX.out.step hb1
  clear E0 hb1 c0 c1
  obtain ⟨c0, c1⟩ := HX.out.cells
  by_cases hneg : r < 0
  · clear hr
    go_wp2
    go_ret
    exact ⟨rfl, HX.out.2.1⟩
  have HL : Hid (l.length ≤ 1048576) := by
    rcases hr with h | h
    · omega
    · exact h.1
  clear hr
  have ET : Hid (∀ w', Below w.heap.size w w' → Calls Tryd.prog 21 #[.agg #[.int .i64 size, .slice a L cap]] w' fun e w'' => ∃ v' g, e = .returned (.agg #[.int .i64 size, v']) ∧ OwnS w'' g v' l ∧ w'.heap.size ≤ g ∧ Below w'.heap.size w' w'') := fun w' hb => toRange_any size _ l w' ((HT.out.below hb).up hb.size) HL.out
  go_wp2_with fail
  refine (ET.out _ HX.out.2.1).mono ?_
  rintro e w2 ⟨v1, g1, rfl, ho1, _, hb2⟩
  have HX : Hid (RBox w w2 size (.slice a L cap)) := HX.out.step hb2
  have ES : Hid (Calls Tryd.prog 26 #[.agg #[.int .i64 size, v1]] w2 fun e w' => e = .returned (.string (rootV size l)) ∧ Below w2.heap.size w2 w') := specRoot_any size v1 l w2 (ho1.texts ho1.lt) HL.out
  clear hb2 ho1 c0 c1
  go_wp2_with fail
  refine ES.out.mono ?_
  rintro e w3 ⟨rfl, hb3⟩
  have HX : Hid (RBox w w3 size (.slice a L cap)) := HX.out.step hb3
  clear hb3 ES
  obtain ⟨c0, c1⟩ := HX.out.cells
  go_wp2_with fail
  refine (ET.out _ HX.out.2.1).mono ?_
  rintro e w4 ⟨v2, g2, rfl, ho2, _, hb4⟩
  have HX4 : Hid (RBox w w4 size (.slice a L cap)) := HX.out.step hb4
  obtain ⟨hv2, hg2⟩ := id ho2
  subst hv2
  obtain ⟨W5, hW5⟩ : ∃ W5, W5 = w4.alloc (.cells #[.int .i64 size, .slice (some ⟨g2, 0, none⟩) l.length l.length] 33) := ⟨_, rfl⟩
  have b5 : Below w4.heap.size w4 W5 := by
    subst hW5
    exact (Below.refl _ _).alloc (Nat.le_refl _) _
  have HY : Hid (W5.heap[w4.heap.size]? = some (.cells #[.int .i64 size, .slice (some ⟨g2, 0, none⟩) l.length l.length] 33 (0, 0)) ∧ w4.heap.size < W5.heap.size ∧ OwnS W5 g2 (.slice (some ⟨g2, 0, none⟩) l.length l.length) l) := by
    refine ⟨?_, ?_, ho2.below b5 ho2.lt⟩
    · subst hW5
      exact heap_alloc_new w4 _
    · subst hW5
      simp
  have HX : Hid (RBox w W5 size (.slice a L cap)) := HX4.out.step b5
  have EI : Hid (Calls Tryd.prog 27 #[.agg #[.int .i64 size, .slice (some ⟨g2, 0, none⟩) l.length l.length]] W5 fun e w' => e = .returned (.string (rootV size l)) ∧ Below W5.heap.size W5 w') := implRoot_any size _ l W5 (HY.out.2.2.texts HY.out.2.2.lt) HL.out (HK.out.below HX.out.2.1 HK.out.lt)
  have HWE : Hid (W5 = w4.alloc (.cells #[.int .i64 size, .slice (some ⟨g2, 0, none⟩) l.length l.length] 33)) := hW5
  clear hW5 hb4 ho2 hg2 b5 c0 c1 HX4
  generalize rootV size l = T at *
  go_wp2_with fail
  rw [← HWE.out]
  clear HWE
  refine EI.out.mono ?_
  rintro e w6 ⟨rfl, hb6⟩
  have HX : Hid (RBox w w6 size (.slice a L cap)) := HX.out.step hb6
  obtain ⟨⟨d0, d1⟩, _, _⟩ := two_cells' hb6 HY.out.2.1 HY.out.1
  have HO : Hid (OwnS w6 g2 (.slice (some ⟨g2, 0, none⟩) l.length l.length) l) := HY.out.2.2.below hb6 HY.out.2.2.lt
  have HS : Hid (w4.heap.size < w6.heap.size) := Nat.lt_of_lt_of_le HY.out.2.1 hb6.size
  have hs6 : w6.heap[w4.heap.size]? = some (.cells #[.int .i64 size, .slice (some ⟨g2, 0, none⟩) l.length l.length] 33 (0, 0)) := (hb6.block _ HY.out.2.1).trans HY.out.1
  have HS6 : Hid (w6.heap[w4.heap.size]? = some (.cells #[.int .i64 size, .slice (some ⟨g2, 0, none⟩) l.length l.length] 33 (0, 0))) := hs6
  clear hb6 EI HY hs6
  obtain ⟨c0, c1⟩ := HX.out.cells
  have c0' : w6.drew.cell? ⟨w.heap.size, 0, none⟩ = some (.int .i64 size) := c0
  have c1' : w6.drew.cell? ⟨w.heap.size, 1, none⟩ = some (.slice a L cap) := c1
  have d0' : w6.drew.cell? ⟨w4.heap.size, 0, none⟩ = some (.int .i64 size) := d0
  have d1' : w6.drew.cell? ⟨w4.heap.size, 1, none⟩ = some (.slice (some ⟨g2, 0, none⟩) l.length l.length) := d1
  have bd : Below w6.heap.size w6 w6.drew := below_drew' (Below.refl _ _)
  have HBD : Hid (Below w6.heap.size w6 w6.drew) := bd
  clear bd
  have EE : Hid (∀ v3 w', Texts w' w'.heap.size (.slice (some ⟨g2, 0, none⟩) l.length l.length) l → Texts w' w'.heap.size v3 l → Calls Tryd.prog 23 #[.agg #[.int .i64 size, .slice (some ⟨g2, 0, none⟩) l.length l.length], .agg #[.int .i64 size, v3]] w' fun e w'' => e = .returned (.bool true) ∧ Below w'.heap.size w' w'') := fun v3 w' h1 h2 => eqRange_any size _ v3 l w' h1 h2 (Nat.le_succ_of_le HL.out)
  go_wp2_with fail
  go_region_with (first
    | (go_at_call 21; refine (ET.out _ ?_).mono ?_; exact (HX.out.step HBD.out).2.1; rintro e w7 ⟨v3, g3, rfl, ho3, hg3, hb7⟩; obtain ⟨⟨d2, d3⟩, f2, f3⟩ := two_cells' (below_drew hb7) HS.out HS6.out; have H7 : Hid (Below w.heap.size w w7 ∧ Texts w7 w7.heap.size (.slice (some ⟨g2, 0, none⟩) l.length l.length) l ∧ Texts w7 w7.heap.size v3 l) := ⟨HX.out.2.1.trans ((below_drew hb7).mono HX.out.2.1.size), (HO.out.below (below_drew hb7) HO.out.lt).texts (Nat.lt_of_lt_of_le HO.out.lt hb7.size), ho3.texts ho3.lt⟩; clear hb7 ho3 hg3)
    | (go_at_call 23; refine (EE.out _ _ ?_ ?_).mono ?_; exact H7.out.2.1; exact H7.out.2.2; rintro e w8 ⟨rfl, hb8⟩; have H8 : Hid (Below w.heap.size w w8) := H7.out.1.trans (hb8.mono H7.out.1.size); clear hb8))
  all_goals
    go_wp2
    go_ret
    exact ⟨rfl, H8.out⟩
end Go.Proofs.YtchlopmmhcobdafDoor
