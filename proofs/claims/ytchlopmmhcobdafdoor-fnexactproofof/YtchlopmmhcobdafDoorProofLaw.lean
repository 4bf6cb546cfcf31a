/-
  The walk of the exact law of ProofOf. Condition: the program's variable holds the rounds' numbers.
-/
import Derived.Test.YtchlopmmhcobdafDoorSpecProofOf
import Derived.Test.YtchlopmmhcobdafDoorImplProofOf
import Derived.Test.YtchlopmmhcobdafDoorMid
namespace Go.Proofs.YtchlopmmhcobdafDoor
open Go.RowKit Go.Lib
set_option linter.unusedVariables false

theorem proofV_len (l : List ByteArray) (i : Int) : (proofV l i).length ≤ l.length + 1 := by
  unfold proofV
  split
  · have := proofB_len l.length l i.toNat true rfl
    omega
  · simp

set_option maxHeartbeats 4000000 in
set_option maxRecDepth 10000 in
theorem lawProofOf_any (v : Value) (l : List ByteArray) (i : Int) (w : World) (h : TextsArg w v l) (hi0 : -9223372036854775808 ≤ i) (hi1 : i ≤ 9223372036854775807) (hK : Keys w) :
    Calls Tryd.prog 4 #[v, .int .i64 i] w fun e w' => e = .returned (.bool true) ∧ Below w.heap.size w w' := by
  obtain ⟨ht, hl, hz⟩ := h
  have E0 : Hid (Calls Tryd.prog 8 #[v, .int .i64 1048576] w fun e w' => SzAns l e ∧ w' = w) := sz_any v l 1048576 w _ ht hl hz (by omega) (by omega)
  have HT : Hid (Texts w w.heap.size v l) := ht
  have HK : Hid (Keys w) := hK
  clear ht hl hz hK
  go_enter Tryd.func4, Tryd.ntmps4
  go_wp2_with fail
  refine E0.out.mono ?_
  rintro e w1 ⟨⟨r, rfl, hr0, hr1, hr⟩, rfl⟩
  clear E0
  by_cases hneg : r < 0
  · clear hr
    go_wp2
    go_ret
    exact ⟨rfl, Below.refl _ _⟩
  have HL : Hid (l.length ≤ 1048576) := by
    rcases hr with h | h
    · omega
    · exact h.1
  clear hr
  have ET : Hid (∀ w', Below w1.heap.size w1 w' → Calls Tryd.prog 10 #[v] w' fun e w'' => ∃ v', e = .returned v' ∧ OwnS w'' w'.heap.size v' l ∧ Below w'.heap.size w' w'') := fun w' hb => toTexts_any v l w' ((HT.out.below hb).up hb.size) HL.out
  have EI : Hid (∀ x w', Below w1.heap.size w1 w' → Texts w' w'.heap.size x l → Calls Tryd.prog 14 #[x, .int .i64 i] w' fun e w'' => ∃ v', e = .returned v' ∧ OwnT w'' w'.heap.size v' (proofV l i) ∧ Below w'.heap.size w' w'') := fun x w' hb hx => implProofOf_any x l i w' hx HL.out hi0 hi1 (HK.out.below hb HK.out.lt)
  have ES : Hid (∀ x w', Texts w' w'.heap.size x l → Calls Tryd.prog 13 #[x, .int .i64 i] w' fun e w'' => ∃ v', e = .returned v' ∧ OwnT w'' w'.heap.size v' (proofV l i) ∧ Below w'.heap.size w' w'') := fun x w' hx => specProofOf_any x l i w' hx HL.out hi0 hi1
  have HP : Hid ((proofV l i).length ≤ 1048577) := by
    have := proofV_len l i
    have := HL.out
    show _ ≤ _
    omega
  have EQ : Hid (∀ a b m w', Texts w' w'.heap.size a m → Texts w' w'.heap.size b m → m.length ≤ 1048577 → Calls Tryd.prog 12 #[a, b] w' fun e w'' => e = .returned (.bool true) ∧ Below w'.heap.size w' w'') := fun a b m w' h1 h2 h3 => eqTexts_any a b m w' w'.heap.size h1 h2 h3
  generalize proofV l i = L at *
  go_wp2_with fail
  refine (ET.out _ (Below.refl _ _)).mono ?_
  rintro e w2 ⟨x1, rfl, hx1, hb2⟩
  have H2 : Hid (Below w1.heap.size w1 w2 ∧ Texts w2 w2.heap.size x1 l) := ⟨hb2, hx1.texts hx1.lt⟩
  clear hx1 hb2
  go_wp2_with fail
  refine (ES.out _ _ H2.out.2).mono ?_
  rintro e w3 ⟨v2, rfl, ho3, hb3⟩
  have H3 : Hid (Below w1.heap.size w1 w3 ∧ Texts w3 w3.heap.size v2 L) := ⟨H2.out.1.trans (hb3.mono H2.out.1.size), ho3.texts⟩
  clear ho3 hb3 H2 ES
  go_wp2_with fail
  refine (ET.out _ H3.out.1).mono ?_
  rintro e w4 ⟨x0, rfl, hx0, hb4⟩
  have H4 : Hid (Below w1.heap.size w1 w4 ∧ OwnS w4 w3.heap.size x0 l ∧ w3.heap.size < w4.heap.size ∧ Texts w4 w3.heap.size v2 L) := ⟨H3.out.1.trans (hb4.mono H3.out.1.size), hx0, hx0.lt, H3.out.2.below hb4⟩
  clear hx0 hb4
  go_wp2_with fail
  refine (EI.out _ _ H4.out.1 (H4.out.2.1.texts H4.out.2.2.1)).mono ?_
  rintro e w5 ⟨g0, rfl, ho5, hb5⟩
  have M5 : Hid (Mid w1 w5 w3.heap.size w4.heap.size v2 g0 L L ∧ OwnS w5 w3.heap.size x0 l) := ⟨⟨H4.out.1.trans (hb5.mono H4.out.1.size), H3.out.1.size, H4.out.2.2.1, hb5.size, H4.out.2.2.2.below (hb5.mono (Nat.le_of_lt H4.out.2.2.1)), ho5⟩, H4.out.2.1.below hb5 H4.out.2.2.1⟩
  clear ho5 hb5 H4 H3
  go_wp2_with fail
  refine (EQ.out _ _ _ _ M5.out.1.answers.2 M5.out.1.answers.1 HP.out).mono ?_
  rintro e w6 ⟨rfl, hb6⟩
  have M6 : Hid (Mid w1 w6 w3.heap.size w4.heap.size v2 g0 L L ∧ OwnS w6 w3.heap.size x0 l) := ⟨M5.out.1.below hb6, M5.out.2.below hb6 M5.out.2.lt⟩
  clear hb6 M5
  go_wp2_with fail
  refine (ET.out _ M6.out.1.1).mono ?_
  rintro e w7 ⟨x3, rfl, hx3, hb7⟩
  have M7 : Hid (Mid w1 w7 w3.heap.size w4.heap.size v2 g0 L L ∧ OwnS w7 w3.heap.size x0 l ∧ Texts w7 w7.heap.size x3 l) := ⟨M6.out.1.below hb7, M6.out.2.below hb7 M6.out.2.lt, hx3.texts hx3.lt⟩
  clear hb7 hx3 M6
  go_wp2_with fail
  refine (EQ.out _ _ _ _ (M7.out.2.1.texts M7.out.2.1.lt) M7.out.2.2 (Nat.le_succ_of_le HL.out)).mono ?_
  rintro e w8 ⟨rfl, hb8⟩
  have M8 : Hid (Mid w1 w8 w3.heap.size w4.heap.size v2 g0 L L ∧ OwnT w8 w3.heap.size x0 l ∧ x0.ownBlock = some w3.heap.size) := ⟨M7.out.1.below hb8, (M7.out.2.1.below hb8 M7.out.2.1.lt).own HL.out⟩
  have E8 : Hid (Calls Tryd.prog 15 #[x0, .int .i64 1] w8 fun e w' => e = .returned (.int .i64 ((1 + l.length : Nat) : Int)) ∧ OwnT w' w3.heap.size x0 (marks 1 l.length) ∧ w8.grownBy w' x0.ownBlock) := mark_any x0 l 1 w8 w3.heap.size M8.out.2.1 (by omega) (by omega) (by have := HL.out; omega)
  clear hb8 M7
  go_wp2_with fail
  refine E8.out.mono ?_
  rintro e w9 ⟨rfl, ho9, hg9⟩
  have M9 : Hid (Mid w1 w9 w3.heap.size w4.heap.size v2 g0 L L) := M8.out.1.markX M8.out.2.1 M8.out.2.2 hg9
  have hk9 : ¬ ((1 + l.length : Nat) : Int) < 0 := by omega
  clear ho9 hg9 M8 E8
  generalize ((1 + l.length : Nat) : Int) = kk at *
  go_wp2_with fail
  refine (EQ.out _ _ _ _ M9.out.answers.2 M9.out.answers.1 HP.out).mono ?_
  rintro e w10 ⟨rfl, hb10⟩
  have M10 : Hid (Mid w1 w10 w3.heap.size w4.heap.size v2 g0 L L) := M9.out.below hb10
  have E10 : Hid (Calls Tryd.prog 15 #[g0, .int .i64 1] w10 fun e w' => e = .returned (.int .i64 ((1 + L.length : Nat) : Int)) ∧ OwnT w' w4.heap.size g0 (marks 1 L.length) ∧ w10.grownBy w' g0.ownBlock) := mark_any g0 L 1 w10 w4.heap.size M10.out.2.2.2.2.2 (by omega) (by omega) (by have := HP.out; omega)
  clear hb10 M9
  go_wp2_with fail
  refine E10.out.mono ?_
  rintro e w11 ⟨rfl, ho11, hg11⟩
  have M11 : Hid (Mid w1 w11 w3.heap.size w4.heap.size v2 g0 L (marks 1 L.length)) := M10.out.markG hg11 ho11
  have EH : Hid (∀ w', OwnT w' w4.heap.size g0 (marks 1 L.length) → Calls Tryd.prog 16 #[g0, .int .i64 1] w' fun e w'' => e = .returned (.int .i64 ((1 + L.length : Nat) : Int)) ∧ Below w'.heap.size w' w'') := fun w' ho => held_any g0 1 L.length w' w4.heap.size ho (by omega) (by omega) (by have := HP.out; omega)
  have hm11 : ¬ ((1 + L.length : Nat) : Int) < 0 := by omega
  clear ho11 hg11 M10 E10
  generalize hmm : ((1 + L.length : Nat) : Int) = mm at *
  clear hmm
  go_wp2_with fail
  refine (EH.out _ M11.out.2.2.2.2.2).mono ?_
  rintro e w12 ⟨rfl, hb12⟩
  have M12 : Hid (Mid w1 w12 w3.heap.size w4.heap.size v2 g0 L (marks 1 L.length)) := M11.out.below hb12
  clear hb12 M11
  go_wp2_with fail
  refine (ET.out _ M12.out.1).mono ?_
  rintro e w13 ⟨x4, rfl, hx4, hb13⟩
  have M13 : Hid (Mid w1 w13 w3.heap.size w4.heap.size v2 g0 L (marks 1 L.length) ∧ Texts w13 w13.heap.size x4 l) := ⟨M12.out.below hb13, hx4.texts hx4.lt⟩
  clear hb13 hx4 M12
  go_wp2_with fail
  refine (EI.out _ _ M13.out.1.1 M13.out.2).mono ?_
  rintro e w14 ⟨h0, rfl, ho14, hb14⟩
  have M14 : Hid (Mid w1 w14 w3.heap.size w4.heap.size v2 g0 L (marks 1 L.length) ∧ Texts w14 w14.heap.size h0 L) := ⟨M13.out.1.below hb14, ho14.texts⟩
  clear hb14 ho14 M13
  go_wp2_with fail
  refine (EQ.out _ _ _ _ M14.out.2 M14.out.1.answers.1 HP.out).mono ?_
  rintro e w15 ⟨rfl, hb15⟩
  have M15 : Hid (Mid w1 w15 w3.heap.size w4.heap.size v2 g0 L (marks 1 L.length)) := M14.out.1.below hb15
  clear hb15 M14
  go_wp2_with fail
  refine (EH.out _ M15.out.2.2.2.2.2).mono ?_
  rintro e w16 ⟨rfl, hb16⟩
  have M16 : Hid (Below w1.heap.size w1 w16) := (M15.out.below hb16).1
  clear hb16 M15
  go_wp2
  go_ret
  exact ⟨rfl, M16.out⟩
end Go.Proofs.YtchlopmmhcobdafDoor
