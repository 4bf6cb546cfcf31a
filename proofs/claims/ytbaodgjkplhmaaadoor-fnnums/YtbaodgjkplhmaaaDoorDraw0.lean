/-
  Contracts of the draws of numbers and texts to be put into bytes.
-/
import Derived.Test.YtbaodgjkplhmaaaDoorDrawMore
namespace Go.Proofs.YtbaodgjkplhmaaaDoor
open Go.RowKit Go.Lib
set_option linter.unusedVariables false

set_option maxHeartbeats 1000000 in
theorem any_any (q : Nat) (w : World) (h : Src w q) :
    Calls Tryd.prog 13 #[.pointer (some ⟨q, 0, none⟩)] w fun e w' => AnyAns q w e w' := by
  have H1 : Hid (∀ w, Src w q → Calls Tryd.prog 17 #[.pointer (some ⟨q, 0, none⟩), .int .i64 4] w fun e w' => BoolAns q w e w') := fun w h => one_any q 4 w h (by omega)
  have H2 : Hid (∀ w, Src w q → Calls Tryd.prog 18 #[.pointer (some ⟨q, 0, none⟩), .int .i64 1099511627776] w fun e w' => NumAns 1099511627776 q w e w') := fun w h => n_any q 1099511627776 w h (by omega)
  have H3 : Hid (∀ w, Src w q → Calls Tryd.prog 22 #[.pointer (some ⟨q, 0, none⟩)] w fun e w' => AnyAns q w e w') := fun w h => edge_any q w h
  have HS : Hid (Src w q) := h
  clear h
  go_enter Tryd.func13, Tryd.ntmps13
  go_wp2_with fail
  refine (H1.out _ HS.out).mono ?_
  rintro e w1 ⟨b, rfl, hs1, hg1⟩
  have HS1 : Hid (Src w1 q ∧ w.grownBy w1 (some q)) := ⟨hs1, hg1⟩
  clear hs1 hg1
  cases b
  · go_wp2_with fail
    refine (H2.out _ HS1.out.1).mono ?_
    rintro e w2 ⟨v, rfl, hv0, hv1, hs2, hg2⟩
    have HS2 : Hid (Src w2 q ∧ w.grownBy w2 (some q)) := ⟨hs2, grown_trans HS1.out.2 hg2⟩
    have hv2 : v < 1099511627776 := by omega
    clear hs2 hg2 hv1
    go_wp2
    go_ret
    exact ⟨_, rfl, by omega, by omega, HS2.out.1, HS2.out.2⟩
  · go_wp2_with fail
    refine (H3.out _ HS1.out.1).mono ?_
    rintro e w2 ⟨v, rfl, hv0, hv1, hs2, hg2⟩
    have HS2 : Hid (Src w2 q ∧ w.grownBy w2 (some q)) := ⟨hs2, grown_trans HS1.out.2 hg2⟩
    clear hs2 hg2
    go_wp2
    go_ret
    exact ⟨_, rfl, hv0, hv1, HS2.out.1, HS2.out.2⟩

/-- A number of int64; of what was there nothing has turned. -/
def IntAns (w : World) (e : Ending) (w' : World) : Prop := ∃ v : Int, e = .returned (.int .i64 v) ∧ -9223372036854775808 ≤ v ∧ v ≤ 9223372036854775807 ∧ Below w.heap.size w w'

set_option maxHeartbeats 1000000 in
theorem drawPutNum_any (a : Option Addr) (len cap : Nat) (w : World) (hc : Code w w.heap.size a len) (hl : len ≤ 1048576) :
    Calls Tryd.prog 4 #[.slice a len cap] w fun e w' => IntAns w e w' := by
  have H0 : Hid (Calls Tryd.prog 12 #[.slice a len cap] w fun e w' => PtrAns w e w') := source_any a len cap w hc hl
  have H1 : Hid (∀ q w, Src w q → Calls Tryd.prog 13 #[.pointer (some ⟨q, 0, none⟩)] w fun e w' => AnyAns q w e w') := fun q w h => any_any q w h
  clear hc
  go_enter Tryd.func4, Tryd.ntmps4
  go_wp2_with fail
  refine H0.out.mono ?_
  rintro e w1 ⟨rfl, hs1, hb1⟩
  have HB1 : Hid (Src w1 w.heap.size ∧ Below w.heap.size w w1) := ⟨hs1, hb1⟩
  clear hs1 hb1
  go_wp2_with fail
  refine (H1.out _ _ HB1.out.1).mono ?_
  rintro e w2 ⟨v, rfl, hv0, hv1, hs2, hg2⟩
  have HB2 : Hid (Below w.heap.size w w2) := below_of_grown HB1.out.2 hg2
  clear hs2 hg2
  go_wp2
  go_ret
  exact ⟨v, rfl, hv0, hv1, HB2.out⟩

set_option maxHeartbeats 1000000 in
theorem drawPutText_any (a : Option Addr) (len cap : Nat) (w : World) (hc : Code w w.heap.size a len) (hl : len ≤ 1048576) :
    Calls Tryd.prog 8 #[.slice a len cap] w fun e w' => TextAns 20001 w e w' := by
  have H0 : Hid (Calls Tryd.prog 12 #[.slice a len cap] w fun e w' => PtrAns w e w') := source_any a len cap w hc hl
  have H1 : Hid (∀ q w, Src w q → Calls Tryd.prog 17 #[.pointer (some ⟨q, 0, none⟩), .int .i64 8] w fun e w' => BoolAns q w e w') := fun q w h => one_any q 8 w h (by omega)
  have H2 : Hid (∀ q w, Src w q → Calls Tryd.prog 18 #[.pointer (some ⟨q, 0, none⟩), .int .i64 3] w fun e w' => NumAns 3 q w e w') := fun q w h => n_any q 3 w h (by omega)
  have H3 : Hid (∀ q w, Src w q → Calls Tryd.prog 18 #[.pointer (some ⟨q, 0, none⟩), .int .i64 20] w fun e w' => NumAns 20 q w e w') := fun q w h => n_any q 20 w h (by omega)
  have H4 : Hid (∀ q n w, Src w q → 0 ≤ n → n ≤ 1048576 → Calls Tryd.prog 19 #[.pointer (some ⟨q, 0, none⟩), .int .i64 n] w fun e w' => StrAns n q w e w') := fun q n w h h0 h1 => bytes_any q n w h h0 h1
  clear hc
  go_enter Tryd.func8, Tryd.ntmps8
  go_wp2_with fail
  refine H0.out.mono ?_
  rintro e w1 ⟨rfl, hs1, hb1⟩
  have HB1 : Hid (Src w1 w.heap.size ∧ Below w.heap.size w w1) := ⟨hs1, hb1⟩
  clear hs1 hb1 H0
  go_wp2_with fail
  refine (H1.out _ _ HB1.out.1).mono ?_
  rintro e w2 ⟨b, rfl, hs2, hg2⟩
  have HB2 : Hid (Src w2 w.heap.size ∧ Below w.heap.size w w2) := ⟨hs2, below_of_grown HB1.out.2 hg2⟩
  clear hs2 hg2 HB1 H1
  cases b
  · go_wp2_with fail
    refine (H3.out _ _ HB2.out.1).mono ?_
    rintro e w3 ⟨v, rfl, hv0, hv1, hs3, hg3⟩
    have HB3 : Hid (Src w3 w.heap.size ∧ Below w.heap.size w w3) := ⟨hs3, below_of_grown HB2.out.2 hg3⟩
    clear hs3 hg3 HB2
    go_wp2_with fail
    refine (H4.out _ v _ HB3.out.1 hv0 (by omega)).mono ?_
    rintro e w4 ⟨t, rfl, ht, hs4, hg4⟩
    have HB4 : Hid (Below w.heap.size w w4) := below_of_grown HB3.out.2 hg4
    clear hs4 hg4 HB3
    go_wp2
    go_ret
    exact ⟨t, rfl, by omega, HB4.out⟩
  · go_wp2_with fail
    refine (H2.out _ _ HB2.out.1).mono ?_
    rintro e w3 ⟨v, rfl, hv0, hv1, hs3, hg3⟩
    have HB3 : Hid (Below w.heap.size w w3) := below_of_grown HB2.out.2 hg3
    clear hs3 hg3 HB2
    obtain ⟨m, rfl⟩ := Int.eq_ofNat_of_zero_le hv0
    obtain ⟨w4, hmk, hcv, hb4⟩ := make_zeros w3 (19999 + m) (by omega)
    rw [show ((19999 + m : Nat) : Int) = 19999 + (m : Int) from by omega] at hmk
    have HB4 : Hid (Below w.heap.size w w4) := HB3.out.trans (hb4.mono HB3.out.size)
    clear hb4 HB3
    go_wp2
    go_ret
    exact ⟨_, rfl, by simp [ByteArray.size]; omega, HB4.out⟩
end Go.Proofs.YtbaodgjkplhmaaaDoor
